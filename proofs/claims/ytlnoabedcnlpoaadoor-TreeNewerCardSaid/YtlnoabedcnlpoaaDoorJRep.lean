/- slices.Repeat of one height; tree.Begin. -/
import Derived.Test.YtlnoabedcnlpoaaDoorJMul
import Derived.Test.YtlnoabedcnlpoaaDoorJPath
import Derived.Test.YtlnoabedcnlpoaaDoorJIow
import Derived.Shelf.Spec.SlicesInsert
import Derived.Laws.IdiomCopy
import Derived.Deep.RegionLaw
import Derived.Deep.DrawnRows
namespace Go.Proofs.YtlnoabedcnlpoaaDoor
open Go.RowKit

/-- A row of k heights, the first m of which are v. -/
def rc (v : Int) (m k : Nat) : List Value := List.replicate m (.int .i64 v) ++ List.replicate (k - m) (.int .i64 0)
theorem rc_length {v : Int} {m k : Nat} (h : m ≤ k) : (rc v m k).length = k := by simp [rc]; omega
theorem rc_full (v : Int) (k : Nat) : rc v k k = List.replicate k (.int .i64 v) := by simp [rc]
theorem rc_at {v : Int} {m k j : Nat} (hj : j < m) : (rc v m k)[j]? = some (.int .i64 v) := by
  rw [rc, List.getElem?_append_left (by simpa using hj), List.getElem?_replicate, if_pos hj]
theorem szI : (Tryd.prog.info? 3).map (·.size) = some 1 := by kernel_rfl
/-- Some more of the row filled. -/
theorem copyI {w : World} {g k m q dc sc sLen dLen : Nat} {a : Addr} {v : Int} {t ty : TypeId} {T : TypeId} (hT : Tryd.prog.underlying T = some (.slice 3)) (hg : w.heap[g]? = some (.cells (rc v m k).toArray t (0, 0))) (hm : m + q ≤ k) (hq : q = Nat.min sLen dLen) (hs : ∀ j, j < q → w.cell? (a.add j) = some (.int .i64 v)) :
    ∃ w', (Builtin.copy_ #[T, T] ty #[.slice (some ⟨g, m, none⟩) dLen dc, .slice (some a) sLen sc]).run Tryd.prog w = .ok (goInt (q : Int)) w' ∧ w'.heap[g]? = some (.cells (rc v (m + q) k).toArray t (0, 0)) ∧ Frm [g] w w' := by
  refine ⟨w.setCells g m (List.replicate q (.int .i64 v)), ?_, ?_, setCells_frm g _ m w⟩
  · have := run_copy_cells (P := Tryd.prog) w T T ty 3 g m dLen dc a sLen sc (List.replicate q (.int .i64 v)) hT szI (by simpa using hq)
      (fun j u hj => by
        rw [List.getElem?_replicate] at hj
        split at hj
        · rename_i hlt; cases hj; exact hs j hlt
        · cases hj)
      (fun j hj => by
        rw [cell_of_row _ _ _ _ _ _ hg]
        simp at hj
        have := rc_length (v := v) (m := m) (k := k) (by omega)
        rw [List.getElem?_toArray, List.getElem?_eq_getElem (by omega)]; rfl)
      (fun j _ => frozen_of_row _ _ _ _ _ hg) (fun u hu => by simp at hu; rw [hu.2]; rfl)
    simpa using this
  · have := setCells_at g (List.replicate q (.int .i64 v)) m w (List.replicate m (.int .i64 v)) (List.replicate (k - m) (.int .i64 0)) t (by simpa [rc] using hg) (by simp) (by simp; omega)
    rw [this]
    simp only [List.length_replicate, List.drop_replicate, rc, List.replicate_append_replicate]
    rw [show k - m - q = k - (m + q) by omega]
theorem make_path (k : Nat) (hk : k ≤ 1000000) (v : Int) (w : World) : (Instr.makeSlice 34 (.int .i64 (k : Int)) (.int .i64 (k : Int))).run Tryd.prog w = .ok (.slice (some ⟨w.heap.size, 0, none⟩) k k) (w.alloc (.cells (rc v 0 k).toArray 3)) := by
  obtain ⟨i0, hi0, hz0, hz1, hz2⟩ := info_parts infoI
  have h := run_make (P := Tryd.prog) w 34 3 i0 (.int .i64 0) underP hi0 hz0 .i64 .i64 (k : Int) (k : Int) (by omega) (Int.le_refl _) (by rw [hz2]; omega) (by omega)
  have e : madeCells (Value.int .i64 0).cells k = (rc v 0 k).toArray := by
    apply Array.toList_inj.1
    simp only [madeCells, rc]
    apply List.ext_getElem
    · simp
    · intro j h1 h2
      simp [Value.cells, Nat.mod_one]
  rw [h]
  simp only [Int.toNat_natCast, hz1, Nat.mul_one, e]
set_option maxRecDepth 100000 in
set_option maxHeartbeats 1600000 in
theorem repeat_any (v : Int) (k b : Nat) (w : World) (h1 : 1 ≤ k) (h8 : k ≤ 8) (hb : w.cell? ⟨b, 0, none⟩ = some (.int .i64 v)) :
    Calls Tryd.prog 23 #[.slice (some ⟨b, 0, none⟩) 1 1, .int .i64 (k : Int)] w fun e w' => (∃ g, e = .returned (.slice (some ⟨g, 0, none⟩) k k) ∧ w'.heap[g]? = some (.cells (rc v k k).toArray 3 (0, 0))) ∧ Below w.heap.size w w' := by
  have hk0 : ¬ (k : Int) < 0 := by omega
  have wk : IntKind.u64.wrap (k : Int) = (k : Int) := by rw [IntKind.wrap_u64]; omega
  have wk2 : IntKind.i64.wrap (k : Int) = (k : Int) := by rw [IntKind.wrap_i64]; omega
  have hk9 : ¬ (9223372036854775807 : Int) < (k : Int) := by omega
  have hm := mul_any w k h1 h8
  have hmk := make_path k (by omega) v w
  go_enter Tryd.func23, Tryd.ntmps23
  go_wp2_with fail
  refine hm.mono ?_
  rintro e w1 ⟨rfl, hw1⟩
  rw [hw1]
  clear hm hw1
  go_upto_region 7 with fail
  have N2 := new_alloc w (rc v 0 k).toArray 3
  generalize w.alloc (.cells (rc v 0 k).toArray 3) = w2 at *
  have hb2 : w2.cell? ⟨b, 0, none⟩ = some (.int .i64 v) := by rw [N2.below.cell (p := ⟨b, 0, none⟩) (World.block_lt_of_cell? w ⟨b, 0, none⟩ hb)]; exact hb
  obtain ⟨w3, hr3, hg3, hf3⟩ := copyI (T := 34) (ty := 3) (dLen := k) (dc := k) (sc := 1) (sLen := 1) (q := 1) (a := ⟨b, 0, none⟩) underP N2.blk (by omega) (by simp only [Nat.min_def]; split <;> omega) (fun j hj => by rw [Addr.add_lit, show j = 0 by omega]; exact hb2)
  have HB3 : Hid (Below w.heap.size w w3) := N2.below.trans (hf3.below N2.below.size (by simp))
  have HG3 := hidV hg3
  clear hmk hb2 hf3 hb hg3 N2
  go_wp2_with (at_builtin; refine wpList_copy_runI _ rfl _ _ 34 34 rfl _ _ rfl rfl hr3 ?_)
  clear hr3
  go_loopw [8] (fun nv wr => ∃ m : Nat, 1 ≤ m ∧ m ≤ k ∧ nv = .int .i64 (m : Int) ∧ wr.heap[w.heap.size]? = some (.cells (rc v m k).toArray 3 (0, 0)) ∧ Below w.heap.size w wr) (fun nv _ => k + 1 - (intOf nv).toNat)
  case atStart => exact ⟨1, by omega, h1, rfl, HG3.out, HB3.out⟩
  case round =>
    obtain ⟨m, hm1, hmk, rfl, hg, hb⟩ := hrel
    have HB := hidV hb
    clear hb
    by_cases hlt : m < k
    · have hlt' : (m : Int) < k := by omega
      have hm0 : (0 : Int) ≤ m := by omega
      have hmk' : (m : Int) ≤ k := by omega
      have hmn : ¬ (k = m) := by omega
      obtain ⟨q, hq⟩ : ∃ q, q = Nat.min m (k - m) := ⟨_, rfl⟩
      have hq1 : 1 ≤ q ∧ m + q ≤ k := by simp only [Nat.min_def] at hq; split at hq <;> omega
      obtain ⟨w4, hr4, hg4, hf4⟩ := copyI (w := wr.drew) (T := 34) (ty := 3) (dLen := k - m) (dc := k - m) (sc := k) (sLen := m) (q := q) (a := ⟨w.heap.size, 0, none⟩) underP hg hq1.2 hq (fun j hj => by
        rw [Addr.add_lit]
        show wr.cell? ⟨w.heap.size, 0 + j, none⟩ = _
        rw [cell_of_row _ _ _ _ _ _ hg, List.getElem?_toArray, Nat.zero_add]
        exact rc_at (by simp only [Nat.min_def] at hq; split at hq <;> omega))
      have HB4 : Hid (Below w.heap.size w w4) := HB.out.trans (((Frm.refl [w.heap.size] wr).drew.trans hf4).below (by have := HB.out.size; omega) (by simp))
      have HG4 := hidV hg4
      have HQ := hidV hq1
      have wq : IntKind.i64.wrap ((m : Int) + (q : Int)) = (m : Int) + (q : Int) := by rw [IntKind.wrap_i64]; omega
      clear hg hf4 hg4 hq hq1 HB HB3 HG3
      go_wp2_with fail
      go_region_law (refine step_copy_runI rfl _ _ 34 34 rfl _ _ (by simp [Act.eval, Act.put]) (by simp [Act.eval, Act.put]) hr4 ?_)
      go_simp
      go_wp2
      go_roundw
      case rel => exact ⟨m + q, by omega, HQ.out.2, by go_num, HG4.out, HB4.out⟩
      case measure => simp [intOf]; have := HQ.out; omega
    · obtain rfl : m = k := by omega
      have hnn : ¬ ((m : Int) < m) := by omega
      have HG := hidV hg
      clear hg
      go_wp2
      go_ret
      exact ⟨⟨_, rfl, HG.out⟩, HB.out⟩
theorem rc_is {w : World} {g k : Nat} {v : Int} {t : TypeId} {fr : Nat × Nat} (h : w.heap[g]? = some (.cells (rc v k k).toArray t fr)) : IsAt w (some ⟨g, 0, none⟩) k (fun _ => v) := fun _ => ⟨g, 0, rfl, fun j hj => by
  rw [cell_of_row _ _ _ _ _ _ h, List.getElem?_toArray, Nat.zero_add]; exact rc_at hj⟩
/-- What Begin answers. -/
structure BegR (c : Tc) (w : World) (e : Ending) (w' : World) : Prop where
  bad : chkT c ≠ 0 → e = .returned (.tuple #[.slice none 0 0, errV (chkT c)])
  ok : chkT c = 0 → ∃ g k : Nat, (k : Int) = c.dp ∧ e = .returned (.tuple #[.slice (some ⟨g, 0, none⟩) k k, .nilIface]) ∧ IsAt w' (some ⟨g, 0, none⟩) k (fun _ => c.fi)
  below : Below w.heap.size w w'
  typ : ∀ g n cap v, e = .returned (.tuple #[.slice (some ⟨g, 0, none⟩) n cap, v]) → ∃ cur, w'.heap[g]? = some (.cells cur 3 (0, 0))
set_option maxRecDepth 100000 in
set_option maxHeartbeats 1600000 in
theorem begin_any (c : Tc) (ka : Option Addr) (kc : Nat) (w : World) (hI : TcIn w c ka) :
    Calls Tryd.prog 9 #[.agg (tcv c ka kc)] w (BegR c w) := by
  have HH := hidV hI
  clear hI
  go_enter Tryd.func9, Tryd.ntmps9
  go_upto_region 1 with (first | (refine wpList_boxN rfl _ _ rfl (tcv c ka kc) rfl ?_; intro v1 N1) | fail)
  have HX : Hid (Below w.heap.size w v1 ∧ (∀ w' : World, Below v1.heap.size v1 w' → w'.rangeAt w.heap.size 0 (tcl c ka kc))) :=
    ⟨N1.below, fun w' hb => tcl_range (heap_below hb N1.blk)⟩
  clear N1
  have HR1 := hidV (HX.out.2 v1 (Below.refl _ _))
  go_wp2_with (first | (refine wpList_load_mid rfl 32 _ rfl w.heap.size 0 rfl (tcl c ka kc) _ HR1.out Tryd.underlying32 rfl (szTl c ka kc) ?_) | fail)
  refine (check_any c ka kc v1 (HH.out.below HX.out.1)).mono ?_
  rintro e v2 ⟨rfl, hb2⟩
  have HB2 := hidV hb2
  have HBE := hidV (Below.transS HX.out.1 hb2)
  clear hb2 HR1
  by_cases h0 : chkT c = 0
  · obtain ⟨k, hk⟩ : ∃ k : Nat, (k : Int) = c.dp := ⟨c.dp.toNat, by have := (chkT_ok h0).1.1; omega⟩
    have hk8 : 1 ≤ k ∧ k ≤ 8 := by have := (chkT_ok h0).1.1; omega
    have HZ := hidV h0
    rw [h0, errV_zero]
    clear h0
    have HR2 := hidV (HX.out.2 v2 HB2.out)
    have fi := (tcBox HR2.out).fi
    have dp := (tcBox HR2.out).dp
    rw [← hk] at dp
    have N3 := new_alloc v2 #[.int .i64 c.fi] 3
    have dp3 : (v2.alloc (.cells #[.int .i64 c.fi] 3)).cell? ⟨w.heap.size, 35, none⟩ = some (.int .i64 (k : Int)) := by
      rw [N3.below.cell (p := ⟨w.heap.size, 35, none⟩) (World.block_lt_of_cell? v2 ⟨w.heap.size, 35, none⟩ dp)]; exact dp
    have hr := repeat_any c.fi k v2.heap.size (v2.alloc (.cells #[.int .i64 c.fi] 3)) hk8.1 hk8.2 (by rw [cell_of_row _ _ _ _ _ _ N3.blk]; rfl)
    have HBF := hidV (Below.transS HBE.out N3.below)
    have HK := hidV hk
    clear dp N3 hk8 hk
    go_wp2_with fail
    refine hr.mono ?_
    rintro e v4 ⟨⟨g, rfl, hg⟩, hb4⟩
    have HE : Hid (BegR c w (.returned (.tuple #[.slice (some ⟨g, 0, none⟩) k k, .nilIface])) v4) := ⟨fun h => absurd HZ.out h, fun _ => ⟨g, k, HK.out, rfl, rc_is hg⟩, Below.transS HBF.out hb4, fun _ _ _ _ h => by cases h; exact ⟨_, hg⟩⟩
    clear hg hb4 hr HR2 fi dp3
    go_wp2
    go_ret2
    exact HE.out
  · have HE : Hid (BegR c w (.returned (.tuple #[.slice none 0 0, errV (chkT c)])) v2) := ⟨fun _ => rfl, fun h => absurd h h0, HBE.out, fun _ _ _ _ h => by cases h⟩
    have e1 := errV_ne h0
    rw [e1] at HE ⊢
    clear e1 h0
    go_wp2
    go_ret2
    exact HE.out
end Go.Proofs.YtlnoabedcnlpoaaDoor
