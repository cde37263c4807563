/- Start; a new store. -/
import Derived.Test.YtidmpblaeohfaaaGreatDoorPRead
import Derived.Laws.MakeOwn
namespace Go.Proofs.YtidmpblaeohfaaaGreatDoor
open Go.RowKit

attribute [local go_sem ↓] Go.wp_at_zero Go.wp_at_succ

/-- Numbers that lie somewhere. -/
def IsL (w : World) (ad : Option Addr) (ks : List Int) : Prop := 0 < ks.length → ∃ b off, ad = some ⟨b, off, none⟩ ∧ ∀ j x, ks[j]? = some x → w.cell? ⟨b, off + j, none⟩ = some (.int .i64 x)
theorem IsL.keep {w w' : World} {ad : Option Addr} {ks : List Int} (h : IsL w ad ks) (hk : ∀ a, ad = some a → 0 < ks.length → w'.heap[a.block]? = w.heap[a.block]?) : IsL w' ad ks := fun hn => by
  obtain ⟨b, off, rfl, hc⟩ := h hn
  exact ⟨b, off, rfl, fun j x hx => by rw [World.cell?_of_block (a := ⟨b, off + j, none⟩) (hk ⟨b, off, none⟩ rfl hn)]; exact hc j x hx⟩
theorem IsL.lt {w : World} {ad : Option Addr} {ks : List Int} (h : IsL w ad ks) {a : Addr} (e : ad = some a) (hn : 0 < ks.length) : a.block < w.heap.size := by
  obtain ⟨b, off, rfl, hc⟩ := h hn
  cases e
  exact World.block_lt_of_cell? w _ (hc 0 _ (List.getElem?_eq_getElem hn))
/-- What was told, as cells. -/
def tl (T : Nat → Bool) (n : Nat) : List Value := (List.range n).map fun j => .bool (T j)
theorem tl_length (T : Nat → Bool) (n : Nat) : (tl T n).length = n := by simp [tl]
theorem tl_at {T : Nat → Bool} {n j : Nat} (h : j < n) : (tl T n)[j]? = some (.bool (T j)) := by simp [tl, h]
def toldK (ks : List Int) (j : Nat) : Bool := ks.contains (j : Int)
theorem Tryz.infoBool : (Tryz.prog.info? 4).map (fun i => (i.zero, i.size, i.bytes)) = some (some (.bool false), 1, 1) := by kernel_rfl
theorem make_told (n : Nat) (hn : n ≤ 1000000) (w : World) : (Instr.makeSlice 120 (.int .i64 (n : Int)) (.int .i64 (n : Int))).run Tryz.prog w = .ok (.slice (some ⟨w.heap.size, 0, none⟩) n n) (w.alloc (.cells (tl (toldK []) n).toArray 4)) := by
  obtain ⟨i0, hi0, hz0, hz1, hz2⟩ := info_parts Tryz.infoBool
  have h := run_make (P := Tryz.prog) w 120 4 i0 (.bool false) Tryz.underlying120 hi0 hz0 .i64 .i64 (n : Int) (n : Int) (by omega) (Int.le_refl _) (by rw [hz2]; omega) (by omega)
  have e : madeCells (Value.bool false).cells n = (tl (toldK []) n).toArray := by
    apply Array.toList_inj.1
    simp only [madeCells, tl]
    apply List.ext_getElem
    · simp
    · intro j h1 h2
      simp [toldK, Value.cells, Nat.mod_one]
  rw [h]
  simp only [Int.toNat_natCast, hz1, Nat.mul_one, e]
theorem told1_any (ta tb n i : Nat) (T : Nat → Bool) (w : World) (ha : w.heap[ta]? = some (.cells #[.slice (some ⟨tb, 0, none⟩) n n] 120 (0, 0))) (hb : w.heap[tb]? = some (.cells (tl T n).toArray 4 (0, 0))) (hi : i < n) :
    Calls Tryz.prog 58 #[.int .i64 (i : Int), .pointer (some ⟨ta, 0, none⟩)] w fun e w' => e = .returned (.bool (T i)) ∧ w' = w := by
  have c0 : w.cell? ⟨ta, 0, none⟩ = some (.slice (some ⟨tb, 0, none⟩) n n) := by rw [cell_of_row w ta 0 _ _ _ ha]; rfl
  have c1 : w.cell? ⟨tb, i, none⟩ = some (.bool (T i)) := by rw [cell_of_row w tb i _ _ _ hb]; simpa using tl_at hi
  have hi' : (i : Int) < n := by omega
  go_enter Tryz.func58, Tryz.ntmps58
  go_wp2
  go_ret
  exact ⟨rfl, rfl⟩
def St.started (S : St) (K : Nat → Bool) : St := { S.settled K with armed := false, down := false }
/-- What is left when it begins again. -/
def StaR (p q : Nat) (lo : Value) (F : Nat → Prop) (S : St) (K : Nat → Bool) (w : World) (e : Ending) (w' : World) : Prop :=
  e = .returned (.tuple #[]) ∧ St0 w' p q (cut0 lo) F (S.started K) ∧ Fr (Mine p q lo F) w w'
/-- Behind i numbers. -/
structure TolI (tb n : Nat) (ks : List Int) (w wr : World) (i : Nat) : Prop where
  at_ : wr.heap[tb]? = some (.cells (tl (toldK (ks.take i)) n).toArray 4 (0, 0))
  frm : Frm [tb] w wr
theorem toldK_skip {ks : List Int} {i : Nat} {x : Int} (hx : ks[i]? = some x) {n : Nat} (h : ¬ (0 ≤ x ∧ x < n)) : tl (toldK (ks.take (i + 1))) n = tl (toldK (ks.take i)) n := by
  unfold tl
  apply List.map_congr_left
  intro j hj
  have hj : j < n := by simpa using hj
  rw [List.take_add_one, hx]
  simp [toldK]
  omega
theorem toldK_set {ks : List Int} {i m : Nat} (hx : ks[i]? = some (m : Int)) {n : Nat} : (tl (toldK (ks.take i)) n).set m (.bool true) = tl (toldK (ks.take (i + 1))) n := by
  unfold tl
  apply List.ext_getElem
  · simp
  · intro j h1 h2
    rw [List.getElem_set]
    simp only [List.getElem_map, List.getElem_range]
    rw [List.take_add_one, hx]
    by_cases e : m = j
    · subst e; simp [toldK]
    · have e' : ¬ (j : Int) = (m : Int) := by omega
      simp [toldK, e, e']
theorem TolI.skip {tb n : Nat} {ks : List Int} {w wr : World} {i : Nat} (h : TolI tb n ks w wr i) {x : Int} (hx : ks[i]? = some x) (hb : ¬ (0 ≤ x ∧ x < n)) : TolI tb n ks w wr (i + 1) := ⟨by rw [toldK_skip hx hb]; exact h.at_, h.frm⟩
theorem TolI.set {tb n m : Nat} {ks : List Int} {w wr : World} {i : Nat} (h : TolI tb n ks w wr i) (hx : ks[i]? = some (m : Int)) : TolI tb n ks w (wr.setCell ⟨tb, m, none⟩ (.bool true)) (i + 1) := by
  refine ⟨?_, h.frm.setCell _ _ (by simp)⟩
  rw [heap_setCell_same _ tb m _ _ _ h.at_, ← toldK_set hx]
  congr 2
  apply Array.toList_inj.1
  simp
set_option maxRecDepth 100000 in
set_option maxHeartbeats 1600000 in
theorem start_any (p q : Nat) (lo : Value) (F : Nat → Prop) (S : St) (ad : Option Addr) (cap : Nat) (ks : List Int) (w : World) (h : St0 w p q lo F S) (hk : IsL w ad ks) (hks : ks.length ≤ 140737488355328) :
    Calls Tryz.prog 28 #[.pointer (some ⟨p, 0, none⟩), .slice ad ks.length cap] w (StaR p q lo F S (toldK ks) w) := by
  have h1 := h.c1
  obtain ⟨lad, lcap, rfl⟩ := h.lform
  have lp := h.lt (k := p) (.inl rfl)
  have hfew := h.few
  have km := make_told S.loose.length hfew w
  obtain ⟨W0, hW0⟩ : ∃ W0, (w.alloc (.cells (tl (toldK []) S.loose.length).toArray 4)).alloc (.cells #[.slice (some ⟨w.heap.size, 0, none⟩) S.loose.length S.loose.length] 120) = W0 := ⟨_, rfl⟩
  have hb0 : Below w.heap.size w W0 := by rw [← hW0]; exact ((Below.refl _ w).alloc (Nat.le_refl _) _).alloc (by simp) _
  have hs0 : W0.heap.size = w.heap.size + 2 := by rw [← hW0]; simp
  have h0 : St0 W0 p q (.slice lad S.loose.length lcap) F S := h.below hb0
  have ta0 : W0.heap[w.heap.size + 1]? = some (.cells #[.slice (some ⟨w.heap.size, 0, none⟩) S.loose.length S.loose.length] 120 (0, 0)) := by
    rw [← hW0]
    have := heap_alloc_new (w.alloc (.cells (tl (toldK []) S.loose.length).toArray 4)) (.cells #[.slice (some ⟨w.heap.size, 0, none⟩) S.loose.length S.loose.length] 120)
    simpa using this
  have tb0 : W0.heap[w.heap.size]? = some (.cells (tl (toldK []) S.loose.length).toArray 4 (0, 0)) := by
    rw [← hW0, Below.heap_alloc _ _ _ (by simp)]
    exact heap_alloc_new w _
  have HI0 : TolI w.heap.size S.loose.length ks W0 W0 0 := ⟨by simpa using tb0, Frm.refl _ _⟩
  have hkL : IsL W0 ad ks := hk.keep fun a e hn => hb0.block _ (hk.lt e hn)
  have hkb : ∀ a, ad = some a → 0 < ks.length → a.block < w.heap.size := fun a e hn => hk.lt e hn
  have ca : ∀ wr, Frm [w.heap.size] W0 wr → wr.cell? ⟨w.heap.size + 1, 0, none⟩ = some (.slice (some ⟨w.heap.size, 0, none⟩) S.loose.length S.loose.length) := fun wr hf => by
    have : wr.heap[w.heap.size + 1]? = _ := (hf.block (w.heap.size + 1) (by omega) (by simp)).trans ta0
    rw [cell_of_row wr _ 0 _ _ _ this]; rfl
  have H0 : Hid (St0 W0 p q (.slice lad S.loose.length lcap) F S) := h0
  have HF : Hid (Fr (Mine p q (.slice lad S.loose.length lcap) F) w W0) := Fr.ofBelow hb0
  have HB : Hid (∀ k, Mine p q (.slice lad S.loose.length lcap) F k → k < w.heap.size) := fun k hk => h.lt hk
  have HTA : Hid (W0.heap[w.heap.size + 1]? = some (.cells #[.slice (some ⟨w.heap.size, 0, none⟩) S.loose.length S.loose.length] 120 (0, 0))) := ta0
  have HKL : Hid (IsL W0 ad ks) := hkL
  clear h h0 ta0 tb0 hk hkL hb0
  go_enter Tryz.func28, Tryz.ntmps28
  go_wp2
  clear hW0 km h1
  go_loopw [6, 17] (fun nv iv wr => ∃ i : Nat, i ≤ ks.length ∧ iv = .int .i64 i ∧ TolI w.heap.size S.loose.length ks W0 wr i) (fun _ iv _ => ks.length + 1 - (intOf iv).toNat)
  case atStart => exact ⟨0, by omega, rfl, HI0⟩
  case round =>
    clear HI0
    obtain ⟨i, hi, rfl, hI⟩ := hrel
    have cA := ca wr hI.frm
    clear ca
    by_cases hlt : i < ks.length
    · obtain ⟨b, off, rfl, hc⟩ := HKL.out (by omega)
      obtain ⟨x, hx⟩ : ∃ x, ks[i]? = some x := ⟨_, List.getElem?_eq_getElem hlt⟩
      have hbb := hkb _ rfl (by omega)
      have hci : wr.cell? ⟨b, off + i, none⟩ = some (.int .i64 x) := by
        rw [World.cell?_of_block (a := ⟨b, off + i, none⟩) (hI.frm.block b (by simp at hbb; omega) (by simp at hbb ⊢; omega))]; exact hc i x hx
      have hlt' : (i : Int) < ks.length := by omega
      clear hc hkb hbb
      by_cases hb : 0 ≤ x ∧ x < S.loose.length
      · obtain ⟨m, rfl⟩ : ∃ m : Nat, x = m := ⟨x.toNat, by omega⟩
        have hb2 : (m : Int) < S.loose.length := hb.2
        have hb1 : (0 : Int) ≤ m := hb.1
        have cB : ∃ u, wr.cell? ⟨w.heap.size, m, none⟩ = some u := ⟨_, by rw [cell_of_row wr _ m _ _ _ hI.at_]; simpa using tl_at (by omega)⟩
        obtain ⟨u, cB⟩ := cB
        have fB : wr.frozen? ⟨w.heap.size, m, none⟩ = false := frozen_of_row wr _ m _ _ hI.at_
        have HN : Hid (TolI w.heap.size S.loose.length ks W0 (wr.setCell ⟨w.heap.size, m, none⟩ (.bool true)) (i + 1)) := hI.set hx
        clear hI hb hx
        go_wp2
        go_roundw
        case rel => exact ⟨i + 1, by omega, by go_num, HN.out⟩
        case measure => simp [intOf]; omega
      · have HN : Hid (TolI w.heap.size S.loose.length ks W0 wr (i + 1)) := hI.skip hx hb
        clear hI hx
        by_cases h0 : 0 ≤ x
        · have h1 : ¬ x < S.loose.length := fun h => hb ⟨h0, h⟩
          clear hb
          go_wp2
          go_roundw
          case rel => exact ⟨i + 1, by omega, by go_num, HN.out⟩
          case measure => simp [intOf]; omega
        · clear hb
          go_wp2
          go_roundw
          case rel => exact ⟨i + 1, by omega, by go_num, HN.out⟩
          case measure => simp [intOf]; omega
    · obtain rfl : i = ks.length := by omega
      have hnn : ¬ ((ks.length : Int) < ks.length) := by omega
      have hfr := hI.frm
      have hat : wr.heap[w.heap.size]? = some (.cells (tl (toldK ks) S.loose.length).toArray 4 (0, 0)) := by have := hI.at_; rwa [List.take_length] at this
      have hta : wr.heap[w.heap.size + 1]? = some (.cells #[.slice (some ⟨w.heap.size, 0, none⟩) S.loose.length S.loose.length] 120 (0, 0)) := (hfr.block (w.heap.size + 1) (by omega) (by simp)).trans HTA.out
      have hSr : St0 wr p q (.slice lad S.loose.length lcap) F S := H0.out.keep hfr.size fun k hk => hfr.block k (by have := HB.out k hk; omega) (by have := HB.out k hk; simp; omega)
      have hse := settle_any p q _ F S 58 #[.pointer (some ⟨w.heap.size + 1, 0, none⟩)] (toldK ks) [w.heap.size + 1, w.heap.size] wr hSr (enters_of Tryz.func58 (by kernel_rfl) rfl)
        (fun W i hi hT => told1_any (w.heap.size + 1) w.heap.size S.loose.length i (toldK ks) W ((hT _ (by simp)).trans hta) ((hT _ (by simp)).trans hat) hi)
        (fun k hk => by
          have hq := HB.out q (.inr (.inl rfl))
          have := hfr.size
          simp at hk
          rcases hk with rfl | rfl <;> omega)
      have HFr : Hid (Fr (Mine p q (.slice lad S.loose.length lcap) F) w wr) := HF.out.trans (Fr.ofFrm hfr) (fun i hi e => by simp at e; omega)
      clear hI hfr hat hta hSr cA hkb
      go_wp2_with fail
      refine hse.mono ?_
      rintro e w1 ⟨rfl, hS1, hF1⟩
      have d2 := hS1.fz 2
      have d4 := hS1.fz 4
      have c2 := hS1.c2
      have c4 := hS1.c4
      have t1 := hS1.turn 2 (.bool false) { S.settled (toldK ks) with armed := false } _ rfl rfl rfl rfl
      have d4' := t1.fz 4
      have c4' := t1.c4
      have t2 := t1.turn 4 (.bool false) (S.started (toldK ks)) _ rfl rfl rfl rfl
      have HE : Hid (StaR p q (.slice lad S.loose.length lcap) F S (toldK ks) w (.returned (.tuple #[])) ((w1.setCell ⟨p, 2, none⟩ (.bool false)).setCell ⟨p, 4, none⟩ (.bool false))) :=
        ⟨rfl, t2, ((HFr.out.trans hF1 (fun _ _ e => e)).setCell ⟨p, 2, none⟩ _ (.inl rfl)).setCell ⟨p, 4, none⟩ _ (.inl rfl)⟩
      clear hS1 hF1 t1 t2 hse
      go_wp2
      go_end0
      exact HE.out
end Go.Proofs.YtidmpblaeohfaaaGreatDoor
