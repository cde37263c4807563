/- The document's Check. -/
import Derived.Test.YtecahnafcljljaaDoorCBase
namespace Go.Proofs.YtecahnafcljljaaDoor
open Go.RowKit

/-- A branch of noughts. -/
def b0 : Bv := ⟨0, fun _ => 0, fun _ => 0, 0, 0⟩
theorem run_allocR (w : World) : (Instr.alloc 48 true (.tuple #[])).run Tryd.prog w = .ok (.pointer (some ⟨w.heap.size, 0, none⟩)) (w.alloc (.cells (bv b0 none 0) 48)) := by kernel_rfl
section
variable {ops : Array Oper} {rest : List Oper} {o : Oper} {a : Act} {w : World} {Q : Exit → Act → World → Prop}
theorem wpList_allocR (hgd : o.guard = none) (ho : o.op = .alloc 48)
    (h : wpList Tryd.prog ops Q rest (a.put o.dst (.pointer (some ⟨w.heap.size, 0, none⟩))) (w.alloc (.cells (bv b0 none 0) 48))) : wpList Tryd.prog ops Q (o :: rest) a w := by
  refine wpList_plain hgd fun K hK => ?_
  unfold Oper.wp execOp
  simp only [ho, Sem.run_bind, run_allocR, Result.andThen]
  exact hK _ _ h
/-- A whole branch stored into a variable of its own. -/
theorem wpList_storeR (T : TypeId) (hT : (Tryd.prog.info? T).map (·.size) = some 35) (hgd : o.guard = none) (x y : Operand) (ho : o.op = .store T x y) (g : Nat) (hx : a.eval x = .pointer (some ⟨g, 0, none⟩)) (v u : Bv) (ka ua : Option Addr) (kc uc : Nat) (t : TypeId) (hy : a.eval y = .agg (bv v ka kc)) (hg : w.heap[g]? = some (.cells (bv u ua uc) t (0, 0)))
    (h : ∀ w', w'.heap[g]? = some (.cells (bv v ka kc) t (0, 0)) → Frm [g] w w' → wpList Tryd.prog ops Q rest (a.put o.dst undef) w') : wpList Tryd.prog ops Q (o :: rest) a w := by
  refine wpList_store_mid hgd T x y ho g 0 (bv v ka kc) hx hy ?_ (by rw [bv_size]; exact hT) (bv_one v ka kc) (h _ ?_ (setCells_frm g _ 0 w))
  · intro j hj
    rw [bv_size] at hj
    refine ⟨?_, ?_⟩
    · rw [Nat.zero_add, cell_of_row w g j _ t _ hg]
      simp [bv_size, hj]
    · rw [Nat.zero_add]; exact frozen_of_row w g j _ t hg
  · have := setCells_at g (bv v ka kc).toList 0 w [] (bv u ua uc).toList t (by simpa using hg) rfl (by simp [bv_size])
    rw [this]
    simp [bv_size, List.drop_eq_nil_of_le]
end
theorem BBox.below {w w' : World} {g : Nat} {x : Bv} {ka : Option Addr} {kc : Nat} (h : BBox w g x ka kc) (hb : Below w.heap.size w w') : BBox w' g x ka kc := by
  have hl : g < w.heap.size := World.block_lt_of_cell? w ⟨g, 0, none⟩ h.c0
  exact ⟨by rw [hb.cell (p := ⟨g, 0, none⟩) hl]; exact h.c0, by rw [hb.cell (p := ⟨g, 33, none⟩) hl]; exact h.c33, by rw [hb.cell (p := ⟨g, 34, none⟩) hl]; exact h.c34⟩

set_option maxRecDepth 100000 in
set_option maxHeartbeats 3200000 in
theorem rcheck_any (ad : Option Addr) (n cap : Nat) (X : Nat → Bv) (w : World) (h : BrAt w ad n X) (hn : n ≤ 1000000) (hx : ∀ i, i < n → (X i).n ≤ 1000000) :
    Calls Tryd.prog 11 #[.agg #[.slice ad n cap]] w fun e w' => e = .returned (.int .i64 (chkE X n)) ∧ Below w.heap.size w w' := by
  have HB : Hid (BrAt w ad n X) := h
  have hb0 : Below w.heap.size w (w.alloc (.cells #[.slice ad n cap] 24)) := (Below.refl _ w).alloc (Nat.le_refl _) _
  have hc0 : (w.alloc (.cells #[.slice ad n cap] 24)).cell? ⟨w.heap.size, 0, none⟩ = some (.slice ad n cap) := by simp
  clear h
  by_cases h1 : n < 1
  · have h1' : (n : Int) < 1 := by omega
    have HE : Hid (chkE X n = 1) := if_neg (fun h => by have := h.1; omega)
    go_enter Tryd.func11, Tryd.ntmps11
    go_wp2
    go_ret
    exact ⟨by rw [HE.out]; rfl, hb0⟩
  have h1' : ¬ (n : Int) < 1 := by omega
  by_cases h2 : 8 < n
  · have h2' : (8 : Int) < n := by omega
    have HE : Hid (chkE X n = 1) := if_neg (fun h => by have := h.1; omega)
    go_enter Tryd.func11, Tryd.ntmps11
    go_wp2
    go_ret
    exact ⟨by rw [HE.out]; rfl, hb0⟩
  have h2' : ¬ (8 : Int) < n := by omega
  go_enter Tryd.func11, Tryd.ntmps11
  go_wp2
  generalize w.alloc (.cells #[.slice ad n cap] 24) = W0 at *
  go_loopw [3, 4, 5, 6] (fun iv _ _ _ wr => ∃ i : Nat, i ≤ n ∧ iv = .int .i64 i ∧ AllOk X i ∧ Below w.heap.size w wr ∧ wr.cell? ⟨w.heap.size, 0, none⟩ = some (.slice ad n cap)) (fun iv _ _ _ _ => n + 1 - (intOf iv).toNat)
  case atStart => exact ⟨0, by omega, rfl, fun j hj => by omega, hb0, hc0⟩
  case round =>
    clear hb0 hc0
    obtain ⟨i, hi, rfl, hk, hb, hc0⟩ := hrel
    have HK : Hid (AllOk X i) := hk
    clear hk
    by_cases hlt : i < n
    · have hlt' : (i : Int) < n := by omega
      obtain ⟨b, off, rfl, hc⟩ := HB.out.at_ (by omega)
      obtain ⟨ka, kc, hr0, hI0⟩ := hc i hlt
      have HR : Hid (wr.rangeAt b (off + i * 35) (brl (X i) ka kc)) := range_below hr0 hb
      have HI : Hid (IsAt w ka (X i).n (X i).z) := hI0
      have hxi := hx i hlt
      have hsz := World.block_lt_of_cell? wr ⟨w.heap.size, 0, none⟩ hc0
      clear hc hr0 hI0
      have HB1 : Hid (∀ w' : World, w'.heap[wr.heap.size]? = some (.cells (bv (X i) ka kc) 48 (0, 0)) → Frm [wr.heap.size] (wr.alloc (.cells (bv b0 none 0) 48)) w' → Below w.heap.size w w' ∧ w'.cell? ⟨w.heap.size, 0, none⟩ = some (.slice (some ⟨b, off, none⟩) n cap) ∧ BBox w' wr.heap.size (X i) ka kc ∧ w.heap.size < w'.heap.size) := by
        intro w' h1 h2
        have h3 : Below wr.heap.size (wr.alloc (.cells (bv b0 none 0) 48)) w' := h2.below (by simp) (by simp)
        have h4 : Below wr.heap.size wr w' := ((Below.refl _ wr).alloc (Nat.le_refl _) _).trans h3
        refine ⟨hb.trans (h4.mono hb.size), ?_, bbox_of h1, Nat.lt_of_lt_of_le hsz h4.size⟩
        rw [h4.cell (p := ⟨w.heap.size, 0, none⟩) hsz]; exact hc0
      by_cases g0 : ((X i).n : Int) < 1
      · have HE : Hid (chkE X n = 1) := if_neg (fun hh => by have h := hh.2 i hlt; have := h.1.2; omega)
        go_wp2_with (first | (refine wpList_load_mid rfl 48 _ rfl b (off + i * 35) rfl (brl (X i) ka kc) _ HR.out Tryd.underlying48 rfl (szRl _ _ _) ?_) | (refine wpList_allocR rfl rfl ?_) | (refine wpList_storeR _ szR rfl _ _ rfl wr.heap.size rfl (X i) b0 ka none kc 0 48 rfl (heap_alloc_new wr _) ?_; intro w1 hg1 hf1; obtain ⟨hb1, c10, ⟨c0, c33, c34⟩, hs1⟩ := HB1.out w1 hg1 hf1; clear hg1 hf1) | fail)
        go_ret
        exact ⟨by rw [HE.out]; rfl, hb1⟩
      by_cases g1 : (X i).af < 0
      · have HE : Hid (chkE X n = 1) := if_neg (fun hh => by have h := hh.2 i hlt; have := h.2.1; omega)
        go_wp2_with (first | (refine wpList_load_mid rfl 48 _ rfl b (off + i * 35) rfl (brl (X i) ka kc) _ HR.out Tryd.underlying48 rfl (szRl _ _ _) ?_) | (refine wpList_allocR rfl rfl ?_) | (refine wpList_storeR _ szR rfl _ _ rfl wr.heap.size rfl (X i) b0 ka none kc 0 48 rfl (heap_alloc_new wr _) ?_; intro w1 hg1 hf1; obtain ⟨hb1, c10, ⟨c0, c33, c34⟩, hs1⟩ := HB1.out w1 hg1 hf1; clear hg1 hf1) | fail)
        go_ret
        exact ⟨by rw [HE.out]; rfl, hb1⟩
      by_cases g2 : 1099511627776 < (X i).af
      · have HE : Hid (chkE X n = 1) := if_neg (fun hh => by have h := hh.2 i hlt; have := h.2.1; omega)
        go_wp2_with (first | (refine wpList_load_mid rfl 48 _ rfl b (off + i * 35) rfl (brl (X i) ka kc) _ HR.out Tryd.underlying48 rfl (szRl _ _ _) ?_) | (refine wpList_allocR rfl rfl ?_) | (refine wpList_storeR _ szR rfl _ _ rfl wr.heap.size rfl (X i) b0 ka none kc 0 48 rfl (heap_alloc_new wr _) ?_; intro w1 hg1 hf1; obtain ⟨hb1, c10, ⟨c0, c33, c34⟩, hs1⟩ := HB1.out w1 hg1 hf1; clear hg1 hf1) | fail)
        go_ret
        exact ⟨by rw [HE.out]; rfl, hb1⟩
      by_cases g3 : (X i).ol < 0
      · have HE : Hid (chkE X n = 1) := if_neg (fun hh => by have h := hh.2 i hlt; have := h.2.2; omega)
        go_wp2_with (first | (refine wpList_load_mid rfl 48 _ rfl b (off + i * 35) rfl (brl (X i) ka kc) _ HR.out Tryd.underlying48 rfl (szRl _ _ _) ?_) | (refine wpList_allocR rfl rfl ?_) | (refine wpList_storeR _ szR rfl _ _ rfl wr.heap.size rfl (X i) b0 ka none kc 0 48 rfl (heap_alloc_new wr _) ?_; intro w1 hg1 hf1; obtain ⟨hb1, c10, ⟨c0, c33, c34⟩, hs1⟩ := HB1.out w1 hg1 hf1; clear hg1 hf1) | fail)
        go_ret
        exact ⟨by rw [HE.out]; rfl, hb1⟩
      by_cases g4 : 65536 < (X i).ol
      · have HE : Hid (chkE X n = 1) := if_neg (fun hh => by have h := hh.2 i hlt; have := h.2.2; omega)
        go_wp2_with (first | (refine wpList_load_mid rfl 48 _ rfl b (off + i * 35) rfl (brl (X i) ka kc) _ HR.out Tryd.underlying48 rfl (szRl _ _ _) ?_) | (refine wpList_allocR rfl rfl ?_) | (refine wpList_storeR _ szR rfl _ _ rfl wr.heap.size rfl (X i) b0 ka none kc 0 48 rfl (heap_alloc_new wr _) ?_; intro w1 hg1 hf1; obtain ⟨hb1, c10, ⟨c0, c33, c34⟩, hs1⟩ := HB1.out w1 hg1 hf1; clear hg1 hf1) | fail)
        go_ret
        exact ⟨by rw [HE.out]; rfl, hb1⟩
      go_wp2_with (first | (refine wpList_load_mid rfl 48 _ rfl b (off + i * 35) rfl (brl (X i) ka kc) _ HR.out Tryd.underlying48 rfl (szRl _ _ _) ?_) | (refine wpList_allocR rfl rfl ?_) | (refine wpList_storeR _ szR rfl _ _ rfl wr.heap.size rfl (X i) b0 ka none kc 0 48 rfl (heap_alloc_new wr _) ?_; intro w1 hg1 hf1; obtain ⟨hb1, c10, ⟨c0, c33, c34⟩, hs1⟩ := HB1.out w1 hg1 hf1; clear hg1 hf1) | fail)
      have HW : Hid (Below w.heap.size w w1 ∧ w1.cell? ⟨w.heap.size, 0, none⟩ = some (.slice (some ⟨b, off, none⟩) n cap) ∧ w.heap.size < w1.heap.size) := ⟨hb1, c10, hs1⟩
      have hI1 : IsAt w1 ka (X i).n (X i).z := HI.out.below hb1
      have HI1 : Hid (IsAt w1 ka (X i).n (X i).z) := hI1
      have HC0 : Hid (w1.cell? ⟨wr.heap.size, 0, none⟩ = some (.slice ka (X i).n kc)) := c0
      have hl0 : wr.heap.size < w1.heap.size := World.block_lt_of_cell? w1 ⟨wr.heap.size, 0, none⟩ c0
      have HO : Hid (BOk (X i) ↔ KOk (X i).z (X i).n) := ⟨fun h => h.1.1, fun h => ⟨⟨h, by omega⟩, ⟨g1, by omega⟩, ⟨g3, by omega⟩⟩⟩
      clear HB1 hb1 c10 c0 c33 c34 hs1 HR hI1 HI hc0 g1 g2 g3 g4
      have hb2 := Below.refl w1.heap.size w1
      go_loopw [5, 6] (fun lv kv wq => ∃ k : Nat, k ≤ (X i).n ∧ lv = .int .i64 (lastK (X i).z k) ∧ kv = .int .i64 k ∧ KOk (X i).z k ∧ Below w1.heap.size w1 wq) (fun _ kv _ => (X i).n + 1 - (intOf kv).toNat)
      case atStart => exact ⟨0, by omega, rfl, rfl, fun j hj => by omega, hb2⟩
      case round =>
        clear hb2
        rename World => wq
        obtain ⟨k, hk, rfl, rfl, hK, hbq⟩ := hrel
        have HKK : Hid (KOk (X i).z k) := hK
        clear hK
        have cq : wq.cell? ⟨wr.heap.size, 0, none⟩ = some (.slice ka (X i).n kc) := by rw [hbq.cell (p := ⟨wr.heap.size, 0, none⟩) hl0]; exact HC0.out
        by_cases hkl : k < (X i).n
        · have hkl' : (k : Int) < (X i).n := by omega
          obtain ⟨b2, off2, rfl, hc2⟩ := HI1.out (by omega)
          have hck : wq.cell? ⟨b2, off2 + k, none⟩ = some (.int .i64 ((X i).z k)) := by
            have := hc2 k hkl
            rw [hbq.cell (p := ⟨b2, off2 + k, none⟩) (World.block_lt_of_cell? w1 ⟨b2, off2 + k, none⟩ this)]; exact this
          clear hc2
          by_cases p1 : lastK (X i).z k < (X i).z k
          · have p1' : ¬ (X i).z k ≤ lastK (X i).z k := by omega
            by_cases p2 : (X i).z k < 16
            · have p2' : ¬ 15 < (X i).z k := by omega
              have HN : Hid (KOk (X i).z (k + 1)) := fun j hj => by
                by_cases e : j = k
                · subst e; exact ⟨p1, p2⟩
                · exact HKK.out j (by omega)
              have e1 := lastK_succ (X i).z k
              generalize lastK (X i).z k = q at *
              go_wp2
              go_roundw
              case rel => exact ⟨k + 1, by omega, by rw [e1], by go_num, HN.out, hbq⟩
              case measure => simp [intOf]; omega
            · have p2' : 15 < (X i).z k := by omega
              have HE : Hid (chkE X n = 1) := if_neg (fun hh => by have h := (HO.out.1 (hh.2 i hlt)) k hkl; omega)
              generalize lastK (X i).z k = q at *
              go_wp2
              go_ret
              exact ⟨by rw [HE.out]; rfl, HW.out.1.trans (hbq.mono HW.out.1.size)⟩
          · have p1' : (X i).z k ≤ lastK (X i).z k := by omega
            have HE : Hid (chkE X n = 1) := if_neg (fun hh => by have h := (HO.out.1 (hh.2 i hlt)) k hkl; omega)
            generalize lastK (X i).z k = q at *
            go_wp2
            go_ret
            exact ⟨by rw [HE.out]; rfl, HW.out.1.trans (hbq.mono HW.out.1.size)⟩
        · obtain rfl : k = (X i).n := by omega
          have hnn : ¬ (((X i).n : Int) < (X i).n) := by omega
          have HN : Hid (AllOk X (i + 1)) := fun j hj => by
            by_cases e : j = i
            · subst e; exact HO.out.2 HKK.out
            · exact HK.out j (by omega)
          go_wp2
          go_roundw
          case rel => exact ⟨i + 1, by omega, by go_num, HN.out, HW.out.1.trans (hbq.mono HW.out.1.size), by rw [hbq.cell (p := ⟨w.heap.size, 0, none⟩) HW.out.2.2]; exact HW.out.2.1⟩
          case measure => simp [intOf]; omega
    · obtain rfl : i = n := by omega
      have hnn : ¬ ((i : Int) < i) := by omega
      have HE : Hid (chkE X i = 0) := if_pos ⟨by omega, HK.out⟩
      go_wp2
      go_ret
      exact ⟨by rw [HE.out]; rfl, hb⟩
end Go.Proofs.YtecahnafcljljaaDoor
