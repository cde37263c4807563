/- sort.choosePivot_func, whatever the less lays (made by tools/mkpiv.py). -/
import Derived.Test.YthnobkiiaflelaaDoorOwnShelf39
namespace Go.Proofs.YthnobkiiaflelaaDoor
open Go.RowKit Go.Maps Go.Sort

attribute [local go_sem ↓] Go.wp_at_zero Go.wp_at_succ

set_option maxRecDepth 100000 in
set_option maxHeartbeats 3200000 in
theorem pivot_any {g : Nat} {lb : Array Value} {sf : Nat} {sb : Array Value} {n : Nat} (S : SrC g lb sf sb n) (a b : Nat) (d : Nat → Ev) (w : World) (h : S.at_ w d) (hab : a + 13 ≤ b) (hb : b ≤ n) :
    Calls Tryd.prog 55 #[lsV g lb sf sb, .int .i64 (a : Int), .int .i64 (b : Int)] w fun e w' => ∃ (p : Nat) (hint : Int), e = .returned (.tuple #[.int .i64 (p : Int), .int .i64 hint]) ∧ (a ≤ p ∧ p < b) ∧ S.at_ w' d ∧ Below w.heap.size w w' := by
  have hfew := S.few
  obtain ⟨l, hl⟩ : ∃ l : Nat, l = b - a := ⟨_, rfl⟩
  have hli : (b : Int) - (a : Int) = (l : Int) := by omega
  obtain ⟨q, hq⟩ : ∃ q : Nat, q = l / 4 := ⟨_, rfl⟩
  have hqi : (l : Int).tdiv 4 = (q : Int) := by rw [Int.tdiv_eq_ediv_of_nonneg (by omega)]; omega
  obtain ⟨i, hi⟩ : ∃ i : Nat, i = a + q := ⟨_, rfl⟩
  obtain ⟨j, hj⟩ : ∃ j : Nat, j = a + q * 2 := ⟨_, rfl⟩
  obtain ⟨k, hk⟩ : ∃ k : Nat, k = a + q * 3 := ⟨_, rfl⟩
  have hii : (a : Int) + (q : Int) = (i : Int) := by omega
  have hjj : (a : Int) + (q : Int) * 2 = (j : Int) := by omega
  have hkk : (a : Int) + (q : Int) * 3 = (k : Int) := by omega
  have hw2 : wrap64 ((q : Int) * 2) = (q : Int) * 2 := by unfold wrap64; omega
  have hw3 : wrap64 ((q : Int) * 3) = (q : Int) * 3 := by unfold wrap64; omega
  have hrij : a ≤ i ∧ i < b ∧ a ≤ j ∧ j < b ∧ a ≤ k ∧ k < b := by omega
  have h13 : 13 ≤ l := by omega
  have hfar : 50 ≤ l → (a < i ∧ i + 1 < b ∧ a < j ∧ j + 1 < b ∧ a < k ∧ k + 1 < b) := fun h => by omega
  clear hl hq hi hj hk
  obtain ⟨W0, hW0⟩ : ∃ W0, (w.alloc (.cells #[.func (.func g) #[] lb, .func (.func sf) #[] sb] 101)).alloc (.cells #[.int .i64 0] 3) = W0 := ⟨_, rfl⟩
  have hb0 : Below w.heap.size w W0 := by rw [← hW0]; exact ((Below.refl _ w).alloc (Nat.le_refl _) _).alloc (by simp) _
  have hbx : W0.heap[w.heap.size]? = some (.cells #[.func (.func g) #[] lb, .func (.func sf) #[] sb] 101 (0, 0)) := by
    rw [← hW0, Below.heap_alloc _ _ _ (by simp)]; exact heap_alloc_new w _
  have hct : W0.heap[w.heap.size + 1]? = some (.cells #[.int .i64 0] 3 (0, 0)) := by
    have := heap_alloc_new (w.alloc (.cells #[.func (.func g) #[] lb, .func (.func sf) #[] sb] 101)) (.cells #[.int .i64 0] 3)
    rw [← hW0]; simpa using this
  have hC0 : S.at_ W0 d ∧ CtI S W0 (w.heap.size + 1) := ⟨S.below h hb0, ⟨0, hct⟩, by have := (S.low h).1; omega, by have := (S.low h).2; omega⟩
  have HC0 : Hid (S.at_ W0 d ∧ CtI S W0 (w.heap.size + 1)) := hC0
  have HB0 : Hid (Below w.heap.size w W0) := hb0
  have b0 : W0.cell? ⟨w.heap.size, 0, none⟩ = some (.func (.func g) #[] lb) := by rw [cell_of_row _ _ 0 _ _ _ hbx]; rfl
  have b1 : W0.cell? ⟨w.heap.size, 1, none⟩ = some (.func (.func sf) #[] sb) := by rw [cell_of_row _ _ 1 _ _ _ hbx]; rfl
  have HX0 : Hid (W0.heap[w.heap.size]? = some (.cells #[.func (.func g) #[] lb, .func (.func sf) #[] sb] 101 (0, 0))) := hbx
  unfold lsV
  clear h hb0 hbx hct hC0
  have h8' : (8 : Int) ≤ l := by omega
  go_enter Tryd.func55, Tryd.ntmps55
  by_cases h50 : 50 ≤ l
  · have h50' : (50 : Int) ≤ l := by omega
    have hff := hfar h50
    clear hfar
    have hm1 := adjacent_any S i (w.heap.size + 1) d W0 (⟨HC0.out.1, HC0.out.2, Fr.refl _ _⟩ : CtR S d (w.heap.size + 1) W0 W0).row (⟨HC0.out.1, HC0.out.2, Fr.refl _ _⟩ : CtR S d (w.heap.size + 1) W0 W0).cnt (by omega) (by omega)
    unfold lsV at hm1
    go_wp2_with fail
    refine hm1.mono ?_
    rintro e w1 ⟨p1, rfl, hp1, hR1⟩
    have hbx1 := (hR1.fr.block w.heap.size (lt_of_block HX0.out) (by omega)).trans HX0.out
    have b0' : w1.cell? ⟨w.heap.size, 0, none⟩ = some (.func (.func g) #[] lb) := by rw [cell_of_row _ _ 0 _ _ _ hbx1]; rfl
    have b1' : w1.cell? ⟨w.heap.size, 1, none⟩ = some (.func (.func sf) #[] sb) := by rw [cell_of_row _ _ 1 _ _ _ hbx1]; rfl
    have HR1 : Hid (CtR S d (w.heap.size + 1) W0 w1 ∧ w1.heap[w.heap.size]? = some (.cells #[.func (.func g) #[] lb, .func (.func sf) #[] sb] 101 (0, 0))) := ⟨hR1, hbx1⟩
    clear hm1 hR1 hbx1 b0 b1
    have hm2 := adjacent_any S j (w.heap.size + 1) d w1 HR1.out.1.row HR1.out.1.cnt (by omega) (by omega)
    unfold lsV at hm2
    go_wp2_with fail
    refine hm2.mono ?_
    rintro e w2 ⟨p2, rfl, hp2, hR2⟩
    have hbx2 := (hR2.fr.block w.heap.size (lt_of_block HR1.out.2) (by omega)).trans HR1.out.2
    have b0'' : w2.cell? ⟨w.heap.size, 0, none⟩ = some (.func (.func g) #[] lb) := by rw [cell_of_row _ _ 0 _ _ _ hbx2]; rfl
    have b1'' : w2.cell? ⟨w.heap.size, 1, none⟩ = some (.func (.func sf) #[] sb) := by rw [cell_of_row _ _ 1 _ _ _ hbx2]; rfl
    have HR2 : Hid (CtR S d (w.heap.size + 1) W0 w2 ∧ w2.heap[w.heap.size]? = some (.cells #[.func (.func g) #[] lb, .func (.func sf) #[] sb] 101 (0, 0))) := ⟨HR1.out.1.trans hR2, hbx2⟩
    clear hm2 hR2 hbx2 b0' b1'
    have hm3 := adjacent_any S k (w.heap.size + 1) d w2 HR2.out.1.row HR2.out.1.cnt (by omega) (by omega)
    unfold lsV at hm3
    go_wp2_with fail
    refine hm3.mono ?_
    rintro e w3 ⟨p3, rfl, hp3, hR3⟩
    have hbx3 := (hR3.fr.block w.heap.size (lt_of_block HR2.out.2) (by omega)).trans HR2.out.2
    have b0''' : w3.cell? ⟨w.heap.size, 0, none⟩ = some (.func (.func g) #[] lb) := by rw [cell_of_row _ _ 0 _ _ _ hbx3]; rfl
    have b1''' : w3.cell? ⟨w.heap.size, 1, none⟩ = some (.func (.func sf) #[] sb) := by rw [cell_of_row _ _ 1 _ _ _ hbx3]; rfl
    have HR3 : Hid (CtR S d (w.heap.size + 1) W0 w3 ∧ w3.heap[w.heap.size]? = some (.cells #[.func (.func g) #[] lb, .func (.func sf) #[] sb] 101 (0, 0))) := ⟨HR2.out.1.trans hR3, hbx3⟩
    clear hm3 hR3 hbx3 b0'' b1''
    have hm := median_any S p1 p2 p3 (w.heap.size + 1) d w3 HR3.out.1.row HR3.out.1.cnt (by omega) (by omega) (by omega)
    unfold lsV at hm
    go_wp2_with fail
    refine hm.mono ?_
    rintro e w4 ⟨pe, rfl, hpe, hR4⟩
    have hRe : CtR S d (w.heap.size + 1) W0 w4 := HR3.out.1.trans hR4
    clear hm hR4 b0''' b1'''
    obtain ⟨c, hcc⟩ := hRe.cnt.ex
    have cc : w4.cell? ⟨w.heap.size + 1, 0, none⟩ = some (.int .i64 c) := by rw [cell_of_row _ _ 0 _ _ _ hcc]; rfl
    have HE : Hid (S.at_ w4 d ∧ Below w.heap.size w w4) := ⟨hRe.row, HB0.out.trans (hRe.fr.below (by have := HB0.out.size; omega) (fun k e => by omega))⟩
    clear hRe hcc
    by_cases h0 : c = 0
    · subst h0
      go_wp2
      go_ret2
      exact ⟨pe, 1, rfl, by omega, HE.out.1, HE.out.2⟩
    · have h0b : (c == 0) = false := by simpa using h0
      by_cases h12 : c = 12
      · subst h12
        go_wp2
        go_ret2
        exact ⟨pe, 2, rfl, by omega, HE.out.1, HE.out.2⟩
      · have h12b : (c == 12) = false := by simpa using h12
        go_wp2
        go_ret2
        exact ⟨pe, 0, rfl, by omega, HE.out.1, HE.out.2⟩
  · have h50' : ¬ ((50 : Int) ≤ l) := by omega
    clear hfar
    have hm := median_any S i j k (w.heap.size + 1) d W0 (⟨HC0.out.1, HC0.out.2, Fr.refl _ _⟩ : CtR S d (w.heap.size + 1) W0 W0).row (⟨HC0.out.1, HC0.out.2, Fr.refl _ _⟩ : CtR S d (w.heap.size + 1) W0 W0).cnt (by omega) (by omega) (by omega)
    unfold lsV at hm
    go_wp2_with fail
    refine hm.mono ?_
    rintro e w4 ⟨pe, rfl, hpe, hRe⟩
    clear hm b0 b1
    obtain ⟨c, hcc⟩ := hRe.cnt.ex
    have cc : w4.cell? ⟨w.heap.size + 1, 0, none⟩ = some (.int .i64 c) := by rw [cell_of_row _ _ 0 _ _ _ hcc]; rfl
    have HE : Hid (S.at_ w4 d ∧ Below w.heap.size w w4) := ⟨hRe.row, HB0.out.trans (hRe.fr.below (by have := HB0.out.size; omega) (fun k e => by omega))⟩
    clear hRe hcc
    by_cases h0 : c = 0
    · subst h0
      go_wp2
      go_ret2
      exact ⟨pe, 1, rfl, by omega, HE.out.1, HE.out.2⟩
    · have h0b : (c == 0) = false := by simpa using h0
      by_cases h12 : c = 12
      · subst h12
        go_wp2
        go_ret2
        exact ⟨pe, 2, rfl, by omega, HE.out.1, HE.out.2⟩
      · have h12b : (c == 12) = false := by simpa using h12
        go_wp2
        go_ret2
        exact ⟨pe, 0, rfl, by omega, HE.out.1, HE.out.2⟩
end Go.Proofs.YthnobkiiaflelaaDoor
