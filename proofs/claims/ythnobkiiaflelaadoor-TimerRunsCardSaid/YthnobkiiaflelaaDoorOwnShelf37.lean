/- sort.insertionSort_func, whatever the less lays. -/
import Derived.Test.YthnobkiiaflelaaDoorOwnShelf34
import Derived.Deep.CutBlock
import Derived.Deep.DeepCutAuto
namespace Go.Proofs.YthnobkiiaflelaaDoor
open Go.RowKit Go.Maps Go.Sort

attribute [local go_sem ↓] Go.wp_at_zero Go.wp_at_succ

/-- Sorted up to i, but for the one at j, which may go down. -/
def InsH (a i j : Nat) (d : Nat → Ev) : Prop := ∀ p q, a ≤ p → p < q → q ≤ i → q ≠ j → ltE (d q) (d p) = false
theorem InsH.start {a i : Nat} {d : Nat → Ev} (h : SortR a i d) : InsH a i i d := fun p q h1 h2 h3 h4 => h p q h1 h2 (by omega)
theorem InsH.stop {a i j : Nat} {d : Nat → Ev} (h : InsH a i j d) (hj : j ≤ i) (hs : j ≤ a ∨ ltE (d j) (d (j - 1)) = false) : SortR a (i + 1) d := fun p q h1 h2 h3 => by
  by_cases e : q = j
  · subst e
    rcases hs with hs | hs
    · omega
    · by_cases e2 : p = q - 1
      · rw [e2]; exact hs
      · exact ltE_tr (h p (q - 1) h1 (by omega) (by omega) (by omega)) hs
  · exact h p q h1 h2 (by omega) e
theorem InsH.step {a i j : Nat} {d : Nat → Ev} (h : InsH a i j d) (hj : j ≤ i) (ha : a < j) (hl : ltE (d j) (d (j - 1)) = true) : InsH a i (j - 1) (swapA d j (j - 1)) := fun p q h1 h2 h3 h4 => by
  by_cases e : q = j
  · subst e
    rw [swapA_i]
    by_cases e2 : p = q - 1
    · rw [e2, swapA_j]; exact ordE.asymm _ _ hl
    · rw [swapA_o d (by omega) (by omega)]
      exact h p (q - 1) h1 (by omega) (by omega) (by omega)
  · rw [swapA_o d e h4]
    by_cases e2 : p = j
    · subst e2
      rw [swapA_i]
      exact h (p - 1) q (by omega) (by omega) h3 e
    · by_cases e3 : p = j - 1
      · subst e3
        rw [swapA_j]
        exact h j q (by omega) (by omega) h3 e
      · rw [swapA_o d e2 e3]
        exact h p q h1 h2 h3 e
/-- What a function that sorts leaves. -/
structure SrR {g : Nat} {lb : Array Value} {sf : Nat} {sb : Array Value} {n : Nat} (S : SrC g lb sf sb n) (a b : Nat) (d : Nat → Ev) (w : World) (e : Ending) (w' : World) : Prop where
  mk :: (out : e = .returned (.tuple #[]) ∧ ∃ d', S.at_ w' d' ∧ PermR a b d d' ∧ SortR a b d' ∧ Fr (fun k => k = S.blk) w w')
set_option maxRecDepth 100000 in
set_option maxHeartbeats 3200000 in
theorem insertion_any {g : Nat} {lb : Array Value} {sf : Nat} {sb : Array Value} {n : Nat} (S : SrC g lb sf sb n) (a b : Nat) (d : Nat → Ev) (w : World) (h : S.at_ w d) (hab : a ≤ b) (hb : b ≤ n) :
    Calls Tryd.prog 52 #[lsV g lb sf sb, .int .i64 (a : Int), .int .i64 (b : Int)] w (SrR S a b d w) := by
  have hfew := S.few
  have heg := S.eg
  have H0 : Hid (SrI S w (w.alloc (.cells #[.func (.func g) #[] lb, .func (.func sf) #[] sb] 101)) w.heap.size d) := SrI.start h
  clear h
  unfold lsV
  go_enter Tryd.func52, Tryd.ntmps52
  go_wp2_with fail
  go_loopw [6] (fun vi wr => ∃ (i : Nat) (dk : Nat → Ev), vi = .int .i64 i ∧ a < i ∧ i ≤ b + 1 ∧ SrI S w wr w.heap.size dk ∧ PermR a b d dk ∧ SortR a i dk ∧ (b < i → b = a)) (fun vi _ => b + 1 - (intOf vi).toNat)
  case atStart => exact ⟨a + 1, d, by go_num, by omega, by omega, H0.out, PermR.refl _ _ _, sort_short d (Nat.le_refl _), fun h => by omega⟩
  case round =>
    clear H0
    obtain ⟨i, dk, rfl, hai, hib, hI, hP, hS, hbi⟩ := hrel
    by_cases hlt : i < b
    · have hlt' : (i : Int) < b := by omega
      have HI : Hid (SrI S w wr w.heap.size dk ∧ PermR a b d dk ∧ InsH a i i dk) := ⟨hI, hP, InsH.start hS⟩
      clear hI hP hS hbi
      go_wp2_with fail
      go_loopw [7] (fun vj wr => ∃ (j : Nat) (dj : Nat → Ev), vj = .int .i64 j ∧ a ≤ j ∧ j ≤ i ∧ SrI S w wr w.heap.size dj ∧ PermR a b d dj ∧ InsH a i j dj) (fun vj _ => (intOf vj).toNat)
      case atStart => exact ⟨i, dk, rfl, by omega, Nat.le_refl _, HI.out.1, HI.out.2.1, HI.out.2.2⟩
      case round =>
        clear HI
        obtain ⟨j, dj, rfl, haj, hji, hI, hP, hS⟩ := hrel
        have c0 := hI.c0
        have HI : Hid (SrI S w wr w.heap.size dj ∧ PermR a b d dj ∧ InsH a i j dj) := ⟨hI, hP, hS⟩
        clear hI hP hS
        by_cases hja : a < j
        · have hja' : (a : Int) < j := by omega
          have hl := S.less wr dj j (j - 1) HI.out.1.row (by omega) (by omega)
          rw [show (((j - 1 : Nat) : Int)) = (j : Int) - 1 by omega] at hl
          cases hlv : ltE (dj j) (dj (j - 1)) with
          | true =>
            rw [hlv] at hl
            go_wp2_with fail
            refine hl.mono ?_
            rintro e w2 ⟨rfl, hb2⟩
            have hI2 := HI.out.1.less hb2
            have c1 := hI2.c1
            obtain ⟨w3, hs, ha3, hf3⟩ := S.swap w2 dj j (j - 1) hI2.row (by omega) (by omega)
            rw [show (((j - 1 : Nat) : Int)) = (j : Int) - 1 by omega] at hs
            have HN : Hid (SrI S w w3 w.heap.size (swapA dj j (j - 1)) ∧ PermR a b d (swapA dj j (j - 1)) ∧ InsH a i (j - 1) (swapA dj j (j - 1))) := ⟨hI2.swap ha3 hf3, HI.out.2.1.trans (PermR.swap dj ⟨by omega, by omega⟩ ⟨by omega, by omega⟩), HI.out.2.2.step hji hja hlv⟩
            clear hl hb2 hI2 ha3 hf3 HI hlv c0
            go_wp2
            exact ⟨⟨j - 1, _, by congr 1; omega, by omega, by omega, HN.out.1, HN.out.2.1, HN.out.2.2⟩, by simp [intOf]; omega⟩
          | false =>
            rw [hlv] at hl
            go_wp2_with fail
            refine hl.mono ?_
            rintro e w2 ⟨rfl, hb2⟩
            have HN : Hid (SrI S w w2 w.heap.size dj ∧ PermR a b d dj ∧ SortR a (i + 1) dj) := ⟨HI.out.1.less hb2, HI.out.2.1, HI.out.2.2.stop hji (.inr hlv)⟩
            clear hl hb2 HI hlv c0
            go_wp2
            exact ⟨⟨i + 1, dj, by go_num, by omega, by omega, HN.out.1, HN.out.2.1, HN.out.2.2, fun h => by omega⟩, by simp [intOf]; omega⟩
        · have hja' : ¬ ((a : Int) < j) := by omega
          have HN : Hid (SrI S w wr w.heap.size dj ∧ PermR a b d dj ∧ SortR a (i + 1) dj) := ⟨HI.out.1, HI.out.2.1, HI.out.2.2.stop hji (.inl (by omega))⟩
          clear HI c0
          go_wp2
          exact ⟨⟨i + 1, dj, by go_num, by omega, by omega, HN.out.1, HN.out.2.1, HN.out.2.2, fun h => by omega⟩, by simp [intOf]; omega⟩
    · have hlt' : ¬ ((i : Int) < b) := by omega
      have HE : Hid (SrR S a b d w (.returned (.tuple #[])) wr) := ⟨rfl, dk, hI.row, hP, fun p q h1 h2 h3 => hS p q h1 h2 (by omega), hI.fr⟩
      clear hI hP hS
      go_wp2
      go_end0
      exact HE.out
end Go.Proofs.YthnobkiiaflelaaDoor
