/- What a path has left, as a number: Next takes one off; the newer path has less. (The mathematics of TreeNewer.) -/
import Derived.Test.YtlnoabedcnlpoaaDoorJNew
import Derived.Test.YtlnoabedcnlpoaaDoorJNext
namespace Go.Proofs.YtlnoabedcnlpoaaDoor
open Go.RowKit

def vl (c : Tc) (z : Nat → Int) : Nat → Int
  | 0 => 0
  | i + 1 => vl c z i * (stp c c.fi + 1) + stp c (z i)
/-- The heights of the first n ranks may be. -/
def Ht (c : Tc) (z : Nat → Int) (n : Nat) : Prop := ∀ j, j < n → HtOk c (z j)
theorem Ht.less {c : Tc} {z : Nat → Int} {n m : Nat} (h : Ht c z n) (hm : m ≤ n) : Ht c z m := fun j hj => h j (by omega)
theorem stp_at {c : Tc} {h : Int} (h1 : TOk1 c) (hh : HtOk c h) : ∃ k : Int, 0 ≤ k ∧ h = c.fi - k * c.st ∧ stp c h = stp c c.fi - k := by
  have a1 : 0 < c.st := by have := h1.2.1; omega
  refine ⟨(c.fi - h) / c.st, Int.ediv_nonneg (by have := hh.1; omega) (by omega), ?_, ?_⟩
  · have := Int.mul_ediv_add_emod (c.fi - h) c.st
    rw [hh.2, Int.mul_comm] at this
    omega
  · have e : c.fi - h = (c.fi - h) / c.st * c.st := by
      have := Int.mul_ediv_add_emod (c.fi - h) c.st
      rw [hh.2, Int.mul_comm] at this
      omega
    generalize (c.fi - h) / c.st = k at *
    have e2 : h - c.la = (c.fi - c.la) + (-k) * c.st := by rw [Int.neg_mul]; omega
    unfold stp
    rw [e2, Int.add_mul_ediv_right _ _ (by omega)]
    omega
theorem vl_same {c : Tc} {z y : Nat → Int} : ∀ n, (∀ j, j < n → z j = y j) → vl c z n = vl c y n
  | 0, _ => rfl
  | n + 1, h => by rw [vl, vl, vl_same n (fun j hj => h j (by omega)), h n (by omega)]
theorem vl_step {a b s t q : Int} (h : a + 1 ≤ b) (hs : s ≤ q) (ht : 0 ≤ t) (hq : 0 ≤ q) : a * (q + 1) + s + 1 ≤ b * (q + 1) + t := by
  have h1 : (a + 1) * (q + 1) ≤ b * (q + 1) := Int.mul_le_mul_of_nonneg_right h (by omega)
  rw [Int.add_mul] at h1
  omega
theorem vl_less {c : Tc} {z y : Nat → Int} (h1 : TOk1 c) (h2 : TOk2 c) : ∀ n, Ht c z n → Ht c y n → Nw z y n → vl c z n + 1 ≤ vl c y n
  | 0, _, _, ⟨i, hi, _⟩ => by omega
  | n + 1, hz, hy, ⟨i, hi, he, hl⟩ => by
    have bz := stp_bd h1 h2 (hz n (by omega)).1.1 (hz n (by omega)).1.2
    have by' := stp_bd h1 h2 (hy n (by omega)).1.1 (hy n (by omega)).1.2
    have bq := stp_bd (c := c) h1 h2 h1.2.2.2.1 (Int.le_refl _)
    by_cases e : i = n
    · subst e
      rw [vl, vl, vl_same i he]
      obtain ⟨k1, _, e1, e2⟩ := stp_at h1 (hz i (by omega))
      obtain ⟨k2, _, e3, e4⟩ := stp_at h1 (hy i (by omega))
      have : k2 < k1 := by
        by_cases g : k1 ≤ k2
        · have := Int.mul_le_mul_of_nonneg_right g (show 0 ≤ c.st by have := h1.2.1; omega)
          omega
        · omega
      omega
    · have ih := vl_less h1 h2 n (hz.less (by omega)) (hy.less (by omega)) ⟨i, by omega, he, hl⟩
      rw [vl, vl]
      exact vl_step ih bz.2.2 by'.1 bq.1
theorem tri (z y : Nat → Int) : ∀ n, (∀ j, j < n → z j = y j) ∨ Nw z y n ∨ Nw y z n
  | 0 => .inl fun j hj => by omega
  | n + 1 => by
    rcases tri z y n with h | ⟨i, hi, he, hl⟩ | ⟨i, hi, he, hl⟩
    · by_cases e : z n = y n
      · refine .inl fun j hj => ?_
        by_cases ej : j = n
        · subst ej; exact e
        · exact h j (by omega)
      · by_cases g : z n < y n
        · exact .inr (.inl ⟨n, by omega, h, g⟩)
        · exact .inr (.inr ⟨n, by omega, fun j hj => (h j hj).symm, by omega⟩)
    · exact .inr (.inl ⟨i, by omega, he, hl⟩)
    · exact .inr (.inr ⟨i, by omega, he, hl⟩)
/-- The path that has less left is the newer one, and the other one isn't. -/
theorem nw_of_vl {c : Tc} {z y : Nat → Int} {n : Nat} (h1 : TOk1 c) (h2 : TOk2 c) (hz : Ht c z n) (hy : Ht c y n) (h : vl c z n < vl c y n) : nwB z y n = true ∧ nwB y z n = false := by
  refine ⟨nwB_pos ?_, nwB_neg fun g => ?_⟩
  · rcases tri z y n with e | g | g
    · have := vl_same (c := c) n e; omega
    · exact g
    · have := vl_less h1 h2 n hy hz g; omega
  · have := vl_less h1 h2 n hy hz g; omega
theorem nextZ_ht {c : Tc} {z : Nat → Int} {n a : Nat} (h1 : TOk1 c) (hz : Ht c z n) (ha : a < n) (hs : 0 < stp c (z a)) : Ht c (nextZ c z a) n := fun j hj => by
  have ht := hz j hj
  unfold nextZ
  split
  · exact ht
  · split
    · rename_i e
      subst e
      have a1 : 0 < c.st := by have := h1.2.1; omega
      have h2 : stp c (z j) * c.st ≤ z j - c.la := Int.ediv_mul_le (z j - c.la) (by omega)
      have h3 : 1 * c.st ≤ stp c (z j) * c.st := Int.mul_le_mul_of_nonneg_right (by omega) (by omega)
      refine ⟨⟨by omega, by have := ht.1; omega⟩, ?_⟩
      rw [show c.fi - (z j - c.st) = (c.fi - z j) + c.st by omega, Int.add_emod_right]
      exact ht.2
    · exact ⟨⟨h1.2.2.2.1, Int.le_refl _⟩, by simp⟩
theorem stp_less {c : Tc} {h : Int} (h1 : TOk1 c) : stp c (h - c.st) = stp c h - 1 := by
  unfold stp
  rw [show h - c.st - c.la = (h - c.la) + (-1) * c.st by rw [Int.neg_mul, Int.one_mul]; omega, Int.add_mul_ediv_right _ _ (by have := h1.2.1; omega)]
  omega
theorem nextZ_vl {c : Tc} {z : Nat → Int} {a : Nat} (h1 : TOk1 c) : ∀ n, a < n → (∀ i, a < i → i < n → stp c (z i) = 0) → vl c (nextZ c z a) n = vl c z n - 1
  | 0, h, _ => by omega
  | n + 1, ha, h0 => by
    rw [vl, vl]
    by_cases e : a = n
    · subst e
      have e1 : nextZ c z a a = z a - c.st := by unfold nextZ; rw [if_neg (by omega), if_pos rfl]
      rw [e1, stp_less h1, vl_same (c := c) (z := nextZ c z a) (y := z) a (fun j hj => by unfold nextZ; rw [if_pos hj])]
      omega
    · have e1 : nextZ c z a n = c.fi := by unfold nextZ; rw [if_neg (by omega), if_neg (fun h => e h.symm)]
      rw [e1, nextZ_vl h1 n (by omega) (fun i g1 g2 => h0 i g1 (by omega)), h0 n (by omega) (by omega), Int.sub_mul]
      omega
theorem vl_zero {c : Tc} {z : Nat → Int} : ∀ n, (∀ i, i < n → stp c (z i) = 0) → vl c z n = 0
  | 0, _ => rfl
  | n + 1, h => by rw [vl, vl_zero n (fun i hi => h i (by omega)), h n (by omega)]; simp
theorem vl_pos {c : Tc} {z : Nat → Int} (h1 : TOk1 c) (h2 : TOk2 c) : ∀ n, Ht c z n → 0 ≤ vl c z n
  | 0, _ => Int.le_refl _
  | n + 1, h => by
    have b := stp_bd h1 h2 (h n (by omega)).1.1 (h n (by omega)).1.2
    have bq := stp_bd (c := c) h1 h2 h1.2.2.2.1 (Int.le_refl _)
    have := Int.mul_nonneg (vl_pos h1 h2 n (h.less (by omega))) (show 0 ≤ stp c c.fi + 1 by omega)
    rw [vl]
    omega
/-- A tree of at most three ranks of at most twenty heights. -/
theorem vl_small {c : Tc} {z : Nat → Int} (h1 : TOk1 c) (h2 : TOk2 c) (hq : stp c c.fi ≤ 19) : ∀ n, n ≤ 3 → Ht c z n → vl c z n ≤ [0, 19, 399, 7999].getD n 0
  | 0, _, _ => Int.le_refl _
  | n + 1, hn, hz => by
    have bq := stp_bd (c := c) h1 h2 h1.2.2.2.1 (Int.le_refl _)
    have b := stp_bd h1 h2 (hz n (by omega)).1.1 (hz n (by omega)).1.2
    have p := vl_pos h1 h2 n (hz.less (by omega))
    have ih := vl_small h1 h2 hq n (by omega) (hz.less (by omega))
    have h20 : vl c z n * (stp c c.fi + 1) ≤ vl c z n * 20 := Int.mul_le_mul_of_nonneg_left (by omega) p
    rw [vl]
    match n, hn with
    | 0, _ => simp at ih ⊢; omega
    | 1, _ => simp at ih ⊢; omega
    | 2, _ => simp at ih ⊢; omega
theorem vl_few {c : Tc} {z : Nat → Int} (h1 : TOk1 c) (h2 : TOk2 c) (hq : stp c c.fi ≤ 19) {n : Nat} (hn : n ≤ 3) (hz : Ht c z n) : vl c z n ≤ 7999 := by
  have := vl_small h1 h2 hq n hn hz
  match n, hn with
  | 0, _ => simp at this; omega
  | 1, _ => simp at this; omega
  | 2, _ => simp at this; omega
  | 3, _ => simpa using this
theorem left_vl {c : Tc} {z : Nat → Int} (h1 : TOk1 c) (h2 : TOk2 c) : ∀ n, Ht c z n → (∀ i, i ≤ n → vl c z i ≤ 1073741824) → leftI c z n = vl c z n
  | 0, _, _ => rfl
  | n + 1, h, hb => by
    have ih := left_vl h1 h2 n (h.less (by omega)) (fun i hi => hb i (by omega))
    have h3 := hb (n + 1) (Nat.le_refl _)
    rw [leftI, ih]
    rw [vl] at h3 ⊢
    omega
end Go.Proofs.YtlnoabedcnlpoaaDoor
