/- The document's Keyed on plain numbers: blocks one behind the other. -/
import Derived.Test.YtecahnafcljljaaDoorBRMath
namespace Go.Proofs.YtecahnafcljljaaDoor

/-- Blocks taken in, c bytes being in already. -/
def bk (h : List Nat) (c : Nat) (A : List Nat) : List Nat :=
  if hA : A.length ≤ 64 then cF h (pad A) (c + A.length) true else bk (cF h (A.take 64) (c + 64) false) (c + 64) (A.drop 64)
termination_by A.length
decreasing_by simp; omega
theorem bk_last {h A : List Nat} {c : Nat} (hA : A.length ≤ 64) : bk h c A = cF h (pad A) (c + A.length) true := by
  rw [bk, dif_pos hA]
theorem bk_more {h A : List Nat} {c : Nat} (hA : 64 < A.length) : bk h c A = bk (cF h (A.take 64) (c + 64) false) (c + 64) (A.drop 64) := by
  rw [bk, dif_neg (by omega)]
theorem feed_new {h : List Nat} {c : Nat} {b : List Nat} (hb : b.length = 64) : ∀ (D : List Nat), D ≠ [] → feed ⟨h, c, b⟩ D = feed ⟨cF h b (c + 64) false, c + 64, []⟩ D
  | [], h0 => absurd rfl h0
  | x :: D, _ => by
    rw [feed_cons, feed_cons]
    have e1 : feed1 ⟨h, c, b⟩ x = ⟨cF h b (c + 64) false, c + 64, [x]⟩ := if_pos hb
    have e2 : feed1 ⟨cF h b (c + 64) false, c + 64, []⟩ x = ⟨cF h b (c + 64) false, c + 64, [x]⟩ := if_neg (by simp)
    rw [e1, e2]
theorem sum_bk : ∀ (n : Nat) (h : List Nat) (c : Nat) (A : List Nat), A.length ≤ n → sumS (feed ⟨h, c, []⟩ A) = endL (bk h c A) := by
  intro n
  induction n with
  | zero =>
    intro h c A hA
    have : A = [] := List.eq_nil_of_length_eq_zero (by omega)
    subst this
    rw [bk_last (by simp)]; rfl
  | succ n ih =>
    intro h c A hA
    by_cases hl : A.length ≤ 64
    · rw [feed_room h c A [] (by simp; exact hl), bk_last hl, sumS]; simp
    · rw [bk_more (by omega)]
      have e : A = A.take 64 ++ A.drop 64 := (List.take_append_drop 64 A).symm
      have hd : A.drop 64 ≠ [] := by
        intro h0
        have := congrArg List.length h0
        simp at this
        omega
      have h1 : feed ⟨h, c, []⟩ A = feed ⟨cF h (A.take 64) (c + 64) false, c + 64, []⟩ (A.drop 64) := by
        conv => lhs; rw [e]
        rw [feed_append, feed_room h c (A.take 64) [] (by simp; omega), List.nil_append, feed_new (by simp; omega) _ hd]
      rw [h1]
      exact ih _ _ _ (by simp; omega)
/-- The bytes of a key's block, if there is a key. -/
def kyL (K : List Nat) : List Nat := if K.length = 0 then [] else pad K
theorem keyed_bk (K b : List Nat) (hK : K.length ≤ 32) : keyedF K b = endL (bk (h0 K.length) 0 (kyL K ++ b)) := by
  rw [← sum_bk _ _ _ _ (Nat.le_refl _), keyedF]
  congr 1
  rw [feed_append]
  congr 1
  unfold new0 kyL
  split
  · rename_i h; rw [h]; rfl
  · rw [feed_room _ _ (pad K) [] (by rw [pad_len (by omega)]; simp)]; rfl
/-- As many noughts behind as make whole blocks, one at least. -/
def full (A : List Nat) : Nat := if A.length = 0 then 64 else (A.length + 63) / 64 * 64
def padA (A : List Nat) : List Nat := A ++ List.replicate (full A - A.length) 0
theorem full_bd (A : List Nat) : A.length ≤ full A ∧ full A % 64 = 0 ∧ 0 < full A ∧ full A < A.length + 64 + (if A.length = 0 then 1 else 0) := by
  unfold full
  split
  · simp [*]
  · omega
theorem padA_len (A : List Nat) : (padA A).length = full A := by have := (full_bd A).1; simp [padA]; omega
theorem padA_by {A : List Nat} (h : ∀ i, A.getD i 0 < 256) : ∀ i, (padA A).getD i 0 < 256 := fun _ => getD_append_lt h (zeros_lt _)
/-- A block that is not the last one. -/
theorem blk_mid {A : List Nat} {i : Nat} (h : i + 64 < full A) (h64 : i % 64 = 0) : 64 < (A.drop i).length ∧ ((padA A).drop i).take 64 = (A.drop i).take 64 := by
  have hb := full_bd A
  have hf : i + 64 < A.length := by
    split at hb <;> omega
  refine ⟨by simp; omega, ?_⟩
  rw [padA, List.drop_append_of_le_length (by omega), List.take_append_of_le_length (by simp; omega)]
/-- The last block. -/
theorem blk_end {A : List Nat} {i : Nat} (h : i + 64 = full A) : (A.drop i).length ≤ 64 ∧ ((padA A).drop i).take 64 = pad (A.drop i) ∧ i ≤ A.length := by
  have hb := full_bd A
  have hi : i ≤ A.length := by split at hb <;> omega
  refine ⟨by simp; omega, ?_, hi⟩
  rw [padA, List.drop_append_of_le_length hi, List.take_of_length_le (by simp; omega), pad]
  congr 2
  simp
  omega
end Go.Proofs.YtecahnafcljljaaDoor
