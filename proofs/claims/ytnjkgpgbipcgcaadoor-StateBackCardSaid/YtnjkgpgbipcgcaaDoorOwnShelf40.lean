/- What was laid, read back. -/
import Derived.Test.YtnjkgpgbipcgcaaDoorOwnShelf10
import Derived.Test.YtnjkgpgbipcgcaaDoorOwnShelf37
import Derived.Test.YtnjkgpgbipcgcaaDoorOwnShelf39
namespace Go.Proofs.YtnjkgpgbipcgcaaDoor
open Go.RowKit
theorem valF_congr {f g : Nat → Int} : ∀ (k : Nat), (∀ j, j < k → f j = g j) → valF f k = valF g k
  | 0, _ => rfl
  | k + 1, h => by rw [valF, valF, valF_congr k (fun j hj => h j (by omega)), h k (by omega)]
theorem trn_trn (t : Bool) (x : Int) : trn t (trn t x) = x := by cases t <;> simp [trn] <;> omega
theorem pow256_pos (k : Nat) : (0 : Int) < 256 ^ k := Int.pow_pos (by decide)
theorem valF_part (n : Int) (k : Nat) (h0 : 0 ≤ n) (hn : n < 256 ^ k) : ∀ q, q ≤ k → valF (fun j => n / 256 ^ (k - 1 - j) % 256) q = n / 256 ^ (k - q)
  | 0, _ => by rw [valF, Nat.sub_zero]; exact (Int.ediv_eq_zero_of_lt h0 hn).symm
  | q + 1, hq => by
    rw [valF, valF_part n k h0 hn q (by omega), show k - q = (k - (q + 1)) + 1 from by omega, show k - 1 - q = k - (q + 1) from by omega, Int.pow_succ, ← Int.ediv_ediv_of_nonneg (Int.le_of_lt (pow256_pos _))]
    have := Int.mul_ediv_add_emod (n / 256 ^ (k - (q + 1))) 256
    omega
theorem valF_dig (n : Int) (k : Nat) (h0 : 0 ≤ n) (hn : n < 256 ^ k) : valF (fun j => n / 256 ^ (k - 1 - j) % 256) k = n := by
  rw [valF_part n k h0 hn k (Nat.le_refl _)]; simp
theorem sz_bound (n : Int) (h0 : 0 ≤ n) (h1 : n ≤ 18446744073709551615) : n < 256 ^ sz n := by
  unfold sz
  repeat' split
  all_goals simp only [Int.reducePow]; omega
theorem sz_first (n : Int) (h1 : n ≤ 18446744073709551615) (hk : 0 < sz n) : n / 256 ^ (sz n - 1 - 0) % 256 ≠ 0 := by
  have hc : sz n = 0 ∨ sz n = 1 ∨ sz n = 2 ∨ sz n = 3 ∨ sz n = 4 ∨ sz n = 5 ∨ sz n = 6 ∨ sz n = 7 ∨ sz n = 8 := by have := sz_le n; omega
  have hd : sz n = if n < 1 then 0 else if n < 256 then 1 else if n < 65536 then 2 else if n < 16777216 then 3 else if n < 4294967296 then 4 else if n < 1099511627776 then 5 else if n < 281474976710656 then 6 else if n < 72057594037927936 then 7 else 8 := rfl
  rcases hc with h | h | h | h | h | h | h | h | h
  · omega
  all_goals
    rw [h]
    rw [h] at hd
    simp only [Nat.reduceSub, Int.reducePow]
    repeat' split at hd
    all_goals omega

/-- The bytes z, n of them, begin with l. -/
def Pre (n : Nat) (z : Nat → Int) (l : List Int) : Prop := l.length ≤ n ∧ ∀ j, j < l.length → z j = fn l j
theorem fn_cons (a : Int) (l : List Int) (j : Nat) : fn (a :: l) (j + 1) = fn l j := rfl
theorem fn_dgs (t : Bool) (n : Int) (k q j : Nat) (h : j < q) : fn (dgs t n k q) j = dgt t n k j := by
  rw [fn_get _ _ (by rw [dgs_length]; exact h)]; simp [dgs]
theorem num_back {n : Nat} {z : Nat → Int} {t : Bool} {m : Int} (h0 : 0 ≤ m) (h1 : m ≤ 18446744073709551615) (hn : sz m ≤ n) (hz : ∀ j, j < sz m → z (j + 1) = dgt t m (sz m) j) :
    numE n (behind t z) (sz m) = 0 ∧ numV n (behind t z) (sz m) = m := by
  have hd : ∀ j, j < sz m → behind t z j = m / 256 ^ (sz m - 1 - j) % 256 := fun j hj => by rw [behind, hz j hj, dgt, trn_trn]
  have hE : numE n (behind t z) (sz m) = 0 := by
    unfold numE
    rw [if_neg (by omega), if_neg]
    rintro ⟨hk, h⟩
    rw [hd 0 hk] at h
    exact sz_first m h1 hk h
  refine ⟨hE, ?_⟩
  rw [numV, if_pos hE, valF_congr _ hd]
  exact valF_dig m _ h0 (sz_bound m h0 h1)

theorem u_back {n : Nat} {z : Nat → Int} {m : Int} (h0 : 0 ≤ m) (h1 : m ≤ 18446744073709551615) (hp : Pre n z (uB m)) :
    uE n z 18446744073709551615 = 0 ∧ uV n z 18446744073709551615 = m ∧ uN n z 18446744073709551615 = (uB m).length := by
  obtain ⟨hl, hj⟩ := hp
  have hlen : (uB m).length = sz m + 1 := by simp [uB, dgs_length]
  have hs := sz_le m
  have z0 : z 0 = (sz m : Int) := hj 0 (by omega)
  have hz : ∀ j, j < sz m → z (j + 1) = dgt false m (sz m) j := fun j hjj => by rw [hj (j + 1) (by omega), uB, fn_cons, fn_dgs _ _ _ _ _ hjj]
  obtain ⟨a, b⟩ := num_back (n := n - 1) h0 h1 (by omega) hz
  have e : (z 0).toNat = sz m := by rw [z0]; rfl
  have hE : uE n z 18446744073709551615 = 0 := by
    unfold uE
    rw [if_neg (by omega), if_neg (by omega), e, if_pos a, b, if_neg (by omega)]
  refine ⟨hE, ?_, ?_⟩
  · rw [uV, if_pos hE, e]; exact b
  · rw [uN, if_pos hE, e, hlen]; omega
theorem fn_append_right (a b : List Int) (j : Nat) : fn (a ++ b) (a.length + j) = fn b j := by
  simp [fn, List.getD_eq_getElem?_getD, List.getElem?_append_right]
theorem fn_append_left (a b : List Int) (j : Nat) (h : j < a.length) : fn (a ++ b) j = fn a j := by
  simp [fn, List.getD_eq_getElem?_getD, List.getElem?_append_left h]
theorem h_back {n : Nat} {z y : Nat → Int} (hp : Pre n z (hB y)) : hE n = 0 ∧ hN n = (hB y).length ∧ ∀ j, j < 32 → hZ n z j = y j := by
  obtain ⟨hl, hj⟩ := hp
  rw [hB_length] at hl hj ⊢
  refine ⟨by rw [hE, if_neg (by omega)], by rw [hN, if_neg (by omega)], fun j h => ?_⟩
  rw [hZ, if_neg (by omega), hj j h, fn_get _ _ (by rw [hB_length]; exact h)]
  simp [hB]
end Go.Proofs.YtnjkgpgbipcgcaaDoor
/- What is read is laid by the same bytes: numbers, counts, sums. -/
namespace Go.Proofs.YtnjkgpgbipcgcaaDoor
open Go.RowKit

/-- A number up to a bound taken off. -/
def numM (M : Int) (q : Option (List Int)) : Int × Option (List Int) := tk (uintR M) 0 q
theorem valF_div {f : Nat → Int} : ∀ (k q : Nat), q ≤ k → (∀ j, j < k → 0 ≤ f j ∧ f j ≤ 255) → valF f k / 256 ^ (k - q) = valF f q
  | 0, q, h, _ => by obtain rfl : q = 0 := (by omega); simp
  | k + 1, q, h, hf => by
    by_cases e : q = k + 1
    · subst e; simp
    · have ih := valF_div k q (by omega) (fun j hj => hf j (by omega))
      have h1 : (256 * valF f k + f k) / 256 = valF f k := by have := hf k (by omega); omega
      rw [show k + 1 - q = (k - q) + 1 from by omega, Int.pow_succ, Int.mul_comm, ← Int.ediv_ediv_of_nonneg (by decide), valF, h1, ih]
theorem valF_digit {f : Nat → Int} {k j : Nat} (hj : j < k) (hf : ∀ j, j < k → 0 ≤ f j ∧ f j ≤ 255) : valF f k / 256 ^ (k - 1 - j) % 256 = f j := by
  rw [show k - 1 - j = k - (j + 1) from by omega, valF_div k (j + 1) (by omega) hf, valF]
  have := hf j hj
  omega
theorem sz_of {v : Int} {k : Nat} (hk : k ≤ 8) (h0 : 0 ≤ v) (h1 : v < 256 ^ k) (h2 : 0 < k → 256 ^ (k - 1) ≤ v) : sz v = k := by
  have hc : k = 0 ∨ k = 1 ∨ k = 2 ∨ k = 3 ∨ k = 4 ∨ k = 5 ∨ k = 6 ∨ k = 7 ∨ k = 8 := by omega
  rcases hc with h | h | h | h | h | h | h | h | h <;> subst h <;> simp only [Nat.reduceSub, Int.reducePow, Nat.lt_irrefl, false_imp_iff, Nat.zero_lt_succ, Int.pow_zero, forall_const] at h1 h2 <;> unfold sz <;> repeat' split
  all_goals omega
theorem valF_low {f : Nat → Int} {k : Nat} (hk : 0 < k) (hf : ∀ j, j < k → 0 ≤ f j ∧ f j ≤ 255) (h0 : f 0 ≠ 0) : 256 ^ (k - 1) ≤ valF f k := by
  have h1 := valF_div k 1 (by omega) hf
  have h2 : valF f 1 = f 0 := by simp [valF]
  have h3 := hf 0 hk
  have h4 : (256 : Int) ^ (k - 1) * (valF f k / 256 ^ (k - 1)) ≤ valF f k := Int.mul_ediv_self_le (by have := pow256_pos (k - 1); omega)
  rw [h1, h2] at h4
  have h5 : (256 : Int) ^ (k - 1) * 1 ≤ 256 ^ (k - 1) * f 0 := Int.mul_le_mul_of_nonneg_left (by omega) (Int.le_of_lt (pow256_pos _))
  omega
theorem list_fn {a b : List Int} (hl : a.length = b.length) (h : ∀ j, j < a.length → fn a j = fn b j) : a = b := by
  apply List.ext_getElem hl
  intro j h1 h2
  have := h j h1
  rw [fn_get a j h1, fn_get b j h2] at this
  exact this
theorem fn_take (l : List Int) (k j : Nat) (h : j < k) : fn (l.take k) j = fn l j := by simp [fn, List.getD_eq_getElem?_getD, h]
theorem uintR_laid {most v : Int} {l r : List Int} (hl : ∀ j, j < l.length → 0 ≤ fn l j ∧ fn l j ≤ 255) (h : uintR most l = some (v, r)) : l = uB v ++ r := by
  unfold uintR at h
  split at h
  · rename_i hE
    have hE0 := hE
    cases h
    unfold uE at hE0
    split at hE0
    · simp at hE0
    rename_i hn
    split at hE0
    · simp at hE0
    rename_i h8
    split at hE0
    · rename_i hnE
      have hz0 := hl 0 (by omega)
      have hV : uV l.length (fn l) most = valF (behind false (fn l)) (fn l 0).toNat := by rw [uV, if_pos hE, numV, if_pos hnE]
      have hN : uN l.length (fn l) most = 1 + (fn l 0).toNat := by rw [uN, if_pos hE]
      have hkn := numE_le hnE
      rw [hV, hN]
      obtain ⟨k, hk⟩ : ∃ k, (fn l 0).toNat = k := ⟨_, rfl⟩
      rw [hk] at hkn hnE ⊢
      have hf : ∀ j, j < k → 0 ≤ behind false (fn l) j ∧ behind false (fn l) j ≤ 255 := fun j hj => by
        have := hl (j + 1) (by omega)
        simpa [behind, trn] using this
      have hf0 : 0 < k → behind false (fn l) 0 ≠ 0 := fun hk0 h0 => by
        unfold numE at hnE
        rw [if_neg (by omega), if_pos ⟨hk0, h0⟩] at hnE
        simp at hnE
      have hb := valF_bd k hf
      have hsz : sz (valF (behind false (fn l)) k) = k := sz_of (by omega) hb.1 hb.2 (fun hk0 => valF_low hk0 hf (hf0 hk0))
      have ht : l.take (1 + k) = uB (valF (behind false (fn l)) k) := by
        apply list_fn
        · simp only [List.length_take, uB, List.length_cons, dgs_length, hsz]; omega
        · intro j hj
          rw [List.length_take] at hj
          rw [fn_take l _ j (by omega), uB, hsz]
          cases j with
          | zero => show fn l 0 = (k : Int); omega
          | succ j =>
            rw [fn_cons, fn_dgs _ _ _ _ _ (by omega), dgt, valF_digit (by omega) hf]
            simp [trn, behind]
      rw [← ht]
      exact (List.take_append_drop _ _).symm
    · rename_i h1
      exact absurd hE0 h1
  · cases h
theorem countR_u {most v : Int} {l r : List Int} (h : countR most l = some (v, r)) : uintR (max most 0) l = some (v, r) := by
  unfold countR at h
  split at h
  · rename_i hE
    have hu := cE_u hE
    unfold uintR
    rw [if_pos hu]
    rw [cV, if_pos hE, cN, if_pos hE] at h
    exact h
  · cases h
theorem hashR_laid {z : Nat → Int} {l r : List Int} (h : hashR l = some (z, r)) : l = hB z ++ r := by
  unfold hashR at h
  split at h
  · cases h
  · rename_i hn
    cases h
    have ht : l.take 32 = hB (fn l) := by
      apply list_fn
      · simp [hB]; omega
      · intro j hj
        rw [List.length_take] at hj
        rw [fn_take l _ j (by omega), fn_get (hB (fn l)) j (by simp [hB]; omega)]
        simp [hB]
    rw [← ht]
    exact (List.take_append_drop _ _).symm
theorem byq_right {a r : List Int} (h : ByQ (some (a ++ r))) : ByQ (some r) := by
  rintro l hl j hj
  cases hl
  have := h _ rfl (a.length + j) (by simp; omega)
  rwa [fn_append_right] at this
theorem tk_some {α : Type} {f : List Int → Option (α × List Int)} {d : α} {q : Option (List Int)} {r : List Int} (h : (tk f d q).2 = some r) : ∃ l, q = some l ∧ f l = some ((tk f d q).1, r) := by
  cases q with
  | none => cases h
  | some l =>
    refine ⟨l, rfl, ?_⟩
    simp only [tk] at h ⊢
    cases e : f l with
    | none => rw [e] at h; cases h
    | some x =>
      rw [e] at h
      cases h
      rfl
theorem tk_dead {α : Type} {f : List Int → Option (α × List Int)} {d : α} : (tk f d none).2 = none := rfl
/-- Of a bound that is smaller. -/
theorem uintR_up {M1 M2 v : Int} {l r : List Int} (hM : M2 ≤ M1) (h : uintR M2 l = some (v, r)) : uintR M1 l = some (v, r) := by
  unfold uintR at h ⊢
  split at h
  · rename_i hE
    have hE2 : uE l.length (fn l) M1 = 0 := by
      unfold uE at hE ⊢
      split at hE
      · simp at hE
      rename_i h1
      rw [if_neg h1]
      split at hE
      · simp at hE
      rename_i h2
      rw [if_neg h2]
      split at hE
      · rename_i h3
        rw [if_pos h3]
        split at hE
        · simp at hE
        · rw [if_neg (by omega)]
      · rename_i h3; exact absurd hE h3
    rw [if_pos hE2]
    rw [uV, if_pos hE, uN, if_pos hE] at h
    rw [uV, if_pos hE2, uN, if_pos hE2]
    exact h
  · cases h
theorem uintR_down {M1 M2 v : Int} {l r : List Int} (hv : v ≤ M2) (h : uintR M1 l = some (v, r)) : uintR M2 l = some (v, r) := by
  unfold uintR at h ⊢
  split at h
  · rename_i hE
    rw [uV, if_pos hE, uN, if_pos hE] at h
    have hvv : numV (l.length - 1) (behind false (fn l)) (fn l 0).toNat = v := by cases h; rfl
    have hE2 : uE l.length (fn l) M2 = 0 := by
      unfold uE at hE ⊢
      split at hE
      · simp at hE
      rename_i h1
      rw [if_neg h1]
      split at hE
      · simp at hE
      rename_i h2
      rw [if_neg h2]
      split at hE
      · rename_i h3
        rw [if_pos h3, hvv, if_neg (by omega)]
      · rename_i h3; exact absurd hE h3
    rw [if_pos hE2, uV, if_pos hE2, uN, if_pos hE2]
    exact h
  · cases h
end Go.Proofs.YtnjkgpgbipcgcaaDoor
