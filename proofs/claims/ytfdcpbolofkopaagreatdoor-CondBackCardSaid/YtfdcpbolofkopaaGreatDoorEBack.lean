/- What was laid, read back. -/
import Derived.Test.YtfdcpbolofkopaaGreatDoorEWrHash
import Derived.Test.YtfdcpbolofkopaaGreatDoorERdHash
namespace Go.Proofs.YtfdcpbolofkopaaGreatDoor
open Go.RowKit
theorem valF_congr {f g : Nat → Int} : ∀ (k : Nat), (∀ j, j < k → f j = g j) → valF f k = valF g k
  | 0, _ => rfl
  | k + 1, h => by rw [valF, valF, valF_congr k (fun j hj => h j (by omega)), h k (by omega)]
theorem trn_trn (t : Bool) (x : Int) : trn t (trn t x) = x := by cases t <;> simp [trn] <;> omega
theorem pow256_pos (k : Nat) : (0 : Int) < 256 ^ k := Int.pow_pos (by decide)
theorem valF_part (n : Int) (k : Nat) (h0 : 0 ≤ n) (hn : n < 256 ^ k) : ∀ q, q ≤ k → valF (fun j => n / 256 ^ (k - 1 - j) % 256) q = n / 256 ^ (k - q)
  | 0, _ => by rw [valF, Nat.sub_zero]; exact (Int.ediv_eq_zero_of_lt h0 hn).symm
  | q + 1, hq => by
    rw [valF, valF_part n k h0 hn q (by omega), show k - q = (k - (q + 1)) + 1 from by omega, show k - 1 - q = k - (q + 1) from by omega, Int.pow_succ, ← Int.ediv_ediv_of_nonneg (Int.le_of_lt (pow256_pos _))]
    have := Int.mul_ediv_add_emod (n / 256 ^ (k - (q + 1))) 256
    omega
theorem valF_dig (n : Int) (k : Nat) (h0 : 0 ≤ n) (hn : n < 256 ^ k) : valF (fun j => n / 256 ^ (k - 1 - j) % 256) k = n := by
  rw [valF_part n k h0 hn k (Nat.le_refl _)]; simp
theorem sz_bound (n : Int) (h0 : 0 ≤ n) (h1 : n ≤ 18446744073709551615) : n < 256 ^ sz n := by
  unfold sz
  repeat' split
  all_goals simp only [Int.reducePow]; omega
theorem sz_first (n : Int) (h1 : n ≤ 18446744073709551615) (hk : 0 < sz n) : n / 256 ^ (sz n - 1 - 0) % 256 ≠ 0 := by
  have hc : sz n = 0 ∨ sz n = 1 ∨ sz n = 2 ∨ sz n = 3 ∨ sz n = 4 ∨ sz n = 5 ∨ sz n = 6 ∨ sz n = 7 ∨ sz n = 8 := by have := sz_le n; omega
  have hd : sz n = if n < 1 then 0 else if n < 256 then 1 else if n < 65536 then 2 else if n < 16777216 then 3 else if n < 4294967296 then 4 else if n < 1099511627776 then 5 else if n < 281474976710656 then 6 else if n < 72057594037927936 then 7 else 8 := rfl
  rcases hc with h | h | h | h | h | h | h | h | h
  · omega
  all_goals
    rw [h]
    rw [h] at hd
    simp only [Nat.reduceSub, Int.reducePow]
    repeat' split at hd
    all_goals omega

/-- The bytes z, n of them, begin with l. -/
def Pre (n : Nat) (z : Nat → Int) (l : List Int) : Prop := l.length ≤ n ∧ ∀ j, j < l.length → z j = fn l j
theorem fn_cons (a : Int) (l : List Int) (j : Nat) : fn (a :: l) (j + 1) = fn l j := rfl
theorem fn_dgs (t : Bool) (n : Int) (k q j : Nat) (h : j < q) : fn (dgs t n k q) j = dgt t n k j := by
  rw [fn_get _ _ (by rw [dgs_length]; exact h)]; simp [dgs]
theorem num_back {n : Nat} {z : Nat → Int} {t : Bool} {m : Int} (h0 : 0 ≤ m) (h1 : m ≤ 18446744073709551615) (hn : sz m ≤ n) (hz : ∀ j, j < sz m → z (j + 1) = dgt t m (sz m) j) :
    numE n (behind t z) (sz m) = 0 ∧ numV n (behind t z) (sz m) = m := by
  have hd : ∀ j, j < sz m → behind t z j = m / 256 ^ (sz m - 1 - j) % 256 := fun j hj => by rw [behind, hz j hj, dgt, trn_trn]
  have hE : numE n (behind t z) (sz m) = 0 := by
    unfold numE
    rw [if_neg (by omega), if_neg]
    rintro ⟨hk, h⟩
    rw [hd 0 hk] at h
    exact sz_first m h1 hk h
  refine ⟨hE, ?_⟩
  rw [numV, if_pos hE, valF_congr _ hd]
  exact valF_dig m _ h0 (sz_bound m h0 h1)

theorem u_back {n : Nat} {z : Nat → Int} {m : Int} (h0 : 0 ≤ m) (h1 : m ≤ 18446744073709551615) (hp : Pre n z (uB m)) :
    uE n z 18446744073709551615 = 0 ∧ uV n z 18446744073709551615 = m ∧ uN n z 18446744073709551615 = (uB m).length := by
  obtain ⟨hl, hj⟩ := hp
  have hlen : (uB m).length = sz m + 1 := by simp [uB, dgs_length]
  have hs := sz_le m
  have z0 : z 0 = (sz m : Int) := hj 0 (by omega)
  have hz : ∀ j, j < sz m → z (j + 1) = dgt false m (sz m) j := fun j hjj => by rw [hj (j + 1) (by omega), uB, fn_cons, fn_dgs _ _ _ _ _ hjj]
  obtain ⟨a, b⟩ := num_back (n := n - 1) h0 h1 (by omega) hz
  have e : (z 0).toNat = sz m := by rw [z0]; rfl
  have hE : uE n z 18446744073709551615 = 0 := by
    unfold uE
    rw [if_neg (by omega), if_neg (by omega), e, if_pos a, b, if_neg (by omega)]
  refine ⟨hE, ?_, ?_⟩
  · rw [uV, if_pos hE, e]; exact b
  · rw [uN, if_pos hE, e, hlen]; omega
theorem fn_append_right (a b : List Int) (j : Nat) : fn (a ++ b) (a.length + j) = fn b j := by
  simp [fn, List.getD_eq_getElem?_getD, List.getElem?_append_right]
theorem fn_append_left (a b : List Int) (j : Nat) (h : j < a.length) : fn (a ++ b) j = fn a j := by
  simp [fn, List.getD_eq_getElem?_getD, List.getElem?_append_left h]
theorem h_back {n : Nat} {z y : Nat → Int} (hp : Pre n z (hB y)) : hE n = 0 ∧ hN n = (hB y).length ∧ ∀ j, j < 32 → hZ n z j = y j := by
  obtain ⟨hl, hj⟩ := hp
  rw [hB_length] at hl hj ⊢
  refine ⟨by rw [hE, if_neg (by omega)], by rw [hN, if_neg (by omega)], fun j h => ?_⟩
  rw [hZ, if_neg (by omega), hj j h, fn_get _ _ (by rw [hB_length]; exact h)]
  simp [hB]
end Go.Proofs.YtfdcpbolofkopaaGreatDoor
