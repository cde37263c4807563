/- What was laid, read back. -/
import Derived.Test.YtchiapnhkhbigaaDoorOwnShelf13
import Derived.Test.YtchiapnhkhbigaaDoorOwnShelf33
import Derived.Test.YtchiapnhkhbigaaDoorOwnShelf35
import Derived.Test.YtchiapnhkhbigaaDoorOwnShelf48
import Derived.Test.YtchiapnhkhbigaaDoorOwnShelf18
namespace Go.Proofs.YtchiapnhkhbigaaDoor
open Go.RowKit
theorem valF_congr {f g : Nat → Int} : ∀ (k : Nat), (∀ j, j < k → f j = g j) → valF f k = valF g k
  | 0, _ => rfl
  | k + 1, h => by rw [valF, valF, valF_congr k (fun j hj => h j (by omega)), h k (by omega)]
theorem trn_trn (t : Bool) (x : Int) : trn t (trn t x) = x := by cases t <;> simp [trn] <;> omega
theorem pow256_pos (k : Nat) : (0 : Int) < 256 ^ k := Int.pow_pos (by decide)
theorem valF_part (n : Int) (k : Nat) (h0 : 0 ≤ n) (hn : n < 256 ^ k) : ∀ q, q ≤ k → valF (fun j => n / 256 ^ (k - 1 - j) % 256) q = n / 256 ^ (k - q)
  | 0, _ => by rw [valF, Nat.sub_zero]; exact (Int.ediv_eq_zero_of_lt h0 hn).symm
  | q + 1, hq => by
    rw [valF, valF_part n k h0 hn q (by omega), show k - q = (k - (q + 1)) + 1 from by omega, show k - 1 - q = k - (q + 1) from by omega, Int.pow_succ, ← Int.ediv_ediv_of_nonneg (Int.le_of_lt (pow256_pos _))]
    have := Int.mul_ediv_add_emod (n / 256 ^ (k - (q + 1))) 256
    omega
theorem valF_dig (n : Int) (k : Nat) (h0 : 0 ≤ n) (hn : n < 256 ^ k) : valF (fun j => n / 256 ^ (k - 1 - j) % 256) k = n := by
  rw [valF_part n k h0 hn k (Nat.le_refl _)]; simp
theorem sz_bound (n : Int) (h0 : 0 ≤ n) (h1 : n ≤ 18446744073709551615) : n < 256 ^ sz n := by
  unfold sz
  repeat' split
  all_goals simp only [Int.reducePow]; omega
theorem sz_first (n : Int) (h1 : n ≤ 18446744073709551615) (hk : 0 < sz n) : n / 256 ^ (sz n - 1 - 0) % 256 ≠ 0 := by
  have hc : sz n = 0 ∨ sz n = 1 ∨ sz n = 2 ∨ sz n = 3 ∨ sz n = 4 ∨ sz n = 5 ∨ sz n = 6 ∨ sz n = 7 ∨ sz n = 8 := by have := sz_le n; omega
  have hd : sz n = if n < 1 then 0 else if n < 256 then 1 else if n < 65536 then 2 else if n < 16777216 then 3 else if n < 4294967296 then 4 else if n < 1099511627776 then 5 else if n < 281474976710656 then 6 else if n < 72057594037927936 then 7 else 8 := rfl
  rcases hc with h | h | h | h | h | h | h | h | h
  · omega
  all_goals
    rw [h]
    rw [h] at hd
    simp only [Nat.reduceSub, Int.reducePow]
    repeat' split at hd
    all_goals omega

/-- The bytes z, n of them, begin with l. -/
def Pre (n : Nat) (z : Nat → Int) (l : List Int) : Prop := l.length ≤ n ∧ ∀ j, j < l.length → z j = fn l j
theorem fn_cons (a : Int) (l : List Int) (j : Nat) : fn (a :: l) (j + 1) = fn l j := rfl
theorem fn_dgs (t : Bool) (n : Int) (k q j : Nat) (h : j < q) : fn (dgs t n k q) j = dgt t n k j := by
  rw [fn_get _ _ (by rw [dgs_length]; exact h)]; simp [dgs]
theorem num_back {n : Nat} {z : Nat → Int} {t : Bool} {m : Int} (h0 : 0 ≤ m) (h1 : m ≤ 18446744073709551615) (hn : sz m ≤ n) (hz : ∀ j, j < sz m → z (j + 1) = dgt t m (sz m) j) :
    numE n (behind t z) (sz m) = 0 ∧ numV n (behind t z) (sz m) = m := by
  have hd : ∀ j, j < sz m → behind t z j = m / 256 ^ (sz m - 1 - j) % 256 := fun j hj => by rw [behind, hz j hj, dgt, trn_trn]
  have hE : numE n (behind t z) (sz m) = 0 := by
    unfold numE
    rw [if_neg (by omega), if_neg]
    rintro ⟨hk, h⟩
    rw [hd 0 hk] at h
    exact sz_first m h1 hk h
  refine ⟨hE, ?_⟩
  rw [numV, if_pos hE, valF_congr _ hd]
  exact valF_dig m _ h0 (sz_bound m h0 h1)

theorem u_back {n : Nat} {z : Nat → Int} {m : Int} (h0 : 0 ≤ m) (h1 : m ≤ 18446744073709551615) (hp : Pre n z (uB m)) :
    uE n z 18446744073709551615 = 0 ∧ uV n z 18446744073709551615 = m ∧ uN n z 18446744073709551615 = (uB m).length := by
  obtain ⟨hl, hj⟩ := hp
  have hlen : (uB m).length = sz m + 1 := by simp [uB, dgs_length]
  have hs := sz_le m
  have z0 : z 0 = (sz m : Int) := hj 0 (by omega)
  have hz : ∀ j, j < sz m → z (j + 1) = dgt false m (sz m) j := fun j hjj => by rw [hj (j + 1) (by omega), uB, fn_cons, fn_dgs _ _ _ _ _ hjj]
  obtain ⟨a, b⟩ := num_back (n := n - 1) h0 h1 (by omega) hz
  have e : (z 0).toNat = sz m := by rw [z0]; rfl
  have hE : uE n z 18446744073709551615 = 0 := by
    unfold uE
    rw [if_neg (by omega), if_neg (by omega), e, if_pos a, b, if_neg (by omega)]
  refine ⟨hE, ?_, ?_⟩
  · rw [uV, if_pos hE, e]; exact b
  · rw [uN, if_pos hE, e, hlen]; omega
theorem fn_append_right (a b : List Int) (j : Nat) : fn (a ++ b) (a.length + j) = fn b j := by
  simp [fn, List.getD_eq_getElem?_getD, List.getElem?_append_right]
theorem fn_append_left (a b : List Int) (j : Nat) (h : j < a.length) : fn (a ++ b) j = fn a j := by
  simp [fn, List.getD_eq_getElem?_getD, List.getElem?_append_left h]
theorem h_back {n : Nat} {z y : Nat → Int} (hp : Pre n z (hB y)) : hE n = 0 ∧ hN n = (hB y).length ∧ ∀ j, j < 32 → hZ n z j = y j := by
  obtain ⟨hl, hj⟩ := hp
  rw [hB_length] at hl hj ⊢
  refine ⟨by rw [hE, if_neg (by omega)], by rw [hN, if_neg (by omega)], fun j h => ?_⟩
  rw [hZ, if_neg (by omega), hj j h, fn_get _ _ (by rw [hB_length]; exact h)]
  simp [hB]
end Go.Proofs.YtchiapnhkhbigaaDoor
/- What is read is laid by the same bytes: numbers, counts, sums. -/
namespace Go.Proofs.YtchiapnhkhbigaaDoor
open Go.RowKit

theorem valF_div {f : Nat → Int} : ∀ (k q : Nat), q ≤ k → (∀ j, j < k → 0 ≤ f j ∧ f j ≤ 255) → valF f k / 256 ^ (k - q) = valF f q
  | 0, q, h, _ => by obtain rfl : q = 0 := (by omega); simp
  | k + 1, q, h, hf => by
    by_cases e : q = k + 1
    · subst e; simp
    · have ih := valF_div k q (by omega) (fun j hj => hf j (by omega))
      have h1 : (256 * valF f k + f k) / 256 = valF f k := by have := hf k (by omega); omega
      rw [show k + 1 - q = (k - q) + 1 from by omega, Int.pow_succ, Int.mul_comm, ← Int.ediv_ediv_of_nonneg (by decide), valF, h1, ih]
theorem valF_digit {f : Nat → Int} {k j : Nat} (hj : j < k) (hf : ∀ j, j < k → 0 ≤ f j ∧ f j ≤ 255) : valF f k / 256 ^ (k - 1 - j) % 256 = f j := by
  rw [show k - 1 - j = k - (j + 1) from by omega, valF_div k (j + 1) (by omega) hf, valF]
  have := hf j hj
  omega
theorem sz_of {v : Int} {k : Nat} (hk : k ≤ 8) (h0 : 0 ≤ v) (h1 : v < 256 ^ k) (h2 : 0 < k → 256 ^ (k - 1) ≤ v) : sz v = k := by
  have hc : k = 0 ∨ k = 1 ∨ k = 2 ∨ k = 3 ∨ k = 4 ∨ k = 5 ∨ k = 6 ∨ k = 7 ∨ k = 8 := by omega
  rcases hc with h | h | h | h | h | h | h | h | h <;> subst h <;> simp only [Nat.reduceSub, Int.reducePow, Nat.lt_irrefl, false_imp_iff, Nat.zero_lt_succ, Int.pow_zero, forall_const] at h1 h2 <;> unfold sz <;> repeat' split
  all_goals omega
theorem valF_low {f : Nat → Int} {k : Nat} (hk : 0 < k) (hf : ∀ j, j < k → 0 ≤ f j ∧ f j ≤ 255) (h0 : f 0 ≠ 0) : 256 ^ (k - 1) ≤ valF f k := by
  have h1 := valF_div k 1 (by omega) hf
  have h2 : valF f 1 = f 0 := by simp [valF]
  have h3 := hf 0 hk
  have h4 : (256 : Int) ^ (k - 1) * (valF f k / 256 ^ (k - 1)) ≤ valF f k := Int.mul_ediv_self_le (by have := pow256_pos (k - 1); omega)
  rw [h1, h2] at h4
  have h5 : (256 : Int) ^ (k - 1) * 1 ≤ 256 ^ (k - 1) * f 0 := Int.mul_le_mul_of_nonneg_left (by omega) (Int.le_of_lt (pow256_pos _))
  omega
theorem list_fn {a b : List Int} (hl : a.length = b.length) (h : ∀ j, j < a.length → fn a j = fn b j) : a = b := by
  apply List.ext_getElem hl
  intro j h1 h2
  have := h j h1
  rw [fn_get a j h1, fn_get b j h2] at this
  exact this
theorem fn_take (l : List Int) (k j : Nat) (h : j < k) : fn (l.take k) j = fn l j := by simp [fn, List.getD_eq_getElem?_getD, h]
theorem uintR_laid {most v : Int} {l r : List Int} (hl : ∀ j, j < l.length → 0 ≤ fn l j ∧ fn l j ≤ 255) (h : uintR most l = some (v, r)) : l = uB v ++ r := by
  unfold uintR at h
  split at h
  · rename_i hE
    have hE0 := hE
    cases h
    unfold uE at hE0
    split at hE0
    · simp at hE0
    rename_i hn
    split at hE0
    · simp at hE0
    rename_i h8
    split at hE0
    · rename_i hnE
      have hz0 := hl 0 (by omega)
      have hV : uV l.length (fn l) most = valF (behind false (fn l)) (fn l 0).toNat := by rw [uV, if_pos hE, numV, if_pos hnE]
      have hN : uN l.length (fn l) most = 1 + (fn l 0).toNat := by rw [uN, if_pos hE]
      have hkn := numE_le hnE
      rw [hV, hN]
      obtain ⟨k, hk⟩ : ∃ k, (fn l 0).toNat = k := ⟨_, rfl⟩
      rw [hk] at hkn hnE ⊢
      have hf : ∀ j, j < k → 0 ≤ behind false (fn l) j ∧ behind false (fn l) j ≤ 255 := fun j hj => by
        have := hl (j + 1) (by omega)
        simpa [behind, trn] using this
      have hf0 : 0 < k → behind false (fn l) 0 ≠ 0 := fun hk0 h0 => by
        unfold numE at hnE
        rw [if_neg (by omega), if_pos ⟨hk0, h0⟩] at hnE
        simp at hnE
      have hb := valF_bd k hf
      have hsz : sz (valF (behind false (fn l)) k) = k := sz_of (by omega) hb.1 hb.2 (fun hk0 => valF_low hk0 hf (hf0 hk0))
      have ht : l.take (1 + k) = uB (valF (behind false (fn l)) k) := by
        apply list_fn
        · simp only [List.length_take, uB, List.length_cons, dgs_length, hsz]; omega
        · intro j hj
          rw [List.length_take] at hj
          rw [fn_take l _ j (by omega), uB, hsz]
          cases j with
          | zero => show fn l 0 = (k : Int); omega
          | succ j =>
            rw [fn_cons, fn_dgs _ _ _ _ _ (by omega), dgt, valF_digit (by omega) hf]
            simp [trn, behind]
      rw [← ht]
      exact (List.take_append_drop _ _).symm
    · rename_i h1
      exact absurd hE0 h1
  · cases h
theorem countR_u {most v : Int} {l r : List Int} (h : countR most l = some (v, r)) : uintR (max most 0) l = some (v, r) := by
  unfold countR at h
  split at h
  · rename_i hE
    have hu := cE_u hE
    unfold uintR
    rw [if_pos hu]
    rw [cV, if_pos hE, cN, if_pos hE] at h
    exact h
  · cases h
theorem hashR_laid {z : Nat → Int} {l r : List Int} (h : hashR l = some (z, r)) : l = hB z ++ r := by
  unfold hashR at h
  split at h
  · cases h
  · rename_i hn
    cases h
    have ht : l.take 32 = hB (fn l) := by
      apply list_fn
      · simp [hB]; omega
      · intro j hj
        rw [List.length_take] at hj
        rw [fn_take l _ j (by omega), fn_get (hB (fn l)) j (by simp [hB]; omega)]
        simp [hB]
    rw [← ht]
    exact (List.take_append_drop _ _).symm
theorem byq_right {a r : List Int} (h : ByQ (some (a ++ r))) : ByQ (some r) := by
  rintro l hl j hj
  cases hl
  have := h _ rfl (a.length + j) (by simp; omega)
  rwa [fn_append_right] at this
theorem tk_some {α : Type} {f : List Int → Option (α × List Int)} {d : α} {q : Option (List Int)} {r : List Int} (h : (tk f d q).2 = some r) : ∃ l, q = some l ∧ f l = some ((tk f d q).1, r) := by
  cases q with
  | none => cases h
  | some l =>
    refine ⟨l, rfl, ?_⟩
    simp only [tk] at h ⊢
    cases e : f l with
    | none => rw [e] at h; cases h
    | some x =>
      rw [e] at h
      cases h
      rfl
theorem tk_dead {α : Type} {f : List Int → Option (α × List Int)} {d : α} : (tk f d none).2 = none := rfl
/-- Of a bound that is smaller. -/
theorem uintR_up {M1 M2 v : Int} {l r : List Int} (hM : M2 ≤ M1) (h : uintR M2 l = some (v, r)) : uintR M1 l = some (v, r) := by
  unfold uintR at h ⊢
  split at h
  · rename_i hE
    have hE2 : uE l.length (fn l) M1 = 0 := by
      unfold uE at hE ⊢
      split at hE
      · simp at hE
      rename_i h1
      rw [if_neg h1]
      split at hE
      · simp at hE
      rename_i h2
      rw [if_neg h2]
      split at hE
      · rename_i h3
        rw [if_pos h3]
        split at hE
        · simp at hE
        · rw [if_neg (by omega)]
      · rename_i h3; exact absurd hE h3
    rw [if_pos hE2]
    rw [uV, if_pos hE, uN, if_pos hE] at h
    rw [uV, if_pos hE2, uN, if_pos hE2]
    exact h
  · cases h
theorem uintR_down {M1 M2 v : Int} {l r : List Int} (hv : v ≤ M2) (h : uintR M1 l = some (v, r)) : uintR M2 l = some (v, r) := by
  unfold uintR at h ⊢
  split at h
  · rename_i hE
    rw [uV, if_pos hE, uN, if_pos hE] at h
    have hvv : numV (l.length - 1) (behind false (fn l)) (fn l 0).toNat = v := by cases h; rfl
    have hE2 : uE l.length (fn l) M2 = 0 := by
      unfold uE at hE ⊢
      split at hE
      · simp at hE
      rename_i h1
      rw [if_neg h1]
      split at hE
      · simp at hE
      rename_i h2
      rw [if_neg h2]
      split at hE
      · rename_i h3
        rw [if_pos h3, hvv, if_neg (by omega)]
      · rename_i h3; exact absurd hE h3
    rw [if_pos hE2, uV, if_pos hE2, uN, if_pos hE2]
    exact h
  · cases h
end Go.Proofs.YtchiapnhkhbigaaDoor
/- A state that is read is laid by the same bytes; both readers read the same states. -/
namespace Go.Proofs.YtchiapnhkhbigaaDoor
open Go.RowKit

theorem u64_pos {v : Int} (h : 0 ≤ v) (h2 : v ≤ 9223372036854775807) : u64 v = v := by
  have := u64_nat v.toNat (by omega)
  rw [show ((v.toNat : Nat) : Int) = v from by omega] at this
  exact this
theorem numM_laid {M : Int} {q : Option (List Int)} {r : List Int} (hb : ByQ q) (h : (numM M q).2 = some r) : q = some (uB (numM M q).1 ++ r) ∧ ByQ (some r) ∧ 0 ≤ (numM M q).1 ∧ (numM M q).1 ≤ M := by
  obtain ⟨l, rfl, e⟩ := tk_some h
  have h1 := uintR_laid (hb l rfl) e
  have h2 := uintR_bd (hb l rfl) e
  refine ⟨?_, ?_, h2⟩
  · conv => lhs; rw [h1]
    rfl
  · rw [h1] at hb; exact byq_right hb
theorem cntS_laid {M : Int} {q : Option (List Int)} {r : List Int} (hM : 0 ≤ M) (hb : ByQ q) (h : (cntS M q).2 = some r) : q = some (uB (cntS M q).1 ++ r) ∧ ByQ (some r) ∧ 0 ≤ (cntS M q).1 ∧ (cntS M q).1 ≤ M := by
  obtain ⟨l, rfl, e⟩ := tk_some h
  have e' := countR_u e
  have h1 := uintR_laid (hb l rfl) e'
  have h2 := uintR_bd (hb l rfl) e'
  refine ⟨?_, ?_, h2.1, ?_⟩
  · conv => lhs; rw [h1]
    rfl
  · rw [h1] at hb; exact byq_right hb
  · have h3 : (cntS M (some l)).1 ≤ max M 0 := h2.2
    omega
theorem hshS_laid {q : Option (List Int)} {r : List Int} (hb : ByQ q) (h : (hshS q).2 = some r) : q = some (hB (hshS q).1 ++ r) ∧ ByQ (some r) := by
  obtain ⟨l, rfl, e⟩ := tk_some h
  have h1 := hashR_laid e
  refine ⟨?_, ?_⟩
  · conv => lhs; rw [h1]
    rfl
  · rw [h1] at hb; exact byq_right hb
/-- With numbers up to any bound: a payment, keys. -/
def pyM (M : Int) (q : Option (List Int)) : Py × Option (List Int) :=
  (⟨(numM M q).1, (numM M (numM M q).2).1, (numM M (numM M (numM M q).2).2).1, (numM M (numM M (numM M (numM M q).2).2).2).1, (hshS (numM M (numM M (numM M (numM M q).2).2).2).2).1⟩, (hshS (numM M (numM M (numM M (numM M q).2).2).2).2).2)
theorem pyS_M (q : Option (List Int)) : pyS q = pyM 9223372036854775807 q := rfl
theorem pyD_M (q : Option (List Int)) : pyD q = pyM 1125899906842624 q := rfl
def stM (M : Int) (q : Option (List Int)) : Nat → Option (List Int)
  | 0 => q
  | j + 1 => (numM M (stM M q j)).2
theorem stN_M (q : Option (List Int)) : ∀ j, stN q j = stM 9223372036854775807 q j
  | 0 => rfl
  | j + 1 => by rw [stN, stM, stN_M q j]; rfl
theorem stND_M (q : Option (List Int)) : ∀ j, stND q j = stM 1125899906842624 q j
  | 0 => rfl
  | j + 1 => by rw [stND, stM, stND_M q j]; rfl
theorem pyM_laid {M : Int} (hM : M ≤ 9223372036854775807) {q : Option (List Int)} {r : List Int} (hb : ByQ q) (h : (pyM M q).2 = some r) : q = some (laidP (pyM M q).1 ++ r) ∧ ByQ (some r) := by
  unfold pyM at h ⊢
  dsimp only at h ⊢
  have e1 : ∃ y, (numM M (numM M (numM M (numM M q).2).2).2).2 = some y := by
    cases e : (numM M (numM M (numM M (numM M q).2).2).2).2 with
    | none => rw [e] at h; cases h
    | some y => exact ⟨y, rfl⟩
  obtain ⟨y4, e4⟩ := e1
  have e1 : ∃ y, (numM M (numM M (numM M q).2).2).2 = some y := by
    cases e : (numM M (numM M (numM M q).2).2).2 with
    | none => rw [e] at e4; cases e4
    | some y => exact ⟨y, rfl⟩
  obtain ⟨y3, e3⟩ := e1
  have e1 : ∃ y, (numM M (numM M q).2).2 = some y := by
    cases e : (numM M (numM M q).2).2 with
    | none => rw [e] at e3; cases e3
    | some y => exact ⟨y, rfl⟩
  obtain ⟨y2, e2⟩ := e1
  have e1 : ∃ y, (numM M q).2 = some y := by
    cases e : (numM M q).2 with
    | none => rw [e] at e2; cases e2
    | some y => exact ⟨y, rfl⟩
  obtain ⟨y1, e1⟩ := e1
  obtain ⟨a1, b1, c1⟩ := numM_laid hb e1
  rw [e1] at h e4 e3 e2 ⊢
  obtain ⟨a2, b2, c2⟩ := numM_laid b1 e2
  rw [e2] at h e4 e3 ⊢
  obtain ⟨a3, b3, c3⟩ := numM_laid b2 e3
  rw [e3] at h e4 ⊢
  obtain ⟨a4, b4, c4⟩ := numM_laid b3 e4
  rw [e4] at h ⊢
  obtain ⟨a5, b5⟩ := hshS_laid b4 h
  refine ⟨?_, b5⟩
  refine a1.trans ?_
  rw [Option.some.injEq] at a2 a3 a4 a5 ⊢
  conv => lhs; rw [a2, a3, a4, a5]
  simp only [laidP, laidK, z4, Nat.reduceEqDiff, if_true, if_false, Nat.one_ne_zero, List.nil_append, List.append_assoc]
  rw [u64_pos c1.1 (by omega), u64_pos c2.1 (by omega), u64_pos c3.1 (by omega), u64_pos c4.1 (by omega)]
theorem stM_laid {M : Int} (hM : M ≤ 9223372036854775807) {q : Option (List Int)} (hb : ByQ q) : ∀ (n : Nat) {r : List Int}, stM M q n = some r → q = some (laidK (fun j => (numM M (stM M q j)).1) n ++ r) ∧ ByQ (some r)
  | 0, r, h => by
    have h' : q = some r := h
    subst h'
    exact ⟨rfl, hb⟩
  | n + 1, r, h => by
    have h' : (numM M (stM M q n)).2 = some r := h
    obtain ⟨y, e⟩ : ∃ y, stM M q n = some y := by
      cases e : stM M q n with
      | none => rw [e] at h'; cases h'
      | some y => exact ⟨y, rfl⟩
    obtain ⟨h1, h2⟩ := stM_laid hM hb n e
    have hb' : ByQ (stM M q n) := by rw [e]; exact h2
    obtain ⟨a1, b1, c1⟩ := numM_laid hb' h'
    refine ⟨?_, b1⟩
    conv => lhs; rw [h1]
    rw [e, Option.some.injEq] at a1
    rw [laidK, u64_pos c1.1 (by omega), e]
    conv => lhs; rw [a1]
    rw [List.append_assoc]
theorem none_up {f : Nat → Option (List Int)} (hf : ∀ i, f i = none → f (i + 1) = none) : ∀ (n i : Nat), i ≤ n → f n ≠ none → f i ≠ none
  | 0, i, hi, h => by obtain rfl : i = 0 := (by omega); exact h
  | n + 1, i, hi, h => by
    by_cases e : i = n + 1
    · rw [e]; exact h
    · exact none_up hf n i (by omega) (fun h0 => h (hf n h0))
theorem up_all {f : Nat → Option (List Int)} : ∀ m, (∀ i, i < m → f i ≠ none) → up f m = m
  | 0, _ => rfl
  | m + 1, h => up_next (up_all m fun i hi => h i (by omega)) (h m (by omega))
theorem up_full {f : Nat → Option (List Int)} : ∀ m, f (up f m) ≠ none → up f m = m
  | 0, _ => rfl
  | m + 1, h => by
    unfold up at h ⊢
    split at h
    · rename_i h1
      exact absurd (Option.isNone_iff_eq_none.1 h1) h
    · rename_i h1
      rw [if_neg h1, up_full m (fun h0 => h1 (by rw [h0]; rfl))]
theorem stM_dead {M : Int} {q : Option (List Int)} (i : Nat) (h : stM M q i = none) : stM M q (i + 1) = none := by rw [stM, h]; rfl
theorem stP_dead {q : Option (List Int)} (i : Nat) (h : stP q i = none) : stP q (i + 1) = none := by rw [stP, h]; rfl
theorem stPD_dead {q : Option (List Int)} (i : Nat) (h : stPD q i = none) : stPD q (i + 1) = none := by rw [stPD, h]; rfl
theorem hdS_dead : (hdS none).2 = none := rfl
theorem hdD_dead : (hdD none).2 = none := rfl
theorem stH_dead {q : Option (List Int)} (i : Nat) (h : stH q i = none) : stH q (i + 1) = none := by rw [stH, h]; rfl
theorem stHD_dead {q : Option (List Int)} (i : Nat) (h : stHD q i = none) : stHD q (i + 1) = none := by rw [stHD, h]; rfl
/-- A hold with m keys, numbers up to M. -/
def hdM (M : Int) (q : Option (List Int)) (m : Nat) : Hd × Option (List Int) :=
  (⟨(numM M q).1, (numM M (numM M q).2).1, m, fun j => (numM M (stM M (cntS 16 (numM M (numM M q).2).2).2 j)).1⟩, stM M (cntS 16 (numM M (numM M q).2).2).2 m)
theorem hdS_M (q : Option (List Int)) : hdS q = hdM 9223372036854775807 q (cntS 16 (numM 9223372036854775807 (numM 9223372036854775807 q).2).2).1.toNat := by
  unfold hdS hdM
  simp only [stN_M]
  rfl
theorem hdD_M (q : Option (List Int)) : hdD q = hdM 1125899906842624 q (hdK (cntS 16 (numM 1125899906842624 (numM 1125899906842624 q).2).2)) := by
  unfold hdD hdM
  simp only [stND_M]
  rfl
theorem hdM_laid {M : Int} (hM : M ≤ 9223372036854775807) {q : Option (List Int)} {m : Nat} {r : List Int} (hb : ByQ q) (hm : m = (cntS 16 (numM M (numM M q).2).2).1.toNat) (h : (hdM M q m).2 = some r) : q = some (laidH (hdM M q m).1 ++ r) ∧ ByQ (some r) := by
  unfold hdM at h ⊢
  dsimp only at h ⊢
  have e0 : ∃ y, (cntS 16 (numM M (numM M q).2).2).2 = some y := by
    cases e : (cntS 16 (numM M (numM M q).2).2).2 with
    | none => rw [e] at h; exact absurd rfl (none_up (fun i => stM_dead i) m 0 (by omega) (by rw [h]; exact fun h0 => by cases h0))
    | some y => exact ⟨y, rfl⟩
  obtain ⟨y3, e3⟩ := e0
  have e0 : ∃ y, (numM M (numM M q).2).2 = some y := by
    cases e : (numM M (numM M q).2).2 with
    | none => rw [e] at e3; cases e3
    | some y => exact ⟨y, rfl⟩
  obtain ⟨y2, e2⟩ := e0
  have e0 : ∃ y, (numM M q).2 = some y := by
    cases e : (numM M q).2 with
    | none => rw [e] at e2; cases e2
    | some y => exact ⟨y, rfl⟩
  obtain ⟨y1, e1⟩ := e0
  obtain ⟨a1, b1, c1⟩ := numM_laid hb e1
  rw [e1] at h hm e3 e2 ⊢
  obtain ⟨a2, b2, c2⟩ := numM_laid b1 e2
  rw [e2] at h hm e3 ⊢
  obtain ⟨a3, b3, c3⟩ := cntS_laid (by decide) b2 e3
  rw [e3] at h ⊢
  obtain ⟨a4, b4⟩ := stM_laid hM b3 m h
  refine ⟨?_, b4⟩
  have hm' : ((m : Nat) : Int) = (cntS 16 (some y2)).1 := by omega
  refine a1.trans ?_
  rw [Option.some.injEq] at a2 a3 a4 ⊢
  have a4' := a4
  generalize hK : laidK (fun j => (numM M (stM M (some y3) j)).1) m = LK at a4' ⊢
  conv => lhs; rw [a2, a3, a4']
  simp only [laidH, laidK, z3, Nat.reduceEqDiff, if_true, if_false, Nat.one_ne_zero, List.nil_append, List.append_assoc]
  rw [u64_pos c1.1 (by omega), u64_pos c2.1 (by omega), u64_pos (v := (m : Int)) (by omega) (by omega), hm', hK]
end Go.Proofs.YtchiapnhkhbigaaDoor
/- A state that is read is laid by the same bytes; both readers read the same states. -/
namespace Go.Proofs.YtchiapnhkhbigaaDoor
open Go.RowKit

/-- Pieces one behind the other. -/
def rowL (f : Nat → List Int) : Nat → List Int
  | 0 => []
  | i + 1 => rowL f i ++ f i
theorem laidPs_row (X : Nat → Py) : ∀ n, laidPs X n = rowL (fun i => laidP (X i)) n
  | 0 => rfl
  | n + 1 => by rw [laidPs, rowL, laidPs_row X n]
theorem laidHs_row (X : Nat → Hd) : ∀ n, laidHs X n = rowL (fun i => laidH (X i)) n
  | 0 => rfl
  | n + 1 => by rw [laidHs, rowL, laidHs_row X n]
theorem some_of {q : Option (List Int)} (h : q ≠ none) : ∃ r, q = some r := by
  cases q with
  | none => exact absurd rfl h
  | some r => exact ⟨r, rfl⟩
theorem rows_laid {X : Type} {g : Option (List Int) → X × Option (List Int)} {lay : X → List Int} (hg0 : (g none).2 = none) (hg : ∀ q r, ByQ q → (g q).2 = some r → q = some (lay (g q).1 ++ r) ∧ ByQ (some r)) {st : Nat → Option (List Int)} (hst : ∀ i, st (i + 1) = (g (st i)).2) (hb : ByQ (st 0)) :
    ∀ (n : Nat) (r : List Int), st n = some r → st 0 = some (rowL (fun i => lay (g (st i)).1) n ++ r) ∧ ByQ (some r)
  | 0, r, h => ⟨h, h ▸ hb⟩
  | n + 1, r, h => by
    rw [hst] at h
    obtain ⟨y, e⟩ := some_of (q := st n) (fun h0 => by rw [h0, hg0] at h; cases h)
    obtain ⟨h1, h2⟩ := rows_laid hg0 hg hst hb n y e
    obtain ⟨h3, h4⟩ := hg (st n) r (by rw [e]; exact h2) h
    refine ⟨?_, h4⟩
    rw [h1, rowL, List.append_assoc]
    rw [e, Option.some.injEq] at h3
    rw [e]
    conv => lhs; rw [h3]
theorem state_laid {M : Int} (hM : M ≤ 9223372036854775807) {l : List Int} (hb : ByQ (some l)) (x1 x2 x3 x4 x5 : Int × Option (List Int)) (h1 : x1 = numM M (some l)) (h2 : x2 = numM M x1.2) (h3 : x3 = numM M x2.2) (h4 : x4 = cntS 8 x3.2)
    (gP : Option (List Int) → Py × Option (List Int)) (gH : Option (List Int) → Hd × Option (List Int)) (stp sth : Nat → Option (List Int)) (hp0 : stp 0 = x4.2) (hps : ∀ i, stp (i + 1) = (gP (stp i)).2) (hpd : (gP none).2 = none) (hpl : ∀ q r, ByQ q → (gP q).2 = some r → q = some (laidP (gP q).1 ++ r) ∧ ByQ (some r))
    (pn hn : Nat) (hpn : pn = x4.1.toNat) (h5 : x5 = cntS 8 (stp pn)) (hh0 : sth 0 = x5.2) (hhs : ∀ i, sth (i + 1) = (gH (sth i)).2) (hhd : (gH none).2 = none) (hhl : ∀ q r, ByQ q → (gH q).2 = some r → q = some (laidH (gH q).1 ++ r) ∧ ByQ (some r)) (hhn : hn = x5.1.toNat) (hend : sth hn = some []) :
    laidS ⟨x1.1, x2.1, x3.1, pn, fun i => (gP (stp i)).1, hn, fun j => (gH (sth j)).1⟩ = l := by
  have n5 : x5.2 ≠ none := by rw [← hh0]; exact none_up (fun i h => by rw [hhs, h]; exact hhd) hn 0 (by omega) (by rw [hend]; exact fun h => by cases h)
  have n4 : stp pn ≠ none := fun h => n5 (by rw [h5, h]; rfl)
  have n40 : x4.2 ≠ none := by rw [← hp0]; exact none_up (fun i h => by rw [hps, h]; exact hpd) pn 0 (by omega) n4
  have n3 : x3.2 ≠ none := fun h => n40 (by rw [h4, h]; rfl)
  have n2 : x2.2 ≠ none := fun h => n3 (by rw [h3, h]; rfl)
  have n1 : x1.2 ≠ none := fun h => n2 (by rw [h2, h]; rfl)
  obtain ⟨y1, e1⟩ := some_of n1
  obtain ⟨y2, e2⟩ := some_of n2
  obtain ⟨y3, e3⟩ := some_of n3
  obtain ⟨y4, e4⟩ := some_of n40
  obtain ⟨y5, e5⟩ := some_of n4
  obtain ⟨y6, e6⟩ := some_of n5
  obtain ⟨a1, b1, c1⟩ := numM_laid (M := M) hb (by rw [← h1]; exact e1)
  rw [← h1] at a1 c1
  rw [e1] at h2
  obtain ⟨a2, b2, c2⟩ := numM_laid (M := M) b1 (by rw [← h2]; exact e2)
  rw [← h2] at a2 c2
  rw [e2] at h3
  obtain ⟨a3, b3, c3⟩ := numM_laid (M := M) b2 (by rw [← h3]; exact e3)
  rw [← h3] at a3 c3
  rw [e3] at h4
  obtain ⟨a4, b4, c4⟩ := cntS_laid (M := 8) (by decide) b3 (by rw [← h4]; exact e4)
  rw [← h4] at a4 c4
  obtain ⟨a5, b5⟩ := rows_laid hpd hpl hps (by rw [hp0, e4]; exact b4) pn y5 e5
  rw [e5] at h5
  obtain ⟨a6, b6, c6⟩ := cntS_laid (M := 8) (by decide) b5 (by rw [← h5]; exact e6)
  rw [← h5] at a6 c6
  obtain ⟨a7, _⟩ := rows_laid hhd hhl hhs (by rw [hh0, e6]; exact b6) hn [] hend
  rw [hp0, e4] at a5
  rw [hh0, e6] at a7
  rw [Option.some.injEq] at a1 a2 a3 a4 a5 a6 a7
  simp only [laidS, laidA, laidK, z2, if_true, Nat.one_ne_zero, if_false, List.nil_append, laidPs_row, laidHs_row]
  rw [u64_pos c1.1 (by omega), u64_pos c2.1 (by omega), u64_pos c3.1 (by omega), u64_pos (v := (pn : Int)) (by omega) (by omega), u64_pos (v := (hn : Int)) (by omega) (by omega), show (pn : Int) = x4.1 from by omega, show (hn : Int) = x5.1 from by omega]
  rw [a1, a2, a3, a4, a5, a6, a7]
  simp only [List.append_assoc, List.append_nil]
theorem hdS_laid (q : Option (List Int)) (r : List Int) (hb : ByQ q) (h : (hdS q).2 = some r) : q = some (laidH (hdS q).1 ++ r) ∧ ByQ (some r) := by
  rw [hdS_M] at h ⊢
  exact hdM_laid (by decide) hb rfl h
theorem hdK_full {x : Int × Option (List Int)} (h : stND x.2 (hdK x) ≠ none) : hdK x = x.1.toNat := up_full _ h
theorem hdD_laid (q : Option (List Int)) (r : List Int) (hb : ByQ q) (h : (hdD q).2 = some r) : q = some (laidH (hdD q).1 ++ r) ∧ ByQ (some r) := by
  have h0 : hdK (cntS 16 (nD (nD q).2).2) = (cntS 16 (nD (nD q).2).2).1.toNat := hdK_full (by
    have h' : stND (cntS 16 (nD (nD q).2).2).2 (hdK (cntS 16 (nD (nD q).2).2)) = some r := h
    rw [h']; exact fun h => by cases h)
  rw [hdD_M] at h ⊢
  exact hdM_laid (by decide) hb h0 h
theorem decS_laid {l : List Int} (hb : ByQ (some l)) (h : decQ l = some []) : laidS (decS l) = l :=
  state_laid (M := 9223372036854775807) (by decide) hb (d1 l) (d2 l) (d3 l) (d4 l) (d5 l) rfl rfl rfl rfl pyS hdS (stP (d4 l).2) (stH (d5 l).2) rfl (fun _ => rfl) rfl (fun q r hq hr => by rw [pyS_M] at hr ⊢; exact pyM_laid (by decide) hq hr) (d4 l).1.toNat (d5 l).1.toNat rfl rfl rfl (fun _ => rfl) rfl hdS_laid rfl h
theorem docS_laid {l : List Int} (hb : ByQ (some l)) (h : docQ l = some []) : laidS (docS l) = l := by
  have hn : stHD (f5 l).2 (f5n l) ≠ none := by
    have h' : stHD (f5 l).2 (f5n l) = some [] := h
    rw [h']; exact fun h => by cases h
  have h5n : f5n l = (f5 l).1.toNat := up_full _ hn
  have n5 : (f5 l).2 ≠ none := none_up (f := stHD (f5 l).2) (fun i => stHD_dead i) (f5n l) 0 (by omega) hn
  have n4 : stPD (f4 l).2 (f4n l) ≠ none := fun h => n5 (by unfold f5; rw [h]; rfl)
  have h4n : f4n l = (f4 l).1.toNat := up_full _ n4
  exact state_laid (M := 1125899906842624) (by decide) hb (f1 l) (f2 l) (f3 l) (f4 l) (f5 l) rfl rfl rfl rfl pyD hdD (stPD (f4 l).2) (stHD (f5 l).2) rfl (fun _ => rfl) rfl (fun q r hq hr => by rw [pyD_M] at hr ⊢; exact pyM_laid (by decide) hq hr) (f4n l) (f5n l) h4n rfl rfl (fun _ => rfl) rfl hdD_laid h5n h
/-- Both read the same numbers. -/
theorem numA {q : Option (List Int)} (h : (nD q).2 ≠ none) : numS q = nD q := by
  obtain ⟨r, hr⟩ := some_of h
  obtain ⟨l, rfl, e⟩ := tk_some hr
  have e2 := uintR_up (M1 := 9223372036854775807) (by decide) e
  show tk (uintR 9223372036854775807) 0 (some l) = _
  simp only [tk, e2]
  exact Prod.ext rfl hr.symm
theorem numB {q : Option (List Int)} (h : (numS q).2 ≠ none) (hv : (numS q).1 ≤ 1125899906842624) : nD q = numS q := by
  obtain ⟨r, hr⟩ := some_of h
  obtain ⟨l, rfl, e⟩ := tk_some hr
  have e2 := uintR_down (M2 := 1125899906842624) hv e
  show tk (uintR 1125899906842624) 0 (some l) = _
  simp only [tk, e2]
  exact Prod.ext rfl hr.symm
theorem stA {q : Option (List Int)} {n : Nat} (h : stND q n ≠ none) : ∀ j, j ≤ n → stN q j = stND q j
  | 0, _ => rfl
  | j + 1, hj => by
    have h1 : stND q (j + 1) ≠ none := none_up (f := stND q) (fun i h => by rw [stND, h]; rfl) n (j + 1) hj h
    rw [stN, stA h j (by omega), numA h1]
    rfl
theorem stB {q : Option (List Int)} {n : Nat} (h : stN q n ≠ none) (hv : ∀ j, j < n → (numS (stN q j)).1 ≤ 1125899906842624) : ∀ j, j ≤ n → stND q j = stN q j
  | 0, _ => rfl
  | j + 1, hj => by
    have h1 : stN q (j + 1) ≠ none := none_up (f := stN q) (fun i h => by rw [stN, h]; rfl) n (j + 1) hj h
    rw [stND, stB h hv j (by omega), numB h1 (hv j (by omega))]
    rfl
theorem pyA {q : Option (List Int)} (h : (pyD q).2 ≠ none) : pyS q = pyD q := by
  have n4 : (nD (nD (nD (nD q).2).2).2).2 ≠ none := fun h0 => h (by show (hshS (nD (nD (nD (nD q).2).2).2).2).2 = none; rw [h0]; rfl)
  have n3 : (nD (nD (nD q).2).2).2 ≠ none := fun h0 => n4 (by rw [h0]; rfl)
  have n2 : (nD (nD q).2).2 ≠ none := fun h0 => n3 (by rw [h0]; rfl)
  have n1 : (nD q).2 ≠ none := fun h0 => n2 (by rw [h0]; rfl)
  unfold pyS pyD
  rw [numA n1, numA n2, numA n3, numA n4]
theorem pyB {q : Option (List Int)} (h : (pyS q).2 ≠ none) (v1 : (pyS q).1.id ≤ 1125899906842624) (v2 : (pyS q).1.fr ≤ 1125899906842624) (v3 : (pyS q).1.am ≤ 1125899906842624) (v4 : (pyS q).1.af ≤ 1125899906842624) : pyD q = pyS q := by
  have n4 : (numS (numS (numS (numS q).2).2).2).2 ≠ none := fun h0 => h (by show (hshS (numS (numS (numS (numS q).2).2).2).2).2 = none; rw [h0]; rfl)
  have n3 : (numS (numS (numS q).2).2).2 ≠ none := fun h0 => n4 (by rw [h0]; rfl)
  have n2 : (numS (numS q).2).2 ≠ none := fun h0 => n3 (by rw [h0]; rfl)
  have n1 : (numS q).2 ≠ none := fun h0 => n2 (by rw [h0]; rfl)
  unfold pyS pyD
  rw [numB n1 v1, numB n2 v2, numB n3 v3, numB n4 v4]
/-- Holds that say the same. -/
def HA (a b : Hd) : Prop := a.id = b.id ∧ a.am = b.am ∧ a.n = b.n ∧ ∀ j, j < a.n → a.z j = b.z j
theorem hdA {q : Option (List Int)} (h : (hdD q).2 ≠ none) : (hdS q).2 = (hdD q).2 ∧ HA (hdS q).1 (hdD q).1 := by
  have hk : stND (cntS 16 (nD (nD q).2).2).2 (hdK (cntS 16 (nD (nD q).2).2)) ≠ none := h
  have n3 : (cntS 16 (nD (nD q).2).2).2 ≠ none := none_up (f := stND (cntS 16 (nD (nD q).2).2).2) (fun i h => by rw [stND, h]; rfl) _ 0 (by omega) hk
  have n2 : (nD (nD q).2).2 ≠ none := fun h0 => n3 (by rw [h0]; rfl)
  have n1 : (nD q).2 ≠ none := fun h0 => n2 (by rw [h0]; rfl)
  have hf := hdK_full hk
  unfold hdS hdD HA
  rw [numA n1, numA n2]
  dsimp only
  rw [hf] at hk
  rw [hf]
  refine ⟨stA hk _ (Nat.le_refl _), rfl, rfl, rfl, fun j hj => ?_⟩
  rw [stA hk j (by omega), numA]
  exact none_up (f := stND (cntS 16 (nD (nD q).2).2).2) (fun i h => by rw [stND, h]; rfl) _ (j + 1) hj hk
theorem hdB {q : Option (List Int)} (h : (hdS q).2 ≠ none) (v1 : (hdS q).1.id ≤ 1125899906842624) (v2 : (hdS q).1.am ≤ 1125899906842624) (v3 : ∀ j, j < (hdS q).1.n → (hdS q).1.z j ≤ 1125899906842624) : (hdD q).2 = (hdS q).2 ∧ HA (hdD q).1 (hdS q).1 := by
  have hk : stN (cntS 16 (numS (numS q).2).2).2 (cntS 16 (numS (numS q).2).2).1.toNat ≠ none := h
  have n3 : (cntS 16 (numS (numS q).2).2).2 ≠ none := none_up (f := stN (cntS 16 (numS (numS q).2).2).2) (fun i h => by rw [stN, h]; rfl) _ 0 (by omega) hk
  have n2 : (numS (numS q).2).2 ≠ none := fun h0 => n3 (by rw [h0]; rfl)
  have n1 : (numS q).2 ≠ none := fun h0 => n2 (by rw [h0]; rfl)
  have hs := stB hk v3
  unfold hdS hdD HA
  rw [numB n1 v1, numB n2 v2]
  dsimp only
  have hf : hdK (cntS 16 (numS (numS q).2).2) = (cntS 16 (numS (numS q).2).2).1.toNat := up_all _ (fun i hi => by
    rw [hs i (by omega)]
    exact none_up (f := stN (cntS 16 (numS (numS q).2).2).2) (fun i h => by rw [stN, h]; rfl) _ i (by omega) hk)
  rw [hf]
  refine ⟨hs _ (Nat.le_refl _), rfl, rfl, rfl, fun j hj => ?_⟩
  rw [hs j (by omega), numB]
  · exact none_up (f := stN (cntS 16 (numS (numS q).2).2).2) (fun i h => by rw [stN, h]; rfl) _ (j + 1) hj hk
  · exact v3 j hj
theorem lastP_congr {X Y : Nat → Py} {n : Nat} (h : ∀ j, j < n → X j = Y j) {j : Nat} (hj : j < n) : lastP X j = lastP Y j := by
  unfold lastP
  split
  · rfl
  · rw [h (j - 1) (by omega)]
theorem PsOk_congr {X Y : Nat → Py} {n : Nat} (h : ∀ j, j < n → X j = Y j) (hx : PsOk X n) : PsOk Y n := fun j hj => by
  have := hx j hj
  rw [lastP_congr h hj, h j hj] at this
  exact this
theorem KOk_congr {z y : Nat → Int} {n : Nat} (h : ∀ j, j < n → z j = y j) (hx : KOk z n) : KOk y n := fun j hj => by
  have h1 := hx j hj
  have e : lastK z j = lastK y j := by
    unfold lastK
    split
    · rfl
    · rw [h (j - 1) (by omega)]
  rw [e, h j hj] at h1
  exact h1
theorem HsOk_congr {X Y : Nat → Hd} {n : Nat} (h : ∀ j, j < n → HA (X j) (Y j)) (hx : HsOk X n) : HsOk Y n := fun j hj => by
  obtain ⟨h1, h2, h3, h4, h5⟩ := hx j hj
  obtain ⟨a, b, c, d⟩ := h j hj
  have e : lastH X j = lastH Y j := by
    unfold lastH
    split
    · rfl
    · rw [(h (j - 1) (by omega)).1]
  rw [e, a] at h1
  rw [a] at h2
  rw [b] at h3
  exact ⟨h1, h2, h3, c ▸ KOk_congr d h4, by rw [← c]; exact h5⟩
theorem sumP_congr {X Y : Nat → Py} : ∀ n, (∀ j, j < n → X j = Y j) → sumP X n = sumP Y n
  | 0, _ => rfl
  | n + 1, h => by rw [sumP, sumP, sumP_congr n (fun j hj => h j (by omega)), h n (by omega)]
theorem sumH_congr {X Y : Nat → Hd} : ∀ n, (∀ j, j < n → HA (X j) (Y j)) → sumH X n = sumH Y n
  | 0, _ => rfl
  | n + 1, h => by rw [sumH, sumH, sumH_congr n (fun j hj => h j (by omega)), (h n (by omega)).2.1]
theorem SOk_congr {s t : Sv} (h1 : s.nu = t.nu) (h2 : s.a = t.a) (h3 : s.b = t.b) (h4 : s.pn = t.pn) (h5 : ∀ j, j < s.pn → s.P j = t.P j) (h6 : s.hn = t.hn) (h7 : ∀ j, j < s.hn → HA (s.H j) (t.H j)) (h : SOk s) : SOk t := by
  obtain ⟨⟨a, b, c⟩, ⟨d, e, f⟩, g⟩ := h
  refine ⟨⟨h1 ▸ a, h2 ▸ b, h3 ▸ c⟩, ⟨by omega, h4 ▸ PsOk_congr h5 e, h6 ▸ HsOk_congr h7 f⟩, ?_⟩
  unfold tot at g ⊢
  rw [sumP_congr s.pn h5, sumH_congr s.hn h7, h4, h6, h2, h3] at g
  exact g
theorem rowA {X : Type} {g g' : Option (List Int) → X × Option (List Int)} {st st' : Nat → Option (List Int)} (h0 : st 0 = st' 0) (hs : ∀ i, st (i + 1) = (g (st i)).2) (hs' : ∀ i, st' (i + 1) = (g' (st' i)).2) {n : Nat} (hg : ∀ i, i < n → (g (st' i)).2 = (g' (st' i)).2) : ∀ i, i ≤ n → st i = st' i
  | 0, _ => h0
  | i + 1, hi => by rw [hs, hs', rowA h0 hs hs' hg i (by omega), hg i (by omega)]
theorem doc_dec {l : List Int} (h : docOk l) : decOk l := by
  obtain ⟨hq, ho⟩ := h
  have hn : stHD (f5 l).2 (f5n l) ≠ none := by
    have h' : stHD (f5 l).2 (f5n l) = some [] := hq
    rw [h']; exact fun h => by cases h
  have h5n : f5n l = (f5 l).1.toNat := up_full _ hn
  have n5 : (f5 l).2 ≠ none := none_up (f := stHD (f5 l).2) (fun i => stHD_dead i) (f5n l) 0 (by omega) hn
  have n4 : stPD (f4 l).2 (f4n l) ≠ none := fun h => n5 (by unfold f5; rw [h]; rfl)
  have h4n : f4n l = (f4 l).1.toNat := up_full _ n4
  have n40 : (f4 l).2 ≠ none := none_up (f := stPD (f4 l).2) (fun i => stPD_dead i) (f4n l) 0 (by omega) n4
  have n3 : (f3 l).2 ≠ none := fun h => n40 (by unfold f4; rw [h]; rfl)
  have n2 : (f2 l).2 ≠ none := fun h => n3 (by unfold f3; rw [h]; rfl)
  have n1 : (f1 l).2 ≠ none := fun h => n2 (by unfold f2; rw [h]; rfl)
  have e1 : d1 l = f1 l := numA n1
  have e2 : d2 l = f2 l := by unfold d2; rw [e1]; exact numA n2
  have e3 : d3 l = f3 l := by unfold d3; rw [e2]; exact numA n3
  have e4 : d4 l = f4 l := by unfold d4; rw [e3]; rfl
  have rp : ∀ i, i ≤ f4n l → stP (f4 l).2 i = stPD (f4 l).2 i := rowA (g := pyS) (g' := pyD) (st := stP (f4 l).2) (st' := stPD (f4 l).2) rfl (fun _ => rfl) (fun _ => rfl) (fun i hi => by rw [pyA (none_up (f := stPD (f4 l).2) (fun i => stPD_dead i) (f4n l) (i + 1) hi n4)])
  have e5 : d5 l = f5 l := by unfold d5 f5; rw [e4, ← h4n, rp _ (Nat.le_refl _)]
  have nh : ∀ i, i < f5n l → (hdD (stHD (f5 l).2 i)).2 ≠ none := fun i hi => none_up (f := stHD (f5 l).2) (fun i => stHD_dead i) (f5n l) (i + 1) hi hn
  have rh : ∀ i, i ≤ f5n l → stH (f5 l).2 i = stHD (f5 l).2 i := rowA (g := hdS) (g' := hdD) (st := stH (f5 l).2) (st' := stHD (f5 l).2) rfl (fun _ => rfl) (fun _ => rfl) (fun i hi => (hdA (nh i hi)).1)
  refine ⟨?_, SOk_congr (s := docS l) ?_ ?_ ?_ ?_ (fun j hj => ?_) ?_ (fun j hj => ?_) ho⟩
  · unfold decQ
    rw [e5, ← h5n, rh _ (Nat.le_refl _)]
    exact hq
  · show (f1 l).1 = (d1 l).1; rw [e1]
  · show (f2 l).1 = (d2 l).1; rw [e2]
  · show (f3 l).1 = (d3 l).1; rw [e3]
  · show f4n l = (d4 l).1.toNat; rw [e4, h4n]
  · have hj' : j < f4n l := hj
    show (pyD (stPD (f4 l).2 j)).1 = (pyS (stP (d4 l).2 j)).1
    rw [e4, rp j (by omega), pyA (none_up (f := stPD (f4 l).2) (fun i => stPD_dead i) (f4n l) (j + 1) hj' n4)]
  · show f5n l = (d5 l).1.toNat; rw [e5, h5n]
  · have hj' : j < f5n l := hj
    show HA (hdD (stHD (f5 l).2 j)).1 (hdS (stH (d5 l).2 j)).1
    rw [e5, rh j (by omega)]
    obtain ⟨a, b, c, d⟩ := (hdA (nh j hj')).2
    exact ⟨a.symm, b.symm, c.symm, fun k hk => (d k (by rw [c]; exact hk)).symm⟩
theorem dec_doc {l : List Int} (h : decOk l) : docOk l := by
  obtain ⟨hq, ho⟩ := h
  have hnum := ho.1
  have hps : PsOk (fun i => (pyS (stP (d4 l).2 i)).1) (d4 l).1.toNat := ho.2.1.2.1
  have hhs : HsOk (fun i => (hdS (stH (d5 l).2 i)).1) (d5 l).1.toNat := ho.2.1.2.2
  have hn : stH (d5 l).2 (d5 l).1.toNat ≠ none := by
    have h' : stH (d5 l).2 (d5 l).1.toNat = some [] := hq
    rw [h']; exact fun h => by cases h
  have n5 : (d5 l).2 ≠ none := none_up (f := stH (d5 l).2) (fun i => stH_dead i) _ 0 (by omega) hn
  have n4 : stP (d4 l).2 (d4 l).1.toNat ≠ none := fun h => n5 (by unfold d5; rw [h]; rfl)
  have n40 : (d4 l).2 ≠ none := none_up (f := stP (d4 l).2) (fun i => stP_dead i) _ 0 (by omega) n4
  have n3 : (d3 l).2 ≠ none := fun h => n40 (by unfold d4; rw [h]; rfl)
  have n2 : (d2 l).2 ≠ none := fun h => n3 (by unfold d3; rw [h]; rfl)
  have n1 : (d1 l).2 ≠ none := fun h => n2 (by unfold d2; rw [h]; rfl)
  have v1 : (d1 l).1 ≤ 1099511627776 := hnum.1.2
  have v2 : (d2 l).1 ≤ 1125899906842624 := hnum.2.1.2
  have v3 : (d3 l).1 ≤ 1125899906842624 := hnum.2.2.2
  have e1 : f1 l = d1 l := numB n1 (Int.le_trans v1 (by decide))
  have e2 : f2 l = d2 l := by unfold f2; rw [e1]; exact numB n2 v2
  have e3 : f3 l = d3 l := by unfold f3; rw [e2]; exact numB n3 v3
  have e4 : f4 l = d4 l := by unfold f4; rw [e3]; rfl
  have pb : ∀ i, i < (d4 l).1.toNat → pyD (stP (d4 l).2 i) = pyS (stP (d4 l).2 i) := fun i hi => by
    obtain ⟨_, h1, h2, h3, h4, _⟩ := hps i hi
    dsimp only at h1 h2 h3 h4
    exact pyB (none_up (f := stP (d4 l).2) (fun i => stP_dead i) _ (i + 1) hi n4) (by omega) (by omega) (by omega) (by omega)
  have rp : ∀ i, i ≤ (d4 l).1.toNat → stPD (d4 l).2 i = stP (d4 l).2 i := rowA (g := pyD) (g' := pyS) (st := stPD (d4 l).2) (st' := stP (d4 l).2) rfl (fun _ => rfl) (fun _ => rfl) (fun i hi => by rw [pb i hi])
  have h4n : f4n l = (d4 l).1.toNat := by
    unfold f4n
    rw [e4]
    exact up_all _ (fun i hi => by rw [rp i (by omega)]; exact none_up (f := stP (d4 l).2) (fun i => stP_dead i) _ i (by omega) n4)
  have e5 : f5 l = d5 l := by unfold d5 f5; rw [e4, h4n, rp _ (Nat.le_refl _)]
  have hb' : ∀ i, i < (d5 l).1.toNat → (hdD (stH (d5 l).2 i)).2 = (hdS (stH (d5 l).2 i)).2 ∧ HA (hdD (stH (d5 l).2 i)).1 (hdS (stH (d5 l).2 i)).1 := fun i hi => by
    obtain ⟨_, h1, h2, h3, _⟩ := hhs i hi
    dsimp only at h1 h2 h3
    exact hdB (none_up (f := stH (d5 l).2) (fun i => stH_dead i) _ (i + 1) hi hn) (by omega) (by omega) (fun j hj => by have := (h3 j hj).2; omega)
  have rh : ∀ i, i ≤ (d5 l).1.toNat → stHD (d5 l).2 i = stH (d5 l).2 i := rowA (g := hdD) (g' := hdS) (st := stHD (d5 l).2) (st' := stH (d5 l).2) rfl (fun _ => rfl) (fun _ => rfl) (fun i hi => (hb' i hi).1)
  have h5n : f5n l = (d5 l).1.toNat := by
    unfold f5n
    rw [e5]
    exact up_all _ (fun i hi => by rw [rh i (by omega)]; exact none_up (f := stH (d5 l).2) (fun i => stH_dead i) _ i (by omega) hn)
  refine ⟨?_, SOk_congr (s := decS l) ?_ ?_ ?_ ?_ (fun j hj => ?_) ?_ (fun j hj => ?_) ho⟩
  · unfold docQ
    rw [e5, h5n, rh _ (Nat.le_refl _)]
    exact hq
  · show (d1 l).1 = (f1 l).1; rw [e1]
  · show (d2 l).1 = (f2 l).1; rw [e2]
  · show (d3 l).1 = (f3 l).1; rw [e3]
  · show (d4 l).1.toNat = f4n l; rw [h4n]
  · have hj' : j < (d4 l).1.toNat := hj
    show (pyS (stP (d4 l).2 j)).1 = (pyD (stPD (f4 l).2 j)).1
    rw [e4, rp j (by omega), pb j hj']
  · show (d5 l).1.toNat = f5n l; rw [h5n]
  · have hj' : j < (d5 l).1.toNat := hj
    show HA (hdS (stH (d5 l).2 j)).1 (hdD (stHD (f5 l).2 j)).1
    rw [e5, rh j (by omega)]
    obtain ⟨a, b, c, d⟩ := (hb' j hj').2
    exact ⟨a.symm, b.symm, c.symm, fun k hk => (d k (by rw [c]; exact hk)).symm⟩
theorem dec_iff (l : List Int) : decOk l ↔ docOk l := ⟨dec_doc, doc_dec⟩
theorem decE_doc (l : List Int) : decE l = docE l := by
  unfold decE docE
  by_cases h : decOk l
  · rw [if_pos h, if_pos (dec_doc h)]
  · rw [if_neg h, if_neg (fun h' => h (doc_dec h'))]
theorem laid_T {l : List Int} (hb : ByQ (some l)) : laidS (decT l) = laidS (docT l) := by
  unfold decT docT
  by_cases h : decOk l
  · rw [if_pos h, if_pos (dec_doc h), decS_laid hb h.1, docS_laid hb (dec_doc h).1]
  · rw [if_neg h, if_neg (fun h' => h (doc_dec h'))]
theorem laid_ok {l : List Int} (hb : ByQ (some l)) (h : decE l = 0) : laidS (decT l) = l := by
  unfold decE at h
  split at h
  · rename_i h1
    unfold decT
    rw [if_pos h1, decS_laid hb h1.1]
  · cases h
end Go.Proofs.YtchiapnhkhbigaaDoor
