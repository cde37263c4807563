/- The order of what is laid: the mathematics. -/
import Derived.Test.YtmgjipemgdgjdaaBack
import Derived.Test.YtmgjipemgdgjdaaStr
namespace Go.Proofs.Ytmgjipemgdgjdaa
open Go.RowKit

/-- Which of two lists comes first: -1, 0, 1. -/
def cmpL : List Int → List Int → Int
  | [], [] => 0
  | [], _ :: _ => -1
  | _ :: _, [] => 1
  | x :: a, y :: b => if x < y then -1 else if y < x then 1 else cmpL a b
/-- Which of two numbers. -/
def sgn (n m : Int) : Int := if n < m then -1 else if m < n then 1 else 0
theorem sgn_congr {a b c d : Int} (h1 : a < b ↔ c < d) (h2 : b < a ↔ d < c) : sgn a b = sgn c d := by
  unfold sgn
  by_cases x : a < b
  · rw [if_pos x, if_pos (h1.1 x)]
  · rw [if_neg x, if_neg (fun h => x (h1.2 h))]
    by_cases y : b < a
    · rw [if_pos y, if_pos (h2.1 y)]
    · rw [if_neg y, if_neg (fun h => y (h2.2 h))]
theorem cmpL_self : ∀ a, cmpL a a = 0
  | [] => rfl
  | x :: a => by rw [cmpL, if_neg (by omega), if_neg (by omega), cmpL_self a]
theorem cmpL_same : ∀ (a r s : List Int), cmpL (a ++ r) (a ++ s) = cmpL r s
  | [], _, _ => rfl
  | x :: a, r, s => by rw [List.cons_append, List.cons_append, cmpL, if_neg (by omega), if_neg (by omega), cmpL_same a]
theorem cmpL_zero : ∀ (a b : List Int), cmpL a b = 0 → a = b
  | [], [], _ => rfl
  | [], _ :: _, h => by simp [cmpL] at h
  | _ :: _, [], h => by simp [cmpL] at h
  | x :: a, y :: b, h => by
    rw [cmpL] at h
    split at h
    · simp at h
    · split at h
      · simp at h
      · rw [cmpL_zero a b h, show x = y by omega]
theorem cmpL_parts : ∀ (a b r s : List Int), a.length = b.length → cmpL a b ≠ 0 → cmpL (a ++ r) (b ++ s) = cmpL a b
  | [], [], _, _, _, h => absurd rfl h
  | x :: a, y :: b, r, s, hl, h => by
    rw [List.cons_append, List.cons_append, cmpL, cmpL]
    rw [cmpL] at h
    split
    · rfl
    · rename_i h1
      rw [if_neg h1] at h
      split
      · rfl
      · rename_i h2
        rw [if_neg h2] at h
        exact cmpL_parts a b r s (by simpa using hl) h

/-- The number that bytes are, the highest first. -/
def val : List Int → Int
  | [] => 0
  | x :: l => x * 256 ^ l.length + val l
theorem val_bd : ∀ (l : List Int), (∀ x, x ∈ l → 0 ≤ x ∧ x ≤ 255) → 0 ≤ val l ∧ val l < 256 ^ l.length
  | [], _ => by simp [val]
  | x :: l, h => by
    have h1 := val_bd l (fun y hy => h y (List.mem_cons_of_mem _ hy))
    have h2 := h x (List.mem_cons_self ..)
    have hp := pow256_pos l.length
    rw [val, List.length_cons, Int.pow_succ]
    constructor
    · have := Int.mul_nonneg h2.1 (Int.le_of_lt hp); omega
    · have : x * 256 ^ l.length ≤ 255 * 256 ^ l.length := Int.mul_le_mul_of_nonneg_right h2.2 (Int.le_of_lt hp)
      omega
theorem cmpL_val : ∀ (a b : List Int), a.length = b.length → (∀ x, x ∈ a → 0 ≤ x ∧ x ≤ 255) → (∀ x, x ∈ b → 0 ≤ x ∧ x ≤ 255) → cmpL a b = sgn (val a) (val b)
  | [], [], _, _, _ => by simp [cmpL, sgn]
  | x :: a, y :: b, hl, ha, hb => by
    have hl' : a.length = b.length := by simpa using hl
    have ih := cmpL_val a b hl' (fun z hz => ha z (List.mem_cons_of_mem _ hz)) (fun z hz => hb z (List.mem_cons_of_mem _ hz))
    have va := val_bd a (fun z hz => ha z (List.mem_cons_of_mem _ hz))
    have vb := val_bd b (fun z hz => hb z (List.mem_cons_of_mem _ hz))
    have hp := pow256_pos b.length
    rw [cmpL, val, val, hl']
    rw [hl'] at va
    generalize (256 : Int) ^ b.length = P at *
    by_cases h1 : x < y
    · have : (x + 1) * P ≤ y * P := Int.mul_le_mul_of_nonneg_right (by omega) (by omega)
      rw [Int.add_mul] at this
      rw [if_pos h1, sgn, if_pos (by omega)]
    · rw [if_neg h1]
      by_cases h2 : y < x
      · have : (y + 1) * P ≤ x * P := Int.mul_le_mul_of_nonneg_right (by omega) (by omega)
        rw [Int.add_mul] at this
        rw [if_pos h2, sgn, if_neg (by omega), if_pos (by omega)]
      · have : x = y := by omega
        subst this
        rw [if_neg h2, ih]
        exact sgn_congr (by omega) (by omega)
theorem val_snoc : ∀ (l : List Int) (x : Int), val (l ++ [x]) = 256 * val l + x
  | [], x => by simp [val]
  | y :: l, x => by
    rw [List.cons_append, val, val, val_snoc l x, List.length_append, List.length_singleton, Int.pow_succ]
    have : y * (256 ^ l.length * 256) = 256 * (y * 256 ^ l.length) := by rw [← Int.mul_assoc, Int.mul_comm]
    omega
theorem val_dgs (t : Bool) (n : Int) (k : Nat) : ∀ q, val (dgs t n k q) = valF (dgt t n k) q
  | 0 => rfl
  | q + 1 => by rw [dgs_succ, val_snoc, val_dgs t n k q, valF]
theorem val_false (n : Int) (k : Nat) (h0 : 0 ≤ n) (h1 : n < 256 ^ k) : val (dgs false n k k) = n := by
  rw [val_dgs, valF_congr k (fun j _ => show dgt false n k j = n / 256 ^ (k - 1 - j) % 256 by simp [dgt, trn])]
  exact valF_dig n k h0 h1
theorem valF_turn (f : Nat → Int) : ∀ k, valF (fun j => 255 - f j) k = 256 ^ k - 1 - valF f k
  | 0 => by simp [valF]
  | k + 1 => by rw [valF, valF, valF_turn f k, Int.pow_succ]; omega
theorem val_true (n : Int) (k : Nat) (h0 : 0 ≤ n) (h1 : n < 256 ^ k) : val (dgs true n k k) = 256 ^ k - 1 - n := by
  rw [val_dgs, valF_congr k (fun j _ => show dgt true n k j = 255 - n / 256 ^ (k - 1 - j) % 256 by simp [dgt, trn]), valF_turn (fun j => n / 256 ^ (k - 1 - j) % 256), valF_dig n k h0 h1]

/-- Of two that are laid: the same, or parted for good. -/
def Parts (a b : List Int) (c : Int) : Prop := (c = 0 → a = b) ∧ (c ≠ 0 → ∀ r s, cmpL (a ++ r) (b ++ s) = c)
theorem Parts.len {a b : List Int} (hl : a.length = b.length) : Parts a b (cmpL a b) := ⟨cmpL_zero a b, fun h r s => cmpL_parts a b r s hl h⟩
theorem Parts.first {x y : Int} {a b : List Int} (h : x ≠ y) : Parts (x :: a) (y :: b) (sgn x y) := by
  unfold sgn
  refine ⟨fun h0 => ?_, fun _ r s => ?_⟩
  · split at h0
    · simp at h0
    · split at h0
      · simp at h0
      · omega
  · rw [List.cons_append, List.cons_append, cmpL]
    split
    · rfl
    · rw [if_pos (by omega), if_pos (by omega)]
theorem Parts.cons {x : Int} {a b : List Int} {c : Int} (h : Parts a b c) : Parts (x :: a) (x :: b) c :=
  ⟨fun h0 => by rw [h.1 h0], fun h0 r s => by rw [List.cons_append, List.cons_append, cmpL, if_neg (by omega), if_neg (by omega), h.2 h0 r s]⟩
theorem sz_top (m : Int) : sz m = 8 ∨ m < 256 ^ sz m := by
  unfold sz
  repeat' split
  all_goals first | exact .inl rfl | (right; simp only [Int.reducePow]; omega)
theorem sz_of_lt (n : Int) (k : Nat) (h : n < 256 ^ k) : sz n ≤ k := by
  rcases Nat.lt_or_ge k 8 with hk | hk
  · have hc : k = 0 ∨ k = 1 ∨ k = 2 ∨ k = 3 ∨ k = 4 ∨ k = 5 ∨ k = 6 ∨ k = 7 := by omega
    have e : sz n = if n < 1 then 0 else if n < 256 then 1 else if n < 65536 then 2 else if n < 16777216 then 3 else if n < 4294967296 then 4 else if n < 1099511627776 then 5 else if n < 281474976710656 then 6 else if n < 72057594037927936 then 7 else 8 := rfl
    rw [e]
    rcases hc with h' | h' | h' | h' | h' | h' | h' | h' <;> subst h' <;> simp only [Int.reducePow] at h <;> repeat' split
    all_goals omega
  · exact Nat.le_trans (sz_le n) hk
theorem sz_mono {n m : Int} (h : n ≤ m) : sz n ≤ sz m := by
  rcases sz_top m with e | e
  · rw [e]; exact sz_le n
  · exact sz_of_lt n _ (by omega)
theorem dgs_parts (n m : Int) (k : Nat) (h0 : 0 ≤ n) (h1 : n < 256 ^ k) (g0 : 0 ≤ m) (g1 : m < 256 ^ k) : Parts (dgs false n k k) (dgs false m k k) (sgn n m) ∧ Parts (dgs true n k k) (dgs true m k k) (sgn m n) := by
  have hb : ∀ t x, ∀ y, y ∈ dgs t x k k → 0 ≤ y ∧ y ≤ 255 := fun t x y hy => by
    simp only [dgs, List.mem_map] at hy
    obtain ⟨j, _, rfl⟩ := hy
    exact dgt_bd t x k j
  constructor
  · have := Parts.len (a := dgs false n k k) (b := dgs false m k k) (by simp [dgs_length])
    rwa [cmpL_val _ _ (by simp [dgs_length]) (hb _ _) (hb _ _), val_false n k h0 h1, val_false m k g0 g1] at this
  · have := Parts.len (a := dgs true n k k) (b := dgs true m k k) (by simp [dgs_length])
    rw [cmpL_val _ _ (by simp [dgs_length]) (hb _ _) (hb _ _), val_true n k h0 h1, val_true m k g0 g1] at this
    have e : sgn (256 ^ k - 1 - n) (256 ^ k - 1 - m) = sgn m n := by
      generalize (256 : Int) ^ k = P
      exact sgn_congr (by omega) (by omega)
    rwa [e] at this
theorem sgn_lt {n m : Int} (h : n < m) : sgn n m = -1 := by rw [sgn, if_pos h]
theorem sgn_gt {n m : Int} (h : m < n) : sgn n m = 1 := by rw [sgn, if_neg (by omega), if_pos h]
theorem u_parts (n m : Int) (h0 : 0 ≤ n) (h1 : n ≤ 18446744073709551615) (g0 : 0 ≤ m) (g1 : m ≤ 18446744073709551615) : Parts (uB n) (uB m) (sgn n m) := by
  unfold uB
  by_cases e : sz n = sz m
  · rw [← e]
    have b1 := sz_bound n h0 h1
    have b2 := sz_bound m g0 g1
    rw [← e] at b2
    exact (dgs_parts n m _ h0 b1 g0 b2).1.cons
  · have hne : (sz n : Int) ≠ (sz m : Int) := by omega
    have := Parts.first (a := dgs false n (sz n) (sz n)) (b := dgs false m (sz m) (sz m)) hne
    rcases Int.lt_or_gt_of_ne hne with h | h
    · have : n < m := by
        rcases Int.lt_or_le n m with h' | h'
        · exact h'
        · have := sz_mono h'; omega
      rw [sgn_lt this]; rwa [sgn_lt h] at *
    · have : m < n := by
        rcases Int.lt_or_le m n with h' | h'
        · exact h'
        · have := sz_mono h'; omega
      rw [sgn_gt this]; rwa [sgn_gt h] at *
end Go.Proofs.Ytmgjipemgdgjdaa
