/- What is laid is taken off as it was: the mathematics. -/
import Derived.Test.YtmekplaonlpfkaaGreatDoorOwnShelf34
namespace Go.Proofs.YtmekplaonlpfkaaGreatDoor
open Go.RowKit

theorem valF_congr {f g : Nat → Int} : ∀ (k : Nat), (∀ j, j < k → f j = g j) → valF f k = valF g k
  | 0, _ => rfl
  | k + 1, h => by rw [valF, valF, valF_congr k (fun j hj => h j (by omega)), h k (by omega)]
theorem trn_trn (t : Bool) (x : Int) : trn t (trn t x) = x := by cases t <;> simp [trn] <;> omega
theorem pow256_pos (k : Nat) : (0 : Int) < 256 ^ k := Int.pow_pos (by decide)
theorem valF_part (n : Int) (k : Nat) (h0 : 0 ≤ n) (hn : n < 256 ^ k) : ∀ q, q ≤ k → valF (fun j => n / 256 ^ (k - 1 - j) % 256) q = n / 256 ^ (k - q)
  | 0, _ => by rw [valF, Nat.sub_zero]; exact (Int.ediv_eq_zero_of_lt h0 hn).symm
  | q + 1, hq => by
    rw [valF, valF_part n k h0 hn q (by omega), show k - q = (k - (q + 1)) + 1 from by omega, show k - 1 - q = k - (q + 1) from by omega, Int.pow_succ, ← Int.ediv_ediv_of_nonneg (Int.le_of_lt (pow256_pos _))]
    have := Int.mul_ediv_add_emod (n / 256 ^ (k - (q + 1))) 256
    omega
theorem valF_dig (n : Int) (k : Nat) (h0 : 0 ≤ n) (hn : n < 256 ^ k) : valF (fun j => n / 256 ^ (k - 1 - j) % 256) k = n := by
  rw [valF_part n k h0 hn k (Nat.le_refl _)]; simp
theorem sz_bound (n : Int) (h0 : 0 ≤ n) (h1 : n ≤ 18446744073709551615) : n < 256 ^ sz n := by
  unfold sz
  repeat' split
  all_goals simp only [Int.reducePow]; omega
theorem sz_first (n : Int) (h1 : n ≤ 18446744073709551615) (hk : 0 < sz n) : n / 256 ^ (sz n - 1 - 0) % 256 ≠ 0 := by
  have hc : sz n = 0 ∨ sz n = 1 ∨ sz n = 2 ∨ sz n = 3 ∨ sz n = 4 ∨ sz n = 5 ∨ sz n = 6 ∨ sz n = 7 ∨ sz n = 8 := by have := sz_le n; omega
  have hd : sz n = if n < 1 then 0 else if n < 256 then 1 else if n < 65536 then 2 else if n < 16777216 then 3 else if n < 4294967296 then 4 else if n < 1099511627776 then 5 else if n < 281474976710656 then 6 else if n < 72057594037927936 then 7 else 8 := rfl
  rcases hc with h | h | h | h | h | h | h | h | h
  · omega
  all_goals
    rw [h]
    rw [h] at hd
    simp only [Nat.reduceSub, Int.reducePow]
    repeat' split at hd
    all_goals omega

/-- The bytes z, n of them, begin with l. -/
def Pre (n : Nat) (z : Nat → Int) (l : List Int) : Prop := l.length ≤ n ∧ ∀ j, j < l.length → z j = fn l j
theorem fn_cons (a : Int) (l : List Int) (j : Nat) : fn (a :: l) (j + 1) = fn l j := rfl
theorem fn_dgs (t : Bool) (n : Int) (k q j : Nat) (h : j < q) : fn (dgs t n k q) j = dgt t n k j := by
  rw [fn_get _ _ (by rw [dgs_length]; exact h)]; simp [dgs]
theorem num_back {n : Nat} {z : Nat → Int} {t : Bool} {m : Int} (h0 : 0 ≤ m) (h1 : m ≤ 18446744073709551615) (hn : sz m ≤ n) (hz : ∀ j, j < sz m → z (j + 1) = dgt t m (sz m) j) :
    numE n (behind t z) (sz m) = 0 ∧ numV n (behind t z) (sz m) = m := by
  have hd : ∀ j, j < sz m → behind t z j = m / 256 ^ (sz m - 1 - j) % 256 := fun j hj => by rw [behind, hz j hj, dgt, trn_trn]
  have hE : numE n (behind t z) (sz m) = 0 := by
    unfold numE
    rw [if_neg (by omega), if_neg]
    rintro ⟨hk, h⟩
    rw [hd 0 hk] at h
    exact sz_first m h1 hk h
  refine ⟨hE, ?_⟩
  rw [numV, if_pos hE, valF_congr _ hd]
  exact valF_dig m _ h0 (sz_bound m h0 h1)

theorem u_back {n : Nat} {z : Nat → Int} {m : Int} (h0 : 0 ≤ m) (h1 : m ≤ 18446744073709551615) (hp : Pre n z (uB m)) :
    uE n z 18446744073709551615 = 0 ∧ uV n z 18446744073709551615 = m ∧ uN n z 18446744073709551615 = (uB m).length := by
  obtain ⟨hl, hj⟩ := hp
  have hlen : (uB m).length = sz m + 1 := by simp [uB, dgs_length]
  have hs := sz_le m
  have z0 : z 0 = (sz m : Int) := hj 0 (by omega)
  have hz : ∀ j, j < sz m → z (j + 1) = dgt false m (sz m) j := fun j hjj => by rw [hj (j + 1) (by omega), uB, fn_cons, fn_dgs _ _ _ _ _ hjj]
  obtain ⟨a, b⟩ := num_back (n := n - 1) h0 h1 (by omega) hz
  have e : (z 0).toNat = sz m := by rw [z0]; rfl
  have hE : uE n z 18446744073709551615 = 0 := by
    unfold uE
    rw [if_neg (by omega), if_neg (by omega), e, if_pos a, b, if_neg (by omega)]
  refine ⟨hE, ?_, ?_⟩
  · rw [uV, if_pos hE, e]; exact b
  · rw [uN, if_pos hE, e, hlen]; omega
theorem fn_append_right (a b : List Int) (j : Nat) : fn (a ++ b) (a.length + j) = fn b j := by
  simp [fn, List.getD_eq_getElem?_getD, List.getElem?_append_right]
theorem fn_append_left (a b : List Int) (j : Nat) (h : j < a.length) : fn (a ++ b) j = fn a j := by
  simp [fn, List.getD_eq_getElem?_getD, List.getElem?_append_left h]
theorem escF_split (y : Nat → Int) : ∀ (m i : Nat), i < m → ∃ r, escF y m = escF y i ++ (esc (y i) ++ r)
  | m + 1, i, h => by
    by_cases hi : i = m
    · subst hi; exact ⟨[], by simp [escF]⟩
    · obtain ⟨r, hr⟩ := escF_split y m i (by omega)
      exact ⟨r ++ esc (y m), by rw [escF, hr]; simp⟩
theorem escF_len_mono (y : Nat → Int) (m i : Nat) (h : i ≤ m) : (escF y i).length + (m - i) ≤ (escF y m).length := by
  induction m with
  | zero => have : i = 0 := by omega
            subst this; simp
  | succ m ih =>
    by_cases hi : i = m + 1
    · subst hi; simp
    · have := ih (by omega)
      have h2 := (esc_len (y m)).2
      rw [escF, List.length_append]
      omega

theorem sc_back {n : Nat} {z y : Nat → Int} {len : Nat} (hp : Pre n z (escF y len ++ [0, 0])) (_hy : ∀ j, j < len → 0 ≤ y j ∧ y j ≤ 255) :
    ∀ (d i f : Nat), len - i = d → i ≤ len → n + 1 ≤ f + (escF y i).length → sc n z len f (escF y i).length ((List.range i).map y) = ((List.range len).map y, (escF y len).length + 2, 0)
  | d, i, f, hd, hi, hf => by
    obtain ⟨hl, hj⟩ := hp
    simp only [List.length_append, List.length_cons, List.length_nil] at hl hj
    have hm := escF_len_mono y len i hi
    obtain ⟨f, rfl⟩ : ∃ f', f = f' + 1 := ⟨f - 1, by omega⟩
    rw [sc, if_pos (by omega)]
    by_cases he : i = len
    · subst he
      have z0 : z (escF y i).length = 0 := by rw [hj _ (by omega)]; exact fn_append_right (escF y i) [0, 0] 0
      have z1 : z ((escF y i).length + 1) = 0 := by rw [hj _ (by omega)]; exact fn_append_right (escF y i) [0, 0] 1
      rw [if_pos z0, if_neg (by omega), if_pos z1]
    · obtain ⟨r, hr⟩ := escF_split y len i (by omega)
      have hlen : (escF y len).length = (escF y i).length + ((esc (y i)).length + r.length) := by rw [hr]; simp
      have g : ∀ j, j < (esc (y i)).length → z ((escF y i).length + j) = fn (esc (y i)) j := fun j hjj => by
        rw [hj _ (by omega), hr, List.append_assoc, fn_append_right, List.append_assoc, fn_append_left _ _ _ hjj]
      have hs : (List.range (i + 1)).map y = (List.range i).map y ++ [y i] := by simp [List.range_succ]
      have hmost : ¬ ((len : Int) ≤ ((List.range i).map y).length) := by simp; omega
      by_cases h0 : y i = 0
      · have e2 : esc (y i) = [0, 255] := by rw [esc, if_pos h0]
        rw [e2] at g hlen
        have z0 : z (escF y i).length = 0 := g 0 (by simp)
        have z1 : z ((escF y i).length + 1) = 255 := g 1 (by simp)
        have hn1 : (escF y (i + 1)).length = (escF y i).length + 2 := by rw [escF, e2]; simp
        simp only [List.length_cons, List.length_nil] at hlen
        rw [if_pos z0, if_neg (by omega), if_neg (by omega), if_pos z1, if_neg hmost]
        have := sc_back ⟨by simpa using hl, by simpa using hj⟩ _hy (d - 1) (i + 1) f (by omega) (by omega) (by omega)
        rw [hs, hn1, h0] at this
        rw [z0]
        exact this
      · have e2 : esc (y i) = [y i] := by rw [esc, if_neg h0]
        rw [e2] at g hlen
        have z0 : z (escF y i).length = y i := g 0 (by simp)
        have hn1 : (escF y (i + 1)).length = (escF y i).length + 1 := by rw [escF, e2]; simp
        simp only [List.length_cons, List.length_nil] at hlen
        rw [if_neg (by rw [z0]; exact h0), if_neg hmost]
        have := sc_back ⟨by simpa using hl, by simpa using hj⟩ _hy (d - 1) (i + 1) f (by omega) (by omega) (by omega)
        rw [hs, hn1] at this
        rw [z0]
        exact this
  termination_by _ i => len - i
theorem b_back {n : Nat} {z y : Nat → Int} {len : Nat} (hp : Pre n z (escF y len ++ [0, 0])) (hy : ∀ j, j < len → 0 ≤ y j ∧ y j ≤ 255) :
    bR n z len = ((List.range len).map y, (escF y len ++ [0, 0]).length, 0) := by
  rw [bR, if_neg (by omega)]
  have := sc_back hp hy len 0 (n + 1) (by omega) (by omega) (by simp [escF])
  simpa [escF] using this
end Go.Proofs.YtmekplaonlpfkaaGreatDoor
/- What a Set laid is read back. -/
namespace Go.Proofs.YtmekplaonlpfkaaGreatDoor
open Go.RowKit Go.Maps Go.Sort

theorem sc_more {n : Nat} {z : Nat → Int} {m1 m2 : Int} (h : m1 ≤ m2) : ∀ (f q : Nat) (l : List Int), (sc n z m1 f q l).2.2 = 0 → sc n z m2 f q l = sc n z m1 f q l
  | 0, _, _, he => by simp [sc] at he
  | f + 1, q, l, he => by
    have ih := sc_more (n := n) (z := z) h f
    unfold sc at he ⊢
    by_cases h1 : q < n
    · rw [if_pos h1] at he ⊢; rw [if_pos h1]
      by_cases h2 : z q = 0
      · rw [if_pos h2] at he ⊢; rw [if_pos h2]
        by_cases h3 : q + 1 = n
        · rw [if_pos h3, if_pos h3]
        · rw [if_neg h3] at he ⊢; rw [if_neg h3]
          by_cases h4 : z (q + 1) = 0
          · rw [if_pos h4, if_pos h4]
          · rw [if_neg h4] at he ⊢; rw [if_neg h4]
            by_cases h5 : z (q + 1) = 255
            · rw [if_pos h5] at he ⊢; rw [if_pos h5]
              by_cases h6 : m1 ≤ l.length
              · rw [if_pos h6] at he; simp at he
              · rw [if_neg h6] at he ⊢; rw [if_neg (by omega)]; exact ih _ _ he
            · rw [if_neg h5, if_neg h5]
      · rw [if_neg h2] at he ⊢; rw [if_neg h2]
        by_cases h6 : m1 ≤ l.length
        · rw [if_pos h6] at he; simp at he
        · rw [if_neg h6] at he ⊢; rw [if_neg (by omega)]; exact ih _ _ he
    · rw [if_neg h1, if_neg h1]
theorem Pre.app (l t : List Int) : Pre (l ++ t).length (fn (l ++ t)) l := ⟨by simp, fun j hj => fn_append_left l t j hj⟩
theorem u_most {n : Nat} {z : Nat → Int} {m most : Int} (h0 : 0 ≤ m) (h1 : m ≤ 18446744073709551615) (hm : m ≤ most) (hp : Pre n z (uB m)) : uE n z most = 0 ∧ uV n z most = m ∧ uN n z most = (uB m).length := by
  obtain ⟨hE, hV, hN⟩ := u_back h0 h1 hp
  have hE2 : uE n z most = 0 := by
    rw [uV, if_pos hE] at hV
    unfold uE at hE ⊢
    split at hE
    · simp at hE
    · rename_i h2
      rw [if_neg h2]
      split at hE
      · simp at hE
      · rename_i h3
        rw [if_neg h3]
        split at hE
        · rename_i h4
          rw [if_pos h4, hV, if_neg (by omega)]
        · rename_i h4; exact absurd hE h4
  refine ⟨hE2, ?_, ?_⟩
  · rw [uV, if_pos hE] at hV; rw [uV, if_pos hE2, hV]
  · rw [uN, if_pos hE] at hN; rw [uN, if_pos hE2, hN]
theorem uintR_back {m most : Int} (h0 : 0 ≤ m) (h1 : m ≤ 18446744073709551615) (hm : m ≤ most) (t : List Int) : uintR most (uB m ++ t) = some (m, t) := by
  obtain ⟨hE, hV, hN⟩ := u_most h0 h1 hm (Pre.app (uB m) t)
  unfold uintR
  rw [if_pos hE, hV, hN, List.drop_left]
theorem countR_back {m most : Int} (h0 : 0 ≤ m) (h1 : m ≤ 18446744073709551615) (hm : m ≤ most) (t : List Int) (ht : m ≤ t.length) : countR most (uB m ++ t) = some (m, t) := by
  have hmx : max most 0 = most := by omega
  obtain ⟨hE, hV, hN⟩ := u_most (most := most) h0 h1 hm (Pre.app (uB m) t)
  have hE2 : cE (uB m ++ t).length (fn (uB m ++ t)) most = 0 := by
    unfold cE
    rw [hmx, if_pos hE, hN, hV, if_neg (by simp only [List.length_append]; omega)]
  unfold countR
  rw [if_pos hE2, cV, if_pos hE2, cN, if_pos hE2, hmx, hV, hN, List.drop_left]
theorem bytesR_back {u : List UInt8} (hu : u.length ≤ 4096) (t : List Int) : bytesR 4096 (encB u ++ t) = some (iU u, t) := by
  have hy : ∀ j, j < u.length → 0 ≤ fn (iU u) j ∧ fn (iU u) j ≤ 255 := fun j hj => fn_bd (iU_bd u) j (by rw [iU_length]; exact hj)
  have hb := b_back (Pre.app (encB u) t) hy
  have hl : (List.range u.length).map (fn (iU u)) = iU u := by
    apply List.ext_getElem
    · simp [iU_length]
    · intro j h1 h2
      simp [fn, h2]
  have hb2 : bR (encB u ++ t).length (fn (encB u ++ t)) 4096 = (iU u, (encB u).length, 0) := by
    rw [← hl]
    have e : (escF (fn (iU u)) u.length ++ [0, 0]).length = (encB u).length := rfl
    rw [← e, ← hb]
    have hs : (sc (encB u ++ t).length (fn (encB u ++ t)) (u.length : Int) ((encB u ++ t).length + 1) 0 []).2.2 = 0 := by
      rw [bR, if_neg (by omega)] at hb
      rw [hb]
    rw [bR, bR, if_neg (by omega), if_neg (by omega)]
    exact sc_more (by omega) _ _ _ hs
  unfold bytesR
  rw [hb2]
  simp
theorem uL_iU (u : List UInt8) : uL (iU u) = u := by
  unfold uL iU
  rw [List.map_map]
  have : (fun x : Int => UInt8.ofNat x.toNat) ∘ (fun x : UInt8 => (x.toNat : Int)) = id := by
    funext x; simp
  rw [this, List.map_id]
theorem leaf_back {k v : List UInt8} (hk : k.length ≤ 4096) (hv : v.length ≤ 4096) : leafK (leafB k v) = k ∧ leafV (leafB k v) = v ∧ leafE (leafB k v) = some [] := by
  have h1 : bytesR 4096 (leafB k v) = some (iU k, encB v) := bytesR_back hk (encB v)
  have h2 : bytesR 4096 (encB v) = some (iU v, []) := by have := bytesR_back hv []; rwa [List.append_nil] at this
  have hq : leafQ (leafB k v) = some (encB v) := by unfold leafQ; rw [Option.bind_some, h1]; rfl
  refine ⟨?_, ?_, ?_⟩
  · unfold leafK; rw [Option.bind_some, h1]; simp [uL_iU]
  · unfold leafV; rw [hq, Option.bind_some, h2]; simp [uL_iU]
  · unfold leafE; rw [hq, Option.bind_some, h2]; rfl
end Go.Proofs.YtmekplaonlpfkaaGreatDoor
