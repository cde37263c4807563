/- What is laid is taken off as it was: the mathematics. -/
import Derived.Test.YtmekplaonlpfkaaGreatDoorOwnShelfApart16
import Derived.Test.YtmekplaonlpfkaaGreatDoorOwnShelfApart02
import Derived.Deep.QuietTactic
import Derived.BigQuiet
import Derived.RegionTactic
import Derived.BigRegion
import Derived.Test.YtmekplaonlpfkaaGreatDoorOwnShelfApart03
namespace Go.Proofs.YtmekplaonlpfkaaGreatDoor
open Go.RowKit

theorem valF_congr {f g : Nat → Int} : ∀ (k : Nat), (∀ j, j < k → f j = g j) → valF f k = valF g k
  | 0, _ => rfl
  | k + 1, h => by rw [valF, valF, valF_congr k (fun j hj => h j (by omega)), h k (by omega)]
theorem trn_trn (t : Bool) (x : Int) : trn t (trn t x) = x := by cases t <;> simp [trn] <;> omega
theorem pow256_pos (k : Nat) : (0 : Int) < 256 ^ k := Int.pow_pos (by decide)
theorem valF_part (n : Int) (k : Nat) (h0 : 0 ≤ n) (hn : n < 256 ^ k) : ∀ q, q ≤ k → valF (fun j => n / 256 ^ (k - 1 - j) % 256) q = n / 256 ^ (k - q)
  | 0, _ => by rw [valF, Nat.sub_zero]; exact (Int.ediv_eq_zero_of_lt h0 hn).symm
  | q + 1, hq => by
    rw [valF, valF_part n k h0 hn q (by omega), show k - q = (k - (q + 1)) + 1 from by omega, show k - 1 - q = k - (q + 1) from by omega, Int.pow_succ, ← Int.ediv_ediv_of_nonneg (Int.le_of_lt (pow256_pos _))]
    have := Int.mul_ediv_add_emod (n / 256 ^ (k - (q + 1))) 256
    omega
theorem valF_dig (n : Int) (k : Nat) (h0 : 0 ≤ n) (hn : n < 256 ^ k) : valF (fun j => n / 256 ^ (k - 1 - j) % 256) k = n := by
  rw [valF_part n k h0 hn k (Nat.le_refl _)]; simp
theorem sz_bound (n : Int) (h0 : 0 ≤ n) (h1 : n ≤ 18446744073709551615) : n < 256 ^ sz n := by
  unfold sz
  repeat' split
  all_goals simp only [Int.reducePow]; omega
theorem sz_first (n : Int) (h1 : n ≤ 18446744073709551615) (hk : 0 < sz n) : n / 256 ^ (sz n - 1 - 0) % 256 ≠ 0 := by
  have hc : sz n = 0 ∨ sz n = 1 ∨ sz n = 2 ∨ sz n = 3 ∨ sz n = 4 ∨ sz n = 5 ∨ sz n = 6 ∨ sz n = 7 ∨ sz n = 8 := by have := sz_le n; omega
  have hd : sz n = if n < 1 then 0 else if n < 256 then 1 else if n < 65536 then 2 else if n < 16777216 then 3 else if n < 4294967296 then 4 else if n < 1099511627776 then 5 else if n < 281474976710656 then 6 else if n < 72057594037927936 then 7 else 8 := rfl
  rcases hc with h | h | h | h | h | h | h | h | h
  · omega
  all_goals
    rw [h]
    rw [h] at hd
    simp only [Nat.reduceSub, Int.reducePow]
    repeat' split at hd
    all_goals omega

/-- The bytes z, n of them, begin with l. -/
def Pre (n : Nat) (z : Nat → Int) (l : List Int) : Prop := l.length ≤ n ∧ ∀ j, j < l.length → z j = fn l j
theorem fn_cons (a : Int) (l : List Int) (j : Nat) : fn (a :: l) (j + 1) = fn l j := rfl
theorem fn_dgs (t : Bool) (n : Int) (k q j : Nat) (h : j < q) : fn (dgs t n k q) j = dgt t n k j := by
  rw [fn_get _ _ (by rw [dgs_length]; exact h)]; simp [dgs]
theorem num_back {n : Nat} {z : Nat → Int} {t : Bool} {m : Int} (h0 : 0 ≤ m) (h1 : m ≤ 18446744073709551615) (hn : sz m ≤ n) (hz : ∀ j, j < sz m → z (j + 1) = dgt t m (sz m) j) :
    numE n (behind t z) (sz m) = 0 ∧ numV n (behind t z) (sz m) = m := by
  have hd : ∀ j, j < sz m → behind t z j = m / 256 ^ (sz m - 1 - j) % 256 := fun j hj => by rw [behind, hz j hj, dgt, trn_trn]
  have hE : numE n (behind t z) (sz m) = 0 := by
    unfold numE
    rw [if_neg (by omega), if_neg]
    rintro ⟨hk, h⟩
    rw [hd 0 hk] at h
    exact sz_first m h1 hk h
  refine ⟨hE, ?_⟩
  rw [numV, if_pos hE, valF_congr _ hd]
  exact valF_dig m _ h0 (sz_bound m h0 h1)

theorem u_back {n : Nat} {z : Nat → Int} {m : Int} (h0 : 0 ≤ m) (h1 : m ≤ 18446744073709551615) (hp : Pre n z (uB m)) :
    uE n z 18446744073709551615 = 0 ∧ uV n z 18446744073709551615 = m ∧ uN n z 18446744073709551615 = (uB m).length := by
  obtain ⟨hl, hj⟩ := hp
  have hlen : (uB m).length = sz m + 1 := by simp [uB, dgs_length]
  have hs := sz_le m
  have z0 : z 0 = (sz m : Int) := hj 0 (by omega)
  have hz : ∀ j, j < sz m → z (j + 1) = dgt false m (sz m) j := fun j hjj => by rw [hj (j + 1) (by omega), uB, fn_cons, fn_dgs _ _ _ _ _ hjj]
  obtain ⟨a, b⟩ := num_back (n := n - 1) h0 h1 (by omega) hz
  have e : (z 0).toNat = sz m := by rw [z0]; rfl
  have hE : uE n z 18446744073709551615 = 0 := by
    unfold uE
    rw [if_neg (by omega), if_neg (by omega), e, if_pos a, b, if_neg (by omega)]
  refine ⟨hE, ?_, ?_⟩
  · rw [uV, if_pos hE, e]; exact b
  · rw [uN, if_pos hE, e, hlen]; omega
theorem fn_append_right (a b : List Int) (j : Nat) : fn (a ++ b) (a.length + j) = fn b j := by
  simp [fn, List.getD_eq_getElem?_getD, List.getElem?_append_right]
theorem fn_append_left (a b : List Int) (j : Nat) (h : j < a.length) : fn (a ++ b) j = fn a j := by
  simp [fn, List.getD_eq_getElem?_getD, List.getElem?_append_left h]
theorem escF_split (y : Nat → Int) : ∀ (m i : Nat), i < m → ∃ r, escF y m = escF y i ++ (esc (y i) ++ r)
  | m + 1, i, h => by
    by_cases hi : i = m
    · subst hi; exact ⟨[], by simp [escF]⟩
    · obtain ⟨r, hr⟩ := escF_split y m i (by omega)
      exact ⟨r ++ esc (y m), by rw [escF, hr]; simp⟩
theorem escF_len_mono (y : Nat → Int) (m i : Nat) (h : i ≤ m) : (escF y i).length + (m - i) ≤ (escF y m).length := by
  induction m with
  | zero => have : i = 0 := by omega
            subst this; simp
  | succ m ih =>
    by_cases hi : i = m + 1
    · subst hi; simp
    · have := ih (by omega)
      have h2 := (esc_len (y m)).2
      rw [escF, List.length_append]
      omega

theorem sc_back {n : Nat} {z y : Nat → Int} {len : Nat} (hp : Pre n z (escF y len ++ [0, 0])) (_hy : ∀ j, j < len → 0 ≤ y j ∧ y j ≤ 255) :
    ∀ (d i f : Nat), len - i = d → i ≤ len → n + 1 ≤ f + (escF y i).length → sc n z len f (escF y i).length ((List.range i).map y) = ((List.range len).map y, (escF y len).length + 2, 0)
  | d, i, f, hd, hi, hf => by
    obtain ⟨hl, hj⟩ := hp
    simp only [List.length_append, List.length_cons, List.length_nil] at hl hj
    have hm := escF_len_mono y len i hi
    obtain ⟨f, rfl⟩ : ∃ f', f = f' + 1 := ⟨f - 1, by omega⟩
    rw [sc, if_pos (by omega)]
    by_cases he : i = len
    · subst he
      have z0 : z (escF y i).length = 0 := by rw [hj _ (by omega)]; exact fn_append_right (escF y i) [0, 0] 0
      have z1 : z ((escF y i).length + 1) = 0 := by rw [hj _ (by omega)]; exact fn_append_right (escF y i) [0, 0] 1
      rw [if_pos z0, if_neg (by omega), if_pos z1]
    · obtain ⟨r, hr⟩ := escF_split y len i (by omega)
      have hlen : (escF y len).length = (escF y i).length + ((esc (y i)).length + r.length) := by rw [hr]; simp
      have g : ∀ j, j < (esc (y i)).length → z ((escF y i).length + j) = fn (esc (y i)) j := fun j hjj => by
        rw [hj _ (by omega), hr, List.append_assoc, fn_append_right, List.append_assoc, fn_append_left _ _ _ hjj]
      have hs : (List.range (i + 1)).map y = (List.range i).map y ++ [y i] := by simp [List.range_succ]
      have hmost : ¬ ((len : Int) ≤ ((List.range i).map y).length) := by simp; omega
      by_cases h0 : y i = 0
      · have e2 : esc (y i) = [0, 255] := by rw [esc, if_pos h0]
        rw [e2] at g hlen
        have z0 : z (escF y i).length = 0 := g 0 (by simp)
        have z1 : z ((escF y i).length + 1) = 255 := g 1 (by simp)
        have hn1 : (escF y (i + 1)).length = (escF y i).length + 2 := by rw [escF, e2]; simp
        simp only [List.length_cons, List.length_nil] at hlen
        rw [if_pos z0, if_neg (by omega), if_neg (by omega), if_pos z1, if_neg hmost]
        have := sc_back ⟨by simpa using hl, by simpa using hj⟩ _hy (d - 1) (i + 1) f (by omega) (by omega) (by omega)
        rw [hs, hn1, h0] at this
        rw [z0]
        exact this
      · have e2 : esc (y i) = [y i] := by rw [esc, if_neg h0]
        rw [e2] at g hlen
        have z0 : z (escF y i).length = y i := g 0 (by simp)
        have hn1 : (escF y (i + 1)).length = (escF y i).length + 1 := by rw [escF, e2]; simp
        simp only [List.length_cons, List.length_nil] at hlen
        rw [if_neg (by rw [z0]; exact h0), if_neg hmost]
        have := sc_back ⟨by simpa using hl, by simpa using hj⟩ _hy (d - 1) (i + 1) f (by omega) (by omega) (by omega)
        rw [hs, hn1] at this
        rw [z0]
        exact this
  termination_by _ i => len - i
theorem b_back {n : Nat} {z y : Nat → Int} {len : Nat} (hp : Pre n z (escF y len ++ [0, 0])) (hy : ∀ j, j < len → 0 ≤ y j ∧ y j ≤ 255) :
    bR n z len = ((List.range len).map y, (escF y len ++ [0, 0]).length, 0) := by
  rw [bR, if_neg (by omega)]
  have := sc_back hp hy len 0 (n + 1) (by omega) (by omega) (by simp [escF])
  simpa [escF] using this
end Go.Proofs.YtmekplaonlpfkaaGreatDoor
/- What a Set laid is read back. -/
namespace Go.Proofs.YtmekplaonlpfkaaGreatDoor
open Go.RowKit Go.Maps Go.Sort

theorem sc_more {n : Nat} {z : Nat → Int} {m1 m2 : Int} (h : m1 ≤ m2) : ∀ (f q : Nat) (l : List Int), (sc n z m1 f q l).2.2 = 0 → sc n z m2 f q l = sc n z m1 f q l
  | 0, _, _, he => by simp [sc] at he
  | f + 1, q, l, he => by
    have ih := sc_more (n := n) (z := z) h f
    unfold sc at he ⊢
    by_cases h1 : q < n
    · rw [if_pos h1] at he ⊢; rw [if_pos h1]
      by_cases h2 : z q = 0
      · rw [if_pos h2] at he ⊢; rw [if_pos h2]
        by_cases h3 : q + 1 = n
        · rw [if_pos h3, if_pos h3]
        · rw [if_neg h3] at he ⊢; rw [if_neg h3]
          by_cases h4 : z (q + 1) = 0
          · rw [if_pos h4, if_pos h4]
          · rw [if_neg h4] at he ⊢; rw [if_neg h4]
            by_cases h5 : z (q + 1) = 255
            · rw [if_pos h5] at he ⊢; rw [if_pos h5]
              by_cases h6 : m1 ≤ l.length
              · rw [if_pos h6] at he; simp at he
              · rw [if_neg h6] at he ⊢; rw [if_neg (by omega)]; exact ih _ _ he
            · rw [if_neg h5, if_neg h5]
      · rw [if_neg h2] at he ⊢; rw [if_neg h2]
        by_cases h6 : m1 ≤ l.length
        · rw [if_pos h6] at he; simp at he
        · rw [if_neg h6] at he ⊢; rw [if_neg (by omega)]; exact ih _ _ he
    · rw [if_neg h1, if_neg h1]
theorem Pre.app (l t : List Int) : Pre (l ++ t).length (fn (l ++ t)) l := ⟨by simp, fun j hj => fn_append_left l t j hj⟩
theorem u_most {n : Nat} {z : Nat → Int} {m most : Int} (h0 : 0 ≤ m) (h1 : m ≤ 18446744073709551615) (hm : m ≤ most) (hp : Pre n z (uB m)) : uE n z most = 0 ∧ uV n z most = m ∧ uN n z most = (uB m).length := by
  obtain ⟨hE, hV, hN⟩ := u_back h0 h1 hp
  have hE2 : uE n z most = 0 := by
    rw [uV, if_pos hE] at hV
    unfold uE at hE ⊢
    split at hE
    · simp at hE
    · rename_i h2
      rw [if_neg h2]
      split at hE
      · simp at hE
      · rename_i h3
        rw [if_neg h3]
        split at hE
        · rename_i h4
          rw [if_pos h4, hV, if_neg (by omega)]
        · rename_i h4; exact absurd hE h4
  refine ⟨hE2, ?_, ?_⟩
  · rw [uV, if_pos hE] at hV; rw [uV, if_pos hE2, hV]
  · rw [uN, if_pos hE] at hN; rw [uN, if_pos hE2, hN]
theorem uintR_back {m most : Int} (h0 : 0 ≤ m) (h1 : m ≤ 18446744073709551615) (hm : m ≤ most) (t : List Int) : uintR most (uB m ++ t) = some (m, t) := by
  obtain ⟨hE, hV, hN⟩ := u_most h0 h1 hm (Pre.app (uB m) t)
  unfold uintR
  rw [if_pos hE, hV, hN, List.drop_left]
theorem countR_back {m most : Int} (h0 : 0 ≤ m) (h1 : m ≤ 18446744073709551615) (hm : m ≤ most) (t : List Int) (ht : m ≤ t.length) : countR most (uB m ++ t) = some (m, t) := by
  have hmx : max most 0 = most := by omega
  obtain ⟨hE, hV, hN⟩ := u_most (most := most) h0 h1 hm (Pre.app (uB m) t)
  have hE2 : cE (uB m ++ t).length (fn (uB m ++ t)) most = 0 := by
    unfold cE
    rw [hmx, if_pos hE, hN, hV, if_neg (by simp only [List.length_append]; omega)]
  unfold countR
  rw [if_pos hE2, cV, if_pos hE2, cN, if_pos hE2, hmx, hV, hN, List.drop_left]
theorem bytesR_back {u : List UInt8} (hu : u.length ≤ 4096) (t : List Int) : bytesR 4096 (encB u ++ t) = some (iU u, t) := by
  have hy : ∀ j, j < u.length → 0 ≤ fn (iU u) j ∧ fn (iU u) j ≤ 255 := fun j hj => fn_bd (iU_bd u) j (by rw [iU_length]; exact hj)
  have hb := b_back (Pre.app (encB u) t) hy
  have hl : (List.range u.length).map (fn (iU u)) = iU u := by
    apply List.ext_getElem
    · simp [iU_length]
    · intro j h1 h2
      simp [fn, h2]
  have hb2 : bR (encB u ++ t).length (fn (encB u ++ t)) 4096 = (iU u, (encB u).length, 0) := by
    rw [← hl]
    have e : (escF (fn (iU u)) u.length ++ [0, 0]).length = (encB u).length := rfl
    rw [← e, ← hb]
    have hs : (sc (encB u ++ t).length (fn (encB u ++ t)) (u.length : Int) ((encB u ++ t).length + 1) 0 []).2.2 = 0 := by
      rw [bR, if_neg (by omega)] at hb
      rw [hb]
    rw [bR, bR, if_neg (by omega), if_neg (by omega)]
    exact sc_more (by omega) _ _ _ hs
  unfold bytesR
  rw [hb2]
  simp
theorem uL_iU (u : List UInt8) : uL (iU u) = u := by
  unfold uL iU
  rw [List.map_map]
  have : (fun x : Int => UInt8.ofNat x.toNat) ∘ (fun x : UInt8 => (x.toNat : Int)) = id := by
    funext x; simp
  rw [this, List.map_id]
theorem leaf_back {k v : List UInt8} (hk : k.length ≤ 4096) (hv : v.length ≤ 4096) : leafK (leafB k v) = k ∧ leafV (leafB k v) = v ∧ leafE (leafB k v) = some [] := by
  have h1 : bytesR 4096 (leafB k v) = some (iU k, encB v) := bytesR_back hk (encB v)
  have h2 : bytesR 4096 (encB v) = some (iU v, []) := by have := bytesR_back hv []; rwa [List.append_nil] at this
  have hq : leafQ (leafB k v) = some (encB v) := by unfold leafQ; rw [Option.bind_some, h1]; rfl
  refine ⟨?_, ?_, ?_⟩
  · unfold leafK; rw [Option.bind_some, h1]; simp [uL_iU]
  · unfold leafV; rw [hq, Option.bind_some, h2]; simp [uL_iU]
  · unfold leafE; rw [hq, Option.bind_some, h2]; rfl
end Go.Proofs.YtmekplaonlpfkaaGreatDoor
/- The document's number: so many bytes behind the first one. -/
namespace Go.Proofs.YtmekplaonlpfkaaGreatDoor
open Go.RowKit

set_option maxHeartbeats 400000 in
theorem refnum_short (ad : Option Addr) (n cap k : Nat) (t : Bool) (w : World) (h : n < 1 + k) (_hk8 : k ≤ 8) :
    Calls Tryz.prog 70 #[.slice ad n cap, .int .i64 k, .bool t] w fun e w' => e = .returned (.tuple #[.int .u64 0, .int .i64 12]) ∧ w' = w := by
  go_enter Tryz.func70, Tryz.ntmps70
  go_wp2
  go_ret2
  exact ⟨rfl, rfl⟩

set_option maxHeartbeats 400000 in
theorem refnum_more_false (b off n cap k : Nat) (z : Nat → Int) (w : World) (hk : k < n) (hk8 : k ≤ 8) (_hlc : n ≤ cap) (_hn : n ≤ 140737488351232) (h0 : 0 < k → behind false z 0 ≠ 0)
    (hz : ∀ j, j < n → 0 ≤ z j ∧ z j ≤ 255) (hc : ∀ j, j < n → w.cell? ⟨b, off + j, none⟩ = some (.int .u8 (z j))) :
    Calls Tryz.prog 70 #[.slice (some ⟨b, off, none⟩) n cap, .int .i64 k, .bool false] w fun e w' => e = .returned (.tuple #[.int .u64 (valF (behind false z) k), .int .i64 0]) ∧ w' = w := by
  have H0 : Hid (0 < k → behind false z 0 ≠ 0) := h0
  clear h0
  go_enter Tryz.func70, Tryz.ntmps70
  go_wp2
  go_loop [8, 9] (fun m i => ∃ q : Nat, q ≤ k ∧ i = .int .i64 (q + 1) ∧ m = .int .u64 (valF (behind false z) q)) (fun _ i => k + 1 - (intOf i).toNat)
  case atStart => exact ⟨0, Nat.zero_le _, rfl, rfl⟩
  case round =>
    obtain ⟨q, hq, rfl, rfl⟩ := hrel
    by_cases hlt : q < k
    · have hcq := hc (q + 1) (by omega)
      have hzq := hz (q + 1) (by omega)
      have hb := valF_lt7 (f := behind false z) (k := q) (by omega) (fun j hj => trn_bd (hz _ (by omega)))
      have hb2 := valF_lt (f := behind false z) (k := q + 1) (by omega) (fun j hj => trn_bd (hz _ (by omega)))
      have HS : Hid (256 * valF (behind false z) q + (z (q + 1)) = valF (behind false z) (q + 1)) := rfl
      have hb3 : 256 * valF (behind false z) q + (z (q + 1)) ≤ 18446744073709551615 := by rw [HS.out]; exact hb2.2
      clear hb2
      by_cases hq0 : q = 0
      · subst hq0
        have hx : ((z (0 + 1)) == 0) = false := by
          have := H0.out (by omega)
          simp [behind, trn] at this
          simpa using this
        simp only [Nat.zero_add] at *
        go_wp2
        go_round
        case rel => exact ⟨1, by omega, rfl, rfl⟩
        case measure => simp [intOf]; omega
      · have hq1 : (((q : Int) + 1) == 1) = false := by simp; omega
        go_wp2
        go_round
        case rel => exact ⟨q + 1, by omega, by go_num, by rw [HS.out]⟩
        case measure => simp [intOf]; omega
    · have : q = k := by omega
      subst this
      go_wp2
      go_ret2
      exact ⟨rfl, rfl⟩

set_option maxHeartbeats 400000 in
theorem refnum_more_true (b off n cap k : Nat) (z : Nat → Int) (w : World) (hk : k < n) (hk8 : k ≤ 8) (_hlc : n ≤ cap) (_hn : n ≤ 140737488351232) (h0 : 0 < k → behind true z 0 ≠ 0)
    (hz : ∀ j, j < n → 0 ≤ z j ∧ z j ≤ 255) (hc : ∀ j, j < n → w.cell? ⟨b, off + j, none⟩ = some (.int .u8 (z j))) :
    Calls Tryz.prog 70 #[.slice (some ⟨b, off, none⟩) n cap, .int .i64 k, .bool true] w fun e w' => e = .returned (.tuple #[.int .u64 (valF (behind true z) k), .int .i64 0]) ∧ w' = w := by
  have H0 : Hid (0 < k → behind true z 0 ≠ 0) := h0
  clear h0
  go_enter Tryz.func70, Tryz.ntmps70
  go_wp2
  go_loop [8, 9] (fun m i => ∃ q : Nat, q ≤ k ∧ i = .int .i64 (q + 1) ∧ m = .int .u64 (valF (behind true z) q)) (fun _ i => k + 1 - (intOf i).toNat)
  case atStart => exact ⟨0, Nat.zero_le _, rfl, rfl⟩
  case round =>
    obtain ⟨q, hq, rfl, rfl⟩ := hrel
    by_cases hlt : q < k
    · have hcq := hc (q + 1) (by omega)
      have hzq := hz (q + 1) (by omega)
      have hb := valF_lt7 (f := behind true z) (k := q) (by omega) (fun j hj => trn_bd (hz _ (by omega)))
      have hb2 := valF_lt (f := behind true z) (k := q + 1) (by omega) (fun j hj => trn_bd (hz _ (by omega)))
      have HS : Hid (256 * valF (behind true z) q + (255 - z (q + 1)) = valF (behind true z) (q + 1)) := rfl
      have hb3 : 256 * valF (behind true z) q + (255 - z (q + 1)) ≤ 18446744073709551615 := by rw [HS.out]; exact hb2.2
      clear hb2
      by_cases hq0 : q = 0
      · subst hq0
        have hx : ((255 - z (0 + 1)) == 0) = false := by
          have := H0.out (by omega)
          simp [behind, trn] at this
          simpa using this
        simp only [Nat.zero_add] at *
        go_wp2
        go_round
        case rel => exact ⟨1, by omega, rfl, rfl⟩
        case measure => simp [intOf]; omega
      · have hq1 : (((q : Int) + 1) == 1) = false := by simp; omega
        go_wp2
        go_round
        case rel => exact ⟨q + 1, by omega, by go_num, by rw [HS.out]⟩
        case measure => simp [intOf]; omega
    · have : q = k := by omega
      subst this
      go_wp2
      go_ret2
      exact ⟨rfl, rfl⟩


set_option maxHeartbeats 400000 in
theorem refnum_form_false (b off n cap k : Nat) (z : Nat → Int) (w : World) (hk : k < n) (hk8 : k ≤ 8) (_hlc : n ≤ cap) (_hn : n ≤ 140737488351232) (hk0 : 0 < k) (hx : ((z 1) == 0) = true) (_hz1 : 0 ≤ z 1 ∧ z 1 ≤ 255)
    (hc : w.cell? ⟨b, off + 1, none⟩ = some (.int .u8 (z 1))) :
    Calls Tryz.prog 70 #[.slice (some ⟨b, off, none⟩) n cap, .int .i64 k, .bool false] w fun e w' => e = .returned (.tuple #[.int .u64 0, .int .i64 3]) ∧ w' = w := by
  go_enter Tryz.func70, Tryz.ntmps70
  go_wp2
  refine wp_loop_rounds 1 ?_
  rw [rounds_succ]
  go_wp2
  go_ret2
  exact ⟨rfl, rfl⟩

set_option maxHeartbeats 400000 in
theorem refnum_form_true (b off n cap k : Nat) (z : Nat → Int) (w : World) (hk : k < n) (hk8 : k ≤ 8) (_hlc : n ≤ cap) (_hn : n ≤ 140737488351232) (hk0 : 0 < k) (hx : ((255 - z 1) == 0) = true) (_hz1 : 0 ≤ z 1 ∧ z 1 ≤ 255)
    (hc : w.cell? ⟨b, off + 1, none⟩ = some (.int .u8 (z 1))) :
    Calls Tryz.prog 70 #[.slice (some ⟨b, off, none⟩) n cap, .int .i64 k, .bool true] w fun e w' => e = .returned (.tuple #[.int .u64 0, .int .i64 3]) ∧ w' = w := by
  go_enter Tryz.func70, Tryz.ntmps70
  go_wp2
  refine wp_loop_rounds 1 ?_
  rw [rounds_succ]
  go_wp2
  go_ret2
  exact ⟨rfl, rfl⟩

theorem refnum_any (b off n cap : Nat) (k : Int) (t : Bool) (z : Nat → Int) (w : World) (hn0 : 0 < n) (h0 : 0 ≤ k) (h8 : k ≤ 8) (hlc : n ≤ cap) (hn : n ≤ 140737488351232)
    (hz : ∀ j, j < n → 0 ≤ z j ∧ z j ≤ 255) (hc : ∀ j, j < n → w.cell? ⟨b, off + j, none⟩ = some (.int .u8 (z j))) :
    Calls Tryz.prog 70 #[.slice (some ⟨b, off, none⟩) n cap, .int .i64 k, .bool t] w fun e w' =>
      e = .returned (.tuple #[.int .u64 (numV (n - 1) (behind t z) k.toNat), .int .i64 (numE (n - 1) (behind t z) k.toNat)]) ∧ w' = w := by
  obtain ⟨q, rfl⟩ := Int.eq_ofNat_of_zero_le h0
  rw [Int.toNat_natCast]
  by_cases h1 : n - 1 < q
  · have e : numE (n - 1) (behind t z) q = 12 := by simp [numE, h1]
    rw [numV, e, if_neg (by decide)]
    exact refnum_short _ n cap q t w (by omega) (by omega)
  · by_cases h2 : 0 < q ∧ behind t z 0 = 0
    · have e : numE (n - 1) (behind t z) q = 3 := by simp [numE, h1, h2]
      rw [numV, e, if_neg (by decide)]
      have hb := h2.2
      cases t
      · exact refnum_form_false b off n cap q z w (by omega) (by omega) hlc hn h2.1 (by simpa [behind, trn] using hb) (hz 1 (by omega)) (hc 1 (by omega))
      · exact refnum_form_true b off n cap q z w (by omega) (by omega) hlc hn h2.1 (by simpa [behind, trn] using hb) (hz 1 (by omega)) (hc 1 (by omega))
    · have e : numE (n - 1) (behind t z) q = 0 := by simp only [numE]; rw [if_neg h1, if_neg h2]
      rw [numV, e, if_pos rfl]
      cases t
      · exact refnum_more_false b off n cap q z w (by omega) (by omega) hlc hn (fun h e => h2 ⟨h, e⟩) hz hc
      · exact refnum_more_true b off n cap q z w (by omega) (by omega) hlc hn (fun h e => h2 ⟨h, e⟩) hz hc
end Go.Proofs.YtmekplaonlpfkaaGreatDoor
/- The document's readers: ReadUint and ReadInt. -/
namespace Go.Proofs.YtmekplaonlpfkaaGreatDoor
open Go.RowKit

/-- What a document's reader answers that has taken k bytes off. -/
def RefTook (w : World) (ad : Option Addr) (n cap k : Nat) (v : Value) (e : Ending) (w' : World) : Prop :=
  ∃ ad', (ad' = ad ∧ cap = k ∨ ad' = Option.map (fun x => x.add k) ad) ∧ e = .returned (.tuple #[.agg #[.slice ad' (n - k) (cap - k), .int .i64 0], v]) ∧ Below w.heap.size w w'
theorem RefTook.all {w w' : World} {ad : Option Addr} {n k : Nat} {v : Value} (h : Below w.heap.size w w') : RefTook w ad n k k v (.returned (.tuple #[.agg #[.slice ad (n - k) 0, .int .i64 0], v])) w' := ⟨ad, .inl ⟨rfl, rfl⟩, by simp, h⟩
theorem RefTook.part {w w' : World} {b off n cap k : Nat} {v : Value} (h : Below w.heap.size w w') : RefTook w (some ⟨b, off, none⟩) n cap k v (.returned (.tuple #[.agg #[.slice (some ⟨b, off + k, none⟩) (n - k) (cap - k), .int .i64 0], v])) w' := ⟨_, .inr rfl, by simp [Addr.add_lit], h⟩

set_option maxHeartbeats 400000 in
theorem fail_0 (a : Option Addr) (n c : Nat) (e : Int) (w : World) :
    Calls Tryz.prog 69 #[.agg #[.slice a n c, .int .i64 0], .int .i64 e] w fun ev w' => ev = .returned (.agg #[.slice a n c, .int .i64 e]) ∧ w' = (w.alloc (.cells #[.slice a n c, .int .i64 e] 89)).alloc (.cells #[.slice a n c, .int .i64 e] 89) := by
  go_enter Tryz.func69, Tryz.ntmps69
  go_wp2
  exact bodyPost_ret (v := .agg #[.slice a n c, .int .i64 e]) (by simp [results, Tryz.results69, go_sem]) rfl ⟨rfl, rfl⟩

set_option maxHeartbeats 400000 in
theorem refUint_nil (ad : Option Addr) (cap : Nat) (most : Int) (w : World) :
    Calls Tryz.prog 39 #[.agg #[.slice ad 0 cap, .int .i64 0], .int .u64 most] w fun e w' =>
      e = .returned (.tuple #[.agg #[.slice ad 0 cap, .int .i64 12], .int .u64 0]) ∧ Below w.heap.size w w' := by
  go_enter Tryz.func39, Tryz.ntmps39
  go_wp2_with (go_at_call 69; refine (fail_0 _ _ _ _ _).mono ?_; rintro e w1 ⟨rfl, rfl⟩)
  refine bodyPost_ret (v := .tuple #[.agg #[.slice ad 0 cap, .int .i64 12], .int .u64 0]) (by simp [results, Tryz.results39, go_sem]) rfl ⟨rfl, (by repeat (first | exact Below.refl _ _ | refine Below.alloc ?_ (by simp; try omega) _ | refine Below.setCell ?_ (by simp) _ | refine below_drewN ?_ _ | refine Below.drew ?_))⟩

set_option maxHeartbeats 400000 in
theorem refUint_wide (b off n cap : Nat) (most : Int) (z : Nat → Int) (w : World) (hn : 0 < n) (hc : w.cell? ⟨b, off, none⟩ = some (.int .u8 (z 0))) (h8 : 8 < z 0) :
    Calls Tryz.prog 39 #[.agg #[.slice (some ⟨b, off, none⟩) n cap, .int .i64 0], .int .u64 most] w fun e w' =>
      e = .returned (.tuple #[.agg #[.slice (some ⟨b, off, none⟩) n cap, .int .i64 3], .int .u64 0]) ∧ Below w.heap.size w w' := by
  have hlt : b < w.heap.size := World.block_lt_of_cell? w _ hc
  go_enter Tryz.func39, Tryz.ntmps39
  go_wp2_with (go_at_call 69; refine (fail_0 _ _ _ _ _).mono ?_; rintro e w1 ⟨rfl, rfl⟩)
  refine bodyPost_ret (v := .tuple #[.agg #[.slice (some ⟨b, off, none⟩) n cap, .int .i64 3], .int .u64 0]) (by simp [results, Tryz.results39, go_sem]) rfl ⟨rfl, (by repeat (first | exact Below.refl _ _ | refine Below.alloc ?_ (by simp; try omega) _ | refine Below.setCell ?_ (by simp) _ | refine below_drewN ?_ _ | refine Below.drew ?_))⟩

set_option maxHeartbeats 400000 in
theorem refUint_err (b off n cap : Nat) (most : Int) (z : Nat → Int) (er : Int) (w : World) (hn : 0 < n) (hlc : n ≤ cap) (hnm : n ≤ 140737488351232) (hz : ∀ j, j < n → 0 ≤ z j ∧ z j ≤ 255) (hc : ∀ j, j < n → w.cell? ⟨b, off + j, none⟩ = some (.int .u8 (z j))) (h8 : z 0 ≤ 8)
    (hE : numE (n - 1) (behind false z) (z 0).toNat = er) (he : (er == 0) = false) :
    Calls Tryz.prog 39 #[.agg #[.slice (some ⟨b, off, none⟩) n cap, .int .i64 0], .int .u64 most] w fun e w' =>
      e = .returned (.tuple #[.agg #[.slice (some ⟨b, off, none⟩) n cap, .int .i64 er], .int .u64 0]) ∧ Below w.heap.size w w' := by
  have c0 : w.cell? ⟨b, off, none⟩ = some (.int .u8 (z 0)) := by simpa using hc 0 hn
  have hlt : b < w.heap.size := World.block_lt_of_cell? w _ c0
  have hz0 := hz 0 hn
  have hc2 : ∀ wx : World, Below w.heap.size w wx → ∀ j, j < n → wx.cell? ⟨b, off + j, none⟩ = some (.int .u8 (z j)) := fun wx hb j hj => by rw [hb.cell (p := ⟨b, off + j, none⟩) hlt]; exact hc j hj
  have HC : Hid (∀ wx : World, Below w.heap.size w wx → ∀ j, j < n → wx.cell? ⟨b, off + j, none⟩ = some (.int .u8 (z j))) := hc2
  have HZ : Hid (∀ j, j < n → 0 ≤ z j ∧ z j ≤ 255) := hz
  clear hc hc2 hz
  have hn1 : (1 : Int) ≤ (n : Int) := by omega
  go_enter Tryz.func39, Tryz.ntmps39
  go_wp2_with fail
  go_quiet ((go_at_call 70; exact Calls.quiet_of_same (refnum_any b off n cap (z 0) false z _ hn hz0.1 h8 hlc hnm HZ.out (HC.out _ (by repeat (first | exact Below.refl _ _ | refine Below.alloc ?_ (by simp; try omega) _ | refine Below.setCell ?_ (by simp) _ | refine below_drewN ?_ _ | refine Below.drew ?_))))))
  go_wp2_with (go_at_call 69; refine (fail_0 _ _ _ _ _).mono ?_; rintro e w1 ⟨rfl, rfl⟩)
  refine bodyPost_ret (v := .tuple #[.agg #[.slice (some ⟨b, off, none⟩) n cap, .int .i64 er], .int .u64 0]) (by simp [results, Tryz.results39, go_sem]) rfl ⟨rfl, (by repeat (first | exact Below.refl _ _ | refine Below.alloc ?_ (by simp; try omega) _ | refine Below.setCell ?_ (by simp) _ | refine below_drewN ?_ _ | refine Below.drew ?_))⟩

set_option maxHeartbeats 400000 in
theorem refUint_range (b off n cap : Nat) (most : Int) (z : Nat → Int) (w : World) (hn : 0 < n) (hlc : n ≤ cap) (hnm : n ≤ 140737488351232) (hz : ∀ j, j < n → 0 ≤ z j ∧ z j ≤ 255) (hc : ∀ j, j < n → w.cell? ⟨b, off + j, none⟩ = some (.int .u8 (z j))) (h8 : z 0 ≤ 8)
    (hE : numE (n - 1) (behind false z) (z 0).toNat = 0) (hm : most < numV (n - 1) (behind false z) (z 0).toNat) :
    Calls Tryz.prog 39 #[.agg #[.slice (some ⟨b, off, none⟩) n cap, .int .i64 0], .int .u64 most] w fun e w' =>
      e = .returned (.tuple #[.agg #[.slice (some ⟨b, off, none⟩) n cap, .int .i64 4], .int .u64 0]) ∧ Below w.heap.size w w' := by
  have c0 : w.cell? ⟨b, off, none⟩ = some (.int .u8 (z 0)) := by simpa using hc 0 hn
  have hlt : b < w.heap.size := World.block_lt_of_cell? w _ c0
  have hz0 := hz 0 hn
  have hc2 : ∀ wx : World, Below w.heap.size w wx → ∀ j, j < n → wx.cell? ⟨b, off + j, none⟩ = some (.int .u8 (z j)) := fun wx hb j hj => by rw [hb.cell (p := ⟨b, off + j, none⟩) hlt]; exact hc j hj
  have HC : Hid (∀ wx : World, Below w.heap.size w wx → ∀ j, j < n → wx.cell? ⟨b, off + j, none⟩ = some (.int .u8 (z j))) := hc2
  have HZ : Hid (∀ j, j < n → 0 ≤ z j ∧ z j ≤ 255) := hz
  clear hc hc2 hz
  have hn1 : (1 : Int) ≤ (n : Int) := by omega
  go_enter Tryz.func39, Tryz.ntmps39
  go_wp2_with fail
  go_quiet ((go_at_call 70; exact Calls.quiet_of_same (refnum_any b off n cap (z 0) false z _ hn hz0.1 h8 hlc hnm HZ.out (HC.out _ (by repeat (first | exact Below.refl _ _ | refine Below.alloc ?_ (by simp; try omega) _ | refine Below.setCell ?_ (by simp) _ | refine below_drewN ?_ _ | refine Below.drew ?_))))))
  go_wp2_with (go_at_call 69; refine (fail_0 _ _ _ _ _).mono ?_; rintro e w1 ⟨rfl, rfl⟩)
  refine bodyPost_ret (v := .tuple #[.agg #[.slice (some ⟨b, off, none⟩) n cap, .int .i64 4], .int .u64 0]) (by simp [results, Tryz.results39, go_sem]) rfl ⟨rfl, (by repeat (first | exact Below.refl _ _ | refine Below.alloc ?_ (by simp; try omega) _ | refine Below.setCell ?_ (by simp) _ | refine below_drewN ?_ _ | refine Below.drew ?_))⟩

set_option maxHeartbeats 400000 in
theorem refUint_ok (b off n cap : Nat) (most : Int) (z : Nat → Int) (w : World) (hn : 0 < n) (hlc : n ≤ cap) (hnm : n ≤ 140737488351232) (hz : ∀ j, j < n → 0 ≤ z j ∧ z j ≤ 255) (hc : ∀ j, j < n → w.cell? ⟨b, off + j, none⟩ = some (.int .u8 (z j))) (h8 : z 0 ≤ 8)
    (hE : numE (n - 1) (behind false z) (z 0).toNat = 0) (hm : ¬ most < numV (n - 1) (behind false z) (z 0).toNat) (hkn : 1 + z 0 ≤ n) :
    Calls Tryz.prog 39 #[.agg #[.slice (some ⟨b, off, none⟩) n cap, .int .i64 0], .int .u64 most] w fun e w' =>
      RefTook w (some ⟨b, off, none⟩) n cap (1 + z 0).toNat (.int .u64 (numV (n - 1) (behind false z) (z 0).toNat)) e w' := by
  have c0 : w.cell? ⟨b, off, none⟩ = some (.int .u8 (z 0)) := by simpa using hc 0 hn
  have hlt : b < w.heap.size := World.block_lt_of_cell? w _ c0
  have hz0 := hz 0 hn
  have hc2 : ∀ wx : World, Below w.heap.size w wx → ∀ j, j < n → wx.cell? ⟨b, off + j, none⟩ = some (.int .u8 (z j)) := fun wx hb j hj => by rw [hb.cell (p := ⟨b, off + j, none⟩) hlt]; exact hc j hj
  have HC : Hid (∀ wx : World, Below w.heap.size w wx → ∀ j, j < n → wx.cell? ⟨b, off + j, none⟩ = some (.int .u8 (z j))) := hc2
  have HZ : Hid (∀ j, j < n → 0 ≤ z j ∧ z j ≤ 255) := hz
  clear hc hc2 hz
  have hn1 : (1 : Int) ≤ (n : Int) := by omega
  go_enter Tryz.func39, Tryz.ntmps39
  go_wp2_with fail
  go_quiet ((go_at_call 70; exact Calls.quiet_of_same (refnum_any b off n cap (z 0) false z _ hn hz0.1 h8 hlc hnm HZ.out (HC.out _ (by repeat (first | exact Below.refl _ _ | refine Below.alloc ?_ (by simp; try omega) _ | refine Below.setCell ?_ (by simp) _ | refine below_drewN ?_ _ | refine Below.drew ?_))))))
  go_wp2
  have hk0 : (0 : Int) ≤ 1 + z 0 := by omega
  have hlc1 : (n : Int) ≤ (cap : Int) := by omega
  go_region
  all_goals go_wp2
  · subst h
    exact bodyPost_ret (v := .tuple #[.agg #[.slice (some ⟨b, off, none⟩) (n - (1 + z 0).toNat) 0, .int .i64 0], .int .u64 (numV (n - 1) (behind false z) (z 0).toNat)]) (by simp [results, Tryz.results39, go_sem]) rfl (RefTook.all (by repeat (first | exact Below.refl _ _ | refine Below.alloc ?_ (by simp; try omega) _ | refine Below.setCell ?_ (by simp) _ | refine below_drewN ?_ _ | refine Below.drew ?_)))
  · exact bodyPost_ret (v := .tuple #[.agg #[.slice (some ⟨b, off + (1 + z 0).toNat, none⟩) (n - (1 + z 0).toNat) (cap - (1 + z 0).toNat), .int .i64 0], .int .u64 (numV (n - 1) (behind false z) (z 0).toNat)]) (by simp [results, Tryz.results39, go_sem]) rfl (RefTook.part (by repeat (first | exact Below.refl _ _ | refine Below.alloc ?_ (by simp; try omega) _ | refine Below.setCell ?_ (by simp) _ | refine below_drewN ?_ _ | refine Below.drew ?_)))
end Go.Proofs.YtmekplaonlpfkaaGreatDoor
/- The document's reader ReadInt. -/
namespace Go.Proofs.YtmekplaonlpfkaaGreatDoor
open Go.RowKit

/-- What a document's reader answers: the reader behind, its error, the value. -/
def RefPost (w : World) (n : Nat) (z : Nat → Int) (k : Nat) (er : Int) (v : Value) (e : Ending) (w' : World) : Prop :=
  ∃ ad cap, e = .returned (.tuple #[.agg #[.slice ad (n - k) cap, .int .i64 er], v]) ∧ n - k ≤ cap ∧ SlAt w ad (n - k) (fun j => z (j + k)) ∧ Below w.heap.size w w'

theorem RefTook.post {w w' : World} {b off n cap k : Nat} {z : Nat → Int} {v : Value} {e : Ending} (h : RefTook w (some ⟨b, off, none⟩) n cap k v e w') (hlc : n ≤ cap) (hkn : k ≤ n) (hs : SlAt w (some ⟨b, off, none⟩) n z) : RefPost w n z k 0 v e w' := by
  obtain ⟨ad', he, rfl, hb⟩ := h
  refine ⟨ad', cap - k, rfl, by omega, ?_, hb⟩
  rcases he with ⟨rfl, hc⟩ | rfl
  · rw [show n - k = 0 from by omega]; exact SlAt.zero _ _
  · exact hs.drop

theorem RefPost.err {w w' : World} {ad : Option Addr} {n cap : Nat} {z : Nat → Int} {er : Int} {v : Value} (hlc : n ≤ cap) (hs : SlAt w ad n z) (hb : Below w.heap.size w w') : RefPost w n z 0 er v (.returned (.tuple #[.agg #[.slice ad n cap, .int .i64 er], v])) w' :=
  ⟨ad, cap, rfl, hlc, hs, hb⟩

theorem refUint_any (ad : Option Addr) (n cap : Nat) (most : Int) (z : Nat → Int) (w : World) (hlc : n ≤ cap) (hnm : n ≤ 140737488351232) (hs : SlAt w ad n z) :
    Calls Tryz.prog 39 #[.agg #[.slice ad n cap, .int .i64 0], .int .u64 most] w fun e w' => RefPost w n z (uN n z most) (uE n z most) (.int .u64 (uV n z most)) e w' := by
  have hs0 := hs
  obtain ⟨hz, hs⟩ := hs
  by_cases hn : n = 0
  · subst hn
    have e : uE 0 z most = 12 := by simp [uE]
    rw [uV, uN, e, if_neg (by decide), if_neg (by decide)]
    exact (refUint_nil ad cap most w).mono fun e w' ⟨h1, h2⟩ => by rw [h1]; exact RefPost.err hlc hs0 h2
  · obtain ⟨b, off, rfl, hc⟩ := hs (by omega)
    have c0 : w.cell? ⟨b, off, none⟩ = some (.int .u8 (z 0)) := by simpa using hc 0 (by omega)
    by_cases h8 : 8 < z 0
    · have e : uE n z most = 3 := by simp [uE, hn, h8]
      rw [uV, uN, e, if_neg (by decide), if_neg (by decide)]
      exact (refUint_wide b off n cap most z w (by omega) c0 h8).mono fun e w' ⟨h1, h2⟩ => by rw [h1]; exact RefPost.err hlc hs0 h2
    · have hz0 := hz 0 (by omega)
      by_cases hE : numE (n - 1) (behind false z) (z 0).toNat = 0
      · by_cases hm : most < numV (n - 1) (behind false z) (z 0).toNat
        · have e : uE n z most = 4 := by simp [uE, hn, h8, hE, hm]
          rw [uV, uN, e, if_neg (by decide), if_neg (by decide)]
          exact (refUint_range b off n cap most z w (by omega) hlc hnm hz hc (by omega) hE hm).mono fun e w' ⟨h1, h2⟩ => by rw [h1]; exact RefPost.err hlc hs0 h2
        · have e : uE n z most = 0 := by simp [uE, hn, h8, hE, hm]
          have hle := uN_le e
          rw [uN, if_pos e] at hle
          rw [uV, uN, e, if_pos rfl, if_pos rfl]
          have hw : (1 + z 0).toNat = 1 + (z 0).toNat := by omega
          have := refUint_ok b off n cap most z w (by omega) hlc hnm hz hc (by omega) hE hm (by omega)
          rw [hw] at this
          exact this.mono fun e w' h => h.post hlc hle hs0
      · have e : uE n z most = numE (n - 1) (behind false z) (z 0).toNat := by simp [uE, hn, h8, hE]
        rw [uV, uN, e, if_neg hE, if_neg hE]
        exact (refUint_err b off n cap most z _ w (by omega) hlc hnm hz hc (by omega) rfl (by simp [hE])).mono fun e w' ⟨h1, h2⟩ => by rw [h1]; exact RefPost.err hlc hs0 h2

end Go.Proofs.YtmekplaonlpfkaaGreatDoor
/- The document's ReadBytes. -/
namespace Go.Proofs.YtmekplaonlpfkaaGreatDoor
open Go.RowKit

/-- What the document's ReadBytes answers: the reader behind, the bytes. -/
def RBPost (w : World) (n : Nat) (z : Nat → Int) (r : List Int × Nat × Int) (e : Ending) (w' : World) : Prop :=
  ∃ ad cap ad1 cap1, e = .returned (.tuple #[.agg #[.slice ad (n - r.2.1) cap, .int .i64 r.2.2], .slice ad1 r.1.length cap1]) ∧ n - r.2.1 ≤ cap ∧ SlAt w ad (n - r.2.1) (fun j => z (j + r.2.1)) ∧ Fresh w w' ad1 cap1 r.1
theorem RBPost.err {w w' : World} {ad : Option Addr} {n cap : Nat} {z : Nat → Int} {er : Int} (hlc : n ≤ cap) (hs : SlAt w ad n z) (hb : Below w.heap.size w w') :
    RBPost w n z ([], 0, er) (.returned (.tuple #[.agg #[.slice ad n cap, .int .i64 er], .slice none 0 0])) w' := ⟨ad, cap, none, 0, rfl, hlc, hs, Fresh.nil hb⟩

theorem fail_b (a : Option Addr) (n c : Nat) (e : Int) (w : World) :
    Calls Tryz.prog 69 #[.agg #[.slice a n c, .int .i64 0], .int .i64 e] w fun ev w' => ev = .returned (.agg #[.slice a n c, .int .i64 e]) ∧ Below w.heap.size w w' :=
  (fail_0 a n c e w).mono fun ev w' ⟨h1, h2⟩ => ⟨h1, by rw [h2]; exact ((Below.refl _ w).alloc (Nat.le_refl _) _).alloc (by simp) _⟩
theorem two_allocs_0 (w : World) (o o' : Obj) : ((w.alloc o).alloc o').heap[w.heap.size]? = some o := by
  rw [Below.heap_alloc _ _ _ (by simp)]; exact heap_alloc_new w o
theorem two_allocs_1 (w : World) (o o' : Obj) : ((w.alloc o).alloc o').heap[w.heap.size + 1]? = some o' := by
  have := heap_alloc_new (w.alloc o) o'
  simpa using this

theorem fresh_two {w wr w2 : World} {ad : Option Addr} {cp : Nat} {l : List Int} (h : wr.ownsRow (w.heap.size + 2) 5 1 (.slice ad l.length cp) l.length (l.map (Value.int .u8))) (hx : ∀ x, x ∈ l → 0 ≤ x ∧ x ≤ 255) (hb : Below w.heap.size w wr)
    (hF : Frm [w.heap.size, w.heap.size + 1] wr w2) : Fresh w w2 ad cp l := by
  rw [map_bl] at h
  obtain ⟨ad', cap', e, h1, h2, h3, h4⟩ := own_SlAt (fn_bd hx) h
  cases e
  refine ⟨h1, h2.frm hF (fun b off _ e hm => ?_), h3, (fun a e => by have := h4 a e; omega), hb.trans (hF.below hb.size (fun k hk => by simp at hk; omega))⟩
  have := h4 _ e
  simp at this hm
  omega

set_option maxRecDepth 100000 in
set_option maxHeartbeats 400000 in
theorem refBytes_neg (a0 : Option Addr) (n cap : Nat) (most : Int) (w : World) (h : most < 0) :
    Calls Tryz.prog 40 #[.agg #[.slice a0 n cap, .int .i64 0], .int .i64 most] w fun e w' =>
      e = .returned (.tuple #[.agg #[.slice a0 n cap, .int .i64 1], .slice none 0 0]) ∧ Below w.heap.size w w' := by
  go_enter Tryz.func40, Tryz.ntmps40
  go_wp2_with (go_at_call 69; refine (fail_0 _ _ _ _ _).mono ?_; rintro e wf ⟨rfl, rfl⟩)
  exact bodyPost_ret (v := .tuple #[.agg #[.slice a0 n cap, .int .i64 1], .slice none 0 0]) (by simp [results, Tryz.results40, go_sem]) rfl ⟨rfl, (by repeat (first | exact Below.refl _ _ | refine Below.alloc ?_ (by simp; try omega) _ | refine Below.setCell ?_ (by simp) _))⟩

set_option maxRecDepth 100000 in
set_option maxHeartbeats 1600000 in
theorem refBytes_loop (a0 : Option Addr) (n cap : Nat) (z : Nat → Int) (most : Int) (w : World) (h0 : 0 ≤ most) (_hlc : n ≤ cap) (hn : n ≤ 140737488351232) (hs : SlAt w a0 n z) :
    Calls Tryz.prog 40 #[.agg #[.slice a0 n cap, .int .i64 0], .int .i64 most] w fun e w' => RBPost w n z (sc n z most (n + 1) 0 []) e w' := by
  obtain ⟨i0, hi0, hz0, hz1, hz2⟩ := info_parts Tryz.infoB
  have H : Hid (Tryz.prog.info? 5 = some i0 ∧ i0.zero = some (.int .u8 0) ∧ i0.size = 1 ∧ i0.bytes = 1) := ⟨hi0, hz0, hz1, hz2⟩
  clear hi0 hz0 hz1 hz2
  have HS : Hid (SlAt w a0 n z) := hs
  clear hs
  generalize hR : sc n z most (n + 1) 0 [] = R
  have HR : Hid (sc n z most (n + 1) 0 [] = R) := hR
  clear hR
  go_enter Tryz.func40, Tryz.ntmps40
  go_wp2
  go_loopw [6, 7] (fun v i wr => ∃ (q f : Nat) (l : List Int), q ≤ n ∧ i = .int .i64 q ∧ n + 1 ≤ f + q ∧ l.length ≤ q ∧ (l.length : Int) ≤ most ∧ (∀ x, x ∈ l → 0 ≤ x ∧ x ≤ 255) ∧ sc n z most f q l = R ∧ wr.ownsRow (w.heap.size + 2) 5 1 v l.length (l.map (Value.int .u8)) ∧ Below w.heap.size w wr ∧
      wr.heap[w.heap.size]? = some (.cells #[.slice a0 n cap, .int .i64 0] 89 (0, 0)) ∧ wr.heap[w.heap.size + 1]? = some (.cells #[.slice none 0 0, .int .i64 0] 89 (0, 0))) (fun _ i _ => n + 1 - (intOf i).toNat)
  case atStart => exact ⟨0, n + 1, [], Nat.zero_le _, rfl, by omega, by simp, by simpa using h0, by simp, HR.out, World.ownsRow_nil _ _ _ _, ((Below.refl _ w).alloc (Nat.le_refl _) _).alloc (by simp) _, two_allocs_0 w _ _, two_allocs_1 w _ _⟩
  case round =>
    obtain ⟨q, f, l, hq, rfl, hf, hlq, hlm, hx, hsc, hown, hb, hr0, hr1⟩ := hrel
    obtain ⟨ad, cp, rfl⟩ := own_form hown
    have HO : Hid (wr.ownsRow (w.heap.size + 2) 5 1 (.slice ad l.length cp) l.length (l.map (Value.int .u8))) := hown
    have HB : Hid (Below w.heap.size w wr) := hb
    have HX : Hid (∀ x, x ∈ l → 0 ≤ x ∧ x ≤ 255) := hx
    have HR0 : Hid (wr.heap[w.heap.size]? = some (.cells #[.slice a0 n cap, .int .i64 0] 89 (0, 0))) := hr0
    have HR1 : Hid (wr.heap[w.heap.size + 1]? = some (.cells #[.slice none 0 0, .int .i64 0] 89 (0, 0))) := hr1
    have hd0 := two_cell0 hr1
    have hd1 := two_cell1 hr1
    have hdf := two_free hr1
    have hc0 := two_cell0 hr0
    have hc1 := two_cell1 hr0
    have hcf := two_free hr0
    have hdz : w.heap.size + 1 < wr.heap.size := lt_of_block hr1
    clear hr0 hr1
    obtain ⟨f, rfl⟩ : ∃ f', f = f' + 1 := ⟨f - 1, by omega⟩
    rw [sc] at hsc
    clear hown hb hx
    by_cases hlt : q < n
    · obtain ⟨b, off, e0, hcz⟩ := HS.out.2 (by omega)
      have hblt : b < w.heap.size := HS.out.lt (by omega) e0
      have hcw : ∀ j, j < n → wr.cell? ⟨b, off + j, none⟩ = some (.int .u8 (z j)) := fun j hj => by rw [HB.out.cell (p := ⟨b, off + j, none⟩) hblt]; exact hcz j hj
      subst e0
      have hcq := hcw q hlt
      have hzq := HS.out.1 q hlt
      rw [if_pos hlt] at hsc
      by_cases hz0 : z q = 0
      · rw [if_pos hz0] at hsc
        have hz0' : (z q == 0) = true := by simp [hz0]
        have HZ : Hid (z q = 0) := hz0
        clear hz0
        by_cases hend : q + 1 = n
        · rw [if_pos hend] at hsc
          have he' : (((q : Int) + 1) == (n : Int)) = true := by simp; omega
          subst hsc
          clear hcw hcz HR
          go_wp2_with (go_at_call 69; refine (fail_b _ _ _ _ _).mono ?_; rintro e wf ⟨rfl, hbf⟩; have hf0 := (hbf.cell (p := ⟨w.heap.size + 1, 0, none⟩) hdz).trans hd0; have hf1 := (hbf.cell (p := ⟨w.heap.size + 1, 1, none⟩) hdz).trans hd1; have hff := fun o => (hbf.frozen (p := ⟨w.heap.size + 1, o, none⟩) hdz).trans (hdf o))
          exact bodyPost_ret (v := .tuple #[.agg #[.slice (some ⟨b, off, none⟩) n cap, .int .i64 12], .slice none 0 0]) (by simp [results, Tryz.results40, go_sem, hf0, hf1]) rfl (RBPost.err _hlc HS.out (((HB.out.trans (hbf.mono (by omega))).setCell (by simp) _).setCell (by simp) _))
        · rw [if_neg hend] at hsc
          have he' : (((q : Int) + 1) == (n : Int)) = false := by simp; omega
          have hcq1 := hcw (q + 1) (by omega)
          have hzq1 := HS.out.1 (q + 1) (by omega)
          by_cases h10 : z (q + 1) = 0
          · rw [if_pos h10] at hsc
            have h10' : (z (q + 1) == 0) = true := by simp [h10]
            subst hsc
            clear hcw hcz HR h10
            have hk1 : ((q : Int) + 2) ≤ (n : Int) := by omega
            have hk2 : (0 : Int) ≤ (q : Int) + 2 := by omega
            have hk3 : (n : Int) ≤ (cap : Int) := by omega
            go_wp2
            · refine bodyPost_ret (v := .tuple #[.agg #[.slice (some ⟨b, off, none⟩) (n - (q + 2)) 0, .int .i64 0], .slice ad l.length cp]) (by simp [results, Tryz.results40, go_sem, hd0, hd1]) rfl ?_
              exact ⟨_, _, ad, cp, rfl, by simp; omega, (by show SlAt w _ (n - (q + 2)) _; rw [show n - (q + 2) = 0 from by omega]; exact SlAt.zero _ _), fresh_two HO.out HX.out HB.out ((((Frm.refl [w.heap.size, w.heap.size + 1] wr).setCell _ _ (by simp)).setCell _ _ (by simp)).setCell _ _ (by simp))⟩
            · refine bodyPost_ret (v := .tuple #[.agg #[.slice (some ⟨b, off + (q + 2), none⟩) (n - (q + 2)) (cap - (q + 2)), .int .i64 0], .slice ad l.length cp]) (by simp [results, Tryz.results40, go_sem, hd0, hd1]) rfl ?_
              exact ⟨_, _, ad, cp, rfl, by simp; omega, (by have := HS.out.drop (k := q + 2); simpa [Addr.add_lit] using this), fresh_two HO.out HX.out HB.out ((((Frm.refl [w.heap.size, w.heap.size + 1] wr).setCell _ _ (by simp)).setCell _ _ (by simp)).setCell _ _ (by simp))⟩
          · rw [if_neg h10] at hsc
            have h10' : (z (q + 1) == 0) = false := by simp [h10]
            by_cases h1f : z (q + 1) = 255
            · rw [if_pos h1f] at hsc
              have h1f' : (z (q + 1) != 255) = false := by simp [h1f]
              by_cases hm : most ≤ l.length
              · rw [if_pos hm] at hsc
                subst hsc
                clear hcw hcz HR h10 h1f
                go_wp2_with (go_at_call 69; refine (fail_b _ _ _ _ _).mono ?_; rintro e wf ⟨rfl, hbf⟩; have hf0 := (hbf.cell (p := ⟨w.heap.size + 1, 0, none⟩) hdz).trans hd0; have hf1 := (hbf.cell (p := ⟨w.heap.size + 1, 1, none⟩) hdz).trans hd1; have hff := fun o => (hbf.frozen (p := ⟨w.heap.size + 1, o, none⟩) hdz).trans (hdf o))
                exact bodyPost_ret (v := .tuple #[.agg #[.slice (some ⟨b, off, none⟩) n cap, .int .i64 2], .slice none 0 0]) (by simp [results, Tryz.results40, go_sem, hf0, hf1]) rfl (RBPost.err _hlc HS.out (((HB.out.trans (hbf.mono (by omega))).setCell (by simp) _).setCell (by simp) _))
              · rw [if_neg hm] at hsc
                have HSC : Hid (sc n z most f (q + 2) (l ++ [z q]) = R) := hsc
                clear hcw hcz HR h10 h1f hsc
                go_wp2_with (at_builtin; refine wpList_append_lies _ rfl _ _ 29 rfl (w.heap.size + 2) 5 i0 _ 1 1 Tryz.underlying29 H.out.1 H.out.2.1 H.out.2.2.1 H.out.2.2.2 rfl (by omega) (.slice ad l.length cp) l.length (l.map (Value.int .u8)) rfl (HO.out.alloc _) ⟨wr.heap.size, 0, none⟩ 1 1 [.int .u8 (z q)] rfl rfl (World.news_of_block (cs := #[.int .u8 (z q)]) (t := 5) (fr := (0, 0)) (heap_alloc_new wr _)) (by simp [Value.oneCell']) (by omega) (by simp [maxLen]; omega) (by simp; omega) (by simp; omega) (wr.heap.size + 1) (by simp) ?_; intro gg cap1 w1 hown1 hgrow hat hlt1)
                have hb1 : Below w.heap.size w w1 := (HB.out.alloc HB.out.size _).grown hgrow (by have := HB.out.size; simp; omega) (fun k hk => by have := (HO.out.lt k hk).1; omega)
                have hk1 := grown_keep ((Frm.refl [] wr).alloc _) hgrow HR0.out (fun e => by have := (HO.out.lt _ e.symm).1; omega)
                have hk2 := grown_keep ((Frm.refl [] wr).alloc _) hgrow HR1.out (fun e => by have := (HO.out.lt _ e.symm).1; omega)
                refine ⟨⟨q + 2, f, l ++ [z q], by omega, by go_num, by omega, by simp; omega, by simp; omega, ?_, HSC.out, by simpa using hown1, hb1, hk1, hk2⟩, by simp [intOf]; omega⟩
                intro x hx
                rcases List.mem_append.1 hx with h | h
                · exact HX.out x h
                · rw [List.mem_singleton.1 h]; exact hzq
            · rw [if_neg h1f] at hsc
              have h1f' : (z (q + 1) != 255) = true := by simp [h1f]
              subst hsc
              clear hcw hcz HR h10 h1f
              go_wp2_with (go_at_call 69; refine (fail_b _ _ _ _ _).mono ?_; rintro e wf ⟨rfl, hbf⟩; have hf0 := (hbf.cell (p := ⟨w.heap.size + 1, 0, none⟩) hdz).trans hd0; have hf1 := (hbf.cell (p := ⟨w.heap.size + 1, 1, none⟩) hdz).trans hd1; have hff := fun o => (hbf.frozen (p := ⟨w.heap.size + 1, o, none⟩) hdz).trans (hdf o))
              exact bodyPost_ret (v := .tuple #[.agg #[.slice (some ⟨b, off, none⟩) n cap, .int .i64 3], .slice none 0 0]) (by simp [results, Tryz.results40, go_sem, hf0, hf1]) rfl (RBPost.err _hlc HS.out (((HB.out.trans (hbf.mono (by omega))).setCell (by simp) _).setCell (by simp) _))
      · rw [if_neg hz0] at hsc
        have hz0' : (z q == 0) = false := by simp [hz0]
        by_cases hm : most ≤ l.length
        · rw [if_pos hm] at hsc
          subst hsc
          clear hcw hcz HR hz0
          go_wp2_with (go_at_call 69; refine (fail_b _ _ _ _ _).mono ?_; rintro e wf ⟨rfl, hbf⟩; have hf0 := (hbf.cell (p := ⟨w.heap.size + 1, 0, none⟩) hdz).trans hd0; have hf1 := (hbf.cell (p := ⟨w.heap.size + 1, 1, none⟩) hdz).trans hd1; have hff := fun o => (hbf.frozen (p := ⟨w.heap.size + 1, o, none⟩) hdz).trans (hdf o))
          exact bodyPost_ret (v := .tuple #[.agg #[.slice (some ⟨b, off, none⟩) n cap, .int .i64 2], .slice none 0 0]) (by simp [results, Tryz.results40, go_sem, hf0, hf1]) rfl (RBPost.err _hlc HS.out (((HB.out.trans (hbf.mono (by omega))).setCell (by simp) _).setCell (by simp) _))
        · rw [if_neg hm] at hsc
          have HSC : Hid (sc n z most f (q + 1) (l ++ [z q]) = R) := hsc
          clear hcw hcz HR hz0 hsc
          go_wp2_with (at_builtin; refine wpList_append_lies _ rfl _ _ 29 rfl (w.heap.size + 2) 5 i0 _ 1 1 Tryz.underlying29 H.out.1 H.out.2.1 H.out.2.2.1 H.out.2.2.2 rfl (by omega) (.slice ad l.length cp) l.length (l.map (Value.int .u8)) rfl (HO.out.alloc _) ⟨wr.heap.size, 0, none⟩ 1 1 [.int .u8 (z q)] rfl rfl (World.news_of_block (cs := #[.int .u8 (z q)]) (t := 5) (fr := (0, 0)) (heap_alloc_new wr _)) (by simp [Value.oneCell']) (by omega) (by simp [maxLen]; omega) (by simp; omega) (by simp; omega) (wr.heap.size + 1) (by simp) ?_; intro gg cap1 w1 hown1 hgrow hat hlt1)
          have hb1 : Below w.heap.size w w1 := (HB.out.alloc HB.out.size _).grown hgrow (by have := HB.out.size; simp; omega) (fun k hk => by have := (HO.out.lt k hk).1; omega)
          have hk1 := grown_keep ((Frm.refl [] wr).alloc _) hgrow HR0.out (fun e => by have := (HO.out.lt _ e.symm).1; omega)
          have hk2 := grown_keep ((Frm.refl [] wr).alloc _) hgrow HR1.out (fun e => by have := (HO.out.lt _ e.symm).1; omega)
          refine ⟨⟨q + 1, f, l ++ [z q], by omega, by go_num, by omega, by simp; omega, by simp; omega, ?_, HSC.out, by simpa using hown1, hb1, hk1, hk2⟩, by simp [intOf]; omega⟩
          intro x hx
          rcases List.mem_append.1 hx with h | h
          · exact HX.out x h
          · rw [List.mem_singleton.1 h]; exact hzq
    · rw [if_neg hlt] at hsc
      subst hsc
      clear HR
      go_wp2_with (go_at_call 69; refine (fail_b _ _ _ _ _).mono ?_; rintro e wf ⟨rfl, hbf⟩; have hf0 := (hbf.cell (p := ⟨w.heap.size + 1, 0, none⟩) hdz).trans hd0; have hf1 := (hbf.cell (p := ⟨w.heap.size + 1, 1, none⟩) hdz).trans hd1; have hff := fun o => (hbf.frozen (p := ⟨w.heap.size + 1, o, none⟩) hdz).trans (hdf o))
      exact bodyPost_ret (v := .tuple #[.agg #[.slice a0 n cap, .int .i64 12], .slice none 0 0]) (by simp [results, Tryz.results40, go_sem, hf0, hf1]) rfl (RBPost.err _hlc HS.out (((HB.out.trans (hbf.mono (by omega))).setCell (by simp) _).setCell (by simp) _))

theorem refBytes_any (a0 : Option Addr) (n cap : Nat) (z : Nat → Int) (most : Int) (w : World) (hlc : n ≤ cap) (hn : n ≤ 140737488351232) (hs : SlAt w a0 n z) :
    Calls Tryz.prog 40 #[.agg #[.slice a0 n cap, .int .i64 0], .int .i64 most] w fun e w' => RBPost w n z (bR n z most) e w' := by
  unfold bR
  split
  · exact (refBytes_neg a0 n cap most w ‹_›).mono fun e w' ⟨h1, h2⟩ => by rw [h1]; exact RBPost.err hlc hs h2
  · exact refBytes_loop a0 n cap z most w (by omega) hlc hn hs
end Go.Proofs.YtmekplaonlpfkaaGreatDoor
