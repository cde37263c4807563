/- The document's number: so many bytes behind the first one. -/
import Derived.Test.YtmekplaonlpfkaaGreatDoorOwnShelf07
namespace Go.Proofs.YtmekplaonlpfkaaGreatDoor
open Go.RowKit

set_option maxHeartbeats 400000 in
theorem refnum_short (ad : Option Addr) (n cap k : Nat) (t : Bool) (w : World) (h : n < 1 + k) (_hk8 : k ≤ 8) :
    Calls Tryz.prog 70 #[.slice ad n cap, .int .i64 k, .bool t] w fun e w' => e = .returned (.tuple #[.int .u64 0, .int .i64 12]) ∧ w' = w := by
  go_enter Tryz.func70, Tryz.ntmps70
  go_wp2
  go_ret2
  exact ⟨rfl, rfl⟩

set_option maxHeartbeats 400000 in
theorem refnum_more_false (b off n cap k : Nat) (z : Nat → Int) (w : World) (hk : k < n) (hk8 : k ≤ 8) (_hlc : n ≤ cap) (_hn : n ≤ 140737488351232) (h0 : 0 < k → behind false z 0 ≠ 0)
    (hz : ∀ j, j < n → 0 ≤ z j ∧ z j ≤ 255) (hc : ∀ j, j < n → w.cell? ⟨b, off + j, none⟩ = some (.int .u8 (z j))) :
    Calls Tryz.prog 70 #[.slice (some ⟨b, off, none⟩) n cap, .int .i64 k, .bool false] w fun e w' => e = .returned (.tuple #[.int .u64 (valF (behind false z) k), .int .i64 0]) ∧ w' = w := by
  have H0 : Hid (0 < k → behind false z 0 ≠ 0) := h0
  clear h0
  go_enter Tryz.func70, Tryz.ntmps70
  go_wp2
  go_loop [8, 9] (fun m i => ∃ q : Nat, q ≤ k ∧ i = .int .i64 (q + 1) ∧ m = .int .u64 (valF (behind false z) q)) (fun _ i => k + 1 - (intOf i).toNat)
  case atStart => exact ⟨0, Nat.zero_le _, rfl, rfl⟩
  case round =>
    obtain ⟨q, hq, rfl, rfl⟩ := hrel
    by_cases hlt : q < k
    · have hcq := hc (q + 1) (by omega)
      have hzq := hz (q + 1) (by omega)
      have hb := valF_lt7 (f := behind false z) (k := q) (by omega) (fun j hj => trn_bd (hz _ (by omega)))
      have hb2 := valF_lt (f := behind false z) (k := q + 1) (by omega) (fun j hj => trn_bd (hz _ (by omega)))
      have HS : Hid (256 * valF (behind false z) q + (z (q + 1)) = valF (behind false z) (q + 1)) := rfl
      have hb3 : 256 * valF (behind false z) q + (z (q + 1)) ≤ 18446744073709551615 := by rw [HS.out]; exact hb2.2
      clear hb2
      by_cases hq0 : q = 0
      · subst hq0
        have hx : ((z (0 + 1)) == 0) = false := by
          have := H0.out (by omega)
          simp [behind, trn] at this
          simpa using this
        simp only [Nat.zero_add] at *
        go_wp2
        go_round
        case rel => exact ⟨1, by omega, rfl, rfl⟩
        case measure => simp [intOf]; omega
      · have hq1 : (((q : Int) + 1) == 1) = false := by simp; omega
        go_wp2
        go_round
        case rel => exact ⟨q + 1, by omega, by go_num, by rw [HS.out]⟩
        case measure => simp [intOf]; omega
    · have : q = k := by omega
      subst this
      go_wp2
      go_ret2
      exact ⟨rfl, rfl⟩

set_option maxHeartbeats 400000 in
theorem refnum_more_true (b off n cap k : Nat) (z : Nat → Int) (w : World) (hk : k < n) (hk8 : k ≤ 8) (_hlc : n ≤ cap) (_hn : n ≤ 140737488351232) (h0 : 0 < k → behind true z 0 ≠ 0)
    (hz : ∀ j, j < n → 0 ≤ z j ∧ z j ≤ 255) (hc : ∀ j, j < n → w.cell? ⟨b, off + j, none⟩ = some (.int .u8 (z j))) :
    Calls Tryz.prog 70 #[.slice (some ⟨b, off, none⟩) n cap, .int .i64 k, .bool true] w fun e w' => e = .returned (.tuple #[.int .u64 (valF (behind true z) k), .int .i64 0]) ∧ w' = w := by
  have H0 : Hid (0 < k → behind true z 0 ≠ 0) := h0
  clear h0
  go_enter Tryz.func70, Tryz.ntmps70
  go_wp2
  go_loop [8, 9] (fun m i => ∃ q : Nat, q ≤ k ∧ i = .int .i64 (q + 1) ∧ m = .int .u64 (valF (behind true z) q)) (fun _ i => k + 1 - (intOf i).toNat)
  case atStart => exact ⟨0, Nat.zero_le _, rfl, rfl⟩
  case round =>
    obtain ⟨q, hq, rfl, rfl⟩ := hrel
    by_cases hlt : q < k
    · have hcq := hc (q + 1) (by omega)
      have hzq := hz (q + 1) (by omega)
      have hb := valF_lt7 (f := behind true z) (k := q) (by omega) (fun j hj => trn_bd (hz _ (by omega)))
      have hb2 := valF_lt (f := behind true z) (k := q + 1) (by omega) (fun j hj => trn_bd (hz _ (by omega)))
      have HS : Hid (256 * valF (behind true z) q + (255 - z (q + 1)) = valF (behind true z) (q + 1)) := rfl
      have hb3 : 256 * valF (behind true z) q + (255 - z (q + 1)) ≤ 18446744073709551615 := by rw [HS.out]; exact hb2.2
      clear hb2
      by_cases hq0 : q = 0
      · subst hq0
        have hx : ((255 - z (0 + 1)) == 0) = false := by
          have := H0.out (by omega)
          simp [behind, trn] at this
          simpa using this
        simp only [Nat.zero_add] at *
        go_wp2
        go_round
        case rel => exact ⟨1, by omega, rfl, rfl⟩
        case measure => simp [intOf]; omega
      · have hq1 : (((q : Int) + 1) == 1) = false := by simp; omega
        go_wp2
        go_round
        case rel => exact ⟨q + 1, by omega, by go_num, by rw [HS.out]⟩
        case measure => simp [intOf]; omega
    · have : q = k := by omega
      subst this
      go_wp2
      go_ret2
      exact ⟨rfl, rfl⟩


set_option maxHeartbeats 400000 in
theorem refnum_form_false (b off n cap k : Nat) (z : Nat → Int) (w : World) (hk : k < n) (hk8 : k ≤ 8) (_hlc : n ≤ cap) (_hn : n ≤ 140737488351232) (hk0 : 0 < k) (hx : ((z 1) == 0) = true) (_hz1 : 0 ≤ z 1 ∧ z 1 ≤ 255)
    (hc : w.cell? ⟨b, off + 1, none⟩ = some (.int .u8 (z 1))) :
    Calls Tryz.prog 70 #[.slice (some ⟨b, off, none⟩) n cap, .int .i64 k, .bool false] w fun e w' => e = .returned (.tuple #[.int .u64 0, .int .i64 3]) ∧ w' = w := by
  go_enter Tryz.func70, Tryz.ntmps70
  go_wp2
  refine wp_loop_rounds 1 ?_
  rw [rounds_succ]
  go_wp2
  go_ret2
  exact ⟨rfl, rfl⟩

set_option maxHeartbeats 400000 in
theorem refnum_form_true (b off n cap k : Nat) (z : Nat → Int) (w : World) (hk : k < n) (hk8 : k ≤ 8) (_hlc : n ≤ cap) (_hn : n ≤ 140737488351232) (hk0 : 0 < k) (hx : ((255 - z 1) == 0) = true) (_hz1 : 0 ≤ z 1 ∧ z 1 ≤ 255)
    (hc : w.cell? ⟨b, off + 1, none⟩ = some (.int .u8 (z 1))) :
    Calls Tryz.prog 70 #[.slice (some ⟨b, off, none⟩) n cap, .int .i64 k, .bool true] w fun e w' => e = .returned (.tuple #[.int .u64 0, .int .i64 3]) ∧ w' = w := by
  go_enter Tryz.func70, Tryz.ntmps70
  go_wp2
  refine wp_loop_rounds 1 ?_
  rw [rounds_succ]
  go_wp2
  go_ret2
  exact ⟨rfl, rfl⟩

theorem refnum_any (b off n cap : Nat) (k : Int) (t : Bool) (z : Nat → Int) (w : World) (hn0 : 0 < n) (h0 : 0 ≤ k) (h8 : k ≤ 8) (hlc : n ≤ cap) (hn : n ≤ 140737488351232)
    (hz : ∀ j, j < n → 0 ≤ z j ∧ z j ≤ 255) (hc : ∀ j, j < n → w.cell? ⟨b, off + j, none⟩ = some (.int .u8 (z j))) :
    Calls Tryz.prog 70 #[.slice (some ⟨b, off, none⟩) n cap, .int .i64 k, .bool t] w fun e w' =>
      e = .returned (.tuple #[.int .u64 (numV (n - 1) (behind t z) k.toNat), .int .i64 (numE (n - 1) (behind t z) k.toNat)]) ∧ w' = w := by
  obtain ⟨q, rfl⟩ := Int.eq_ofNat_of_zero_le h0
  rw [Int.toNat_natCast]
  by_cases h1 : n - 1 < q
  · have e : numE (n - 1) (behind t z) q = 12 := by simp [numE, h1]
    rw [numV, e, if_neg (by decide)]
    exact refnum_short _ n cap q t w (by omega) (by omega)
  · by_cases h2 : 0 < q ∧ behind t z 0 = 0
    · have e : numE (n - 1) (behind t z) q = 3 := by simp [numE, h1, h2]
      rw [numV, e, if_neg (by decide)]
      have hb := h2.2
      cases t
      · exact refnum_form_false b off n cap q z w (by omega) (by omega) hlc hn h2.1 (by simpa [behind, trn] using hb) (hz 1 (by omega)) (hc 1 (by omega))
      · exact refnum_form_true b off n cap q z w (by omega) (by omega) hlc hn h2.1 (by simpa [behind, trn] using hb) (hz 1 (by omega)) (hc 1 (by omega))
    · have e : numE (n - 1) (behind t z) q = 0 := by simp only [numE]; rw [if_neg h1, if_neg h2]
      rw [numV, e, if_pos rfl]
      cases t
      · exact refnum_more_false b off n cap q z w (by omega) (by omega) hlc hn (fun h e => h2 ⟨h, e⟩) hz hc
      · exact refnum_more_true b off n cap q z w (by omega) (by omega) hlc hn (fun h e => h2 ⟨h, e⟩) hz hc
end Go.Proofs.YtmekplaonlpfkaaGreatDoor
