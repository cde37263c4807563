/- What enc.frontUint and enc.frontInt answer. -/
import Derived.Test.YtidmpblaeohfaaaGreatDoorXNum
import Derived.Deep.QuietTactic
import Derived.BigQuiet
namespace Go.Proofs.YtidmpblaeohfaaaGreatDoor
open Go.RowKit

theorem errV_4 : errV 4 = .iface 72 (.int .i64 4) := rfl

set_option maxHeartbeats 400000 in
theorem frontUint_nil (ad : Option Addr) (cap : Nat) (most : Int) (w : World) :
    Calls Tryz.prog 96 #[.slice ad 0 cap, .int .u64 most] w fun e w' =>
      e = .returned (.tuple #[.int .u64 0, .int .i64 0, .iface 72 (.int .i64 12)]) ∧ w' = w := by
  go_enter Tryz.func96, Tryz.ntmps96
  go_wp2
  go_ret3
  exact ⟨rfl, rfl⟩

set_option maxHeartbeats 400000 in
theorem frontUint_wide (b off n cap : Nat) (most : Int) (z : Nat → Int) (w : World) (hn : 0 < n) (hc : w.cell? ⟨b, off, none⟩ = some (.int .u8 (z 0))) (h8 : 8 < z 0) :
    Calls Tryz.prog 96 #[.slice (some ⟨b, off, none⟩) n cap, .int .u64 most] w fun e w' =>
      e = .returned (.tuple #[.int .u64 0, .int .i64 0, .iface 72 (.int .i64 3)]) ∧ w' = w := by
  go_enter Tryz.func96, Tryz.ntmps96
  go_wp2
  go_ret3
  exact ⟨rfl, rfl⟩

set_option maxHeartbeats 400000 in
theorem frontUint_err (b off n cap : Nat) (most : Int) (z : Nat → Int) (w : World) (hn : 0 < n) (hlc : n ≤ cap) (hz : ∀ j, j < n → 0 ≤ z j ∧ z j ≤ 255) (hc : ∀ j, j < n → w.cell? ⟨b, off + j, none⟩ = some (.int .u8 (z j))) (h8 : z 0 ≤ 8)
    (er : Int) (hE : errV (numE (n - 1) (fun j => trn false (z (j + 1))) (z 0).toNat) = .iface 72 (.int .i64 er)) :
    Calls Tryz.prog 96 #[.slice (some ⟨b, off, none⟩) n cap, .int .u64 most] w fun e w' =>
      e = .returned (.tuple #[.int .u64 0, .int .i64 0, .iface 72 (.int .i64 er)]) ∧ ∃ q, w' = w.drewN q := by
  have c0 : w.cell? ⟨b, off, none⟩ = some (.int .u8 (z 0)) := by simpa using hc 0 hn
  have hz0 := hz 0 hn
  have hn1 : (1 : Int) ≤ (n : Int) := by omega
  have hnc : (n : Int) ≤ (cap : Int) := by omega
  have hs := SlAt.tail hz hc hlc
  clear hc hz
  go_enter Tryz.func96, Tryz.ntmps96
  go_wp2_with fail
  go_quiet ((go_at_call 117; exact Calls.quiet_of_same (number_int _ _ _ (z 0) false 0 (fun j => z (j + 1)) _ rfl hz0.1 h8 (by omega) (hs.drewN _))))
  go_wp2
  all_goals (go_ret3; exact ⟨rfl, _, rfl⟩)

set_option maxHeartbeats 400000 in
theorem frontUint_range (b off n cap : Nat) (most : Int) (z : Nat → Int) (w : World) (hn : 0 < n) (hlc : n ≤ cap) (hz : ∀ j, j < n → 0 ≤ z j ∧ z j ≤ 255) (hc : ∀ j, j < n → w.cell? ⟨b, off + j, none⟩ = some (.int .u8 (z j))) (h8 : z 0 ≤ 8)
    (hE : errV (numE (n - 1) (fun j => trn false (z (j + 1))) (z 0).toNat) = .nilIface) (hm : most < numV (n - 1) (fun j => trn false (z (j + 1))) (z 0).toNat) :
    Calls Tryz.prog 96 #[.slice (some ⟨b, off, none⟩) n cap, .int .u64 most] w fun e w' =>
      e = .returned (.tuple #[.int .u64 0, .int .i64 0, .iface 72 (.int .i64 4)]) ∧ ∃ q, w' = w.drewN q := by
  have c0 : w.cell? ⟨b, off, none⟩ = some (.int .u8 (z 0)) := by simpa using hc 0 hn
  have hz0 := hz 0 hn
  have hn1 : (1 : Int) ≤ (n : Int) := by omega
  have hnc : (n : Int) ≤ (cap : Int) := by omega
  have hs := SlAt.tail hz hc hlc
  clear hc hz
  go_enter Tryz.func96, Tryz.ntmps96
  go_wp2_with fail
  go_quiet ((go_at_call 117; exact Calls.quiet_of_same (number_int _ _ _ (z 0) false 0 (fun j => z (j + 1)) _ rfl hz0.1 h8 (by omega) (hs.drewN _))))
  go_wp2
  all_goals (go_ret3; exact ⟨rfl, _, rfl⟩)

set_option maxHeartbeats 400000 in
theorem frontUint_ok (b off n cap : Nat) (most : Int) (z : Nat → Int) (w : World) (hn : 0 < n) (hlc : n ≤ cap) (hz : ∀ j, j < n → 0 ≤ z j ∧ z j ≤ 255) (hc : ∀ j, j < n → w.cell? ⟨b, off + j, none⟩ = some (.int .u8 (z j))) (h8 : z 0 ≤ 8)
    (hE : errV (numE (n - 1) (fun j => trn false (z (j + 1))) (z 0).toNat) = .nilIface) (hm : ¬ most < numV (n - 1) (fun j => trn false (z (j + 1))) (z 0).toNat) :
    Calls Tryz.prog 96 #[.slice (some ⟨b, off, none⟩) n cap, .int .u64 most] w fun e w' =>
      e = .returned (.tuple #[.int .u64 (numV (n - 1) (fun j => trn false (z (j + 1))) (z 0).toNat), .int .i64 (1 + z 0), .nilIface]) ∧ ∃ q, w' = w.drewN q := by
  have c0 : w.cell? ⟨b, off, none⟩ = some (.int .u8 (z 0)) := by simpa using hc 0 hn
  have hz0 := hz 0 hn
  have hn1 : (1 : Int) ≤ (n : Int) := by omega
  have hnc : (n : Int) ≤ (cap : Int) := by omega
  have hs := SlAt.tail hz hc hlc
  clear hc hz
  go_enter Tryz.func96, Tryz.ntmps96
  go_wp2_with fail
  go_quiet ((go_at_call 117; exact Calls.quiet_of_same (number_int _ _ _ (z 0) false 0 (fun j => z (j + 1)) _ rfl hz0.1 h8 (by omega) (hs.drewN _))))
  go_wp2
  all_goals (go_quiet (fail); go_wp2; go_ret3; exact ⟨rfl, _, World.drewN_drewN _ _ _⟩)


theorem frontUint_any (ad : Option Addr) (n cap : Nat) (most : Int) (z : Nat → Int) (w : World) (hlc : n ≤ cap) (hs : SlAt w ad n z) :
    Calls Tryz.prog 96 #[.slice ad n cap, .int .u64 most] w fun e w' =>
      e = .returned (.tuple #[.int .u64 (uV n z most), .int .i64 (uN n z most), errV (uE n z most)]) ∧ ∃ q, w' = w.drewN q := by
  obtain ⟨hz, hs⟩ := hs
  by_cases hn : n = 0
  · subst hn
    have e : uE 0 z most = 12 := by simp [uE]
    rw [uV, uN, e, if_neg (by decide), if_neg (by decide), errV_12]
    exact (frontUint_nil ad cap most w).mono fun e w' ⟨h1, h2⟩ => ⟨h1, 0, h2⟩
  · obtain ⟨b, off, rfl, hc⟩ := hs (by omega)
    by_cases h8 : 8 < z 0
    · have e : uE n z most = 3 := by simp [uE, hn, h8]
      rw [uV, uN, e, if_neg (by decide), if_neg (by decide), errV_3]
      exact (frontUint_wide b off n cap most z w (by omega) (by simpa using hc 0 (by omega)) h8).mono fun e w' ⟨h1, h2⟩ => ⟨h1, 0, h2⟩
    · have hz0 := hz 0 (by omega)
      rcases numE_cases (n - 1) (behind false z) (z 0).toNat with hE | hE | hE
      · by_cases hm : most < numV (n - 1) (behind false z) (z 0).toNat
        · have e : uE n z most = 4 := by simp [uE, hn, h8, hE, hm]
          rw [uV, uN, e, if_neg (by decide), if_neg (by decide), errV_4]
          exact frontUint_range b off n cap most z w (by omega) hlc hz hc (by omega) (by show errV (numE (n - 1) (behind false z) (z 0).toNat) = _; rw [hE, errV_0]) hm
        · have e : uE n z most = 0 := by simp [uE, hn, h8, hE, hm]
          rw [uV, uN, e, if_pos rfl, if_pos rfl, errV_0]
          have hw : ((1 + (z 0).toNat : Nat) : Int) = 1 + z 0 := by omega
          rw [hw]
          exact frontUint_ok b off n cap most z w (by omega) hlc hz hc (by omega) (by show errV (numE (n - 1) (behind false z) (z 0).toNat) = _; rw [hE, errV_0]) hm
      · have e : uE n z most = 3 := by simp [uE, hn, h8, hE]
        rw [uV, uN, e, if_neg (by decide), if_neg (by decide), errV_3]
        exact frontUint_err b off n cap most z w (by omega) hlc hz hc (by omega) 3 (by show errV (numE (n - 1) (behind false z) (z 0).toNat) = _; rw [hE, errV_3])
      · have e : uE n z most = 12 := by simp [uE, hn, h8, hE]
        rw [uV, uN, e, if_neg (by decide), if_neg (by decide), errV_12]
        exact frontUint_err b off n cap most z w (by omega) hlc hz hc (by omega) 12 (by show errV (numE (n - 1) (behind false z) (z 0).toNat) = _; rw [hE, errV_12])

end Go.Proofs.YtidmpblaeohfaaaGreatDoor
