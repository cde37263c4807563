/- What enc.frontUint and enc.frontInt answer. -/
import Derived.Test.YtmgjipemgdgjdaaNum
import Derived.Deep.QuietTactic
import Derived.BigQuiet
namespace Go.Proofs.Ytmgjipemgdgjdaa
open Go.RowKit

theorem errV_4 : errV 4 = .iface 73 (.int .i64 4) := rfl

set_option maxHeartbeats 400000 in
theorem frontUint_nil (ad : Option Addr) (cap : Nat) (most : Int) (w : World) :
    Calls Try.prog 30 #[.slice ad 0 cap, .int .u64 most] w fun e w' =>
      e = .returned (.tuple #[.int .u64 0, .int .i64 0, .iface 73 (.int .i64 12)]) ∧ w' = w := by
  go_enter Try.func30, Try.ntmps30
  go_wp2
  go_ret3
  exact ⟨rfl, rfl⟩

set_option maxHeartbeats 400000 in
theorem frontUint_wide (b off n cap : Nat) (most : Int) (z : Nat → Int) (w : World) (hn : 0 < n) (hc : w.cell? ⟨b, off, none⟩ = some (.int .u8 (z 0))) (h8 : 8 < z 0) :
    Calls Try.prog 30 #[.slice (some ⟨b, off, none⟩) n cap, .int .u64 most] w fun e w' =>
      e = .returned (.tuple #[.int .u64 0, .int .i64 0, .iface 73 (.int .i64 3)]) ∧ w' = w := by
  go_enter Try.func30, Try.ntmps30
  go_wp2
  go_ret3
  exact ⟨rfl, rfl⟩

set_option maxHeartbeats 400000 in
theorem frontUint_err (b off n cap : Nat) (most : Int) (z : Nat → Int) (w : World) (hn : 0 < n) (hlc : n ≤ cap) (hz : ∀ j, j < n → 0 ≤ z j ∧ z j ≤ 255) (hc : ∀ j, j < n → w.cell? ⟨b, off + j, none⟩ = some (.int .u8 (z j))) (h8 : z 0 ≤ 8)
    (er : Int) (hE : errV (numE (n - 1) (fun j => trn false (z (j + 1))) (z 0).toNat) = .iface 73 (.int .i64 er)) :
    Calls Try.prog 30 #[.slice (some ⟨b, off, none⟩) n cap, .int .u64 most] w fun e w' =>
      e = .returned (.tuple #[.int .u64 0, .int .i64 0, .iface 73 (.int .i64 er)]) ∧ ∃ q, w' = w.drewN q := by
  have c0 : w.cell? ⟨b, off, none⟩ = some (.int .u8 (z 0)) := by simpa using hc 0 hn
  have hz0 := hz 0 hn
  have hn1 : (1 : Int) ≤ (n : Int) := by omega
  have hnc : (n : Int) ≤ (cap : Int) := by omega
  have hs := SlAt.tail hz hc hlc
  clear hc hz
  go_enter Try.func30, Try.ntmps30
  go_wp2_with fail
  go_quiet ((go_at_call 42; exact Calls.quiet_of_same (number_int _ _ _ (z 0) false 0 (fun j => z (j + 1)) _ rfl hz0.1 h8 (by omega) (hs.drewN _))))
  go_wp2
  all_goals (go_ret3; exact ⟨rfl, _, rfl⟩)

set_option maxHeartbeats 400000 in
theorem frontUint_range (b off n cap : Nat) (most : Int) (z : Nat → Int) (w : World) (hn : 0 < n) (hlc : n ≤ cap) (hz : ∀ j, j < n → 0 ≤ z j ∧ z j ≤ 255) (hc : ∀ j, j < n → w.cell? ⟨b, off + j, none⟩ = some (.int .u8 (z j))) (h8 : z 0 ≤ 8)
    (hE : errV (numE (n - 1) (fun j => trn false (z (j + 1))) (z 0).toNat) = .nilIface) (hm : most < numV (n - 1) (fun j => trn false (z (j + 1))) (z 0).toNat) :
    Calls Try.prog 30 #[.slice (some ⟨b, off, none⟩) n cap, .int .u64 most] w fun e w' =>
      e = .returned (.tuple #[.int .u64 0, .int .i64 0, .iface 73 (.int .i64 4)]) ∧ ∃ q, w' = w.drewN q := by
  have c0 : w.cell? ⟨b, off, none⟩ = some (.int .u8 (z 0)) := by simpa using hc 0 hn
  have hz0 := hz 0 hn
  have hn1 : (1 : Int) ≤ (n : Int) := by omega
  have hnc : (n : Int) ≤ (cap : Int) := by omega
  have hs := SlAt.tail hz hc hlc
  clear hc hz
  go_enter Try.func30, Try.ntmps30
  go_wp2_with fail
  go_quiet ((go_at_call 42; exact Calls.quiet_of_same (number_int _ _ _ (z 0) false 0 (fun j => z (j + 1)) _ rfl hz0.1 h8 (by omega) (hs.drewN _))))
  go_wp2
  all_goals (go_ret3; exact ⟨rfl, _, rfl⟩)

set_option maxHeartbeats 400000 in
theorem frontUint_ok (b off n cap : Nat) (most : Int) (z : Nat → Int) (w : World) (hn : 0 < n) (hlc : n ≤ cap) (hz : ∀ j, j < n → 0 ≤ z j ∧ z j ≤ 255) (hc : ∀ j, j < n → w.cell? ⟨b, off + j, none⟩ = some (.int .u8 (z j))) (h8 : z 0 ≤ 8)
    (hE : errV (numE (n - 1) (fun j => trn false (z (j + 1))) (z 0).toNat) = .nilIface) (hm : ¬ most < numV (n - 1) (fun j => trn false (z (j + 1))) (z 0).toNat) :
    Calls Try.prog 30 #[.slice (some ⟨b, off, none⟩) n cap, .int .u64 most] w fun e w' =>
      e = .returned (.tuple #[.int .u64 (numV (n - 1) (fun j => trn false (z (j + 1))) (z 0).toNat), .int .i64 (1 + z 0), .nilIface]) ∧ ∃ q, w' = w.drewN q := by
  have c0 : w.cell? ⟨b, off, none⟩ = some (.int .u8 (z 0)) := by simpa using hc 0 hn
  have hz0 := hz 0 hn
  have hn1 : (1 : Int) ≤ (n : Int) := by omega
  have hnc : (n : Int) ≤ (cap : Int) := by omega
  have hs := SlAt.tail hz hc hlc
  clear hc hz
  go_enter Try.func30, Try.ntmps30
  go_wp2_with fail
  go_quiet ((go_at_call 42; exact Calls.quiet_of_same (number_int _ _ _ (z 0) false 0 (fun j => z (j + 1)) _ rfl hz0.1 h8 (by omega) (hs.drewN _))))
  go_wp2
  all_goals (go_quiet (fail); go_wp2; go_ret3; exact ⟨rfl, _, World.drewN_drewN _ _ _⟩)


theorem frontUint_any (ad : Option Addr) (n cap : Nat) (most : Int) (z : Nat → Int) (w : World) (hlc : n ≤ cap) (hs : SlAt w ad n z) :
    Calls Try.prog 30 #[.slice ad n cap, .int .u64 most] w fun e w' =>
      e = .returned (.tuple #[.int .u64 (uV n z most), .int .i64 (uN n z most), errV (uE n z most)]) ∧ ∃ q, w' = w.drewN q := by
  obtain ⟨hz, hs⟩ := hs
  by_cases hn : n = 0
  · subst hn
    have e : uE 0 z most = 12 := by simp [uE]
    rw [uV, uN, e, if_neg (by decide), if_neg (by decide), errV_12]
    exact (frontUint_nil ad cap most w).mono fun e w' ⟨h1, h2⟩ => ⟨h1, 0, h2⟩
  · obtain ⟨b, off, rfl, hc⟩ := hs (by omega)
    by_cases h8 : 8 < z 0
    · have e : uE n z most = 3 := by simp [uE, hn, h8]
      rw [uV, uN, e, if_neg (by decide), if_neg (by decide), errV_3]
      exact (frontUint_wide b off n cap most z w (by omega) (by simpa using hc 0 (by omega)) h8).mono fun e w' ⟨h1, h2⟩ => ⟨h1, 0, h2⟩
    · have hz0 := hz 0 (by omega)
      rcases numE_cases (n - 1) (behind false z) (z 0).toNat with hE | hE | hE
      · by_cases hm : most < numV (n - 1) (behind false z) (z 0).toNat
        · have e : uE n z most = 4 := by simp [uE, hn, h8, hE, hm]
          rw [uV, uN, e, if_neg (by decide), if_neg (by decide), errV_4]
          exact frontUint_range b off n cap most z w (by omega) hlc hz hc (by omega) (by show errV (numE (n - 1) (behind false z) (z 0).toNat) = _; rw [hE, errV_0]) hm
        · have e : uE n z most = 0 := by simp [uE, hn, h8, hE, hm]
          rw [uV, uN, e, if_pos rfl, if_pos rfl, errV_0]
          have hw : ((1 + (z 0).toNat : Nat) : Int) = 1 + z 0 := by omega
          rw [hw]
          exact frontUint_ok b off n cap most z w (by omega) hlc hz hc (by omega) (by show errV (numE (n - 1) (behind false z) (z 0).toNat) = _; rw [hE, errV_0]) hm
      · have e : uE n z most = 3 := by simp [uE, hn, h8, hE]
        rw [uV, uN, e, if_neg (by decide), if_neg (by decide), errV_3]
        exact frontUint_err b off n cap most z w (by omega) hlc hz hc (by omega) 3 (by show errV (numE (n - 1) (behind false z) (z 0).toNat) = _; rw [hE, errV_3])
      · have e : uE n z most = 12 := by simp [uE, hn, h8, hE]
        rw [uV, uN, e, if_neg (by decide), if_neg (by decide), errV_12]
        exact frontUint_err b off n cap most z w (by omega) hlc hz hc (by omega) 12 (by show errV (numE (n - 1) (behind false z) (z 0).toNat) = _; rw [hE, errV_12])

set_option maxHeartbeats 400000 in
theorem frontInt_nil (ad : Option Addr) (cap : Nat) (w : World) :
    Calls Try.prog 32 #[.slice ad 0 cap] w fun e w' =>
      e = .returned (.tuple #[.int .i64 0, .int .i64 0, .iface 73 (.int .i64 12)]) ∧ w' = w := by
  go_enter Try.func32, Try.ntmps32
  go_wp2
  go_ret3
  exact ⟨rfl, rfl⟩

set_option maxHeartbeats 400000 in
theorem frontInt_low (b off n cap : Nat) (z : Nat → Int) (w : World) (hn : 0 < n) (hc : w.cell? ⟨b, off, none⟩ = some (.int .u8 (z 0))) (h8 : z 0 < 119) :
    Calls Try.prog 32 #[.slice (some ⟨b, off, none⟩) n cap] w fun e w' =>
      e = .returned (.tuple #[.int .i64 0, .int .i64 0, .iface 73 (.int .i64 3)]) ∧ w' = w := by
  go_enter Try.func32, Try.ntmps32
  go_wp2
  go_ret3
  exact ⟨rfl, rfl⟩
set_option maxHeartbeats 400000 in
theorem frontInt_high (b off n cap : Nat) (z : Nat → Int) (w : World) (hn : 0 < n) (hc : w.cell? ⟨b, off, none⟩ = some (.int .u8 (z 0))) (h8 : 136 < z 0) :
    Calls Try.prog 32 #[.slice (some ⟨b, off, none⟩) n cap] w fun e w' =>
      e = .returned (.tuple #[.int .i64 0, .int .i64 0, .iface 73 (.int .i64 3)]) ∧ w' = w := by
  go_enter Try.func32, Try.ntmps32
  go_wp2
  go_ret3
  exact ⟨rfl, rfl⟩

set_option maxHeartbeats 400000 in
theorem frontInt_berr (b off n cap : Nat) (z : Nat → Int) (w : World) (hn : 0 < n) (hlc : n ≤ cap) (hz : ∀ j, j < n → 0 ≤ z j ∧ z j ≤ 255) (hc : ∀ j, j < n → w.cell? ⟨b, off + j, none⟩ = some (.int .u8 (z j)))
    (er : Int) (hl : 119 ≤ z 0) (hh : z 0 < 128) (hE : errV (numE (n - 1) (fun j => trn true (z (j + 1))) (-1 - (z 0 - 128)).toNat) = .iface 73 (.int .i64 er)) :
    Calls Try.prog 32 #[.slice (some ⟨b, off, none⟩) n cap] w fun e w' =>
      e = .returned (.tuple #[.int .i64 0, .int .i64 0, .iface 73 (.int .i64 er)]) ∧ w' = w := by
  have c0 : w.cell? ⟨b, off, none⟩ = some (.int .u8 (z 0)) := by simpa using hc 0 hn
  have hz0 := hz 0 hn
  have hn1 : (1 : Int) ≤ (n : Int) := by omega
  have hnc : (n : Int) ≤ (cap : Int) := by omega
  have hs := SlAt.tail hz hc hlc
  clear hc hz
  by_cases hcap1 : cap = 1
  · subst hcap1
    obtain rfl : n = 1 := by omega
    clear hs
    have hs : SlAt w (some ⟨b, off, none⟩) 0 (fun j => z (j + 1)) := ⟨fun j hj => by omega, fun h => by omega⟩
    simp only [Nat.sub_self] at *
    go_enter Try.func32, Try.ntmps32
    go_wp2_with fail
    refine (number_int _ _ _ _ true 255 (fun j => z (j + 1)) _ rfl (by omega) (by omega) (by omega) hs).mono ?_
    rintro e w' ⟨rfl, rfl⟩
    go_wp2
    go_ret3
    exact ⟨rfl, rfl⟩
  · rw [if_neg hcap1] at hs
    go_enter Try.func32, Try.ntmps32
    go_wp2_with fail
    refine (number_int _ _ _ _ true 255 (fun j => z (j + 1)) _ rfl (by omega) (by omega) (by omega) hs).mono ?_
    rintro e w' ⟨rfl, rfl⟩
    go_wp2
    go_ret3
    exact ⟨rfl, rfl⟩
set_option maxHeartbeats 400000 in
theorem frontInt_brange (b off n cap : Nat) (z : Nat → Int) (w : World) (hn : 0 < n) (hlc : n ≤ cap) (hz : ∀ j, j < n → 0 ≤ z j ∧ z j ≤ 255) (hc : ∀ j, j < n → w.cell? ⟨b, off + j, none⟩ = some (.int .u8 (z j)))
    (hl : 119 ≤ z 0) (hh : z 0 < 128) (hE : errV (numE (n - 1) (fun j => trn true (z (j + 1))) (-1 - (z 0 - 128)).toNat) = .nilIface) (hm : 9223372036854775807 < numV (n - 1) (fun j => trn true (z (j + 1))) (-1 - (z 0 - 128)).toNat) :
    Calls Try.prog 32 #[.slice (some ⟨b, off, none⟩) n cap] w fun e w' =>
      e = .returned (.tuple #[.int .i64 0, .int .i64 0, .iface 73 (.int .i64 4)]) ∧ w' = w := by
  have c0 : w.cell? ⟨b, off, none⟩ = some (.int .u8 (z 0)) := by simpa using hc 0 hn
  have hz0 := hz 0 hn
  have hn1 : (1 : Int) ≤ (n : Int) := by omega
  have hnc : (n : Int) ≤ (cap : Int) := by omega
  have hs := SlAt.tail hz hc hlc
  clear hc hz
  by_cases hcap1 : cap = 1
  · subst hcap1
    obtain rfl : n = 1 := by omega
    clear hs
    have hs : SlAt w (some ⟨b, off, none⟩) 0 (fun j => z (j + 1)) := ⟨fun j hj => by omega, fun h => by omega⟩
    simp only [Nat.sub_self] at *
    go_enter Try.func32, Try.ntmps32
    go_wp2_with fail
    refine (number_int _ _ _ _ true 255 (fun j => z (j + 1)) _ rfl (by omega) (by omega) (by omega) hs).mono ?_
    rintro e w' ⟨rfl, rfl⟩
    go_wp2
    go_ret3
    exact ⟨rfl, rfl⟩
  · rw [if_neg hcap1] at hs
    go_enter Try.func32, Try.ntmps32
    go_wp2_with fail
    refine (number_int _ _ _ _ true 255 (fun j => z (j + 1)) _ rfl (by omega) (by omega) (by omega) hs).mono ?_
    rintro e w' ⟨rfl, rfl⟩
    go_wp2
    go_ret3
    exact ⟨rfl, rfl⟩
set_option maxHeartbeats 400000 in
theorem frontInt_bok (b off n cap : Nat) (z : Nat → Int) (w : World) (hn : 0 < n) (hlc : n ≤ cap) (hz : ∀ j, j < n → 0 ≤ z j ∧ z j ≤ 255) (hc : ∀ j, j < n → w.cell? ⟨b, off + j, none⟩ = some (.int .u8 (z j)))
    (hl : 119 ≤ z 0) (hh : z 0 < 128) (hE : errV (numE (n - 1) (fun j => trn true (z (j + 1))) (-1 - (z 0 - 128)).toNat) = .nilIface) (hm : numV (n - 1) (fun j => trn true (z (j + 1))) (-1 - (z 0 - 128)).toNat ≤ 9223372036854775807) (h0 : 0 ≤ numV (n - 1) (fun j => trn true (z (j + 1))) (-1 - (z 0 - 128)).toNat) :
    Calls Try.prog 32 #[.slice (some ⟨b, off, none⟩) n cap] w fun e w' =>
      e = .returned (.tuple #[.int .i64 (-1 - numV (n - 1) (fun j => trn true (z (j + 1))) (-1 - (z 0 - 128)).toNat), .int .i64 (1 + (-1 - (z 0 - 128))), .nilIface]) ∧ w' = w := by
  have c0 : w.cell? ⟨b, off, none⟩ = some (.int .u8 (z 0)) := by simpa using hc 0 hn
  have hz0 := hz 0 hn
  have hn1 : (1 : Int) ≤ (n : Int) := by omega
  have hnc : (n : Int) ≤ (cap : Int) := by omega
  have hs := SlAt.tail hz hc hlc
  clear hc hz
  by_cases hcap1 : cap = 1
  · subst hcap1
    obtain rfl : n = 1 := by omega
    clear hs
    have hs : SlAt w (some ⟨b, off, none⟩) 0 (fun j => z (j + 1)) := ⟨fun j hj => by omega, fun h => by omega⟩
    simp only [Nat.sub_self] at *
    go_enter Try.func32, Try.ntmps32
    go_wp2_with fail
    refine (number_int _ _ _ _ true 255 (fun j => z (j + 1)) _ rfl (by omega) (by omega) (by omega) hs).mono ?_
    rintro e w' ⟨rfl, rfl⟩
    go_wp2
    go_ret3
    exact ⟨rfl, rfl⟩
  · rw [if_neg hcap1] at hs
    go_enter Try.func32, Try.ntmps32
    go_wp2_with fail
    refine (number_int _ _ _ _ true 255 (fun j => z (j + 1)) _ rfl (by omega) (by omega) (by omega) hs).mono ?_
    rintro e w' ⟨rfl, rfl⟩
    go_wp2
    go_ret3
    exact ⟨rfl, rfl⟩
set_option maxHeartbeats 400000 in
theorem frontInt_aerr (b off n cap : Nat) (z : Nat → Int) (w : World) (hn : 0 < n) (hlc : n ≤ cap) (hz : ∀ j, j < n → 0 ≤ z j ∧ z j ≤ 255) (hc : ∀ j, j < n → w.cell? ⟨b, off + j, none⟩ = some (.int .u8 (z j)))
    (er : Int) (hl : 128 ≤ z 0) (hh : z 0 ≤ 136) (hE : errV (numE (n - 1) (fun j => trn false (z (j + 1))) (z 0 - 128).toNat) = .iface 73 (.int .i64 er)) :
    Calls Try.prog 32 #[.slice (some ⟨b, off, none⟩) n cap] w fun e w' =>
      e = .returned (.tuple #[.int .i64 0, .int .i64 0, .iface 73 (.int .i64 er)]) ∧ w' = w := by
  have c0 : w.cell? ⟨b, off, none⟩ = some (.int .u8 (z 0)) := by simpa using hc 0 hn
  have hz0 := hz 0 hn
  have hn1 : (1 : Int) ≤ (n : Int) := by omega
  have hnc : (n : Int) ≤ (cap : Int) := by omega
  have hs := SlAt.tail hz hc hlc
  clear hc hz
  by_cases hcap1 : cap = 1
  · subst hcap1
    obtain rfl : n = 1 := by omega
    clear hs
    have hs : SlAt w (some ⟨b, off, none⟩) 0 (fun j => z (j + 1)) := ⟨fun j hj => by omega, fun h => by omega⟩
    simp only [Nat.sub_self] at *
    go_enter Try.func32, Try.ntmps32
    go_wp2_with fail
    refine (number_int _ _ _ _ false 0 (fun j => z (j + 1)) _ rfl (by omega) (by omega) (by omega) hs).mono ?_
    rintro e w' ⟨rfl, rfl⟩
    go_wp2
    go_ret3
    exact ⟨rfl, rfl⟩
  · rw [if_neg hcap1] at hs
    go_enter Try.func32, Try.ntmps32
    go_wp2_with fail
    refine (number_int _ _ _ _ false 0 (fun j => z (j + 1)) _ rfl (by omega) (by omega) (by omega) hs).mono ?_
    rintro e w' ⟨rfl, rfl⟩
    go_wp2
    go_ret3
    exact ⟨rfl, rfl⟩
set_option maxHeartbeats 400000 in
theorem frontInt_arange (b off n cap : Nat) (z : Nat → Int) (w : World) (hn : 0 < n) (hlc : n ≤ cap) (hz : ∀ j, j < n → 0 ≤ z j ∧ z j ≤ 255) (hc : ∀ j, j < n → w.cell? ⟨b, off + j, none⟩ = some (.int .u8 (z j)))
    (hl : 128 ≤ z 0) (hh : z 0 ≤ 136) (hE : errV (numE (n - 1) (fun j => trn false (z (j + 1))) (z 0 - 128).toNat) = .nilIface) (hm : 9223372036854775807 < numV (n - 1) (fun j => trn false (z (j + 1))) (z 0 - 128).toNat) :
    Calls Try.prog 32 #[.slice (some ⟨b, off, none⟩) n cap] w fun e w' =>
      e = .returned (.tuple #[.int .i64 0, .int .i64 0, .iface 73 (.int .i64 4)]) ∧ w' = w := by
  have c0 : w.cell? ⟨b, off, none⟩ = some (.int .u8 (z 0)) := by simpa using hc 0 hn
  have hz0 := hz 0 hn
  have hn1 : (1 : Int) ≤ (n : Int) := by omega
  have hnc : (n : Int) ≤ (cap : Int) := by omega
  have hs := SlAt.tail hz hc hlc
  clear hc hz
  by_cases hcap1 : cap = 1
  · subst hcap1
    obtain rfl : n = 1 := by omega
    clear hs
    have hs : SlAt w (some ⟨b, off, none⟩) 0 (fun j => z (j + 1)) := ⟨fun j hj => by omega, fun h => by omega⟩
    simp only [Nat.sub_self] at *
    go_enter Try.func32, Try.ntmps32
    go_wp2_with fail
    refine (number_int _ _ _ _ false 0 (fun j => z (j + 1)) _ rfl (by omega) (by omega) (by omega) hs).mono ?_
    rintro e w' ⟨rfl, rfl⟩
    go_wp2
    go_ret3
    exact ⟨rfl, rfl⟩
  · rw [if_neg hcap1] at hs
    go_enter Try.func32, Try.ntmps32
    go_wp2_with fail
    refine (number_int _ _ _ _ false 0 (fun j => z (j + 1)) _ rfl (by omega) (by omega) (by omega) hs).mono ?_
    rintro e w' ⟨rfl, rfl⟩
    go_wp2
    go_ret3
    exact ⟨rfl, rfl⟩
set_option maxHeartbeats 400000 in
theorem frontInt_aok (b off n cap : Nat) (z : Nat → Int) (w : World) (hn : 0 < n) (hlc : n ≤ cap) (hz : ∀ j, j < n → 0 ≤ z j ∧ z j ≤ 255) (hc : ∀ j, j < n → w.cell? ⟨b, off + j, none⟩ = some (.int .u8 (z j)))
    (hl : 128 ≤ z 0) (hh : z 0 ≤ 136) (hE : errV (numE (n - 1) (fun j => trn false (z (j + 1))) (z 0 - 128).toNat) = .nilIface) (hm : numV (n - 1) (fun j => trn false (z (j + 1))) (z 0 - 128).toNat ≤ 9223372036854775807) (h0 : 0 ≤ numV (n - 1) (fun j => trn false (z (j + 1))) (z 0 - 128).toNat) :
    Calls Try.prog 32 #[.slice (some ⟨b, off, none⟩) n cap] w fun e w' =>
      e = .returned (.tuple #[.int .i64 (numV (n - 1) (fun j => trn false (z (j + 1))) (z 0 - 128).toNat), .int .i64 (1 + (z 0 - 128)), .nilIface]) ∧ w' = w := by
  have c0 : w.cell? ⟨b, off, none⟩ = some (.int .u8 (z 0)) := by simpa using hc 0 hn
  have hz0 := hz 0 hn
  have hn1 : (1 : Int) ≤ (n : Int) := by omega
  have hnc : (n : Int) ≤ (cap : Int) := by omega
  have hs := SlAt.tail hz hc hlc
  clear hc hz
  by_cases hcap1 : cap = 1
  · subst hcap1
    obtain rfl : n = 1 := by omega
    clear hs
    have hs : SlAt w (some ⟨b, off, none⟩) 0 (fun j => z (j + 1)) := ⟨fun j hj => by omega, fun h => by omega⟩
    simp only [Nat.sub_self] at *
    go_enter Try.func32, Try.ntmps32
    go_wp2_with fail
    refine (number_int _ _ _ _ false 0 (fun j => z (j + 1)) _ rfl (by omega) (by omega) (by omega) hs).mono ?_
    rintro e w' ⟨rfl, rfl⟩
    go_wp2
    go_ret3
    exact ⟨rfl, rfl⟩
  · rw [if_neg hcap1] at hs
    go_enter Try.func32, Try.ntmps32
    go_wp2_with fail
    refine (number_int _ _ _ _ false 0 (fun j => z (j + 1)) _ rfl (by omega) (by omega) (by omega) hs).mono ?_
    rintro e w' ⟨rfl, rfl⟩
    go_wp2
    go_ret3
    exact ⟨rfl, rfl⟩

theorem frontInt_any (ad : Option Addr) (n cap : Nat) (z : Nat → Int) (w : World) (hlc : n ≤ cap) (hs : SlAt w ad n z) :
    Calls Try.prog 32 #[.slice ad n cap] w fun e w' =>
      e = .returned (.tuple #[.int .i64 (iV n z), .int .i64 (iN n z), errV (iE n z)]) ∧ w' = w := by
  obtain ⟨hz, hs⟩ := hs
  by_cases hn : n = 0
  · subst hn
    have e : iE 0 z = 12 := by simp [iE]
    rw [iV, iN, e, if_neg (by decide), if_neg (by decide), errV_12]
    exact frontInt_nil ad cap w
  · obtain ⟨b, off, rfl, hc⟩ := hs (by omega)
    have hz0 := hz 0 (by omega)
    by_cases h1 : z 0 < 119
    · have e : iE n z = 3 := by simp [iE, hn, h1]
      rw [iV, iN, e, if_neg (by decide), if_neg (by decide), errV_3]
      exact frontInt_low b off n cap z w (by omega) (by simpa using hc 0 (by omega)) h1
    · by_cases h2 : 136 < z 0
      · have e : iE n z = 3 := by simp [iE, hn, h2]
        rw [iV, iN, e, if_neg (by decide), if_neg (by decide), errV_3]
        exact frontInt_high b off n cap z w (by omega) (by simpa using hc 0 (by omega)) h2
      · have hb := numV_bd (n := n - 1) (f := behind (iT z) z) (k := (iK z)) (by unfold iK; split <;> omega)
        by_cases h3 : z 0 < 128
        · have ht : iT z = true := by simp [iT, h3]
          have hk : iK z = (-1 - (z 0 - 128)).toNat := by rw [iK, if_pos h3]; congr 1; omega
          rcases numE_cases (n - 1) (behind (iT z) z) (iK z) with hE | hE | hE
          · by_cases hm : 9223372036854775807 < numV (n - 1) (behind (iT z) z) (iK z)
            · have e : iE n z = 4 := by simp [iE, hn, h1, h2, hE, hm]
              rw [iV, iN, e, if_neg (by decide), if_neg (by decide), errV_4]
              rw [ht, hk] at hE hm
              exact frontInt_brange b off n cap z w (by omega) hlc hz hc (by omega) h3 (by show errV (numE (n - 1) (behind true z) _) = _; rw [hE, errV_0]) hm
            · have e : iE n z = 0 := by simp [iE, hn, h1, h2, hE, hm]
              rw [iV, iN, e, if_pos rfl, if_pos rfl, if_pos h3, errV_0]
              have hw : ((1 + iK z : Nat) : Int) = 1 + (-1 - (z 0 - 128)) := by rw [hk]; omega
              rw [hw]
              have h0 := (hb (fun j hj => by unfold behind; exact trn_bd (hz _ (by omega)))).1
              rw [ht, hk] at hE hm h0
              rw [ht, hk]
              exact frontInt_bok b off n cap z w (by omega) hlc hz hc (by omega) h3 (by show errV (numE (n - 1) (behind true z) _) = _; rw [hE, errV_0]) (by have := hm; unfold behind at this; omega) h0
          · have e : iE n z = 3 := by simp [iE, hn, h1, h2, hE]
            rw [iV, iN, e, if_neg (by decide), if_neg (by decide), errV_3]
            rw [ht, hk] at hE
            exact frontInt_berr b off n cap z w (by omega) hlc hz hc 3 (by omega) h3 (by show errV (numE (n - 1) (behind true z) _) = _; rw [hE, errV_3])
          · have e : iE n z = 12 := by simp [iE, hn, h1, h2, hE]
            rw [iV, iN, e, if_neg (by decide), if_neg (by decide), errV_12]
            rw [ht, hk] at hE
            exact frontInt_berr b off n cap z w (by omega) hlc hz hc 12 (by omega) h3 (by show errV (numE (n - 1) (behind true z) _) = _; rw [hE, errV_12])
        · have ht : iT z = false := by simp [iT, h3]
          have hk : iK z = (z 0 - 128).toNat := by rw [iK, if_neg h3]
          rcases numE_cases (n - 1) (behind (iT z) z) (iK z) with hE | hE | hE
          · by_cases hm : 9223372036854775807 < numV (n - 1) (behind (iT z) z) (iK z)
            · have e : iE n z = 4 := by simp [iE, hn, h1, h2, hE, hm]
              rw [iV, iN, e, if_neg (by decide), if_neg (by decide), errV_4]
              rw [ht, hk] at hE hm
              exact frontInt_arange b off n cap z w (by omega) hlc hz hc (by omega) (by omega) (by show errV (numE (n - 1) (behind false z) _) = _; rw [hE, errV_0]) hm
            · have e : iE n z = 0 := by simp [iE, hn, h1, h2, hE, hm]
              rw [iV, iN, e, if_pos rfl, if_pos rfl, if_neg h3, errV_0]
              have hw : ((1 + iK z : Nat) : Int) = 1 + (z 0 - 128) := by rw [hk]; omega
              rw [hw]
              have h0 := (hb (fun j hj => by unfold behind; exact trn_bd (hz _ (by omega)))).1
              rw [ht, hk] at hE hm h0
              rw [ht, hk]
              exact frontInt_aok b off n cap z w (by omega) hlc hz hc (by omega) (by omega) (by show errV (numE (n - 1) (behind false z) _) = _; rw [hE, errV_0]) (by have := hm; unfold behind at this; omega) h0
          · have e : iE n z = 3 := by simp [iE, hn, h1, h2, hE]
            rw [iV, iN, e, if_neg (by decide), if_neg (by decide), errV_3]
            rw [ht, hk] at hE
            exact frontInt_aerr b off n cap z w (by omega) hlc hz hc 3 (by omega) (by omega) (by show errV (numE (n - 1) (behind false z) _) = _; rw [hE, errV_3])
          · have e : iE n z = 12 := by simp [iE, hn, h1, h2, hE]
            rw [iV, iN, e, if_neg (by decide), if_neg (by decide), errV_12]
            rw [ht, hk] at hE
            exact frontInt_aerr b off n cap z w (by omega) hlc hz hc 12 (by omega) (by omega) (by show errV (numE (n - 1) (behind false z) _) = _; rw [hE, errV_12])
end Go.Proofs.Ytmgjipemgdgjdaa
