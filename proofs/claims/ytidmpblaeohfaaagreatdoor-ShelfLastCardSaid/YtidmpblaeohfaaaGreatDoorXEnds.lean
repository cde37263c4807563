/- The reader's Done. -/
import Derived.Test.YtidmpblaeohfaaaGreatDoorXRdUint
namespace Go.Proofs.YtidmpblaeohfaaaGreatDoor
open Go.RowKit

/-- What Done answers of n bytes that are left, with an error. -/
def dn (n : Nat) (er : Int) : Int := if er = 0 ∧ 0 < n then 3 else er

set_option maxHeartbeats 400000 in
theorem done_err (rb : Nat) (x : Int) (w : World) (h1 : w.cell? ⟨rb, 1, none⟩ = some (.iface 72 (.int .i64 x))) :
    Calls Tryz.prog 62 #[.pointer (some ⟨rb, 0, none⟩)] w fun e w' => e = .returned (.iface 72 (.int .i64 x)) ∧ w' = w := by
  go_enter Tryz.func62, Tryz.ntmps62
  go_wp2
  go_ret
  exact ⟨rfl, rfl⟩
set_option maxHeartbeats 400000 in
theorem done_left (rb n cap : Nat) (ad : Option Addr) (w : World) (h0 : w.cell? ⟨rb, 0, none⟩ = some (.slice ad n cap)) (h1 : w.cell? ⟨rb, 1, none⟩ = some .nilIface) (hn : 0 < n) :
    Calls Tryz.prog 62 #[.pointer (some ⟨rb, 0, none⟩)] w fun e w' => e = .returned (.iface 72 (.int .i64 3)) ∧ w' = w := by
  go_enter Tryz.func62, Tryz.ntmps62
  go_wp2
  go_ret
  exact ⟨rfl, rfl⟩
set_option maxHeartbeats 400000 in
theorem done_nil (rb cap : Nat) (ad : Option Addr) (w : World) (h0 : w.cell? ⟨rb, 0, none⟩ = some (.slice ad 0 cap)) (h1 : w.cell? ⟨rb, 1, none⟩ = some .nilIface) :
    Calls Tryz.prog 62 #[.pointer (some ⟨rb, 0, none⟩)] w fun e w' => e = .returned .nilIface ∧ w' = w := by
  go_enter Tryz.func62, Tryz.ntmps62
  go_wp2
  go_ret
  exact ⟨rfl, rfl⟩
theorem done_any (rb n : Nat) (z : Nat → Int) (er : Int) (w : World) (h : RdAt w rb n z er) :
    Calls Tryz.prog 62 #[.pointer (some ⟨rb, 0, none⟩)] w fun e w' => e = .returned (errV (dn n er)) ∧ w' = w := by
  obtain ⟨ad, cap, hr, hlc, hs, -⟩ := h
  by_cases he : er = 0
  · subst he
    by_cases hn : 0 < n
    · have : dn n 0 = 3 := by simp [dn, hn]
      rw [this]
      exact done_left rb n cap ad w (two_cell0 hr) (two_cell1 hr) hn
    · have h0 : n = 0 := by omega
      subst h0
      have : dn 0 0 = 0 := by simp [dn]
      rw [this]
      exact done_nil rb cap ad w (two_cell0 hr) (two_cell1 hr)
  · have : dn n er = er := by simp [dn, he]
    rw [this, errV_ne he]
    have h1 := two_cell1 hr
    rw [errV_ne he] at h1
    exact done_err rb er w h1

end Go.Proofs.YtidmpblaeohfaaaGreatDoor
