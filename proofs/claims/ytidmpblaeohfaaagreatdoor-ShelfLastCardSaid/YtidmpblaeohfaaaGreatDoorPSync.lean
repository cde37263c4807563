/- Sync. -/
import Derived.Test.YtidmpblaeohfaaaGreatDoorPNew
namespace Go.Proofs.YtidmpblaeohfaaaGreatDoor
open Go.RowKit

attribute [local go_sem ↓] Go.wp_at_zero Go.wp_at_succ

def allK (_ : Nat) : Bool := true
theorem sync1_any (i : Nat) (w : World) : Calls Tryz.prog 109 #[.int .i64 (i : Int)] w fun e w' => e = .returned (.bool (allK i)) ∧ w' = w := by
  go_enter Tryz.func109, Tryz.ntmps109
  go_wp2
  go_ret
  exact ⟨rfl, rfl⟩
/-- What a Sync leaves of a store that has not crashed. -/
def syncS (S : St) : St := if stepE S = 0 then (stepS S).settled allK else stepS S
def SyS (G : Nat → Prop) (p : Nat) (S : St) (w : World) (e : Ending) (w' : World) : Prop :=
  e = .returned (errV (stepE S)) ∧ StAt w' G p (syncS S) ∧ Fr G w w'
theorem stepS_down (S : St) : (stepS S).safe = S.safe ∧ (stepS S).loose = S.loose := by
  unfold stepS
  split
  · exact ⟨rfl, rfl⟩
  · split <;> exact ⟨rfl, rfl⟩
set_option maxRecDepth 100000 in
set_option maxHeartbeats 1600000 in
theorem sync_st (G : Nat → Prop) (p : Nat) (S : St) (w : World) (h : StAt w G p S) (hs : 0 ≤ S.steps ∧ S.steps < 9223372036854775808) (hd : S.down = false) :
    Calls Tryz.prog 82 #[.pointer (some ⟨p, 0, none⟩)] w (SyS G p S w) := by
  obtain ⟨q, lo, F, h0, hG⟩ := h
  have h4 := h0.c4
  rw [hd] at h4
  have hst := step_any p q lo F S w h0 hs
  have HN : Hid (∀ w1, St0 w1 p q lo F (stepS S) → Frm [p] w w1 → stepE S = 0 → Calls Tryz.prog 57 #[.pointer (some ⟨p, 0, none⟩), .func (.func 109) #[] #[]] w1 fun e w' => e = .returned (.tuple #[]) ∧ SyS G p S w (.returned .nilIface) w') := fun w1 h1 hf he => by
    refine (settle_any p q lo F (stepS S) 109 #[] allK [] w1 h1 (enters_of Tryz.func109 (by kernel_rfl) rfl) (fun W i _ _ => sync1_any i W) (fun k hk => by cases hk)).mono ?_
    rintro e w2 ⟨rfl, h2, hF⟩
    refine ⟨rfl, by rw [he]; rfl, ⟨q, _, F, ?_, fun k hk => hG k (cut0_mine.1 hk)⟩, ((Fr.ofFrm hf).mono (M' := G) fun k _ hk => ?_).trans hF (fun k _ hk => hG k hk)⟩
    · rw [syncS, if_pos he]; exact h2
    · have : k = p := by simpa using hk
      exact hG k (.inl this)
  have HX : Hid (∀ w1, St0 w1 p q lo F (stepS S) → Frm [p] w w1 → stepE S ≠ 0 → SyS G p S w (.returned (errV (stepE S))) w1) := fun w1 h1 hf he =>
    ⟨rfl, ⟨q, lo, F, by rw [syncS, if_neg he]; exact h1, hG⟩, (Fr.ofFrm hf).mono fun k _ hk => by
      have : k = p := by simpa using hk
      exact hG k (.inl this)⟩
  clear h0 hG hd hs
  by_cases he : stepE S = 0
  · go_enter Tryz.func82, Tryz.ntmps82
    go_wp2_with fail
    refine hst.mono ?_
    rintro e w1 ⟨rfl, h1, hf, _⟩
    have hse := HN.out w1 h1 hf he
    have ee : errV (stepE S) = .nilIface := by rw [he]; rfl
    rw [ee]
    clear HN HX h1 hf hst he ee
    go_wp2_with fail
    refine hse.mono ?_
    rintro e w2 ⟨rfl, hR⟩
    have HR : Hid (SyS G p S w (.returned .nilIface) w2) := hR
    clear hse hR
    go_wp2
    go_ret
    exact HR.out
  · go_enter Tryz.func82, Tryz.ntmps82
    go_wp2_with fail
    refine hst.mono ?_
    rintro e w1 ⟨rfl, h1, hf, _⟩
    have hR := HX.out w1 h1 hf he
    rw [errV_ne he] at hR ⊢
    have HR : Hid (SyS G p S w (.returned (.iface 72 (.int .i64 (stepE S)))) w1) := hR
    clear hR HN HX h1 hf hst he
    go_wp2
    go_ret
    exact HR.out
set_option maxRecDepth 100000 in
set_option maxHeartbeats 1600000 in
theorem syncB_st (G : Nat → Prop) (p : Nat) (S : St) (w : World) (h : StAt w G p S) (hd : S.down = true) :
    Calls Tryz.prog 82 #[.pointer (some ⟨p, 0, none⟩)] w fun e w' => e = .returned (errV 13) ∧ w' = w := by
  obtain ⟨q, lo, F, h0, hG⟩ := h
  have h4 := h0.c4
  rw [hd] at h4
  rw [errV_ne (by decide)]
  clear h0 hG
  go_enter Tryz.func82, Tryz.ntmps82
  go_wp2
  go_ret
  exact ⟨rfl, rfl⟩
end Go.Proofs.YtidmpblaeohfaaaGreatDoor
