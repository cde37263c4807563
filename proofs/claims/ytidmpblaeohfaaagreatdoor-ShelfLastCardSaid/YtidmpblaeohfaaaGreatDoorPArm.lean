/- Arm; Down. -/
import Derived.Test.YtidmpblaeohfaaaGreatDoorPSync
namespace Go.Proofs.YtidmpblaeohfaaaGreatDoor
open Go.RowKit

attribute [local go_sem ↓] Go.wp_at_zero Go.wp_at_succ

def St.arm (S : St) (n : Int) : St := { S with armed := true, steps := n }
def ArmS (G : Nat → Prop) (p : Nat) (S : St) (w : World) (e : Ending) (w' : World) : Prop := e = .returned .nilIface ∧ StAt w' G p S ∧ Fr G w w'
set_option maxRecDepth 100000 in
set_option maxHeartbeats 1600000 in
theorem arm_st (G : Nat → Prop) (p : Nat) (S : St) (n : Int) (w : World) (h : StAt w G p S) (hn : 0 ≤ n) :
    Calls Tryz.prog 26 #[.pointer (some ⟨p, 0, none⟩), .int .i64 n] w (ArmS G p (S.arm n) w) := by
  obtain ⟨q, lo, F, h0, hG⟩ := h
  have c2 := h0.c2
  have f2 := h0.fz 2
  have t1 := h0.turn 2 (.bool true) { S with armed := true } _ rfl rfl rfl rfl
  have c3 := t1.c3
  have f3 := t1.fz 3
  have t2 := t1.turn 3 (.int .i64 n) (S.arm n) _ rfl rfl rfl rfl
  have HE : Hid (ArmS G p (S.arm n) w (.returned .nilIface) ((w.setCell ⟨p, 2, none⟩ (.bool true)).setCell ⟨p, 3, none⟩ (.int .i64 n))) := ⟨rfl, ⟨q, lo, F, t2, hG⟩, ((Fr.refl G w).setCell ⟨p, 2, none⟩ _ (hG p (.inl rfl))).setCell ⟨p, 3, none⟩ _ (hG p (.inl rfl))⟩
  have hn' : ¬ n < 0 := by omega
  clear h0 hG t1 t2
  go_enter Tryz.func26, Tryz.ntmps26
  go_wp2
  go_ret
  exact HE.out
set_option maxRecDepth 100000 in
set_option maxHeartbeats 1600000 in
theorem armB_st (p : Nat) (n : Int) (w : World) (hn : n < 0) :
    Calls Tryz.prog 26 #[.pointer (some ⟨p, 0, none⟩), .int .i64 n] w fun e w' => e = .returned (errV 1) ∧ w' = w := by
  rw [errV_ne (by decide)]
  go_enter Tryz.func26, Tryz.ntmps26
  go_wp2
  go_ret
  exact ⟨rfl, rfl⟩
theorem down_st (G : Nat → Prop) (p : Nat) (S : St) (w : World) (h : StAt w G p S) :
    Calls Tryz.prog 27 #[.pointer (some ⟨p, 0, none⟩)] w fun e w' => e = .returned (.bool S.down) ∧ w' = w := by
  obtain ⟨q, lo, F, h0, hG⟩ := h
  have h4 := h0.c4
  clear h0 hG
  go_enter Tryz.func27, Tryz.ntmps27
  go_wp2
  go_ret
  exact ⟨rfl, rfl⟩
theorem pages_st (G : Nat → Prop) (p : Nat) (S : St) (w : World) (h : StAt w G p S) :
    Calls Tryz.prog 34 #[.pointer (some ⟨p, 0, none⟩)] w fun e w' => e = .returned (.int .i64 S.safe.length) ∧ w' = w := by
  obtain ⟨q, lo, F, h0, hG⟩ := h
  exact pages_any p q lo F S w h0
end Go.Proofs.YtidmpblaeohfaaaGreatDoor
