/- A shelf's Get. -/
import Derived.Test.YtidmpblaeohfaaaGreatDoorSBase
namespace Go.Proofs.YtidmpblaeohfaaaGreatDoor
open Go.RowKit Go.Maps Go.Sort

attribute [local go_sem ↓] Go.wp_at_zero Go.wp_at_succ

theorem zeroLf (w : World) : (zeroValue 101).run Tryz.prog w = .ok (.agg #[.int .i64 0, .string ⟨#[]⟩]) w := by kernel_rfl
theorem lfR_zero : lfR (.agg #[.int .i64 0, .string ⟨#[]⟩]) = some (lfD 0 [], []) := by simp [lfR]
/-- What a map of leaves answers at a key. -/
theorem look_lf {w : World} {m : Nat} {L : List Lf} (h : lfM w m L) {k : List UInt8} (hk : k.length ≤ maxLen) :
    ∃ (p : Nat) (u : List UInt8), (Instr.lookup 81 (.map (some m)) (encStr k) true).run Tryz.prog w = .ok (.tuple #[.agg #[.int .i64 (p : Int), encStr u], .bool (getK Lf.k k L).isSome]) w ∧ ((getK Lf.k k L = none ∧ p = 0 ∧ u = []) ∨ ∃ x, getK Lf.k k L = some x ∧ p = x.p ∧ u = x.v) := by
  obtain ⟨v, ps, hrun, hv⟩ := World.ownsMap.look_ok h strK Tryz.underlying81 (zeroLf w) lfR_zero (key_str hk)
  obtain ⟨p, u, rfl, hy⟩ := lfR_inv hv
  rw [dOf_has] at hrun
  rw [dOf_at] at hy
  refine ⟨p, u, hrun, ?_⟩
  have h1 := (Prod.mk.inj hy).1
  cases hg : getK Lf.k k L with
  | none => rw [hg] at h1; have := lfD_inj h1; exact .inl ⟨rfl, this.1.symm, this.2.symm⟩
  | some x => rw [hg] at h1; have := lfD_inj h1; exact .inr ⟨x, rfl, this.1.symm, this.2.symm⟩
def valK (k : List UInt8) (L : List Lf) : List UInt8 := match getK Lf.k k L with | some x => x.v | none => []
set_option maxRecDepth 100000 in
set_option maxHeartbeats 800000 in
theorem get_any (sh m p fr n : Nat) (L : List Lf) (dead : Int) (k : List UInt8) (w : World) (h : ShAt w sh m p fr n L dead) (hk : k.length ≤ maxLen) :
    Calls Tryz.prog 15 #[.pointer (some ⟨sh, 0, none⟩), encStr k] w fun e w' => e = .returned (.tuple #[encStr (valK k L), .bool (getK Lf.k k L).isSome]) ∧ Below w.heap.size w w' := by
  have c3 := h.c3
  obtain ⟨q, u, hrun, hv⟩ := look_lf h.map hk
  have hu : u = valK k L := by
    unfold valK
    rcases hv with ⟨e, _, rfl⟩ | ⟨x, e, _, rfl⟩ <;> rw [e]
  subst hu
  generalize valK k L = u at *
  generalize (getK Lf.k k L).isSome = b at *
  clear h hv
  go_enter Tryz.func15, Tryz.ntmps15
  go_wp2
  go_ret2
  exact ⟨rfl, (by repeat (first | exact Below.refl _ _ | refine Below.alloc ?_ (by simp; try omega) _ | refine Below.setCell ?_ (by simp) _ | refine below_drewN ?_ _ | refine Below.drew ?_))⟩
set_option maxHeartbeats 800000 in
theorem get_nil (k : Value) (w : World) :
    Calls Tryz.prog 15 #[.pointer none, k] w fun e w' => e = .returned (.tuple #[encStr [], .bool false]) ∧ w' = w := by
  go_enter Tryz.func15, Tryz.ntmps15
  go_wp2
  go_ret2
  exact ⟨rfl, rfl⟩
end Go.Proofs.YtidmpblaeohfaaaGreatDoor
