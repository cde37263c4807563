/- bits.Mul of one and a small number. -/
import Derived.Test.YtlnoabedcnlpoaaDoorJBase
namespace Go.Proofs.YtlnoabedcnlpoaaDoor
open Go.RowKit

theorem eight {P : Nat → Prop} (h1 : P 1) (h2 : P 2) (h3 : P 3) (h4 : P 4) (h5 : P 5) (h6 : P 6) (h7 : P 7) (h8 : P 8) : ∀ k, 1 ≤ k → k ≤ 8 → P k := by
  intro k a b
  match k, a, b with
  | 1, _, _ => exact h1
  | 2, _, _ => exact h2
  | 3, _, _ => exact h3
  | 4, _, _ => exact h4
  | 5, _, _ => exact h5
  | 6, _, _ => exact h6
  | 7, _, _ => exact h7
  | 8, _, _ => exact h8
  | n + 9, _, b => omega
theorem mul64_any (w : World) : ∀ k : Nat, 1 ≤ k → k ≤ 8 →
    Calls Tryd.prog 44 #[.int .u64 1, .int .u64 (k : Int)] w fun e w' => e = .returned (.tuple #[.int .u64 0, .int .u64 (k : Int)]) ∧ w' = w := by
  apply eight
  all_goals
    go_enter Tryd.func44, Tryd.ntmps44
    go_wp2
    go_ret2
    exact ⟨rfl, rfl⟩
theorem mul_any (w : World) (k : Nat) (h1 : 1 ≤ k) (h2 : k ≤ 8) :
    Calls Tryd.prog 35 #[.int .u64 1, .int .u64 (k : Int)] w fun e w' => e = .returned (.tuple #[.int .u64 0, .int .u64 (k : Int)]) ∧ w' = w := by
  have hm := mul64_any w k h1 h2
  go_enter Tryd.func35, Tryd.ntmps35
  go_wp2_with fail
  refine hm.mono ?_
  rintro e w1 ⟨rfl, hw1⟩
  rw [hw1]
  clear hm hw1
  go_wp2
  go_ret2
  exact ⟨rfl, rfl⟩
end Go.Proofs.YtlnoabedcnlpoaaDoor
