/- sure: what must come whatever the input is. -/
import Derived.Test.YtchiapnhkhbigaaDoorOwnShelf29
namespace Go.Proofs.YtchiapnhkhbigaaDoor
open Go.RowKit

def s5 : Sv := { sv0 with a := 50, b := 50 }
theorem rgt5 : Rgt s5 := by decide
theorem move5 : moveF s5 0 20 = ({ sv0 with nu := 1, a := 30, b := 70 }, 0) := by
  have h := rgt5
  unfold moveF
  rw [if_neg (by simp [h]), if_neg (by simp [Side]), if_neg (by decide), if_neg (by simp [has, s5])]
  simp [giv, nxt, s5, sv0]
set_option maxRecDepth 100000 in
set_option maxHeartbeats 1600000 in
theorem sure_any (w : World) :
    Calls Tryd.prog 6 #[] w fun e w' => e = .returned (.bool true) ∧ Below w.heap.size w w' := by
  have h5 : SvAt w s5 pl0 := ⟨PyAt.nil _ _ _, HdAt.nil _ _ _, Nat.le_refl _, Nat.le_refl _, fun _ => ⟨rfl, rfl⟩, fun _ => ⟨rfl, rfl⟩⟩
  have hs5 : s5.Small := ⟨by simp [s5, sv0], fun i hi => by simp [s5, sv0] at hi⟩
  have hm := move_any s5 pl0 0 20 w h5 hs5
  rw [move5] at hm
  clear h5 hs5
  unfold svv s5 sv0 pl0 at hm
  simp only at hm
  go_enter Tryd.func6, Tryd.ntmps6
  go_wp2_with fail
  refine hm.mono ?_
  rintro e w1 ⟨q, rfl, _, hb1⟩
  have e0 : errV 0 = .nilIface := rfl
  rw [e0]
  clear hm
  have hbe : Below w.heap.size w (w1.alloc (.cells #[.int .i64 1, .int .i64 30, .int .i64 70, .slice q.pa 0 q.pc, .slice q.ha 0 q.hc] 35)) := hb1.alloc hb1.size _
  have heq : ∀ w : World, (binOp .eql 22 (.agg #[.int .i64 30, .int .i64 70]) (.agg #[.int .i64 30, .int .i64 70])).run Tryd.prog w = .ok (.bool true) w := fun w => by kernel_rfl
  go_wp2
  go_ret
  exact ⟨rfl, hbe⟩
end Go.Proofs.YtchiapnhkhbigaaDoor
