/- strings.Clone: the same bytes. -/
import Derived.Test.YthnobkiiaflelaaDoorOwnShelf27
import Derived.Test.YthnobkiiaflelaaDoorOwnShelf24
namespace Go.Proofs.YthnobkiiaflelaaDoor
open Go.RowKit Go.Shelf

attribute [local go_sem ↓] Go.wp_at_zero Go.wp_at_succ

set_option maxHeartbeats 400000 in
theorem cloneS_any (k : List UInt8) (w : World) (hk : k.length ≤ 100000) : Calls Tryd.prog 19 #[encStr k] w fun e w' => e = .returned (encStr k) ∧ Below w.heap.size w w' := by
  have hcon := Any.stringslite_Clone Tryd.lCloneS ⟨k.toArray⟩ w (by simp [ByteArray.size]; omega)
  change Calls Tryd.prog 26 #[encStr k] w fun e w' => e = .returned (encStr k) ∧ Below w.heap.size w w' at hcon
  generalize encStr k = v at *
  go_enter Tryd.func19, Tryd.ntmps19
  go_wp2_with fail
  refine hcon.mono ?_
  rintro e w' ⟨rfl, hb⟩
  go_wp2
  go_ret
  exact ⟨rfl, hb⟩
end Go.Proofs.YthnobkiiaflelaaDoor
