/- strings.Clone: the same bytes. -/
import Derived.Test.YthnobkiiaflelaaTLay
import Derived.Test.YthnobkiiaflelaaTWp
namespace Go.Proofs.Ythnobkiiaflelaa
open Go.RowKit Go.Shelf

attribute [local go_sem ↓] Go.wp_at_zero Go.wp_at_succ

set_option maxHeartbeats 400000 in
theorem cloneS_any (k : List UInt8) (w : World) (hk : k.length ≤ 100000) : Calls Try.prog 9 #[encStr k] w fun e w' => e = .returned (encStr k) ∧ Below w.heap.size w w' := by
  have hcon := Any.stringslite_Clone Try.lCloneS ⟨k.toArray⟩ w (by simp [ByteArray.size]; omega)
  change Calls Try.prog 13 #[encStr k] w fun e w' => e = .returned (encStr k) ∧ Below w.heap.size w w' at hcon
  generalize encStr k = v at *
  go_enter Try.func9, Try.ntmps9
  go_wp2_with fail
  refine hcon.mono ?_
  rintro e w' ⟨rfl, hb⟩
  go_wp2
  go_ret
  exact ⟨rfl, hb⟩
end Go.Proofs.Ythnobkiiaflelaa
