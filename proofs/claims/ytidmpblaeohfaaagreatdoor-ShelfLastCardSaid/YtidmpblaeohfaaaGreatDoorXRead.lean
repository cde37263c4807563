/- enc.Read: a reader of bytes. -/
import Derived.Test.YtidmpblaeohfaaaGreatDoorXRdUint
namespace Go.Proofs.YtidmpblaeohfaaaGreatDoor
open Go.RowKit

set_option maxHeartbeats 400000 in
theorem readE_any (ad : Option Addr) (n cap : Nat) (z : Nat → Int) (w : World) (hs : SlAt w ad n z) (hnil : ad = none → n = 0 ∧ cap = 0) (hn : n ≤ 140737488351232) :
    Calls Tryz.prog 59 #[.slice ad n cap] w fun e w' => ∃ rb, e = .returned (.pointer (some ⟨rb, 0, none⟩)) ∧ RdAt w' rb n z 0 ∧ w.heap.size ≤ rb ∧ Below w.heap.size w w' := by
  go_enter Tryz.func59, Tryz.ntmps59
  go_wp2_with fail
  refine (cloneE_any ad n cap z w hs hnil hn).mono ?_
  rintro e w1 ⟨ad', cap', rfl, h1, h2, h3, h4, hb⟩
  go_wp2
  go_ret
  exact ⟨w1.heap.size, rfl, ⟨ad', cap', heap_alloc_new w1 _, h1, h2.frm ((Frm.refl [] w1).alloc _) (by simp), fun b off hn e => h2.lt hn e⟩, hb.size, hb.alloc hb.size _⟩
end Go.Proofs.YtidmpblaeohfaaaGreatDoor
