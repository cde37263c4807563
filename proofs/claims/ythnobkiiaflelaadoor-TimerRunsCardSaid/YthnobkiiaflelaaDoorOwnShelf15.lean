/- What is asked of a queue: all its calls by contracts (QK); the laws' walks rest on them. -/
import Derived.Test.YthnobkiiaflelaaDoorOwnShelf11
import Derived.Test.YthnobkiiaflelaaDoorOwnShelf12
import Derived.Test.YthnobkiiaflelaaDoorOwnShelf14
import Derived.Test.YthnobkiiaflelaaDoorOwnShelf06
namespace Go.Proofs.YthnobkiiaflelaaDoor
open Go.RowKit Go.Maps Go.Sort

/-- All calls of a queue. -/
structure QK (QS : World → (Nat → Prop) → Nat → List Ev → Int → Prop) : Prop extends QK1 QS where
  events : ∀ {w A p L last}, QS w A p L last → last ≤ 1000 →
    Calls Tryd.prog 13 #[.pointer (some ⟨p, 0, none⟩)] w fun e w' => ∃ A' ad cap, e = .returned (.slice ad L.length cap) ∧ Qr QS A p L last w w' A' ∧ EvAt w' ad L ∧ (∀ a, ad = some a → ¬ A' a.block ∧ w.heap.size ≤ a.block) ∧ L.length ≤ cap
  nAdd : ∀ (due : Int) (nm : List UInt8) w, Calls Tryd.prog 6 #[.pointer none, .int .i64 due, encStr nm] w fun e w' => ∃ n, e = .returned (.tuple #[n, errV 1]) ∧ Below w.heap.size w w'
  nNext : ∀ w, Calls Tryd.prog 7 #[.pointer none] w fun e w' => ∃ n, e = .returned (.tuple #[n, .bool false]) ∧ Below w.heap.size w w'
  nCancel : ∀ (id : Int) w, Calls Tryd.prog 10 #[.pointer none, .int .i64 id] w fun e w' => e = .returned (errV 1) ∧ Below w.heap.size w w'
  nLen : ∀ w, Calls Tryd.prog 11 #[.pointer none] w fun e w' => e = .returned (.int .i64 0) ∧ Below w.heap.size w w'
  nPop : ∀ (now : Int) w, Calls Tryd.prog 12 #[.pointer none, .int .i64 now] w fun e w' => ∃ ad cap, e = .returned (.slice ad 0 cap) ∧ Below w.heap.size w w'
  nEvents : ∀ w, Calls Tryd.prog 13 #[.pointer none] w fun e w' => ∃ ad cap, e = .returned (.slice ad 0 cap) ∧ Below w.heap.size w w'
theorem sure_any {QS : World → (Nat → Prop) → Nat → List Ev → Int → Prop} (hK : QK QS) (w : World) :
    Calls Tryd.prog 18 #[] w fun e w' => e = .returned (.bool true) ∧ Below w.heap.size w w' := sure0_any hK.toQK0 w
end Go.Proofs.YthnobkiiaflelaaDoor
