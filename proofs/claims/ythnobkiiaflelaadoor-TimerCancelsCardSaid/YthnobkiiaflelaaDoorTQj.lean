/- What is asked of a queue that takes, gives and cancels (QK1). -/
import Derived.Test.YthnobkiiaflelaaDoorTQk0
namespace Go.Proofs.YthnobkiiaflelaaDoor
open Go.RowKit Go.Maps Go.Sort

/-- The calls of a queue that takes, gives and cancels. -/
structure QK1 (QS : World → (Nat → Prop) → Nat → List Ev → Int → Prop) : Prop extends QK0 QS where
  cancel : ∀ {w A p L last} (id : Int), QS w A p L last → last ≤ 1000 → (-9223372036854775808 ≤ id ∧ id ≤ 9223372036854775807) →
    Calls Tryd.prog 10 #[.pointer (some ⟨p, 0, none⟩), .int .i64 id] w fun e w' => ∃ A', e = .returned (errV (canE id L)) ∧ Qr QS A p (cutE id L) last w w' A'
end Go.Proofs.YthnobkiiaflelaaDoor
