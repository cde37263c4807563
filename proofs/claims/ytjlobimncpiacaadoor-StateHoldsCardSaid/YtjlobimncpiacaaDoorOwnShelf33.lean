/- A state that came in. -/
import Derived.Test.YtjlobimncpiacaaDoorOwnShelf22
import Derived.Test.YtjlobimncpiacaaDoorOwnShelf29
import Derived.Test.YtjlobimncpiacaaDoorOwnShelf31
import Derived.Test.YtjlobimncpiacaaDoorOwnShelf32
namespace Go.Proofs.YtjlobimncpiacaaDoor
open Go.RowKit

/-- A state that came in. -/
structure StIn (w : World) (s : Sv) (p : Pl) : Prop where
  at_ : SvAt w s p
  pn : s.pn ≤ 140737488355328
  hn : s.hn ≤ 140737488355328
  ks : ∀ i, i < s.hn → (s.H i).n ≤ 140737488355328
end Go.Proofs.YtjlobimncpiacaaDoor
