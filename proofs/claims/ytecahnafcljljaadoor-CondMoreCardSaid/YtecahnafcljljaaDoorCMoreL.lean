/- CondMore at what came in. -/
import Derived.Test.YtecahnafcljljaaDoorCMoreW
import Derived.Test.YtecahnafcljljaaDoorCGivenS
namespace Go.Proofs.YtecahnafcljljaaDoor
open Go.RowKit Go.Shelf Go.Sort

theorem moreL (ad : Option Addr) (n cap : Nat) (X : Nat → Bv) (br : Int) (sa : Option Addr) (sn sc : Nat) (sz : Nat → Int) (ta : Option Addr) (tc : Nat) (T : List Nat) (ht ag : Int) (w : World) (hg : Glob w) (hT : Tab w) (hB : BrAt w ad n X) (hn : n ≤ 140737488355328) (hx : ∀ i, i < n → (X i).n ≤ 140737488355328) (hbr : Ib br) (hs : SeenIn w sa sn sz ta tc T ht ag) :
    Calls Tryd.prog 4 #[.agg #[.slice ad n cap], .int .i64 br, .agg #[.slice sa sn sc, .slice ta T.length tc, .int .i64 ht, .int .i64 ag]] w fun e w' => e = .returned (.bool true) ∧ Below w.heap.size w w' :=
  more_any ad n cap X br sa sn sc sz ta tc T ht ag w ⟨hg, hT, hT.size, hB, hs.si, hs.se⟩ hn hx hs.sl hs.ty hs.tc hs.tl hbr hs.ht hs.ag
end Go.Proofs.YtecahnafcljljaaDoor
