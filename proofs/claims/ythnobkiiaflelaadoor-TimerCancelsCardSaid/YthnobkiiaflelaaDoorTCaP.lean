/- TimerCancels on the landed queue. -/
import Derived.Test.YthnobkiiaflelaaDoorTCa
import Derived.Test.YthnobkiiaflelaaDoorTQc
namespace Go.Proofs.YthnobkiiaflelaaDoor
open Go.RowKit Go.Maps Go.Sort

theorem cancels_card (ad : Option Addr) (cap : Nat) (ks : List Int) (bd : Option Addr) (cap2 : Nat) (gs : List Bool) (w : World) (hg : Glob w) (hk : ks.length * 8 ≤ 140737488355328) (hi : IsL w ad ks) (_hn : ad = none → ks.length = 0 ∧ cap = 0) (hgs : gs.length ≤ 140737488355328) (hb : BlL w bd gs) :
    Calls Tryd.prog 5 #[.slice ad ks.length cap, .slice bd gs.length cap2] w fun e w' => e = .returned (.bool true) ∧ Below w.heap.size w w' :=
  cancels_any qk1 ad bd cap cap2 ks gs w hg hi (by omega) hb hgs
end Go.Proofs.YthnobkiiaflelaaDoor
