/-
  NARROWER THAN 'FOR EVERY INPUT', by the rows' own cells (each row's printed sentence says how): BuildCommits: laid · BuildFunds: laid · BuildPlaces: laid · BuildCloses: laid.
  DERIVED. THE GIVEN ROWS OF THIS SEAT. 4 by the template 'for every input the law returns true; each argument reads behind the call as it read before'; 0 by the template 'total and deterministic' (their statements: YtjnepkggdkccaaaGreatDoorTotals.lean).
  GIVEN WITH THE SEED: the statements are not yours to turn. If you find one false, say at which input.
  Laid BY PROGRAM, IN A SANDBOX (cutbox-rows.mjs): the forced cells as the released guide's own fill.sh prints them over the translation 309480f4849bbff5… (all of the seat's roots in one cut). By AI agents, Wed Nov 11 2026. No macro, syntax, notation, axiom, sorry.
-/
import Derived.Test.YtjnepkggdkccaaaGreatDoorChecked
import GoSem.Claim
import GoSem.ClaimJoined
import GoSem.ClaimMapViews
import Derived.JoinedTies
import Derived.KernelRfl
namespace Go.Proofs.YtjnepkggdkccaaaGreatDoor
/- THE CELL 'sum', in the pinned program and in every row, IS THE sha256 OF THE DUMP (.gsa) THAT YtjnepkggdkccaaaGreatDoorProg.lean LOADS. Nothing in Lean hashes anything: it is a label: what it is worth is what the hold of that sum in a sandbox is worth. -/
noncomputable def Tryz.pinned : Pinned := { name := "ytjnepkggdkccaaagreatdoor", sum := "309480f4849bbff556d7b6e345c0cb435893b88fcebcd656b899bddfdf05c096", checked := Tryz.checked }
namespace Rows
def none {H : Type} : Left H := { results := [], args := [] }

/- WHAT THE LISTED PACKAGE-LEVEL VARIABLES READ AS WHEN THE CALL BEGINS. Each datum BY PROGRAM (the guide's laid-datum.mjs) off the statement by which the dump's own 'gosem.cut.vars' lays the variable. In a bare row this is a premise. The card (YtjnepkggdkccaaaGreatDoorCards.lean) ties it to the program's text. -/
def laid_errors_errorType {H : Type} : DataW H := .iface "internal/reflectlite.rtype" (.agg [.ptr (.lit (.string [101, 114, 114, 111, 114]))])

/-- 'bayoulaw14.BuildCommits': WHATEVER THE INPUT: true; the input reads as it did. -/
def buildCommitsSpec : ChangeSpec := { name := "buildCommits", fn := fun _ => fun
  | [d1, d2, d3] => { results := [.lit (.bool true)], args := [d1, d2, d3] }
  | _ => none }
def buildCommitsRow : OpenClaim := { program := "ytjnepkggdkccaaagreatdoor", sum := "309480f4849bbff556d7b6e345c0cb435893b88fcebcd656b899bddfdf05c096", func := "bayou/bayoulaw14.BuildCommits", spec := "buildCommits", inPlace := ["internal/reflectlite.ValueOf", "(internal/reflectlite.Value).Type", "(internal/reflectlite.Value).IsNil", "internal/reflectlite.TypeOf", "(internal/reflectlite.Value).Elem", "(internal/reflectlite.Value).Set"], unfollowed := true, recurses := true, named := ["errors.errorType"], plainKeys := false, apart := false, laid := [("errors.errorType", laid_errors_errorType)] }
def BuildCommitsSaid : Prop := buildCommitsRow.holds Tryz.pinned (OpenSpec.ofChange buildCommitsSpec)

/-- ITS FALSE NEIGHBOUR: 'it returns false'. Refute it at one input. -/
def buildCommitsWrong : ChangeSpec := { name := "buildCommits", fn := fun _ => fun
  | [d1, d2, d3] => { results := [.lit (.bool false)], args := [d1, d2, d3] }
  | _ => none }
def BuildCommitsWrongFalsely : Prop := buildCommitsRow.holds Tryz.pinned (OpenSpec.ofChange buildCommitsWrong)

/-- 'bayoulaw14.BuildFunds': WHATEVER THE INPUT: true; the input reads as it did. -/
def buildFundsSpec : ChangeSpec := { name := "buildFunds", fn := fun _ => fun
  | [d1, d2, d3] => { results := [.lit (.bool true)], args := [d1, d2, d3] }
  | _ => none }
def buildFundsRow : OpenClaim := { program := "ytjnepkggdkccaaagreatdoor", sum := "309480f4849bbff556d7b6e345c0cb435893b88fcebcd656b899bddfdf05c096", func := "bayou/bayoulaw14.BuildFunds", spec := "buildFunds", inPlace := ["internal/reflectlite.ValueOf", "(internal/reflectlite.Value).Type", "(internal/reflectlite.Value).IsNil", "internal/reflectlite.TypeOf", "(internal/reflectlite.Value).Elem", "(internal/reflectlite.Value).Set"], unfollowed := true, recurses := true, named := ["errors.errorType"], plainKeys := false, apart := false, laid := [("errors.errorType", laid_errors_errorType)] }
def BuildFundsSaid : Prop := buildFundsRow.holds Tryz.pinned (OpenSpec.ofChange buildFundsSpec)

/-- ITS FALSE NEIGHBOUR: 'it returns false'. Refute it at one input. -/
def buildFundsWrong : ChangeSpec := { name := "buildFunds", fn := fun _ => fun
  | [d1, d2, d3] => { results := [.lit (.bool false)], args := [d1, d2, d3] }
  | _ => none }
def BuildFundsWrongFalsely : Prop := buildFundsRow.holds Tryz.pinned (OpenSpec.ofChange buildFundsWrong)

/-- 'bayoulaw14.BuildPlaces': WHATEVER THE INPUT: true; the input reads as it did. -/
def buildPlacesSpec : ChangeSpec := { name := "buildPlaces", fn := fun _ => fun
  | [d1, d2, d3] => { results := [.lit (.bool true)], args := [d1, d2, d3] }
  | _ => none }
def buildPlacesRow : OpenClaim := { program := "ytjnepkggdkccaaagreatdoor", sum := "309480f4849bbff556d7b6e345c0cb435893b88fcebcd656b899bddfdf05c096", func := "bayou/bayoulaw14.BuildPlaces", spec := "buildPlaces", inPlace := ["internal/reflectlite.ValueOf", "(internal/reflectlite.Value).Type", "(internal/reflectlite.Value).IsNil", "internal/reflectlite.TypeOf", "(internal/reflectlite.Value).Elem", "(internal/reflectlite.Value).Set"], unfollowed := true, recurses := true, named := ["errors.errorType"], plainKeys := false, apart := false, laid := [("errors.errorType", laid_errors_errorType)] }
def BuildPlacesSaid : Prop := buildPlacesRow.holds Tryz.pinned (OpenSpec.ofChange buildPlacesSpec)

/-- ITS FALSE NEIGHBOUR: 'it returns false'. Refute it at one input. -/
def buildPlacesWrong : ChangeSpec := { name := "buildPlaces", fn := fun _ => fun
  | [d1, d2, d3] => { results := [.lit (.bool false)], args := [d1, d2, d3] }
  | _ => none }
def BuildPlacesWrongFalsely : Prop := buildPlacesRow.holds Tryz.pinned (OpenSpec.ofChange buildPlacesWrong)

/-- 'bayoulaw14.BuildCloses': WHATEVER THE INPUT: true; the input reads as it did. -/
def buildClosesSpec : ChangeSpec := { name := "buildCloses", fn := fun _ => fun
  | [d1, d2] => { results := [.lit (.bool true)], args := [d1, d2] }
  | _ => none }
def buildClosesRow : OpenClaim := { program := "ytjnepkggdkccaaagreatdoor", sum := "309480f4849bbff556d7b6e345c0cb435893b88fcebcd656b899bddfdf05c096", func := "bayou/bayoulaw14.BuildCloses", spec := "buildCloses", inPlace := ["internal/reflectlite.ValueOf", "(internal/reflectlite.Value).Type", "(internal/reflectlite.Value).IsNil", "internal/reflectlite.TypeOf", "(internal/reflectlite.Value).Elem", "(internal/reflectlite.Value).Set"], unfollowed := true, recurses := true, named := ["errors.errorType"], plainKeys := false, apart := false, laid := [("errors.errorType", laid_errors_errorType)] }
def BuildClosesSaid : Prop := buildClosesRow.holds Tryz.pinned (OpenSpec.ofChange buildClosesSpec)

/-- ITS FALSE NEIGHBOUR: 'it returns false'. Refute it at one input. -/
def buildClosesWrong : ChangeSpec := { name := "buildCloses", fn := fun _ => fun
  | [d1, d2] => { results := [.lit (.bool false)], args := [d1, d2] }
  | _ => none }
def BuildClosesWrongFalsely : Prop := buildClosesRow.holds Tryz.pinned (OpenSpec.ofChange buildClosesWrong)

/- THE SECOND FORM. 'bulk': how many values and letters a reading holds, each counted each time it is reached (what is shared counts as often as it is met; a slice's spare places count too). A statement '..UptoSaid' is the law's where the arguments, and the package variables that the reading takes, are together of bulk at most 1048576: NARROWER than '..Said'. Prove '..Said' where nothing that the law and all that it calls make is longer than what came in: it says more and counts as full. Else prove '..UptoSaid'. A law counts once. -/
mutual
def uptoBulk {H : Type} : DataW H → Nat
  | .lit (.string bytes) => bytes.length + 1
  | .lit _ => 1
  | .nil => 1
  | .ptr d => uptoBulk d + 1
  | .slice elems spare => uptoBulkAll elems + uptoBulkAll spare + 1
  | .agg parts => uptoBulkAll parts + 1
  | .iface _ d => uptoBulk d + 1
  | .map entries => uptoBulkEntries entries + 1
  | .held _ => 1
def uptoBulkAll {H : Type} : List (DataW H) → Nat
  | [] => 0
  | d :: r => uptoBulk d + uptoBulkAll r
def uptoBulkEntries {H : Type} : List (Lit × DataW H) → Nat
  | [] => 0
  | x :: r => uptoBulkEntry x + uptoBulkEntries r
def uptoBulkEntry {H : Type} : Lit × DataW H → Nat
  | (.string bytes, d) => bytes.length + uptoBulk d + 1
  | (_, d) => uptoBulk d + 1
 end
def uptoSmall : (H : Type) → List (DataW H) → Bool := fun _ ds => decide (uptoBulkAll ds ≤ 1048576)
def OpenSpec.upto (s : _root_.Go.ChangeSpec) : _root_.Go.OpenSpec := { _root_.Go.OpenSpec.ofChange s with cond := some uptoSmall }

/-- 'bayoulaw14.BuildCommits', WHERE WHAT IT READS IS OF BULK AT MOST 1048576: true; the input reads as it did. -/
def buildCommitsUptoRow : OpenClaim := { program := "ytjnepkggdkccaaagreatdoor", sum := "309480f4849bbff556d7b6e345c0cb435893b88fcebcd656b899bddfdf05c096", func := "bayou/bayoulaw14.BuildCommits", spec := "buildCommits", inPlace := ["internal/reflectlite.ValueOf", "(internal/reflectlite.Value).Type", "(internal/reflectlite.Value).IsNil", "internal/reflectlite.TypeOf", "(internal/reflectlite.Value).Elem", "(internal/reflectlite.Value).Set"], unfollowed := true, recurses := true, named := ["errors.errorType"], plainKeys := false, apart := false, laid := [("errors.errorType", laid_errors_errorType)], narrowed := true }
def BuildCommitsUptoSaid : Prop := buildCommitsUptoRow.holds Tryz.pinned (OpenSpec.upto buildCommitsSpec)

/-- 'bayoulaw14.BuildFunds', WHERE WHAT IT READS IS OF BULK AT MOST 1048576: true; the input reads as it did. -/
def buildFundsUptoRow : OpenClaim := { program := "ytjnepkggdkccaaagreatdoor", sum := "309480f4849bbff556d7b6e345c0cb435893b88fcebcd656b899bddfdf05c096", func := "bayou/bayoulaw14.BuildFunds", spec := "buildFunds", inPlace := ["internal/reflectlite.ValueOf", "(internal/reflectlite.Value).Type", "(internal/reflectlite.Value).IsNil", "internal/reflectlite.TypeOf", "(internal/reflectlite.Value).Elem", "(internal/reflectlite.Value).Set"], unfollowed := true, recurses := true, named := ["errors.errorType"], plainKeys := false, apart := false, laid := [("errors.errorType", laid_errors_errorType)], narrowed := true }
def BuildFundsUptoSaid : Prop := buildFundsUptoRow.holds Tryz.pinned (OpenSpec.upto buildFundsSpec)

/-- 'bayoulaw14.BuildPlaces', WHERE WHAT IT READS IS OF BULK AT MOST 1048576: true; the input reads as it did. -/
def buildPlacesUptoRow : OpenClaim := { program := "ytjnepkggdkccaaagreatdoor", sum := "309480f4849bbff556d7b6e345c0cb435893b88fcebcd656b899bddfdf05c096", func := "bayou/bayoulaw14.BuildPlaces", spec := "buildPlaces", inPlace := ["internal/reflectlite.ValueOf", "(internal/reflectlite.Value).Type", "(internal/reflectlite.Value).IsNil", "internal/reflectlite.TypeOf", "(internal/reflectlite.Value).Elem", "(internal/reflectlite.Value).Set"], unfollowed := true, recurses := true, named := ["errors.errorType"], plainKeys := false, apart := false, laid := [("errors.errorType", laid_errors_errorType)], narrowed := true }
def BuildPlacesUptoSaid : Prop := buildPlacesUptoRow.holds Tryz.pinned (OpenSpec.upto buildPlacesSpec)

/-- 'bayoulaw14.BuildCloses', WHERE WHAT IT READS IS OF BULK AT MOST 1048576: true; the input reads as it did. -/
def buildClosesUptoRow : OpenClaim := { program := "ytjnepkggdkccaaagreatdoor", sum := "309480f4849bbff556d7b6e345c0cb435893b88fcebcd656b899bddfdf05c096", func := "bayou/bayoulaw14.BuildCloses", spec := "buildCloses", inPlace := ["internal/reflectlite.ValueOf", "(internal/reflectlite.Value).Type", "(internal/reflectlite.Value).IsNil", "internal/reflectlite.TypeOf", "(internal/reflectlite.Value).Elem", "(internal/reflectlite.Value).Set"], unfollowed := true, recurses := true, named := ["errors.errorType"], plainKeys := false, apart := false, laid := [("errors.errorType", laid_errors_errorType)], narrowed := true }
def BuildClosesUptoSaid : Prop := buildClosesUptoRow.holds Tryz.pinned (OpenSpec.upto buildClosesSpec)

end Rows
end Go.Proofs.YtjnepkggdkccaaaGreatDoor
