/- From the rows' hypothesis on the library's variable to its cell; bools that came in. -/
import Derived.Test.YtnilgjlccfileaaDoorRows
import Derived.Test.YtnilgjlccfileaaDoorPNum
import Derived.Test.YtnilgjlccfileaaDoorPCrashW
import Derived.ChangeSame
import Derived.ChangeVars
import Derived.JoinedOf
import Derived.RowKit
import Derived.RowKitTokens
import Derived.LaidLaws
import Derived.LaidHandle
import Derived.Stop.Joined
import Derived.ProofKit
import Derived.OpenShut
import Derived.ChangeOld
import Derived.SizedLaws
import Derived.Deep.Slices
import Derived.Deep.Grids
namespace Go.Proofs.YtnilgjlccfileaaDoor
open Go.ChangeShapes Go.WideShapes Go.RowKit Go.ChangeAt

theorem laidOut : laidOutB Tryd.prog = true := by kernel_rfl
theorem tsize : Tryd.prog.types.size = 130 := by kernel_rfl
theorem own : ownKnob Tryd.prog.godebug = none := by kernel_rfl
theorem et : Tryd.prog.globalNamed "errors.errorType" = some 0 := by kernel_rfl
/-- The name under which the row lists the handle's own type. -/
def handleName : String := match (Rows.laid_errors_errorType (H := Unit)) with
  | .iface s _ => s
  | _ => ""
theorem rt : (Tryd.prog.cutTypes.find? (·.1 == handleName)).map (·.2) = some 89 := by kernel_rfl
theorem oneRow : ((List.range 130).filter fun t => Tryd.prog.rowNamed t [101, 114, 114, 111, 114]) = [26] := by kernel_rfl

/-- What the condition gives a walk: the variable's one cell. -/
theorem glob_of_laid {W : World} (h : laidMetH Tryd.prog [("errors.errorType", Rows.laid_errors_errorType)] W) : Glob W := by
  have h' : laidMet Tryd.prog [] W ∧ handlesMet Tryd.prog [("errors.errorType", Rows.laid_errors_errorType)] W := h
  obtain ⟨name, u, ty, e1, e2, e3, e4, e5⟩ := h'.2 _ (List.mem_singleton.2 rfl)
  have en : name = [101, 114, 114, 111, 114] := (Option.some.inj e1).symm
  subst en
  obtain rfl := Option.some.inj (rt.symm.trans e2)
  have hm : ty ∈ (List.range 130).filter fun t => Tryd.prog.rowNamed t [101, 114, 114, 111, 114] := List.mem_filter.2 ⟨List.mem_range.2 (by rw [← tsize]; exact e3), e4⟩
  rw [oneRow] at hm
  obtain rfl := List.mem_singleton.1 hm
  have hh : typeHandle Tryd.prog 26 = .pointer (some ⟨1, 26, none⟩) := by kernel_rfl
  rw [hh] at e5
  have := World.var?_cell et e5 0
  unfold Glob
  simpa using this

/-- Bools that came in: how they lie. -/
theorem bools_in {H : Type} {enc : TypeId × Value → H} {W : World} {base fuel : Nat} {a : Option Addr} {len cap : Nat} {x : DataW H × List MemPlace} {held : Bool}
    (hf : DataW.trod enc Tryd.prog W base (fun _ => true) held fuel 56 (Value.slice a len cap).cells.toList = some x) :
    ∃ z : Nat → Bool, len ≤ 9223372036854775807 ∧ BlAt W a len z := by
  rcases Go.Deep.open_bools Tryd.underlying56 Tryd.underlying4 (by kernel_rfl) hf with ⟨hcs, hx⟩ | ⟨ad, l, c, B, hcs, _, hl, hm, hx, hcell⟩
  · simp [Value.cells] at hcs
    obtain ⟨rfl, rfl, rfl⟩ := hcs
    exact ⟨fun _ => false, by omega, fun h => by omega⟩
  · simp [Value.cells] at hcs
    obtain ⟨rfl, rfl, rfl⟩ := hcs
    refine ⟨B, by simp only [maxLen] at hm; omega, fun hn => ?_⟩
    obtain ⟨b, off, spot⟩ := ad
    have hc := hcell 0 (by omega)
    have hspot : spot = none := by simpa [Addr.add] using World.cell?_spot hc
    subst hspot
    refine ⟨b, off, rfl, fun j hj => ?_⟩
    have := hcell j (by omega)
    rwa [Addr.add_lit] at this
theorem crash_card (st : Int) (ad : Option Addr) (len cap : Nat) (kb : Nat → Bool) (w : World) (hg : Glob w) (hlen : len ≤ 9223372036854775807) (hk : BlAt w ad len kb) :
    Calls Tryd.prog 4 #[.int .i64 st, .slice ad len cap] w fun e w' => e = .returned (.bool true) ∧ Below w.heap.size w w' := crash_any st ad len cap kb w hk hlen hg
end Go.Proofs.YtnilgjlccfileaaDoor
