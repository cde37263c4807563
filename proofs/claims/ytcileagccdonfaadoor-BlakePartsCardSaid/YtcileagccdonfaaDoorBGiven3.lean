/- From the rows' hypothesis on three variables to the tables' cells and the handle's one. -/
import Derived.Test.YtcileagccdonfaaDoorBGiven
import Derived.Test.YtcileagccdonfaaDoorBNum
namespace Go.Proofs.YtcileagccdonfaaDoor
open Go.ChangeShapes Go.WideShapes Go.RowKit Go.ChangeAt

theorem et : Tryd.prog.globalNamed "errors.errorType" = some 1 := by kernel_rfl
/-- The name under which the row lists the handle's own type. -/
def handleName : String := match (Rows.laid_errors_errorType (H := Unit)) with
  | .iface s _ => s
  | _ => ""
theorem rt : (Tryd.prog.cutTypes.find? (·.1 == handleName)).map (·.2) = some 86 := by kernel_rfl
theorem oneRow : ((List.range 129).filter fun t => Tryd.prog.rowNamed t [101, 114, 114, 111, 114]) = [30] := by kernel_rfl
theorem tsize : Tryd.prog.types.size = 129 := by kernel_rfl
/-- The variables that the rows list. -/
def vars3 {H : Type} : List (String × DataW H) := [("errors.errorType", Rows.laid_errors_errorType), ("bayou/blake.first", Rows.laid_bayou_blake_first), ("bayou/blake.rows", Rows.laid_bayou_blake_rows)]
theorem glob_of_laid {W : World} (h : laidMetH Tryd.prog vars3 W) : Glob W := by
  have h' : laidMet Tryd.prog [("bayou/blake.first", Rows.laid_bayou_blake_first), ("bayou/blake.rows", Rows.laid_bayou_blake_rows)] W ∧ handlesMet Tryd.prog [("errors.errorType", Rows.laid_errors_errorType)] W := h
  obtain ⟨name, u, ty, e1, e2, e3, e4, e5⟩ := h'.2 _ (List.mem_singleton.2 rfl)
  have en : name = [101, 114, 114, 111, 114] := (Option.some.inj e1).symm
  subst en
  obtain rfl := Option.some.inj (rt.symm.trans e2)
  have hm : ty ∈ (List.range 129).filter fun t => Tryd.prog.rowNamed t [101, 114, 114, 111, 114] := List.mem_filter.2 ⟨List.mem_range.2 (by rw [← tsize]; exact e3), e4⟩
  rw [oneRow] at hm
  obtain rfl := List.mem_singleton.1 hm
  have hh : typeHandle Tryd.prog 30 = .pointer (some ⟨3, 30, none⟩) := by kernel_rfl
  rw [hh] at e5
  have := World.var?_cell et e5 0
  unfold Glob
  simpa using this
theorem tab_of_laid3 {W : World} (h : laidMetH Tryd.prog vars3 W) : Tab W := by
  have h' : laidMet Tryd.prog [("bayou/blake.first", Rows.laid_bayou_blake_first), ("bayou/blake.rows", Rows.laid_bayou_blake_rows)] W ∧ handlesMet Tryd.prog [("errors.errorType", Rows.laid_errors_errorType)] W := h
  exact tab_of_reads (Lib.laidMet.reads h'.1 (.head _)) (Lib.laidMet.reads h'.1 (.tail _ (.head _)))
end Go.Proofs.YtcileagccdonfaaDoor
