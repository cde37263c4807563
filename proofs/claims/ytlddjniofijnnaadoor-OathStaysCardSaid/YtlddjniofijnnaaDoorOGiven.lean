/- From the rows' hypothesis on the library's variable to its cell; ints, sums and signatures that came in. -/
import Derived.Test.YtlddjniofijnnaaDoorRows
import Derived.Test.YtlddjniofijnnaaDoorOSure
import Derived.ChangeSame
import Derived.ChangeVars
import Derived.JoinedOf
import Derived.RowKit
import Derived.RowKitTokens
import Derived.LaidLaws
import Derived.LaidHandle
import Derived.Stop.Joined
import Derived.ProofKit
import Derived.OpenShut
import Derived.ChangeOld
import Derived.SizedLaws
import Derived.Deep.Slices
namespace Go.Proofs.YtlddjniofijnnaaDoor
open Go.ChangeShapes Go.WideShapes Go.RowKit Go.ChangeAt

theorem own : ownKnob Tryd.prog.godebug = none := by kernel_rfl
theorem et : Tryd.prog.globalNamed "errors.errorType" = some 0 := by kernel_rfl
/-- The name under which the row lists the handle's own type. -/
def handleName : String := match (Rows.laid_errors_errorType (H := Unit)) with
  | .iface s _ => s
  | _ => ""
theorem rt : (Tryd.prog.cutTypes.find? (·.1 == handleName)).map (·.2) = some 74 := by kernel_rfl
theorem oneRow : ((List.range 116).filter fun t => Tryd.prog.rowNamed t [101, 114, 114, 111, 114]) = [29] := by kernel_rfl

/-- What the condition gives a walk: the variable's one cell. -/
theorem glob_of_laid {W : World} (h : laidMetH Tryd.prog [("errors.errorType", Rows.laid_errors_errorType)] W) : Glob W := by
  have h' : laidMet Tryd.prog [] W ∧ handlesMet Tryd.prog [("errors.errorType", Rows.laid_errors_errorType)] W := h
  obtain ⟨name, u, ty, e1, e2, e3, e4, e5⟩ := h'.2 _ (List.mem_singleton.2 rfl)
  have en : name = [101, 114, 114, 111, 114] := (Option.some.inj e1).symm
  subst en
  obtain rfl := Option.some.inj (rt.symm.trans e2)
  have hm : ty ∈ (List.range 116).filter fun t => Tryd.prog.rowNamed t [101, 114, 114, 111, 114] := List.mem_filter.2 ⟨List.mem_range.2 (by rw [← tsize]; exact e3), e4⟩
  rw [oneRow] at hm
  obtain rfl := List.mem_singleton.1 hm
  have hh : typeHandle Tryd.prog 29 = .pointer (some ⟨1, 29, none⟩) := by kernel_rfl
  rw [hh] at e5
  have := World.var?_cell et e5 0
  unfold Glob
  simpa using this

/-- Ints that came in: how they lie. -/
theorem ints_in {H : Type} {enc : TypeId × Value → H} {W : World} {base fuel : Nat} {a : Option Addr} {len cap : Nat} {x : DataW H × List MemPlace} {spare : Nat → Bool} {held : Bool} (hsp : ∀ b, spare b = true)
    (hf : DataW.trod enc Tryd.prog W base spare held fuel 38 (Value.slice a len cap).cells.toList = some x) :
    ∃ z : Nat → Int, len ≤ 9223372036854775807 ∧ IsAt W a len z ∧ ∀ j, j < len → Ib (z j) := by
  rcases open_ints Tryd.underlying38 Tryd.underlying3 (by kernel_rfl) hf with ⟨hcs, hx⟩ | ⟨ad, l, c, zs, hcs, _, hl, hm, hz, hx, hcell, hwz⟩
  · simp [Value.cells] at hcs
    obtain ⟨rfl, rfl, rfl⟩ := hcs
    exact ⟨fun _ => 0, by omega, fun h => by omega, fun _ h => by omega⟩
  · simp [Value.cells] at hcs
    obtain ⟨rfl, rfl, rfl⟩ := hcs
    rw [hsp, if_pos rfl] at hz
    refine ⟨fun j => zs.getD j 0, by simp only [maxLen] at hm; omega, fun hn => ?_, fun j hj => ?_⟩
    · obtain ⟨b, off, spot⟩ := ad
      have hc := hcell 0 (by omega)
      have hspot : spot = none := by simpa [Addr.add] using World.cell?_spot hc
      subst hspot
      refine ⟨b, off, rfl, fun j hj => ?_⟩
      have := hcell j (by omega)
      rwa [Addr.add_lit] at this
    · have hjz : j < zs.length := by omega
      have := hwz zs[j] (List.getElem_mem hjz)
      have hb := bounds_i64 this
      simp only [List.getD_eq_getElem?_getD, List.getElem?_eq_getElem hjz, Option.getD_some]
      exact hb
theorem take1 {α : Type} (l : List α) (i : Nat) (h : i < l.length) : (l.drop i).take 1 = [l[i]] := by
  rw [List.drop_eq_getElem_cons h]; rfl
/-- A sum's cells. -/
theorem sum_in {H : Type} {enc : TypeId × Value → H} {W : World} {base fuel : Nat} {cs : List Value} {x : DataW H × List MemPlace} {spare : Nat → Bool} {held : Bool}
    (hf : DataW.trod enc Tryd.prog W base spare held fuel 32 cs = some x) : ∃ z : Nat → Int, cs = bl z 32 ∧ Zb z := by
  obtain ⟨ys, m3, _, _, hcl, hyl, hy⟩ := DataW.trod_array Tryd.underlying32 hf
  rw [cellsB] at hy
  have hcl' : cs.length = 32 := by rw [hcl]; kernel_rfl
  have hb : ∀ i, i < 32 → ∃ q : Int, cs[i]? = some (.int .u8 q) ∧ 0 ≤ q ∧ q ≤ 255 := by
    intro i hi
    have h := hy i hi
    rw [Nat.mul_one, List.getElem?_eq_getElem (by omega), take1 _ i (by omega)] at h
    obtain ⟨q, e, _, wq⟩ := DataW.trod_int Tryd.underlying5 h
    refine ⟨q, ?_, bounds_u8 wq⟩
    simp at e
    rw [List.getElem?_eq_getElem (by omega), e]
  obtain ⟨h, hh⟩ := Go.Deep.choose_lt hb
  refine ⟨h, ?_, fun j hj => (hh j hj).2⟩
  apply List.ext_getElem?
  intro i
  by_cases hi : i < 32
  · rw [bl_at hi, (hh i hi).1]
  · rw [List.getElem?_eq_none (by omega), List.getElem?_eq_none (by simp [bl_length]; omega)]
theorem hash_in {H : Type} {enc : TypeId × Value → H} {W : World} {base base2 fuel : Nat} {v : Value} {r : Reach} {x : DataW H × List MemPlace} {spare : Nat → Bool} {held : Bool} (hv' : Value.okWide Tryd.prog W r base2 32 v)
    (hf : DataW.trod enc Tryd.prog W base spare held fuel 32 v.cells.toList = some x) : ∃ z : Nat → Int, v = .agg (hv z) ∧ Zb z := by
  obtain ⟨cs, rfl⟩ : ∃ cs, v = .agg cs := by
    simp only [Value.okWide, Tryd.underlying32] at hv'
    obtain ⟨cs, h1, _⟩ := hv'
    exact ⟨cs, h1⟩
  obtain ⟨z, h1, h2⟩ := sum_in hf
  refine ⟨z, ?_, h2⟩
  have : cs.toList = bl z 32 := h1
  rw [hv, ← this]
end Go.Proofs.YtlddjniofijnnaaDoor
