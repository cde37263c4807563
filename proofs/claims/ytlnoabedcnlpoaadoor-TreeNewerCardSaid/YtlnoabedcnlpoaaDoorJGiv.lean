/- From the rows' hypothesis on the library's variable to its cell; trees and paths that came in. -/
import Derived.Test.YtlnoabedcnlpoaaDoorRows
import Derived.Test.YtlnoabedcnlpoaaDoorJLefts
import Derived.ChangeSame
import Derived.ChangeVars
import Derived.JoinedOf
import Derived.RowKit
import Derived.RowKitTokens
import Derived.LaidLaws
import Derived.LaidHandle
import Derived.Stop.Joined
import Derived.ProofKit
import Derived.OpenShut
import Derived.ChangeOld
import Derived.SizedLaws
import Derived.Deep.Slices
namespace Go.Proofs.YtlnoabedcnlpoaaDoor
open Go.ChangeShapes Go.WideShapes Go.RowKit Go.ChangeAt

theorem laidOut : laidOutB Tryd.prog = true := by kernel_rfl
theorem own : ownKnob Tryd.prog.godebug = none := by kernel_rfl
theorem et : Tryd.prog.globalNamed "errors.errorType" = some 0 := by kernel_rfl
/-- The name under which the row lists the handle's own type. -/
def handleName : String := match (Rows.laid_errors_errorType (H := Unit)) with
  | .iface s _ => s
  | _ => ""
theorem rt : (Tryd.prog.cutTypes.find? (·.1 == handleName)).map (·.2) = some 99 := by kernel_rfl
theorem oneRow : ((List.range 141).filter fun t => Tryd.prog.rowNamed t [101, 114, 114, 111, 114]) = [36] := by kernel_rfl
/-- What the condition gives a walk: the variable's one cell. -/
theorem glob_of_laid {W : World} (h : laidMetH Tryd.prog [("errors.errorType", Rows.laid_errors_errorType)] W) : Glob W := by
  have h' : laidMet Tryd.prog [] W ∧ handlesMet Tryd.prog [("errors.errorType", Rows.laid_errors_errorType)] W := h
  obtain ⟨name, u, ty, e1, e2, e3, e4, e5⟩ := h'.2 _ (List.mem_singleton.2 rfl)
  have en : name = [101, 114, 114, 111, 114] := (Option.some.inj e1).symm
  subst en
  obtain rfl := Option.some.inj (rt.symm.trans e2)
  have hm : ty ∈ (List.range 141).filter fun t => Tryd.prog.rowNamed t [101, 114, 114, 111, 114] := List.mem_filter.2 ⟨List.mem_range.2 (by rw [← tsize]; exact e3), e4⟩
  rw [oneRow] at hm
  obtain rfl := List.mem_singleton.1 hm
  have hh : typeHandle Tryd.prog 36 = .pointer (some ⟨1, 36, none⟩) := by kernel_rfl
  rw [hh] at e5
  have := World.var?_cell et e5 0
  unfold Glob
  simpa using this
/-- What all weights are at most. -/
def Light {H : Type} (t : TypeId) (d : DataW H) : Prop := ∀ q ∈ d.weights Tryd.prog t, q ≤ 140737488351232
theorem weights_mem_all {H : Type} {P : Program} {e : TypeId} : ∀ {l : List (DataW H)} {d : DataW H}, d ∈ l → ∀ q ∈ d.weights P e, q ∈ DataW.weightsAll P e l
  | d0 :: l, d, hd, q, hq => by
    simp only [DataW.weightsAll, List.mem_append]
    rcases List.mem_cons.1 hd with rfl | h
    · exact Or.inl hq
    · exact Or.inr (weights_mem_all h q hq)
theorem bytesI : Tryd.prog.bytesOf 3 = 8 := by kernel_rfl
/-- Ints that came in: how they lie. -/
theorem ints_in {H : Type} {enc : TypeId × Value → H} {W : World} {base fuel : Nat} {cs : List Value} {x : DataW H × List MemPlace} {spare : Nat → Bool} {held : Bool} (hsp : ∀ b, spare b = true)
    (hf : DataW.trod enc Tryd.prog W base spare held fuel 26 cs = some x) (hw : Light 26 x.1) :
    ∃ (a : Option Addr) (len cap : Nat) (z : Nat → Int), cs = [.slice a len cap] ∧ len ≤ 140737488355328 ∧ IsAt W a len z ∧ (a = none → len = 0 ∧ cap = 0) := by
  rcases open_ints Tryd.underlying26 Tryd.underlying3 (by kernel_rfl) hf with ⟨hcs, hx⟩ | ⟨ad, l, c, zs, hcs, _, hl, hm, hz, hx, hcell, hwz⟩
  · exact ⟨none, 0, 0, fun _ => 0, hcs, by omega, fun h => by omega, fun _ => ⟨rfl, rfl⟩⟩
  · rw [hsp, if_pos rfl] at hz
    refine ⟨some ad, l, c, fun j => zs.getD j 0, hcs, ?_, fun hn => ?_, fun h => by cases h⟩
    · have h1 := hw _ (by rw [hx]; simp only [DataW.weights, Tryd.underlying26]; exact List.mem_cons_self)
      rw [bytesI] at h1
      simp [lits] at h1
      omega
    · obtain ⟨b, off, spot⟩ := ad
      have hc := hcell 0 (by omega)
      have hspot : spot = none := by simpa [Addr.add] using World.cell?_spot hc
      subst hspot
      refine ⟨b, off, rfl, fun j hj => ?_⟩
      have := hcell j (by omega)
      rwa [Addr.add_lit] at this
theorem take1 {α : Type} (l : List α) (i : Nat) (h : i < l.length) : (l.drop i).take 1 = [l[i]] := by
  rw [List.drop_eq_getElem_cons h]; rfl
/-- A sum's cells. -/
theorem sum_in {H : Type} {enc : TypeId × Value → H} {W : World} {base fuel : Nat} {cs : List Value} {x : DataW H × List MemPlace} {spare : Nat → Bool} {held : Bool}
    (hf : DataW.trod enc Tryd.prog W base spare held fuel 23 cs = some x) : ∃ z : Nat → Int, cs = bl z 32 ∧ Zb z := by
  obtain ⟨ys, m3, _, _, hcl, hyl, hy⟩ := DataW.trod_array Tryd.underlying23 hf
  rw [cellsB] at hy
  have hcl' : cs.length = 32 := by rw [hcl]; kernel_rfl
  have hb : ∀ i, i < 32 → ∃ q : Int, cs[i]? = some (.int .u8 q) ∧ 0 ≤ q ∧ q ≤ 255 := by
    intro i hi
    have h := hy i hi
    rw [Nat.mul_one, List.getElem?_eq_getElem (by omega), take1 _ i (by omega)] at h
    obtain ⟨q, e, _, wq⟩ := DataW.trod_int Tryd.underlying5 h
    refine ⟨q, ?_, bounds_u8 wq⟩
    simp at e
    rw [List.getElem?_eq_getElem (by omega), e]
  obtain ⟨h, hh⟩ := Go.Deep.choose_lt hb
  refine ⟨h, ?_, fun j hj => (hh j hj).2⟩
  apply List.ext_getElem?
  intro i
  by_cases hi : i < 32
  · rw [bl_at hi, (hh i hi).1]
  · rw [List.getElem?_eq_none (by omega), List.getElem?_eq_none (by simp [bl_length]; omega)]
/-- A point that came in, of its 33 cells. -/
theorem point_in {H : Type} {enc : TypeId × Value → H} {W : World} {base fuel : Nat} {cs : List Value} {x : DataW H × List MemPlace} {spare : Nat → Bool} {held : Bool}
    (hf : DataW.trod enc Tryd.prog W base spare held fuel 25 cs = some x) :
    ∃ (z : Nat → Int) (n : Int), cs = ptl z n ∧ Zb z ∧ Ib n := by
  obtain ⟨xs, m, rfl, rfl, hcl, hxl, hfs⟩ := DataW.trod_struct Tryd.underlying25 hf
  have hcl' : cs.length = 33 := by rw [hcl]; kernel_rfl
  have hxl' : xs.length = 2 := hxl
  have g0 : DataW.trod enc Tryd.prog W base spare held m 23 ((cs.drop 0).take (Tryd.prog.cellsOf 23)) = xs[0]? := hfs 0 _ rfl
  have g1 : DataW.trod enc Tryd.prog W base spare held m 3 ((cs.drop 32).take (Tryd.prog.cellsOf 3)) = xs[1]? := hfs 1 _ rfl
  rw [cellsH, List.getElem?_eq_getElem (by omega)] at g0
  rw [cellsI, take1 cs 32 (by omega), List.getElem?_eq_getElem (by omega)] at g1
  obtain ⟨z, h0, hz⟩ := sum_in g0
  obtain ⟨n, h1, _, w1⟩ := DataW.trod_int Tryd.underlying3 g1
  refine ⟨z, n, ?_, hz, bounds_i64 w1⟩
  simp at h0 h1
  have e0 : cs = cs.take 32 ++ [cs[32]] := by
    have := List.take_append_drop 32 cs
    rw [List.drop_eq_getElem_cons (l := cs) (i := 32) (by omega), List.drop_eq_nil_of_le (by omega)] at this
    exact this.symm
  rw [e0, h0, h1]
  rfl
/-- A tree that came in, of its 40 cells. -/
theorem tc_in {H : Type} {enc : TypeId × Value → H} {W : World} {base fuel : Nat} {cs : List Value} {x : DataW H × List MemPlace} {spare : Nat → Bool} {held : Bool} (hsp : ∀ b, spare b = true)
    (hf : DataW.trod enc Tryd.prog W base spare held fuel 28 cs = some x) (hw : Light 28 x.1) :
    ∃ (c : Tc) (ka : Option Addr) (kc : Nat), cs = tcl c ka kc ∧ IsAt W ka c.kn c.kz ∧ c.kn ≤ 140737488355328 ∧ Ib c.st := by
  obtain ⟨xs, m, rfl, rfl, hcl, hxl, hfs⟩ := DataW.trod_struct Tryd.underlying28 hf
  have hcl' : cs.length = 40 := by rw [hcl]; kernel_rfl
  have hxl' : xs.length = 8 := hxl
  have g0 : DataW.trod enc Tryd.prog W base spare held m 25 ((cs.drop 0).take (Tryd.prog.cellsOf 25)) = xs[0]? := hfs 0 _ rfl
  have g1 : DataW.trod enc Tryd.prog W base spare held m 3 ((cs.drop 33).take (Tryd.prog.cellsOf 3)) = xs[1]? := hfs 1 _ rfl
  have g2 : DataW.trod enc Tryd.prog W base spare held m 26 ((cs.drop 34).take (Tryd.prog.cellsOf 26)) = xs[2]? := hfs 2 _ rfl
  have g3 : DataW.trod enc Tryd.prog W base spare held m 3 ((cs.drop 35).take (Tryd.prog.cellsOf 3)) = xs[3]? := hfs 3 _ rfl
  have g4 : DataW.trod enc Tryd.prog W base spare held m 3 ((cs.drop 36).take (Tryd.prog.cellsOf 3)) = xs[4]? := hfs 4 _ rfl
  have g5 : DataW.trod enc Tryd.prog W base spare held m 3 ((cs.drop 37).take (Tryd.prog.cellsOf 3)) = xs[5]? := hfs 5 _ rfl
  have g6 : DataW.trod enc Tryd.prog W base spare held m 3 ((cs.drop 38).take (Tryd.prog.cellsOf 3)) = xs[6]? := hfs 6 _ rfl
  have g7 : DataW.trod enc Tryd.prog W base spare held m 3 ((cs.drop 39).take (Tryd.prog.cellsOf 3)) = xs[7]? := hfs 7 _ rfl
  rw [cellsP, List.getElem?_eq_getElem (by omega)] at g0
  rw [cellsI, take1 cs 33 (by omega), List.getElem?_eq_getElem (by omega)] at g1
  rw [cellsS, take1 cs 34 (by omega), List.getElem?_eq_getElem (by omega)] at g2
  rw [cellsI, take1 cs 35 (by omega), List.getElem?_eq_getElem (by omega)] at g3
  rw [cellsI, take1 cs 36 (by omega), List.getElem?_eq_getElem (by omega)] at g4
  rw [cellsI, take1 cs 37 (by omega), List.getElem?_eq_getElem (by omega)] at g5
  rw [cellsI, take1 cs 38 (by omega), List.getElem?_eq_getElem (by omega)] at g6
  rw [cellsI, take1 cs 39 (by omega), List.getElem?_eq_getElem (by omega)] at g7
  have wk : Light 26 (xs[2]'(by omega)).1 := fun q hq => hw q (by
    simp only [DataW.weights, Tryd.underlying28]
    exact DataW.weights_mem_each (j := 2) (t := 26) (d := (xs[2]'(by omega)).1) rfl (by rw [List.getElem?_map, List.getElem?_eq_getElem (by omega)]; rfl) q hq)
  obtain ⟨z, n, h0, hz, hn⟩ := point_in g0
  obtain ⟨am, h1, _, w1⟩ := DataW.trod_int Tryd.underlying3 g1
  obtain ⟨ka, kn, kc, kz, h2, hk, hI, -⟩ := ints_in hsp g2 wk
  obtain ⟨dp, h3, _, w3⟩ := DataW.trod_int Tryd.underlying3 g3
  obtain ⟨fi, h4, _, w4⟩ := DataW.trod_int Tryd.underlying3 g4
  obtain ⟨la, h5, _, w5⟩ := DataW.trod_int Tryd.underlying3 g5
  obtain ⟨st, h6, _, w6⟩ := DataW.trod_int Tryd.underlying3 g6
  obtain ⟨fe, h7, _, w7⟩ := DataW.trod_int Tryd.underlying3 g7
  refine ⟨⟨z, n, am, kn, kz, dp, fi, la, st, fe⟩, ka, kc, ?_, hI, hk, bounds_i64 w6⟩
  simp at h0 h1 h2 h3 h4 h5 h6 h7
  have e0 : cs = cs.take 33 ++ [cs[33], cs[34], cs[35], cs[36], cs[37], cs[38], cs[39]] := by
    have := List.take_append_drop 33 cs
    rw [List.drop_eq_getElem_cons (l := cs) (i := 33) (by omega), List.drop_eq_getElem_cons (l := cs) (i := 33 + 1) (by omega), List.drop_eq_getElem_cons (l := cs) (i := 33 + 1 + 1) (by omega), List.drop_eq_getElem_cons (l := cs) (i := 33 + 1 + 1 + 1) (by omega), List.drop_eq_getElem_cons (l := cs) (i := 33 + 1 + 1 + 1 + 1) (by omega), List.drop_eq_getElem_cons (l := cs) (i := 33 + 1 + 1 + 1 + 1 + 1) (by omega), List.drop_eq_getElem_cons (l := cs) (i := 33 + 1 + 1 + 1 + 1 + 1 + 1) (by omega), List.drop_eq_nil_of_le (by omega)] at this
    exact this.symm
  rw [e0, h0, h1, h2, h3, h4, h5, h6, h7]
  simp [tcl, ptl]
end Go.Proofs.YtlnoabedcnlpoaaDoor
