/- From the rows' hypothesis on the variables to the one that is read; conditions that came in. -/
import Derived.Test.YtecahnafcljljaaDoorRows
import Derived.Test.YtecahnafcljljaaDoorCSure
import Derived.ChangeSame
import Derived.ChangeVars
import Derived.JoinedOf
import Derived.RowKit
import Derived.RowKitTokens
import Derived.LaidLaws
import Derived.LaidHandle
import Derived.Stop.Joined
import Derived.ProofKit
import Derived.OpenShut
import Derived.ChangeOld
import Derived.SizedLaws
import Derived.Deep.Slices
namespace Go.Proofs.YtecahnafcljljaaDoor
open Go.ChangeShapes Go.WideShapes Go.RowKit Go.ChangeAt

theorem laidOut : laidOutB Tryd.prog = true := by kernel_rfl
theorem own : ownKnob Tryd.prog.godebug = none := by kernel_rfl
theorem et : Tryd.prog.globalNamed "errors.errorType" = some 0 := by kernel_rfl
/-- The name under which the row lists the handle's own type. -/
def handleName : String := match (Rows.laid_errors_errorType (H := Unit)) with
  | .iface s _ => s
  | _ => ""
theorem rt : (Tryd.prog.cutTypes.find? (·.1 == handleName)).map (·.2) = some 99 := by kernel_rfl
theorem oneRow : ((List.range 184).filter fun t => Tryd.prog.rowNamed t [101, 114, 114, 111, 114]) = [34] := by kernel_rfl

/-- The variables that the rows list. -/
def vars {H : Type} : List (String × DataW H) := [("errors.errorType", Rows.laid_errors_errorType), ("bayou/blake.first", Rows.laid_bayou_blake_first), ("bayou/blake.rows", Rows.laid_bayou_blake_rows)]
/-- What the condition gives a walk: the variable's one cell. -/
theorem glob_of_laid {W : World} (h : laidMetH Tryd.prog vars W) : Glob W := by
  have h' : laidMet Tryd.prog [("bayou/blake.first", Rows.laid_bayou_blake_first), ("bayou/blake.rows", Rows.laid_bayou_blake_rows)] W ∧ handlesMet Tryd.prog [("errors.errorType", Rows.laid_errors_errorType)] W := h
  obtain ⟨name, u, ty, e1, e2, e3, e4, e5⟩ := h'.2 _ (List.mem_singleton.2 rfl)
  have en : name = [101, 114, 114, 111, 114] := (Option.some.inj e1).symm
  subst en
  obtain rfl := Option.some.inj (rt.symm.trans e2)
  have hm : ty ∈ (List.range 184).filter fun t => Tryd.prog.rowNamed t [101, 114, 114, 111, 114] := List.mem_filter.2 ⟨List.mem_range.2 (by rw [← tsize]; exact e3), e4⟩
  rw [oneRow] at hm
  obtain rfl := List.mem_singleton.1 hm
  have hh : typeHandle Tryd.prog 34 = .pointer (some ⟨3, 34, none⟩) := by kernel_rfl
  rw [hh] at e5
  have := World.var?_cell et e5 0
  unfold Glob
  simpa using this

/-- What all weights are at most. -/
def Light {H : Type} (t : TypeId) (d : DataW H) : Prop := ∀ q ∈ d.weights Tryd.prog t, q ≤ 140737488351232
theorem weights_mem_all {H : Type} {P : Program} {e : TypeId} : ∀ {l : List (DataW H)} {d : DataW H}, d ∈ l → ∀ q ∈ d.weights P e, q ∈ DataW.weightsAll P e l
  | d0 :: l, d, hd, q, hq => by
    simp only [DataW.weightsAll, List.mem_append]
    rcases List.mem_cons.1 hd with rfl | h
    · exact Or.inl hq
    · exact Or.inr (weights_mem_all h q hq)
theorem bytesI : Tryd.prog.bytesOf 3 = 8 := by kernel_rfl
/-- Ints that came in: how they lie. -/
theorem ints_in {H : Type} {enc : TypeId × Value → H} {W : World} {base fuel : Nat} {cs : List Value} {x : DataW H × List MemPlace} {spare : Nat → Bool} {held : Bool} (hsp : ∀ b, spare b = true)
    (hf : DataW.trod enc Tryd.prog W base spare held fuel 25 cs = some x) (hw : Light 25 x.1) :
    ∃ (a : Option Addr) (len cap : Nat) (z : Nat → Int), cs = [.slice a len cap] ∧ len ≤ 140737488355328 ∧ IsAt W a len z ∧ ∀ j, j < len → Ib (z j) := by
  rcases open_ints Tryd.underlying25 Tryd.underlying3 (by kernel_rfl) hf with ⟨hcs, hx⟩ | ⟨ad, l, c, zs, hcs, _, hl, hm, hz, hx, hcell, hwz⟩
  · exact ⟨none, 0, 0, fun _ => 0, hcs, by omega, fun h => by omega, fun _ h => by omega⟩
  · rw [hsp, if_pos rfl] at hz
    refine ⟨some ad, l, c, fun j => zs.getD j 0, hcs, ?_, fun hn => ?_, fun j hj => ?_⟩
    · have h1 := hw _ (by rw [hx]; simp only [DataW.weights, Tryd.underlying25]; exact List.mem_cons_self)
      rw [bytesI] at h1
      simp [lits] at h1
      omega
    · obtain ⟨b, off, spot⟩ := ad
      have hc := hcell 0 (by omega)
      have hspot : spot = none := by simpa [Addr.add] using World.cell?_spot hc
      subst hspot
      refine ⟨b, off, rfl, fun j hj => ?_⟩
      have := hcell j (by omega)
      rwa [Addr.add_lit] at this
    · have hjz : j < zs.length := by omega
      have := hwz zs[j] (List.getElem_mem hjz)
      have hb := bounds_i64 this
      simp only [List.getD_eq_getElem?_getD, List.getElem?_eq_getElem hjz, Option.getD_some]
      exact hb
theorem take1 {α : Type} (l : List α) (i : Nat) (h : i < l.length) : (l.drop i).take 1 = [l[i]] := by
  rw [List.drop_eq_getElem_cons h]; rfl
/-- A sum's cells. -/
theorem sum_in {H : Type} {enc : TypeId × Value → H} {W : World} {base fuel : Nat} {cs : List Value} {x : DataW H × List MemPlace} {spare : Nat → Bool} {held : Bool}
    (hf : DataW.trod enc Tryd.prog W base spare held fuel 44 cs = some x) : ∃ z : Nat → Int, cs = bl z 32 ∧ Zb z := by
  obtain ⟨ys, m3, _, _, hcl, hyl, hy⟩ := DataW.trod_array Tryd.underlying44 hf
  rw [cellsB] at hy
  have hcl' : cs.length = 32 := by rw [hcl]; kernel_rfl
  have hb : ∀ i, i < 32 → ∃ q : Int, cs[i]? = some (.int .u8 q) ∧ 0 ≤ q ∧ q ≤ 255 := by
    intro i hi
    have h := hy i hi
    rw [Nat.mul_one, List.getElem?_eq_getElem (by omega), take1 _ i (by omega)] at h
    obtain ⟨q, e, _, wq⟩ := DataW.trod_int Tryd.underlying5 h
    refine ⟨q, ?_, bounds_u8 wq⟩
    simp at e
    rw [List.getElem?_eq_getElem (by omega), e]
  obtain ⟨h, hh⟩ := Go.Deep.choose_lt hb
  refine ⟨h, ?_, fun j hj => (hh j hj).2⟩
  apply List.ext_getElem?
  intro i
  by_cases hi : i < 32
  · rw [bl_at hi, (hh i hi).1]
  · rw [List.getElem?_eq_none (by omega), List.getElem?_eq_none (by simp [bl_length]; omega)]
/-- One branch, of its 35 cells. -/
theorem branch_in {H : Type} {enc : TypeId × Value → H} {W : World} {base fuel : Nat} {cs : List Value} {x : DataW H × List MemPlace} {spare : Nat → Bool} {held : Bool} (hsp : ∀ b, spare b = true)
    (hf : DataW.trod enc Tryd.prog W base spare held fuel 48 cs = some x) (hw : Light 48 x.1) :
    ∃ (b : Bv) (ka : Option Addr) (kc : Nat), cs = brl b ka kc ∧ b.Ok ∧ IsAt W ka b.n b.z ∧ b.n ≤ 140737488355328 := by
  obtain ⟨xs, m, rfl, rfl, hcl, hxl, hfs⟩ := DataW.trod_struct Tryd.underlying48 hf
  have hcl' : cs.length = 35 := by rw [hcl]; kernel_rfl
  have hxl' : xs.length = 4 := hxl
  have g0 : DataW.trod enc Tryd.prog W base spare held m 25 ((cs.drop 0).take (Tryd.prog.cellsOf 25)) = xs[0]? := hfs 0 _ rfl
  have g1 : DataW.trod enc Tryd.prog W base spare held m 44 ((cs.drop 1).take (Tryd.prog.cellsOf 44)) = xs[1]? := hfs 1 _ rfl
  have g2 : DataW.trod enc Tryd.prog W base spare held m 3 ((cs.drop 33).take (Tryd.prog.cellsOf 3)) = xs[2]? := hfs 2 _ rfl
  have g3 : DataW.trod enc Tryd.prog W base spare held m 3 ((cs.drop 34).take (Tryd.prog.cellsOf 3)) = xs[3]? := hfs 3 _ rfl
  rw [cellsS] at g0
  rw [cellsH] at g1
  rw [cellsI] at g2 g3
  rw [take1 cs 0 (by omega), List.getElem?_eq_getElem (by omega)] at g0
  rw [List.getElem?_eq_getElem (by omega)] at g1
  rw [take1 cs 33 (by omega), List.getElem?_eq_getElem (by omega)] at g2
  rw [take1 cs 34 (by omega), List.getElem?_eq_getElem (by omega)] at g3
  have w0 : Light 25 (xs[0]'(by omega)).1 := fun q hq => hw q (by
    simp only [DataW.weights, Tryd.underlying48]
    exact DataW.weights_mem_each (j := 0) (t := 25) (d := (xs[0]'(by omega)).1) rfl (by rw [List.getElem?_map, List.getElem?_eq_getElem (by omega)]; rfl) q hq)
  obtain ⟨ka, n, kc, z, h0, hn, hI, hz⟩ := ints_in hsp g0 w0
  obtain ⟨lk, h1, hlk⟩ := sum_in g1
  obtain ⟨af, h2, _, w2⟩ := DataW.trod_int Tryd.underlying3 g2
  obtain ⟨ol, h3, _, w3⟩ := DataW.trod_int Tryd.underlying3 g3
  refine ⟨⟨n, z, lk, af, ol⟩, ka, kc, ?_, ⟨hz, hlk, bounds_i64 w2, bounds_i64 w3⟩, hI, hn⟩
  simp at h0 h2 h3
  have e0 : cs = cs[0] :: cs.drop 1 := by
    have := List.drop_eq_getElem_cons (l := cs) (i := 0) (by omega)
    simpa using this
  have e1 : cs.drop 1 = (cs.drop 1).take 32 ++ (cs.drop 1).drop 32 := (List.take_append_drop 32 _).symm
  have e2 : (cs.drop 1).drop 32 = [cs[33], cs[34]] := by
    rw [List.drop_drop, List.drop_eq_getElem_cons (by omega), List.drop_eq_getElem_cons (by omega), List.drop_eq_nil_of_le (by omega)]
  rw [e0, h0, e1, h1, e2, h2, h3]
  rfl
/-- A condition that came in. -/
theorem cond_in {H : Type} {enc : TypeId × Value → H} {W : World} {base fuel : Nat} {cs : List Value} {x : DataW H × List MemPlace} {spare : Nat → Bool} {held : Bool} (hsp : ∀ b, spare b = true)
    (hf : DataW.trod enc Tryd.prog W base spare held fuel 24 cs = some x) (hw : Light 24 x.1) :
    ∃ (a : Option Addr) (len cap : Nat) (X : Nat → Bv), cs = [.slice a len cap] ∧ BrAt W a len X ∧ len ≤ 140737488355328 ∧ ∀ i, i < len → (X i).n ≤ 140737488355328 := by
  obtain ⟨xs, m0, rfl, rfl, hcl, hxl, hfs⟩ := DataW.trod_struct Tryd.underlying24 hf
  have hcl' : cs.length = 1 := by rw [hcl]; kernel_rfl
  have hxl' : xs.length = 1 := hxl
  have cB : Tryd.prog.cellsOf 22 = 1 := by kernel_rfl
  have g0 : DataW.trod enc Tryd.prog W base spare held m0 22 ((cs.drop 0).take (Tryd.prog.cellsOf 22)) = xs[0]? := hfs 0 _ rfl
  rw [cB, take1 cs 0 (by omega), List.getElem?_eq_getElem (by omega)] at g0
  have w0 : Light 22 (xs[0]'(by omega)).1 := fun q hq => hw q (by
    simp only [DataW.weights, Tryd.underlying24]
    exact DataW.weights_mem_each (j := 0) (t := 22) (d := (xs[0]'(by omega)).1) rfl (by rw [List.getElem?_map, List.getElem?_eq_getElem (by omega)]; rfl) q hq)
  obtain ⟨c0, rfl⟩ := List.length_eq_one_iff.1 hcl'
  have g0 : DataW.trod enc Tryd.prog W base spare held m0 22 [c0] = some (xs[0]'(by omega)) := g0
  rcases Go.Deep.open_slice Tryd.underlying22 g0 with ⟨hcs, hx⟩ | ⟨ad, l, c, m, n, D, Pl, hcs, _, hl, hcm, hm, hx, hcell⟩
  · exact ⟨none, 0, 0, fun _ => default, hcs, BrAt.nil _ _ _, by omega, fun i hi => by omega⟩
  · rw [hsp, if_pos rfl] at hm
    subst hm
    have cT : Tryd.prog.cellsOf 48 = 35 := by kernel_rfl
    have bT : Tryd.prog.bytesOf 48 = 72 := by kernel_rfl
    rw [cT] at hcell
    have hlen : l ≤ 140737488355328 := by
      have h1 := w0 _ (by rw [hx]; simp only [DataW.weights, Tryd.underlying22]; exact List.mem_cons_self)
      rw [bT] at h1
      simp at h1
      omega
    have each : ∀ i, i < l → ∃ t : Bv × (Option Addr × Nat), W.cells? base (ad.add (i * 35)) 35 = some (brl t.1 t.2.1 t.2.2) ∧ t.1.Ok ∧ IsAt W t.2.1 t.1.n t.1.z ∧ t.1.n ≤ 140737488355328 := by
      intro i hi
      obtain ⟨cs', h1, h2⟩ := hcell i (by omega)
      have wi : Light 48 (D i) := fun q hq => w0 q (by
        rw [hx]
        simp only [DataW.weights, Tryd.underlying22]
        exact List.mem_cons_of_mem _ (List.mem_append_left _ (weights_mem_all (List.mem_map.2 ⟨i, List.mem_range.2 hi, rfl⟩) q hq)))
      obtain ⟨b, ka, kc, rfl, h3, h4, h5⟩ := branch_in hsp h2 wi
      exact ⟨(b, ka, kc), h1, h3, h4, h5⟩
    obtain ⟨X, hX⟩ := Go.Deep.choose_lt each
    refine ⟨some ad, l, _, fun i => (X i).1, hcs, ⟨fun i hi => (hX i hi).2.1, fun hn => ?_⟩, hlen, fun i hi => (hX i hi).2.2.2⟩
    obtain ⟨b, off, spot⟩ := ad
    obtain ⟨_, _, h0⟩ := World.cells?_some (hX 0 (by omega)).1
    have h0' := h0 0 (by omega)
    have hspot : spot = none := by
      have : W.cell? ⟨b, off, spot⟩ = some (.slice (X 0).2.1 (X 0).1.n (X 0).2.2) := by simpa [Addr.add, brl] using h0'
      exact World.cell?_spot this
    subst hspot
    refine ⟨b, off, rfl, fun i hi => ⟨(X i).2.1, (X i).2.2, fun j v hv => ?_, (hX i hi).2.2.1⟩⟩
    obtain ⟨_, _, h1⟩ := World.cells?_some (hX i (by omega)).1
    have hj : j < 35 := by
      have := (List.getElem?_eq_some_iff.1 hv).1
      rwa [brl_length] at this
    have h2 := h1 j hj
    rw [Addr.add_lit, Addr.add_lit, hv] at h2
    exact h2
end Go.Proofs.YtecahnafcljljaaDoor
