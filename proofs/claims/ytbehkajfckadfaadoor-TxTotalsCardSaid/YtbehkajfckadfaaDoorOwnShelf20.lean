/- From the rows' hypotheses to the listed variables' cells; transactions that came in. -/
import Derived.Test.YtbehkajfckadfaaDoorRows
import Derived.Test.YtbehkajfckadfaaDoorOwnShelf01
import Derived.Test.YtbehkajfckadfaaDoorOwnShelf10
import Derived.Test.YtbehkajfckadfaaDoorOwnShelf19
import Derived.Test.YtbehkajfckadfaaDoorOwnShelf11
import Derived.Lib.LaidU8
import Derived.Lib.Walk
import Derived.ChangeSame
import Derived.ChangeVars
import Derived.JoinedOf
import Derived.RowKit
import Derived.RowKitTokens
import Derived.LaidLaws
import Derived.LaidHandle
import Derived.Stop.Joined
import Derived.ProofKit
import Derived.OpenShut
import Derived.ChangeOld
import Derived.SizedLaws
import Derived.Deep.Slices
import Derived.Test.YtbehkajfckadfaaDoorOwnShelf18
namespace Go.Proofs.YtbehkajfckadfaaDoor
open Go.ChangeShapes Go.WideShapes Go.RowKit Go.ChangeAt
open Go.Proofs.YtbehkajfckadfaaDoor.Cd (Zb Ib tsize cellsH cellsI cellsB cellsS IsAt)

theorem laidOut : laidOutB Tryd.prog = true := by kernel_rfl
theorem own : ownKnob Tryd.prog.godebug = none := by kernel_rfl
theorem et : Tryd.prog.globalNamed "errors.errorType" = some 0 := by kernel_rfl
/-- The name under which the row lists the handle's own type. -/
def handleName : String := match (Rows.laid_errors_errorType (H := Unit)) with
  | .iface s _ => s
  | _ => ""
theorem rt : (Tryd.prog.cutTypes.find? (·.1 == handleName)).map (·.2) = some 105 := by kernel_rfl
theorem oneRow : ((List.range 205).filter fun t => Tryd.prog.rowNamed t [101, 114, 114, 111, 114]) = [43] := by kernel_rfl
/-- The variables that the rows list. -/
def vars {H : Type} : List (String × DataW H) := [("errors.errorType", Rows.laid_errors_errorType), ("bayou/blake.first", Rows.laid_bayou_blake_first), ("bayou/blake.rows", Rows.laid_bayou_blake_rows)]
/-- What the condition gives a walk: the variable's one cell. -/
theorem glob_of_laid {W : World} (h : laidMetH Tryd.prog vars W) : Cd.Glob W := by
  have h' : laidMet Tryd.prog [("bayou/blake.first", Rows.laid_bayou_blake_first), ("bayou/blake.rows", Rows.laid_bayou_blake_rows)] W ∧ handlesMet Tryd.prog [("errors.errorType", Rows.laid_errors_errorType)] W := h
  obtain ⟨name, u, ty, e1, e2, e3, e4, e5⟩ := h'.2 _ (List.mem_singleton.2 rfl)
  have en : name = [101, 114, 114, 111, 114] := (Option.some.inj e1).symm
  subst en
  obtain rfl := Option.some.inj (rt.symm.trans e2)
  have hm : ty ∈ (List.range 205).filter fun t => Tryd.prog.rowNamed t [101, 114, 114, 111, 114] := List.mem_filter.2 ⟨List.mem_range.2 (by rw [← tsize]; exact e3), e4⟩
  rw [oneRow] at hm
  obtain rfl := List.mem_singleton.1 hm
  have hh : typeHandle Tryd.prog 43 = .pointer (some ⟨3, 43, none⟩) := by kernel_rfl
  rw [hh] at e5
  have := World.var?_cell et e5 0
  unfold Cd.Glob
  simpa using this

theorem array_len {H : Type} {enc : TypeId × Value → H} {P : Program} {w : World} {base : Nat} {sp : Nat → Bool} {held : Bool} {fuel : Nat} {t e : TypeId} {n : Nat} {cs : List Value} {x : DataW H × List MemPlace} (ht : P.underlying t = some (.array n e))
    (h : DataW.trod enc P w base sp held fuel t cs = some x) : cs.length = P.cellsOf t := by
  obtain ⟨ys, m3, _, _, hcl, _, _⟩ := DataW.trod_array ht h
  exact hcl
theorem var_heap {P : Program} {w : World} {n : String} {g : Nat} {cs : Array Value} (hg : P.globalNamed n = some g) (h : w.var? P n = some cs) : ∃ t fr, w.heap[g]? = some (.cells cs t fr) := by
  unfold World.var? at h
  rw [hg] at h
  simp only [Option.bind_some] at h
  split at h
  · rename_i c t fr he
    cases h
    exact ⟨t, fr, he⟩
  · cases h
theorem rowD (i : Nat) (hi : i < 10) : ∃ ds, Rows.laid_bayou_blake_rows (H := Unit) = .agg ds ∧ ds[i]? = some (Lib.tabData .u8 ((rowL i).map Int.ofNat)) := by
  refine ⟨_, rfl, ?_⟩
  have h : i = 0 ∨ i = 1 ∨ i = 2 ∨ i = 3 ∨ i = 4 ∨ i = 5 ∨ i = 6 ∨ i = 7 ∨ i = 8 ∨ i = 9 := by omega
  rcases h with rfl | rfl | rfl | rfl | rfl | rfl | rfl | rfl | rfl | rfl <;> rfl
theorem tab_of_reads {W : World} (h1 : Lib.VarReads Tryd.prog W "bayou/blake.first" Rows.laid_bayou_blake_first) (h2 : Lib.VarReads Tryd.prog W "bayou/blake.rows" Rows.laid_bayou_blake_rows) : Tab W := by
  constructor
  · obtain ⟨g, t, cs, fuel, p, hg, ht, hv, hd⟩ := h1
    obtain rfl : 1 = g := Option.some.inj ((show Tryd.prog.globalNamed "bayou/blake.first" = some 1 by kernel_rfl).symm.trans hg)
    obtain rfl : 151 = t := Option.some.inj ((show (Tryd.prog.globals[1]?).map (·.type) = some 151 by kernel_rfl).symm.trans ht)
    have hc := Lib.cells_of_tab (zs := firstL.map Int.ofNat) Tryd.underlying151 Tryd.underlying128 (by kernel_rfl) (by kernel_rfl) hd
    obtain ⟨t', fr, he⟩ := var_heap hg hv
    refine ⟨t', fr, ?_⟩
    rw [he]
    have : cs = wv firstL := by rw [← Array.toList_inj, hc]; rfl
    rw [this]
  · obtain ⟨g, t, cs, fuel, p, hg, ht, hv, hd⟩ := h2
    obtain rfl : 2 = g := Option.some.inj ((show Tryd.prog.globalNamed "bayou/blake.rows" = some 2 by kernel_rfl).symm.trans hg)
    obtain rfl : 166 = t := Option.some.inj ((show (Tryd.prog.globals[2]?).map (·.type) = some 166 by kernel_rfl).symm.trans ht)
    obtain ⟨t', fr, he⟩ := var_heap hg hv
    refine ⟨t', fr, ?_⟩
    rw [he]
    have hl : cs.toList.length = 160 := (array_len Tryd.underlying166 hd).trans (by kernel_rfl)
    have : cs = sv rowsF := by
      rw [← Array.toList_inj]
      apply List.ext_getElem?
      intro j
      by_cases hj : j < 160
      · obtain ⟨i, k, hi, hk, rfl⟩ : ∃ i k, i < 10 ∧ k < 16 ∧ j = i * 16 + k := ⟨j / 16, j % 16, by omega, by omega, by omega⟩
        obtain ⟨ds, hds, hrow⟩ := rowD i hi
        rw [hds] at hd
        obtain ⟨fuel', d, q, hd1, hd2⟩ := Lib.array_elem Tryd.underlying166 hd i hi
        rw [hrow] at hd1
        cases hd1
        rw [show Tryd.prog.cellsOf 165 = 16 by kernel_rfl] at hd2
        have hc := Lib.cells_of_tab (zs := (rowL i).map Int.ofNat) Tryd.underlying165 Tryd.underlying5 (by kernel_rfl) (by kernel_rfl) hd2
        have h3 := congrArg (·[k]?) hc
        simp only [List.getElem?_take, hk, if_true, List.getElem?_drop, List.getElem?_map] at h3
        rw [h3]
        have h4 := rowsF_at hi hk
        simp only [sv, sl8, List.getElem?_map, h4, Option.map_some]
        rw [List.getElem?_eq_getElem (show k < (rowL i).length by rw [rowL_len hi]; exact hk)]
        simp [List.getD_eq_getElem?_getD, List.getElem?_eq_getElem (show k < (rowL i).length by rw [rowL_len hi]; exact hk)]
      · rw [List.getElem?_eq_none (by omega), List.getElem?_eq_none (by
          have : (sv rowsF).toList.length = 160 := by kernel_rfl
          omega)]
    rw [this]
theorem Tab.size {w : World} (h : Tab w) : 3 ≤ w.heap.size := by
  obtain ⟨⟨_, _, h1⟩, ⟨_, _, h2⟩⟩ := h
  have := lt_of_block h1
  have := lt_of_block h2
  omega
theorem tab_of_laid {W : World} (h : laidMetH Tryd.prog vars W) : Tab W := by
  have h' : laidMet Tryd.prog [("bayou/blake.first", Rows.laid_bayou_blake_first), ("bayou/blake.rows", Rows.laid_bayou_blake_rows)] W ∧ handlesMet Tryd.prog [("errors.errorType", Rows.laid_errors_errorType)] W := h
  exact tab_of_reads (Lib.laidMet.reads h'.1 (.head _)) (Lib.laidMet.reads h'.1 (.tail _ (.head _)))
/-- What all weights are at most. -/
def Light {H : Type} (t : TypeId) (d : DataW H) : Prop := ∀ q ∈ d.weights Tryd.prog t, q ≤ 140737488351232
theorem weights_mem_all {H : Type} {P : Program} {e : TypeId} : ∀ {l : List (DataW H)} {d : DataW H}, d ∈ l → ∀ q ∈ d.weights P e, q ∈ DataW.weightsAll P e l
  | d0 :: l, d, hd, q, hq => by
    simp only [DataW.weightsAll, List.mem_append]
    rcases List.mem_cons.1 hd with rfl | h
    · exact Or.inl hq
    · exact Or.inr (weights_mem_all h q hq)
theorem bytesI : Tryd.prog.bytesOf 3 = 8 := by kernel_rfl
/-- Ints that came in: how they lie. -/
theorem ints_in {H : Type} {enc : TypeId × Value → H} {W : World} {base fuel : Nat} {cs : List Value} {x : DataW H × List MemPlace} {spare : Nat → Bool} {held : Bool} (hsp : ∀ b, spare b = true)
    (hf : DataW.trod enc Tryd.prog W base spare held fuel 22 cs = some x) (hw : Light 22 x.1) :
    ∃ (a : Option Addr) (len cap : Nat) (z : Nat → Int), cs = [.slice a len cap] ∧ len ≤ 140737488355328 ∧ IsAt W a len z ∧ (a = none → len = 0 ∧ cap = 0) := by
  rcases open_ints Tryd.underlying22 Tryd.underlying3 (by kernel_rfl) hf with ⟨hcs, hx⟩ | ⟨ad, l, c, zs, hcs, _, hl, hm, hz, hx, hcell, hwz⟩
  · exact ⟨none, 0, 0, fun _ => 0, hcs, by omega, fun h => by omega, fun _ => ⟨rfl, rfl⟩⟩
  · rw [hsp, if_pos rfl] at hz
    refine ⟨some ad, l, c, fun j => zs.getD j 0, hcs, ?_, fun hn => ?_, fun h => by cases h⟩
    · have h1 := hw _ (by rw [hx]; simp only [DataW.weights, Tryd.underlying22]; exact List.mem_cons_self)
      rw [bytesI] at h1
      simp [lits] at h1
      omega
    · obtain ⟨b, off, spot⟩ := ad
      have hc := hcell 0 (by omega)
      have hspot : spot = none := by simpa [Addr.add] using World.cell?_spot hc
      subst hspot
      refine ⟨b, off, rfl, fun j hj => ?_⟩
      have := hcell j (by omega)
      rwa [Addr.add_lit] at this
theorem take1 {α : Type} (l : List α) (i : Nat) (h : i < l.length) : (l.drop i).take 1 = [l[i]] := by
  rw [List.drop_eq_getElem_cons h]; rfl
/-- A sum's cells. -/
theorem sum_in {H : Type} {enc : TypeId × Value → H} {W : World} {base fuel : Nat} {cs : List Value} {x : DataW H × List MemPlace} {spare : Nat → Bool} {held : Bool}
    (hf : DataW.trod enc Tryd.prog W base spare held fuel 51 cs = some x) : ∃ z : Nat → Int, cs = bl z 32 ∧ Zb z := by
  obtain ⟨ys, m3, _, _, hcl, hyl, hy⟩ := DataW.trod_array Tryd.underlying51 hf
  rw [cellsB] at hy
  have hcl' : cs.length = 32 := by rw [hcl]; kernel_rfl
  have hb : ∀ i, i < 32 → ∃ q : Int, cs[i]? = some (.int .u8 q) ∧ 0 ≤ q ∧ q ≤ 255 := by
    intro i hi
    have h := hy i hi
    rw [Nat.mul_one, List.getElem?_eq_getElem (by omega), take1 _ i (by omega)] at h
    obtain ⟨q, e, _, wq⟩ := DataW.trod_int Tryd.underlying5 h
    refine ⟨q, ?_, bounds_u8 wq⟩
    simp at e
    rw [List.getElem?_eq_getElem (by omega), e]
  obtain ⟨h, hh⟩ := Go.Deep.choose_lt hb
  refine ⟨h, ?_, fun j hj => (hh j hj).2⟩
  apply List.ext_getElem?
  intro i
  by_cases hi : i < 32
  · rw [bl_at hi, (hh i hi).1]
  · rw [List.getElem?_eq_none (by omega), List.getElem?_eq_none (by simp [bl_length]; omega)]
/-- A point that came in, of its 33 cells. -/
theorem point_in {H : Type} {enc : TypeId × Value → H} {W : World} {base fuel : Nat} {cs : List Value} {x : DataW H × List MemPlace} {spare : Nat → Bool} {held : Bool}
    (hf : DataW.trod enc Tryd.prog W base spare held fuel 187 cs = some x) :
    ∃ (z : Nat → Int) (n : Int), cs = ptl z n ∧ Zb z ∧ Ib n := by
  obtain ⟨xs, m, rfl, rfl, hcl, hxl, hfs⟩ := DataW.trod_struct Tryd.underlying187 hf
  have hcl' : cs.length = 33 := by rw [hcl]; kernel_rfl
  have hxl' : xs.length = 2 := hxl
  have g0 : DataW.trod enc Tryd.prog W base spare held m 51 ((cs.drop 0).take (Tryd.prog.cellsOf 51)) = xs[0]? := hfs 0 _ rfl
  have g1 : DataW.trod enc Tryd.prog W base spare held m 3 ((cs.drop 32).take (Tryd.prog.cellsOf 3)) = xs[1]? := hfs 1 _ rfl
  rw [cellsH, List.getElem?_eq_getElem (by omega)] at g0
  rw [cellsI, take1 cs 32 (by omega), List.getElem?_eq_getElem (by omega)] at g1
  obtain ⟨z, h0, hz⟩ := sum_in g0
  obtain ⟨n, h1, _, w1⟩ := DataW.trod_int Tryd.underlying3 g1
  refine ⟨z, n, ?_, hz, bounds_i64 w1⟩
  simp at h0 h1
  have e0 : cs = cs.take 32 ++ [cs[32]] := by
    have := List.take_append_drop 32 cs
    rw [List.drop_eq_getElem_cons (l := cs) (i := 32) (by omega), List.drop_eq_nil_of_le (by omega)] at this
    exact this.symm
  rw [e0, h0, h1]
  rfl
theorem cellsY5 : Tryd.prog.cellsOf 54 = 1 := by kernel_rfl
theorem bytesU8 : Tryd.prog.bytesOf 5 = 1 := by kernel_rfl
/-- Bytes that came in. -/
theorem bytes5_in {H : Type} {enc : TypeId × Value → H} {W : World} {base fuel : Nat} {cs : List Value} {x : DataW H × List MemPlace} {spare : Nat → Bool} {held : Bool} (hsp : ∀ b, spare b = true)
    (hf : DataW.trod enc Tryd.prog W base spare held fuel 54 cs = some x) (hw : Light 54 x.1) :
    ∃ (a : Option Addr) (len cap : Nat) (z : Nat → Int), cs = [.slice a len cap] ∧ SlAt W a len z ∧ len ≤ 140737488355328 := by
  rcases open_ints Tryd.underlying54 Tryd.underlying5 (by kernel_rfl) hf with ⟨hcs, hx⟩ | ⟨ad, l, c, zs, hcs, _, hl, hm, hz, hx, hcell, hwz⟩
  · exact ⟨none, 0, 0, fun _ => 0, hcs, SlAt.zero _ _, by omega⟩
  · rw [hsp, if_pos rfl] at hz
    have hlen : l ≤ 140737488355328 := by
      have h1 := hw _ (by rw [hx]; simp only [DataW.weights, Tryd.underlying54]; exact List.mem_cons_self)
      rw [bytesU8] at h1
      simp [lits] at h1
      omega
    refine ⟨some ad, l, c, fun j => zs.getD j 0, hcs, ⟨fun j hj => ?_, fun hn => ?_⟩, hlen⟩
    · have hjz : j < zs.length := by omega
      have := hwz zs[j] (List.getElem_mem hjz)
      have hb := bounds_u8 this
      simp only [List.getD_eq_getElem?_getD, List.getElem?_eq_getElem hjz, Option.getD_some]
      omega
    · obtain ⟨b, off, spot⟩ := ad
      have hc := hcell 0 (by omega)
      have hspot : spot = none := by simpa [Addr.add] using World.cell?_spot hc
      subst hspot
      refine ⟨b, off, rfl, fun j hj => ?_⟩
      have := hcell j (by omega)
      rwa [Addr.add_lit] at this
/-- Keys that came in. -/
theorem keys5_in {H : Type} {enc : TypeId × Value → H} {W : World} {base fuel : Nat} {cs : List Value} {x : DataW H × List MemPlace} {spare : Nat → Bool} {held : Bool} (hsp : ∀ b, spare b = true)
    (hf : DataW.trod enc Tryd.prog W base spare held fuel 22 cs = some x) (hw : Light 22 x.1) :
    ∃ (a : Option Addr) (len cap : Nat) (z : Nat → Int), cs = [.slice a len cap] ∧ len ≤ 17592186043904 ∧ IsAt W a len z ∧ ∀ j, j < len → Ib (z j) := by
  rcases open_ints Tryd.underlying22 Tryd.underlying3 (by kernel_rfl) hf with ⟨hcs, hx⟩ | ⟨ad, l, c, zs, hcs, _, hl, hm, hz, hx, hcell, hwz⟩
  · exact ⟨none, 0, 0, fun _ => 0, hcs, by omega, fun h => by omega, fun j hj => by omega⟩
  · rw [hsp, if_pos rfl] at hz
    refine ⟨some ad, l, c, fun j => zs.getD j 0, hcs, ?_, fun hn => ?_, fun j hj => ?_⟩
    · have h1 := hw _ (by rw [hx]; simp only [DataW.weights, Tryd.underlying22]; exact List.mem_cons_self)
      rw [bytesI] at h1
      simp [lits] at h1
      omega
    · obtain ⟨b, off, spot⟩ := ad
      have hc := hcell 0 (by omega)
      have hspot : spot = none := by simpa [Addr.add] using World.cell?_spot hc
      subst hspot
      refine ⟨b, off, rfl, fun j hj => ?_⟩
      have := hcell j (by omega)
      rwa [Addr.add_lit] at this
    · have hjz : j < zs.length := by omega
      have h5 := bounds_i64 (hwz zs[j] (List.getElem_mem hjz))
      simp only [List.getD_eq_getElem?_getD, List.getElem?_eq_getElem hjz, Option.getD_some]
      exact h5
/-- One branch, of its 35 cells. -/
theorem branch5_in {H : Type} {enc : TypeId × Value → H} {W : World} {base fuel : Nat} {cs : List Value} {x : DataW H × List MemPlace} {spare : Nat → Bool} {held : Bool} (hsp : ∀ b, spare b = true)
    (hf : DataW.trod enc Tryd.prog W base spare held fuel 190 cs = some x) (hw : Light 190 x.1) :
    ∃ (b : Cd.Bv) (ka : Option Addr) (kc : Nat), cs = Cd.brl b ka kc ∧ b.Ok ∧ IsAt W ka b.n b.z ∧ b.n ≤ 17592186043904 := by
  obtain ⟨xs, m, rfl, rfl, hcl, hxl, hfs⟩ := DataW.trod_struct Tryd.underlying190 hf
  have hcl' : cs.length = 35 := by rw [hcl]; kernel_rfl
  have hxl' : xs.length = 4 := hxl
  have g0 : DataW.trod enc Tryd.prog W base spare held m 22 ((cs.drop 0).take (Tryd.prog.cellsOf 22)) = xs[0]? := hfs 0 _ rfl
  have g1 : DataW.trod enc Tryd.prog W base spare held m 51 ((cs.drop 1).take (Tryd.prog.cellsOf 51)) = xs[1]? := hfs 1 _ rfl
  have g2 : DataW.trod enc Tryd.prog W base spare held m 3 ((cs.drop 33).take (Tryd.prog.cellsOf 3)) = xs[2]? := hfs 2 _ rfl
  have g3 : DataW.trod enc Tryd.prog W base spare held m 3 ((cs.drop 34).take (Tryd.prog.cellsOf 3)) = xs[3]? := hfs 3 _ rfl
  rw [cellsS] at g0
  rw [cellsH] at g1
  rw [cellsI] at g2 g3
  rw [take1 cs 0 (by omega), List.getElem?_eq_getElem (by omega)] at g0
  rw [List.getElem?_eq_getElem (by omega)] at g1
  rw [take1 cs 33 (by omega), List.getElem?_eq_getElem (by omega)] at g2
  rw [take1 cs 34 (by omega), List.getElem?_eq_getElem (by omega)] at g3
  have w0 : Light 22 (xs[0]'(by omega)).1 := fun q hq => hw q (by
    simp only [DataW.weights, Tryd.underlying190]
    exact DataW.weights_mem_each (j := 0) (t := 22) (d := (xs[0]'(by omega)).1) rfl (by rw [List.getElem?_map, List.getElem?_eq_getElem (by omega)]; rfl) q hq)
  obtain ⟨ka, n, kc, z, h0, hn, hI, hz⟩ := keys5_in hsp g0 w0
  obtain ⟨lk, h1, hlk⟩ := sum_in g1
  obtain ⟨af, h2, _, w2⟩ := DataW.trod_int Tryd.underlying3 g2
  obtain ⟨ol, h3, _, w3⟩ := DataW.trod_int Tryd.underlying3 g3
  refine ⟨⟨n, z, lk, af, ol⟩, ka, kc, ?_, ⟨hz, hlk, bounds_i64 w2, bounds_i64 w3⟩, hI, hn⟩
  simp at h0 h2 h3
  have e0 : cs = cs[0] :: cs.drop 1 := by
    have := List.drop_eq_getElem_cons (l := cs) (i := 0) (by omega)
    simpa using this
  have e1 : cs.drop 1 = (cs.drop 1).take 32 ++ (cs.drop 1).drop 32 := (List.take_append_drop 32 _).symm
  have e2 : (cs.drop 1).drop 32 = [cs[33], cs[34]] := by
    rw [List.drop_drop, List.drop_eq_getElem_cons (by omega), List.drop_eq_getElem_cons (by omega), List.drop_eq_nil_of_le (by omega)]
  rw [e0, h0, e1, h1, e2, h2, h3]
  rfl
/-- A condition that came in. -/
theorem cond5_in {H : Type} {enc : TypeId × Value → H} {W : World} {base fuel : Nat} {cs : List Value} {x : DataW H × List MemPlace} {spare : Nat → Bool} {held : Bool} (hsp : ∀ b, spare b = true)
    (hf : DataW.trod enc Tryd.prog W base spare held fuel 39 cs = some x) (hw : Light 39 x.1) :
    ∃ (a : Option Addr) (len cap : Nat) (X : Nat → Cd.Bv), cs = [.slice a len cap] ∧ Cd.BrAt W a len X ∧ (a = none → len = 0 ∧ cap = 0) ∧ len ≤ 140737488355328 ∧ ∀ i, i < len → (X i).n ≤ 17592186043904 := by
  obtain ⟨xs, m0, rfl, rfl, hcl, hxl, hfs⟩ := DataW.trod_struct Tryd.underlying39 hf
  have hcl' : cs.length = 1 := by rw [hcl]; kernel_rfl
  have hxl' : xs.length = 1 := hxl
  have cB : Tryd.prog.cellsOf 37 = 1 := by kernel_rfl
  have g0 : DataW.trod enc Tryd.prog W base spare held m0 37 ((cs.drop 0).take (Tryd.prog.cellsOf 37)) = xs[0]? := hfs 0 _ rfl
  rw [cB, take1 cs 0 (by omega), List.getElem?_eq_getElem (by omega)] at g0
  have w0 : Light 37 (xs[0]'(by omega)).1 := fun q hq => hw q (by
    simp only [DataW.weights, Tryd.underlying39]
    exact DataW.weights_mem_each (j := 0) (t := 37) (d := (xs[0]'(by omega)).1) rfl (by rw [List.getElem?_map, List.getElem?_eq_getElem (by omega)]; rfl) q hq)
  obtain ⟨c0, rfl⟩ := List.length_eq_one_iff.1 hcl'
  have g0 : DataW.trod enc Tryd.prog W base spare held m0 37 [c0] = some (xs[0]'(by omega)) := g0
  rcases Go.Deep.open_slice Tryd.underlying37 g0 with ⟨hcs, hx⟩ | ⟨ad, l, c, m, n, D, Pl, hcs, _, hl, hcm, hm, hx, hcell⟩
  · exact ⟨none, 0, 0, fun _ => default, hcs, Cd.BrAt.nil _ _ _, fun _ => ⟨rfl, rfl⟩, by omega, fun i hi => by omega⟩
  · rw [hsp, if_pos rfl] at hm
    subst hm
    have cT : Tryd.prog.cellsOf 190 = 35 := by kernel_rfl
    have bT : Tryd.prog.bytesOf 190 = 72 := by kernel_rfl
    rw [cT] at hcell
    have hlen : l ≤ 140737488355328 := by
      have h1 := w0 _ (by rw [hx]; simp only [DataW.weights, Tryd.underlying37]; exact List.mem_cons_self)
      rw [bT] at h1
      simp at h1
      omega
    have each : ∀ i, i < l → ∃ t : Cd.Bv × (Option Addr × Nat), W.cells? base (ad.add (i * 35)) 35 = some (Cd.brl t.1 t.2.1 t.2.2) ∧ t.1.Ok ∧ IsAt W t.2.1 t.1.n t.1.z ∧ t.1.n ≤ 17592186043904 := by
      intro i hi
      obtain ⟨cs', h1, h2⟩ := hcell i (by omega)
      have wi : Light 190 (D i) := fun q hq => w0 q (by
        rw [hx]
        simp only [DataW.weights, Tryd.underlying37]
        exact List.mem_cons_of_mem _ (List.mem_append_left _ (weights_mem_all (List.mem_map.2 ⟨i, List.mem_range.2 hi, rfl⟩) q hq)))
      obtain ⟨b, ka, kc, rfl, h3, h4, h5⟩ := branch5_in hsp h2 wi
      exact ⟨(b, ka, kc), h1, h3, h4, h5⟩
    obtain ⟨X, hX⟩ := Go.Deep.choose_lt each
    refine ⟨some ad, l, _, fun i => (X i).1, hcs, ⟨fun i hi => (hX i hi).2.1, fun hn => ?_⟩, (fun h => by cases h), hlen, fun i hi => (hX i hi).2.2.2⟩
    obtain ⟨b, off, spot⟩ := ad
    obtain ⟨_, _, h0⟩ := World.cells?_some (hX 0 (by omega)).1
    have h0' := h0 0 (by omega)
    have hspot : spot = none := by
      have : W.cell? ⟨b, off, spot⟩ = some (.slice (X 0).2.1 (X 0).1.n (X 0).2.2) := by simpa [Addr.add, Cd.brl] using h0'
      exact World.cell?_spot this
    subst hspot
    refine ⟨b, off, rfl, fun i hi => ⟨(X i).2.1, (X i).2.2, fun j v hv => ?_, (hX i hi).2.2.1⟩⟩
    obtain ⟨_, _, h1⟩ := World.cells?_some (hX i (by omega)).1
    have hj : j < 35 := by
      have := (List.getElem?_eq_some_iff.1 hv).1
      rwa [Cd.brl_length] at this
    have h2 := h1 j hj
    rw [Addr.add_lit, Addr.add_lit, hv] at h2
    exact h2
/-- An output, of its two cells. -/
theorem out5_in {H : Type} {enc : TypeId × Value → H} {W : World} {base fuel : Nat} {cs : List Value} {x : DataW H × List MemPlace} {spare : Nat → Bool} {held : Bool} (hsp : ∀ b, spare b = true)
    (hf : DataW.trod enc Tryd.prog W base spare held fuel 41 cs = some x) (hw : Light 41 x.1) :
    ∃ (b : To) (ca : Option Addr) (cc : Nat), cs = tol b ca cc ∧ Cd.BrAt W ca b.cn b.X ∧ (ca = none → b.cn = 0 ∧ cc = 0) ∧ b.cn ≤ 140737488355328 ∧ ∀ i, i < b.cn → (b.X i).n ≤ 17592186043904 := by
  obtain ⟨xs, m, rfl, rfl, hcl, hxl, hfs⟩ := DataW.trod_struct Tryd.underlying41 hf
  have hcl' : cs.length = 2 := by rw [hcl]; kernel_rfl
  have hxl' : xs.length = 2 := hxl
  have cC : Tryd.prog.cellsOf 39 = 1 := by kernel_rfl
  have g0 : DataW.trod enc Tryd.prog W base spare held m 3 ((cs.drop 0).take (Tryd.prog.cellsOf 3)) = xs[0]? := hfs 0 _ rfl
  have g1 : DataW.trod enc Tryd.prog W base spare held m 39 ((cs.drop 1).take (Tryd.prog.cellsOf 39)) = xs[1]? := hfs 1 _ rfl
  rw [cellsI, take1 cs 0 (by omega), List.getElem?_eq_getElem (by omega)] at g0
  rw [cC, take1 cs 1 (by omega), List.getElem?_eq_getElem (by omega)] at g1
  have w1 : Light 39 (xs[1]'(by omega)).1 := fun q hq => hw q (by
    simp only [DataW.weights, Tryd.underlying41]
    exact DataW.weights_mem_each (j := 1) (t := 39) (d := (xs[1]'(by omega)).1) rfl (by rw [List.getElem?_map, List.getElem?_eq_getElem (by omega)]; rfl) q hq)
  obtain ⟨am, h0, _, _⟩ := DataW.trod_int Tryd.underlying3 g0
  obtain ⟨ca, n, cc, X, h1, hB, hnil, hn, hk⟩ := cond5_in hsp g1 w1
  refine ⟨⟨am, n, X⟩, ca, cc, ?_, hB, hnil, hn, hk⟩
  simp at h0 h1
  have e0 : cs = [cs[0], cs[1]] := by
    apply List.ext_getElem
    · simp [hcl']
    · intro i h1 h2
      match i, h2 with
      | 0, _ => rfl
      | 1, _ => rfl
  rw [e0, h0, h1]
  rfl
/-- An input, of its 35 cells. -/
theorem in5_in {H : Type} {enc : TypeId × Value → H} {W : World} {base fuel : Nat} {cs : List Value} {x : DataW H × List MemPlace} {spare : Nat → Bool} {held : Bool} (hsp : ∀ b, spare b = true)
    (hf : DataW.trod enc Tryd.prog W base spare held fuel 189 cs = some x) (hw : Light 189 x.1) :
    ∃ (b : Ti) (sa : Option Addr) (sc : Nat) (z : Nat → Int), cs = til b sa sc ∧ Hb b.pt ∧ SlAt W sa b.sn z ∧ b.sn ≤ 140737488355328 := by
  obtain ⟨xs, m, rfl, rfl, hcl, hxl, hfs⟩ := DataW.trod_struct Tryd.underlying189 hf
  have hcl' : cs.length = 35 := by rw [hcl]; kernel_rfl
  have hxl' : xs.length = 3 := hxl
  have cP : Tryd.prog.cellsOf 187 = 33 := by kernel_rfl
  have g0 : DataW.trod enc Tryd.prog W base spare held m 187 ((cs.drop 0).take (Tryd.prog.cellsOf 187)) = xs[0]? := hfs 0 _ rfl
  have g1 : DataW.trod enc Tryd.prog W base spare held m 3 ((cs.drop 33).take (Tryd.prog.cellsOf 3)) = xs[1]? := hfs 1 _ rfl
  have g2 : DataW.trod enc Tryd.prog W base spare held m 54 ((cs.drop 34).take (Tryd.prog.cellsOf 54)) = xs[2]? := hfs 2 _ rfl
  rw [cP, List.getElem?_eq_getElem (by omega)] at g0
  rw [cellsI, take1 cs 33 (by omega), List.getElem?_eq_getElem (by omega)] at g1
  rw [cellsY5, take1 cs 34 (by omega), List.getElem?_eq_getElem (by omega)] at g2
  have w2 : Light 54 (xs[2]'(by omega)).1 := fun q hq => hw q (by
    simp only [DataW.weights, Tryd.underlying189]
    exact DataW.weights_mem_each (j := 2) (t := 54) (d := (xs[2]'(by omega)).1) rfl (by rw [List.getElem?_map, List.getElem?_eq_getElem (by omega)]; rfl) q hq)
  obtain ⟨pz, pn, h0, hz, _⟩ := point_in g0
  obtain ⟨br, h1, _, _⟩ := DataW.trod_int Tryd.underlying3 g1
  obtain ⟨sa, sn, sc, z, h2, hS, hsn⟩ := bytes5_in hsp g2 w2
  refine ⟨⟨pz, pn, br, sn⟩, sa, sc, z, ?_, hz, hS, hsn⟩
  simp at h0 h1 h2
  have e0 : cs = cs.take 33 ++ [cs[33], cs[34]] := by
    have := List.take_append_drop 33 cs
    rw [List.drop_eq_getElem_cons (l := cs) (i := 33) (by omega), List.drop_eq_getElem_cons (l := cs) (i := 33 + 1) (by omega), List.drop_eq_nil_of_le (by omega)] at this
    exact this.symm
  rw [e0, h0, h1, h2]
  simp [til, ptl]
theorem outs5_in {H : Type} {enc : TypeId × Value → H} {W : World} {base fuel : Nat} {c0 : Value} {x : DataW H × List MemPlace} {spare : Nat → Bool} {held : Bool} (hsp : ∀ b, spare b = true)
    (hf : DataW.trod enc Tryd.prog W base spare held fuel 29 [c0] = some x) (hw : Light 29 x.1) :
    ∃ (a : Option Addr) (len cap : Nat) (O : Nat → To), c0 = .slice a len cap ∧ ToAt W a len O ∧ len ≤ 140737488355328 ∧ ∀ i, i < len → (O i).cn ≤ 140737488355328 ∧ ∀ j, j < (O i).cn → ((O i).X j).n ≤ 17592186043904 := by
  rcases Go.Deep.open_slice Tryd.underlying29 hf with ⟨hcs, hx⟩ | ⟨ad, l, c, m, n, D, Pl, hcs, _, hl, hcm, hm, hx, hcell⟩
  · exact ⟨none, 0, 0, fun _ => default, by simpa using hcs, ToAt.nil _ _ _, by omega, fun i hi => by omega⟩
  · rw [hsp, if_pos rfl] at hm
    subst hm
    have cT : Tryd.prog.cellsOf 41 = 2 := by kernel_rfl
    have bT : Tryd.prog.bytesOf 41 = 32 := by kernel_rfl
    rw [cT] at hcell
    have hlen : l ≤ 140737488355328 := by
      have h1 := hw _ (by rw [hx]; simp only [DataW.weights, Tryd.underlying29]; exact List.mem_cons_self)
      rw [bT] at h1
      simp at h1
      omega
    have each : ∀ i, i < l → ∃ t : To × (Option Addr × Nat), W.cells? base (ad.add (i * 2)) 2 = some (tol t.1 t.2.1 t.2.2) ∧ Cd.BrAt W t.2.1 t.1.cn t.1.X ∧ (t.2.1 = none → t.1.cn = 0 ∧ t.2.2 = 0) ∧ t.1.cn ≤ 140737488355328 ∧ ∀ j, j < t.1.cn → (t.1.X j).n ≤ 17592186043904 := by
      intro i hi
      obtain ⟨cs', h1, h2⟩ := hcell i (by omega)
      have wi : Light 41 (D i) := fun q hq => hw q (by
        rw [hx]
        simp only [DataW.weights, Tryd.underlying29]
        exact List.mem_cons_of_mem _ (List.mem_append_left _ (weights_mem_all (List.mem_map.2 ⟨i, List.mem_range.2 hi, rfl⟩) q hq)))
      obtain ⟨b, ka, kc, rfl, h3, h4, h5, h6⟩ := out5_in hsp h2 wi
      exact ⟨(b, ka, kc), h1, h3, h4, h5, h6⟩
    obtain ⟨X, hX⟩ := Go.Deep.choose_lt each
    refine ⟨some ad, l, _, fun i => (X i).1, (List.cons.inj hcs).1, ⟨fun hn => ?_⟩, hlen, fun i hi => ⟨(hX i hi).2.2.2.1, (hX i hi).2.2.2.2⟩⟩
    obtain ⟨b, off, spot⟩ := ad
    obtain ⟨_, _, h0⟩ := World.cells?_some (hX 0 (by omega)).1
    have h0' := h0 0 (by omega)
    have hspot : spot = none := by
      have : W.cell? ⟨b, off, spot⟩ = some (.int .i64 (X 0).1.am) := by simpa [Addr.add, tol] using h0'
      exact World.cell?_spot this
    subst hspot
    refine ⟨b, off, rfl, fun i hi => ⟨(X i).2.1, (X i).2.2, fun j v hv => ?_, (hX i hi).2.1, (hX i hi).2.2.1⟩⟩
    obtain ⟨_, _, h1⟩ := World.cells?_some (hX i (by omega)).1
    have hj : j < 2 := by
      have := (List.getElem?_eq_some_iff.1 hv).1
      simpa [tol] using this
    have h2 := h1 j hj
    rw [Addr.add_lit, Addr.add_lit, hv] at h2
    exact h2
theorem ins5_in {H : Type} {enc : TypeId × Value → H} {W : World} {base fuel : Nat} {c0 : Value} {x : DataW H × List MemPlace} {spare : Nat → Bool} {held : Bool} (hsp : ∀ b, spare b = true)
    (hf : DataW.trod enc Tryd.prog W base spare held fuel 28 [c0] = some x) (hw : Light 28 x.1) :
    ∃ (a : Option Addr) (len cap : Nat) (X : Nat → Ti) (S : Nat → Option Addr × Nat) (Z : Nat → Nat → Int), c0 = .slice a len cap ∧ TiAt W a len X S ∧ len ≤ 140737488355328 ∧ ∀ i, i < len → SlAt W (S i).1 (X i).sn (Z i) ∧ (X i).sn ≤ 140737488355328 := by
  rcases Go.Deep.open_slice Tryd.underlying28 hf with ⟨hcs, hx⟩ | ⟨ad, l, c, m, n, D, Pl, hcs, _, hl, hcm, hm, hx, hcell⟩
  · exact ⟨none, 0, 0, fun _ => default, fun _ => (none, 0), fun _ _ => 0, by simpa using hcs, TiAt.nil _ _ _ _, by omega, fun i hi => by omega⟩
  · rw [hsp, if_pos rfl] at hm
    subst hm
    have cT : Tryd.prog.cellsOf 189 = 35 := by kernel_rfl
    have bT : Tryd.prog.bytesOf 189 = 72 := by kernel_rfl
    rw [cT] at hcell
    have hlen : l ≤ 140737488355328 := by
      have h1 := hw _ (by rw [hx]; simp only [DataW.weights, Tryd.underlying28]; exact List.mem_cons_self)
      rw [bT] at h1
      simp at h1
      omega
    have each : ∀ i, i < l → ∃ t : (Ti × (Nat → Int)) × (Option Addr × Nat), W.cells? base (ad.add (i * 35)) 35 = some (til t.1.1 t.2.1 t.2.2) ∧ Hb t.1.1.pt ∧ SlAt W t.2.1 t.1.1.sn t.1.2 ∧ t.1.1.sn ≤ 140737488355328 := by
      intro i hi
      obtain ⟨cs', h1, h2⟩ := hcell i (by omega)
      have wi : Light 189 (D i) := fun q hq => hw q (by
        rw [hx]
        simp only [DataW.weights, Tryd.underlying28]
        exact List.mem_cons_of_mem _ (List.mem_append_left _ (weights_mem_all (List.mem_map.2 ⟨i, List.mem_range.2 hi, rfl⟩) q hq)))
      obtain ⟨b, sa, sc, z, rfl, h3, h4, h5⟩ := in5_in hsp h2 wi
      exact ⟨((b, z), (sa, sc)), h1, h3, h4, h5⟩
    obtain ⟨X, hX⟩ := Go.Deep.choose_lt each
    refine ⟨some ad, l, _, fun i => (X i).1.1, fun i => (X i).2, fun i => (X i).1.2, (List.cons.inj hcs).1, ⟨fun i hi => (hX i hi).2.1, fun hn => ?_⟩, hlen, fun i hi => ⟨(hX i hi).2.2.1, (hX i hi).2.2.2⟩⟩
    obtain ⟨b, off, spot⟩ := ad
    obtain ⟨_, _, h0⟩ := World.cells?_some (hX 0 (by omega)).1
    have h0' := h0 0 (by omega)
    have hspot : spot = none := by
      have e : (til (X 0).1.1 (X 0).2.1 (X 0).2.2)[0]? = some (.int .u8 ((X 0).1.1.pt 0)) := by rfl
      rw [e] at h0'
      have e2 : W.cell? ⟨b, off, spot⟩ = some (.int .u8 ((X 0).1.1.pt 0)) := by simpa [Addr.add] using h0'
      exact World.cell?_spot e2
    subst hspot
    refine ⟨b, off, rfl, fun i hi => fun j v hv => ?_⟩
    obtain ⟨_, _, h1⟩ := World.cells?_some (hX i (by omega)).1
    have hj : j < 35 := by
      have := (List.getElem?_eq_some_iff.1 hv).1
      rwa [til_length] at this
    have h2 := h1 j hj
    rw [Addr.add_lit, Addr.add_lit, hv] at h2
    exact h2
end Go.Proofs.YtbehkajfckadfaaDoor
/- The writer's Bytes, behind EWrDone. -/
namespace Go.Proofs.YtbehkajfckadfaaDoor
open Go.RowKit

/-- A byte as it is laid within bytes. -/
def esc (x : Int) : List Int := if x = 0 then [0, 255] else [x]
def escF (z : Nat → Int) : Nat → List Int
  | 0 => []
  | k + 1 => escF z k ++ esc (z k)
theorem esc_len (x : Int) : (esc x).length ≤ 2 ∧ 1 ≤ (esc x).length := by unfold esc; split <;> simp
theorem escF_le (z : Nat → Int) (k : Nat) : (escF z k).length ≤ 2 * k := by
  induction k with
  | zero => simp [escF]
  | succ k ih => have := esc_len (z k); simp only [escF, List.length_append]; omega

/-- Bytes do not lie in a writer's own block. -/
theorem SlAt.ne_wr {w : World} {ad : Option Addr} {n : Nat} {z : Nat → Int} (h : SlAt w ad n z) {B p : Nat} {g : Option Nat} {l : List Int} (hw : WrAt w B p g l) {b off : Nat} (hn : 0 < n) (e : ad = some ⟨b, off, none⟩) : b ≠ p := by
  obtain ⟨v, hp, hown, _⟩ := hw
  rcases hown.2 with ⟨rfl, _⟩ | ⟨g, cap, cur, rfl, _⟩
  · exact h.ne_one hp hn e
  · exact h.ne_one hp hn e

set_option maxRecDepth 100000 in
set_option maxHeartbeats 1600000 in
theorem wrBytes_any (p B : Nat) (g : Option Nat) (l : List Int) (ad : Option Addr) (n cap : Nat) (z : Nat → Int) (w : World) (hw : WrAt w B p g l) (hl : l.length + 2 * n + 2 ≤ 140737488355328)
    (hs : SlAt w ad n z) (hsg : ∀ b off, 0 < n → ad = some ⟨b, off, none⟩ → some b ≠ g) :
    Calls Tryd.prog 37 #[.pointer (some ⟨p, 0, none⟩), .slice ad n cap] w fun e w' => e = .returned (.pointer (some ⟨p, 0, none⟩)) ∧ WrGrown w w' B p g (l ++ (escF z n ++ [0, 0])) := by
  obtain ⟨i0, hi0, hz0, hz1, hz2⟩ := info_parts Tryd.infoB
  have H : Hid (Tryd.prog.info? 5 = some i0 ∧ i0.zero = some (.int .u8 0) ∧ i0.size = 1 ∧ i0.bytes = 1) := ⟨hi0, hz0, hz1, hz2⟩
  clear hi0 hz0 hz1 hz2
  have HS : Hid (SlAt w ad n z) := hs
  have HG : Hid (∀ b off, 0 < n → ad = some ⟨b, off, none⟩ → some b ≠ g) := hsg
  have HW : Hid (WrAt w B p g l) := hw
  clear hs hsg hw
  go_enter Tryd.func37, Tryd.ntmps37
  go_wp2
  go_loopw [11] (fun iv wr => ∃ q : Nat, q ≤ n ∧ iv = .int .i64 q ∧ WrGrown w wr B p g (l ++ escF z q)) (fun iv _ => n - (intOf iv).toNat)
  case atStart => exact ⟨0, Nat.zero_le _, rfl, g, by simpa [escF] using HW.out, Frm.refl _ _, .inl rfl⟩
  case round =>
    obtain ⟨q, hq, rfl, hR⟩ := hrel
    have hle := escF_le z q
    generalize hL : l ++ escF z q = L at hR
    have hLl : L.length + 2 * (n - q) + 2 ≤ 140737488355328 := by rw [← hL, List.length_append]; omega
    have HL : Hid (l ++ escF z q = L) := hL
    clear hL hle
    obtain ⟨g1, hA, hF, hg1⟩ := hR
    obtain ⟨v, hp, hown, hg, hB, hx, hne1, hplt⟩ := hA.parts
    have hc := cell_of_one hp
    have hf := free_of_one hp
    have HO : Hid (wr.ownsRow B 5 1 v L.length (L.map (Value.int .u8))) := hown
    have HP1 : Hid (wr.heap[p]? = some (.cells #[v] 139 (0, 0))) := hp
    have HF : Hid (Frm (p :: g.toList) w wr) := hF
    clear hown hp hA hF
    by_cases hlt : q < n
    · obtain ⟨b, off, rfl, hcz⟩ := HS.out.2 (by omega)
      have hzq := HS.out.1 q hlt
      have hcq : wr.cell? ⟨b, off + q, none⟩ = some (.int .u8 (z q)) := by
        have hblt : b < w.heap.size := HS.out.lt (by omega) rfl
        have hb : b ∉ p :: g.toList := by
          intro hm
          simp at hm
          rcases hm with h | h
          · exact HS.out.ne_wr HW.out (by omega) rfl h
          · exact HG.out b off (by omega) rfl h.symm
        rw [World.cell?_of_block (a := ⟨b, off + q, none⟩) (HF.out.block b hblt hb)]
        exact hcz q hlt
      clear hcz
      by_cases h0 : z q = 0
      · have h0' : (z q == 0) = true := by simp [h0]
        have H0 : Hid (z q = 0) := h0
        clear h0
        go_wp2_with (first | (at_builtin; refine wpList_append_lies _ rfl (.tmp 19) (.tmp 21) 54 rfl B 5 i0 _ 1 1 Tryd.underlying54 H.out.1 H.out.2.1 H.out.2.2.1 H.out.2.2.2 rfl (by omega) v L.length (L.map (Value.int .u8)) rfl (HO.out.alloc _) ⟨wr.heap.size, 0, none⟩ 1 1 [.int .u8 (z q)] rfl rfl (World.news_of_block (cs := #[.int .u8 (z q)]) (t := 5) (fr := (0, 0)) (heap_alloc_new wr _)) (by simp [Value.oneCell']) (by omega) (by simp [maxLen]; omega) (by simp; omega) (by simp; omega) (wr.heap.size + 1) (by simp) ?_; intro gg1 cap1 w1 hown1 hgrow1 hat1 hlt1; have hp1 := grown_keep ((Frm.refl [] wr).alloc _) hgrow1 HP1.out hne1; have hc1 := cell_of_one hp1; have hf1 := free_of_one hp1; have HX := wr_two HP1.out ((Frm.refl [] wr).alloc _) hown1 hgrow1 hat1 hg hg1 HF.out hB hx hzq hne1; have HP2 := HX.out.1; have hne2 : some p ≠ (Value.slice (some ⟨gg1, 0, none⟩) (L.length + 1) cap1).ownBlock := fun e => HX.out.2.2.1 (Option.some.inj e).symm; have hB2 : p < w1.heap.size := HX.out.2.2.2.1; clear hown1 hgrow1 hp1) | (at_builtin; refine wpList_append_lies _ rfl (.tmp 31) (.tmp 32) 54 rfl B 5 i0 _ 1 1 Tryd.underlying54 H.out.1 H.out.2.1 H.out.2.2.1 H.out.2.2.2 rfl (by omega) (.slice (some ⟨gg1, 0, none⟩) (L.length + 1) cap1) (L.length + 1) ((L ++ [z q]).map (Value.int .u8)) rfl (HX.out.2.1.alloc _) ⟨w1.heap.size, 0, none⟩ 1 1 [.int .u8 255] rfl rfl (World.news_of_block (cs := #[.int .u8 255]) (t := 5) (fr := (0, 0)) (alloc_set_new w1 _ _ _)) (by simp [Value.oneCell']) (by omega) (by simp [maxLen]; omega) (by simp; omega) (by simp; omega) (w1.heap.size + 1) (by simp) ?_; intro gg2 cap2 w2 hown2 hgrow2 hat2 hlt2; have hp2 := grown_keep ((Frm.refl [] (w1.setCell ⟨p, 0, none⟩ (.slice (some ⟨gg1, 0, none⟩) (L.length + 1) cap1))).alloc _) hgrow2 HP2 hne2; have hc2 := cell_of_one hp2; have hf2 := free_of_one hp2))
        have R := wr_step (L := L ++ [z q]) (ys := [255]) HP2 ((Frm.refl [] _).alloc _) (by simpa using hown2) hgrow2 (by simpa [World.setCell] using hat2) rfl HX.out.2.2.2.2.2.2 HX.out.2.2.2.2.2.1 hB HX.out.2.2.2.2.1 (by intro y hy; simp at hy; omega) hne2
        refine ⟨⟨q + 1, by omega, by go_num, ?_⟩, by simp [intOf]; omega⟩
        have e : l ++ escF z (q + 1) = L ++ [z q] ++ [255] := by rw [escF, esc, if_pos H0.out, ← List.append_assoc, HL.out, H0.out]; simp
        rw [e]
        simpa using R
      · have h0' : (z q == 0) = false := by simp [h0]
        have H0 : Hid (¬ z q = 0) := h0
        clear h0
        go_wp2_with (at_builtin; refine wpList_append_lies _ rfl (.tmp 19) (.tmp 21) 54 rfl B 5 i0 _ 1 1 Tryd.underlying54 H.out.1 H.out.2.1 H.out.2.2.1 H.out.2.2.2 rfl (by omega) v L.length (L.map (Value.int .u8)) rfl (HO.out.alloc _) ⟨wr.heap.size, 0, none⟩ 1 1 [.int .u8 (z q)] rfl rfl (World.news_of_block (cs := #[.int .u8 (z q)]) (t := 5) (fr := (0, 0)) (heap_alloc_new wr _)) (by simp [Value.oneCell']) (by omega) (by simp [maxLen]; omega) (by simp; omega) (by simp; omega) (wr.heap.size + 1) (by simp) ?_; intro gg1 cap1 w1 hown1 hgrow1 hat1 hlt1; have hp1 := grown_keep ((Frm.refl [] wr).alloc _) hgrow1 HP1.out hne1; have hc1 := cell_of_one hp1; have hf1 := free_of_one hp1)
        have R := wr_step (ys := [z q]) HP1.out ((Frm.refl [] wr).alloc _) (by simpa using hown1) hgrow1 hat1 hg hg1 HF.out hB hx (by intro y hy; rw [List.mem_singleton.1 hy]; exact hzq) hne1
        refine ⟨⟨q + 1, by omega, by go_num, ?_⟩, by simp [intOf]; omega⟩
        rw [escF, esc, if_neg H0.out, ← List.append_assoc, HL.out]
        simpa using R
    · have : q = n := by omega
      subst this
      go_wp2_with (at_builtin; refine wpList_append_lies _ rfl (.tmp 41) (.tmp 42) 54 rfl B 5 i0 _ 1 1 Tryd.underlying54 H.out.1 H.out.2.1 H.out.2.2.1 H.out.2.2.2 rfl (by omega) v L.length (L.map (Value.int .u8)) rfl (HO.out.alloc _) ⟨wr.heap.size, 0, none⟩ 2 2 [.int .u8 0, .int .u8 0] rfl rfl (World.news_of_block (cs := #[.int .u8 0, .int .u8 0]) (t := 5) (fr := (0, 0)) (heap_alloc_new wr _)) (by simp [Value.oneCell']) (by omega) (by simp [maxLen]; omega) (by simp; omega) (by simp; omega) (wr.heap.size + 1) (by simp) ?_; intro gg1 cap1 w1 hown1 hgrow1 hat1 hlt1; have hp1 := grown_keep ((Frm.refl [] wr).alloc _) hgrow1 HP1.out hne1; have hc1 := cell_of_one hp1; have hf1 := free_of_one hp1)
      have R := wr_step (ys := [0, 0]) HP1.out ((Frm.refl [] wr).alloc _) (by simpa using hown1) hgrow1 hat1 hg hg1 HF.out hB hx (by intro y hy; simp at hy; omega) hne1
      go_ret
      refine ⟨rfl, ?_⟩
      rw [← List.append_assoc, HL.out]
      simpa using R

end Go.Proofs.YtbehkajfckadfaaDoor
