/- From the rows' hypotheses to the listed variables' cells; transactions that came in. -/
import Derived.Test.YtanchjfodcjlmaaGreatDoorRows
import Derived.Test.YtanchjfodcjlmaaGreatDoorOwnShelf01
import Derived.Test.YtanchjfodcjlmaaGreatDoorOwnShelf06
import Derived.Test.YtanchjfodcjlmaaGreatDoorOwnShelf14
import Derived.Lib.LaidU8
import Derived.Lib.Walk
import Derived.ChangeSame
import Derived.ChangeVars
import Derived.JoinedOf
import Derived.RowKit
import Derived.RowKitTokens
import Derived.LaidLaws
import Derived.LaidHandle
import Derived.Stop.Joined
import Derived.ProofKit
import Derived.OpenShut
import Derived.ChangeOld
import Derived.SizedLaws
import Derived.Deep.Slices
import Derived.Test.YtanchjfodcjlmaaGreatDoorOwnShelf13
import Derived.Great.Ranges
import Derived.Test.YtanchjfodcjlmaaGreatDoorOwnShelf11
import Derived.Laws.IdiomStrings
import Derived.Lib.BufferRead
import Derived.Test.YtanchjfodcjlmaaGreatDoorProg
import Derived.Ground.Names8Prog
import Derived.Shelf.Spec.SlicesGrow
namespace Go.Proofs.YtanchjfodcjlmaaGreatDoor
open Go.ChangeShapes Go.WideShapes Go.RowKit Go.ChangeAt
open Go.Proofs.YtanchjfodcjlmaaGreatDoor.Cd (Zb Ib tsize cellsH cellsI cellsB cellsS IsAt)

theorem laidOut : laidOutB Tryz.prog = true := by kernel_rfl
theorem own : ownKnob Tryz.prog.godebug = none := by kernel_rfl
theorem et : Tryz.prog.globalNamed "errors.errorType" = some 0 := by kernel_rfl
/-- The name under which the row lists the handle's own type. -/
def handleName : String := match (Rows.laid_errors_errorType (H := Unit)) with
 | .iface s _ => s
 | _ => ""
theorem rt : (Tryz.prog.cutTypes.find? (·.1 == handleName)).map (·.2) = some 134 := by kernel_rfl
theorem oneRow : ((List.range 239).filter fun t => Tryz.prog.rowNamed t [101, 114, 114, 111, 114]) = [29] := by kernel_rfl
/-- The variables that the rows list. -/
def vars {H : Type} : List (String × DataW H) := [("errors.errorType", Rows.laid_errors_errorType), ("bayou/blake.first", Rows.laid_bayou_blake_first), ("bayou/blake.rows", Rows.laid_bayou_blake_rows)]
/-- What the condition gives a walk: the variable's one cell. -/
theorem glob_of_laid {W : World} (h : laidMetH Tryz.prog vars W) : Cd.Glob W := by
 have h' : laidMet Tryz.prog [("bayou/blake.first", Rows.laid_bayou_blake_first), ("bayou/blake.rows", Rows.laid_bayou_blake_rows)] W ∧ handlesMet Tryz.prog [("errors.errorType", Rows.laid_errors_errorType)] W := h
 obtain ⟨name, u, ty, e1, e2, e3, e4, e5⟩ := h'.2 _ (List.mem_singleton.2 rfl)
 have en : name = [101, 114, 114, 111, 114] := (Option.some.inj e1).symm
 subst en
 obtain rfl := Option.some.inj (rt.symm.trans e2)
 have hm : ty ∈ (List.range 239).filter fun t => Tryz.prog.rowNamed t [101, 114, 114, 111, 114] := List.mem_filter.2 ⟨List.mem_range.2 (by rw [← tsize]; exact e3), e4⟩
 rw [oneRow] at hm
 obtain rfl := List.mem_singleton.1 hm
 have hh : typeHandle Tryz.prog 29 = .pointer (some ⟨4, 29, none⟩) := by kernel_rfl
 rw [hh] at e5
 have := World.var?_cell et e5 0
 unfold Cd.Glob
 simpa using this

theorem array_len {H : Type} {enc : TypeId × Value → H} {P : Program} {w : World} {base : Nat} {sp : Nat → Bool} {held : Bool} {fuel : Nat} {t e : TypeId} {n : Nat} {cs : List Value} {x : DataW H × List MemPlace} (ht : P.underlying t = some (.array n e))
  (h : DataW.trod enc P w base sp held fuel t cs = some x) : cs.length = P.cellsOf t := by
 obtain ⟨ys, m3, _, _, hcl, _, _⟩ := DataW.trod_array ht h
 exact hcl
theorem var_heap {P : Program} {w : World} {n : String} {g : Nat} {cs : Array Value} (hg : P.globalNamed n = some g) (h : w.var? P n = some cs) : ∃ t fr, w.heap[g]? = some (.cells cs t fr) := by
 unfold World.var? at h
 rw [hg] at h
 simp only [Option.bind_some] at h
 split at h
 ·rename_i c t fr he
  cases h
  exact ⟨t, fr, he⟩
 ·cases h
theorem rowD (i : Nat) (hi : i < 10) : ∃ ds, Rows.laid_bayou_blake_rows (H := Unit) = .agg ds ∧ ds[i]? = some (Lib.tabData .u8 ((rowL i).map Int.ofNat)) := by
 refine ⟨_, rfl, ?_⟩
 have h : i = 0 ∨ i = 1 ∨ i = 2 ∨ i = 3 ∨ i = 4 ∨ i = 5 ∨ i = 6 ∨ i = 7 ∨ i = 8 ∨ i = 9 := by omega
 rcases h with rfl | rfl | rfl | rfl | rfl | rfl | rfl | rfl | rfl | rfl <;> rfl
theorem tab_of_reads {W : World} (h1 : Lib.VarReads Tryz.prog W "bayou/blake.first" Rows.laid_bayou_blake_first) (h2 : Lib.VarReads Tryz.prog W "bayou/blake.rows" Rows.laid_bayou_blake_rows) : Tab W := by
 constructor
 ·obtain ⟨g, t, cs, fuel, p, hg, ht, hv, hd⟩ := h1
  obtain rfl : 2 = g := Option.some.inj ((show Tryz.prog.globalNamed "bayou/blake.first" = some 2 by kernel_rfl).symm.trans hg)
  obtain rfl : 181 = t := Option.some.inj ((show (Tryz.prog.globals[2]?).map (·.type) = some 181 by kernel_rfl).symm.trans ht)
  have hc := Lib.cells_of_tab (zs := firstL.map Int.ofNat) Tryz.underlying181 Tryz.underlying151 (by kernel_rfl) (by kernel_rfl) hd
  obtain ⟨t', fr, he⟩ := var_heap hg hv
  refine ⟨t', fr, ?_⟩
  rw [he]
  have : cs = wv firstL := by rw [← Array.toList_inj, hc]; rfl
  rw [this]
 ·obtain ⟨g, t, cs, fuel, p, hg, ht, hv, hd⟩ := h2
  obtain rfl : 3 = g := Option.some.inj ((show Tryz.prog.globalNamed "bayou/blake.rows" = some 3 by kernel_rfl).symm.trans hg)
  obtain rfl : 203 = t := Option.some.inj ((show (Tryz.prog.globals[3]?).map (·.type) = some 203 by kernel_rfl).symm.trans ht)
  obtain ⟨t', fr, he⟩ := var_heap hg hv
  refine ⟨t', fr, ?_⟩
  rw [he]
  have hl : cs.toList.length = 160 := (array_len Tryz.underlying203 hd).trans (by kernel_rfl)
  have : cs = sv rowsF := by
   rw [← Array.toList_inj]
   apply List.ext_getElem?
   intro j
   by_cases hj : j < 160
   ·obtain ⟨i, k, hi, hk, rfl⟩ : ∃ i k, i < 10 ∧ k < 16 ∧ j = i * 16 + k := ⟨j / 16, j % 16, by omega, by omega, by omega⟩
    obtain ⟨ds, hds, hrow⟩ := rowD i hi
    rw [hds] at hd
    obtain ⟨fuel', d, q, hd1, hd2⟩ := Lib.array_elem Tryz.underlying203 hd i hi
    rw [hrow] at hd1
    cases hd1
    rw [show Tryz.prog.cellsOf 202 = 16 by kernel_rfl] at hd2
    have hc := Lib.cells_of_tab (zs := (rowL i).map Int.ofNat) Tryz.underlying202 Tryz.underlying5 (by kernel_rfl) (by kernel_rfl) hd2
    have h3 := congrArg (·[k]?) hc
    simp only [List.getElem?_take, hk, if_true, List.getElem?_drop, List.getElem?_map] at h3
    rw [h3]
    have h4 := rowsF_at hi hk
    simp only [sv, sl8, List.getElem?_map, h4, Option.map_some]
    rw [List.getElem?_eq_getElem (show k < (rowL i).length by rw [rowL_len hi]; exact hk)]
    simp [List.getD_eq_getElem?_getD, List.getElem?_eq_getElem (show k < (rowL i).length by rw [rowL_len hi]; exact hk)]
   ·rw [List.getElem?_eq_none (by omega), List.getElem?_eq_none (by
     have : (sv rowsF).toList.length = 160 := by kernel_rfl
     omega)]
  rw [this]
theorem Tab.size {w : World} (h : Tab w) : 4 ≤ w.heap.size := by
 obtain ⟨⟨_, _, h1⟩, ⟨_, _, h2⟩⟩ := h
 have := lt_of_block h1
 have := lt_of_block h2
 omega
theorem tab_of_laid {W : World} (h : laidMetH Tryz.prog vars W) : Tab W := by
 have h' : laidMet Tryz.prog [("bayou/blake.first", Rows.laid_bayou_blake_first), ("bayou/blake.rows", Rows.laid_bayou_blake_rows)] W ∧ handlesMet Tryz.prog [("errors.errorType", Rows.laid_errors_errorType)] W := h
 exact tab_of_reads (Lib.laidMet.reads h'.1 (.head _)) (Lib.laidMet.reads h'.1 (.tail _ (.head _)))
/-- A part's bulk is at most the whole's. -/
theorem bulk_one {H : Type} (d : DataW H) : 1 ≤ Rows.uptoBulk d := by
 cases d with
 | lit l => cases l <;> simp [Rows.uptoBulk]
 | nil => simp [Rows.uptoBulk]
 | ptr d => simp [Rows.uptoBulk]
 | slice elems spare => simp [Rows.uptoBulk]
 | agg parts => simp [Rows.uptoBulk]
 | iface t d => simp [Rows.uptoBulk]
 | map entries => simp [Rows.uptoBulk]
 | held h => simp [Rows.uptoBulk]
theorem bulk_part {H : Type} {d : DataW H} {l : List (DataW H)} (h : d ∈ l) : Rows.uptoBulk d ≤ Rows.uptoBulkAll l := by
 induction l with
 | nil => cases h
 | cons x r ih =>
  simp only [Rows.uptoBulkAll]
  cases List.mem_cons.1 h with
  | inl e => subst e; omega
  | inr e => have := ih e; omega
theorem bulk_length {H : Type} (l : List (DataW H)) : l.length ≤ Rows.uptoBulkAll l := by
 induction l with
 | nil => simp [Rows.uptoBulkAll]
 | cons x r ih => have := bulk_one x; simp only [Rows.uptoBulkAll, List.length_cons]; omega
/-- What a reading's bulk is at most. -/
def Light {H : Type} (_ : TypeId) (d : DataW H) : Prop := Rows.uptoBulk d ≤ 1048576
theorem Light.len {H : Type} {t : TypeId} {d : DataW H} {es sp : List (DataW H)} (h : Light t d) (e : d = .slice es sp) : es.length + sp.length ≤ 1048576 := by
 subst e
 have h1 := bulk_length es
 have h2 := bulk_length sp
 unfold Light at h
 simp only [Rows.uptoBulk] at h
 omega
theorem Light.elem {H : Type} {t u : TypeId} {d : DataW H} {es sp : List (DataW H)} (h : Light t d) (e : d = .slice es sp) {x : DataW H} (hx : x ∈ es) : Light u x := by
 subst e
 have h1 := bulk_part hx
 unfold Light at *
 simp only [Rows.uptoBulk] at h
 omega
theorem Light.part {H : Type} {t u : TypeId} {ps : List (DataW H)} (h : Light t (.agg ps)) {x : DataW H} (hx : x ∈ ps) : Light u x := by
 have h1 := bulk_part hx
 unfold Light at *
 simp only [Rows.uptoBulk] at h
 omega
/-- Ints that came in: how they lie. -/
theorem ints_in {H : Type} {enc : TypeId × Value → H} {W : World} {base fuel : Nat} {cs : List Value} {x : DataW H × List MemPlace} {spare : Nat → Bool} {held : Bool} (hsp : ∀ b, spare b = true)
  (hf : DataW.trod enc Tryz.prog W base spare held fuel 71 cs = some x) (hw : Light 71 x.1) :
  ∃ (a : Option Addr) (len cap : Nat) (z : Nat → Int), cs = [.slice a len cap] ∧ len ≤ 140737488355328 ∧ IsAt W a len z ∧ (a = none → len = 0 ∧ cap = 0) := by
 rcases open_ints Tryz.underlying71 Tryz.underlying3 (by kernel_rfl) hf with ⟨hcs, hx⟩ | ⟨ad, l, c, zs, hcs, _, hl, hm, hz, hx, hcell, hwz⟩
 ·exact ⟨none, 0, 0, fun _ => 0, hcs, by omega, fun h => by omega, fun _ => ⟨rfl, rfl⟩⟩
 ·rw [hsp, if_pos rfl] at hz
  refine ⟨some ad, l, c, fun j => zs.getD j 0, hcs, ?_, fun hn => ?_, fun h => by cases h⟩
  ·have h1 := hw.len (congrArg Prod.fst hx)
   simp [lits] at h1
   omega
  ·obtain ⟨b, off, spot⟩ := ad
   have hc := hcell 0 (by omega)
   have hspot : spot = none := by simpa [Addr.add] using World.cell?_spot hc
   subst hspot
   refine ⟨b, off, rfl, fun j hj => ?_⟩
   have := hcell j (by omega)
   rwa [Addr.add_lit] at this
theorem take1 {α : Type} (l : List α) (i : Nat) (h : i < l.length) : (l.drop i).take 1 = [l[i]] := by
 rw [List.drop_eq_getElem_cons h]; rfl
/-- A sum's cells. -/
theorem sum_in {H : Type} {enc : TypeId × Value → H} {W : World} {base fuel : Nat} {cs : List Value} {x : DataW H × List MemPlace} {spare : Nat → Bool} {held : Bool}
  (hf : DataW.trod enc Tryz.prog W base spare held fuel 43 cs = some x) : ∃ z : Nat → Int, cs = bl z 32 ∧ Zb z := by
 obtain ⟨ys, m3, _, _, hcl, hyl, hy⟩ := DataW.trod_array Tryz.underlying43 hf
 rw [cellsB] at hy
 have hcl' : cs.length = 32 := by rw [hcl]; kernel_rfl
 have hb : ∀ i, i < 32 → ∃ q : Int, cs[i]? = some (.int .u8 q) ∧ 0 ≤ q ∧ q ≤ 255 := by
  intro i hi
  have h := hy i hi
  rw [Nat.mul_one, List.getElem?_eq_getElem (by omega), take1 _ i (by omega)] at h
  obtain ⟨q, e, _, wq⟩ := DataW.trod_int Tryz.underlying5 h
  refine ⟨q, ?_, bounds_u8 wq⟩
  simp at e
  rw [List.getElem?_eq_getElem (by omega), e]
 obtain ⟨h, hh⟩ := Go.Deep.choose_lt hb
 refine ⟨h, ?_, fun j hj => (hh j hj).2⟩
 apply List.ext_getElem?
 intro i
 by_cases hi : i < 32
 ·rw [bl_at hi, (hh i hi).1]
 ·rw [List.getElem?_eq_none (by omega), List.getElem?_eq_none (by simp [bl_length]; omega)]
/-- A point that came in, of its 33 cells. -/
theorem point_in {H : Type} {enc : TypeId × Value → H} {W : World} {base fuel : Nat} {cs : List Value} {x : DataW H × List MemPlace} {spare : Nat → Bool} {held : Bool}
  (hf : DataW.trod enc Tryz.prog W base spare held fuel 45 cs = some x) :
  ∃ (z : Nat → Int) (n : Int), cs = ptl z n ∧ Zb z ∧ Ib n := by
 obtain ⟨xs, m, rfl, rfl, hcl, hxl, hfs⟩ := DataW.trod_struct Tryz.underlying45 hf
 have hcl' : cs.length = 33 := by rw [hcl]; kernel_rfl
 have hxl' : xs.length = 2 := hxl
 have g0 : DataW.trod enc Tryz.prog W base spare held m 43 ((cs.drop 0).take (Tryz.prog.cellsOf 43)) = xs[0]? := hfs 0 _ rfl
 have g1 : DataW.trod enc Tryz.prog W base spare held m 3 ((cs.drop 32).take (Tryz.prog.cellsOf 3)) = xs[1]? := hfs 1 _ rfl
 rw [cellsH, List.getElem?_eq_getElem (by omega)] at g0
 rw [cellsI, take1 cs 32 (by omega), List.getElem?_eq_getElem (by omega)] at g1
 obtain ⟨z, h0, hz⟩ := sum_in g0
 obtain ⟨n, h1, _, w1⟩ := DataW.trod_int Tryz.underlying3 g1
 refine ⟨z, n, ?_, hz, bounds_i64 w1⟩
 simp at h0 h1
 have e0 : cs = cs.take 32 ++ [cs[32]] := by
  have := List.take_append_drop 32 cs
  rw [List.drop_eq_getElem_cons (l := cs) (i := 32) (by omega), List.drop_eq_nil_of_le (by omega)] at this
  exact this.symm
 rw [e0, h0, h1]
 rfl
/-- Two points that came in, of their 66 cells. -/
theorem pts2_in {H : Type} {enc : TypeId × Value → H} {W : World} {base fuel : Nat} {cs : List Value} {x : DataW H × List MemPlace} {spare : Nat → Bool} {held : Bool}
  (hf : DataW.trod enc Tryz.prog W base spare held fuel 46 cs = some x) :
  ∃ (z : Nat → Int) (n : Int) (u : Nat → Int) (k : Int), cs = ptl z n ++ ptl u k ∧ (Zb z ∧ Ib n) ∧ Zb u ∧ Ib k := by
 obtain ⟨ys, m3, _, _, hcl, hyl, hy⟩ := DataW.trod_array Tryz.underlying46 hf
 have cP : Tryz.prog.cellsOf 45 = 33 := by kernel_rfl
 rw [cP] at hy
 have hcl' : cs.length = 66 := by rw [hcl]; kernel_rfl
 have g0 := hy 0 (by omega)
 have g1 := hy 1 (by omega)
 rw [List.getElem?_eq_getElem (by omega)] at g0
 rw [List.getElem?_eq_getElem (by omega)] at g1
 obtain ⟨z, n, h0, hz, hn⟩ := point_in g0
 obtain ⟨u, k, h1, hu, hk⟩ := point_in g1
 refine ⟨z, n, u, k, ?_, ⟨hz, hn⟩, hu, hk⟩
 rw [← h0, ← h1]
 simp only [Nat.zero_mul, List.drop_zero, Nat.one_mul]
 have e : (cs.drop 33).take 33 = cs.drop 33 := List.take_of_length_le (by simp [hcl'])
 rw [e]
 exact (List.take_append_drop 33 cs).symm
theorem cellsY5 : Tryz.prog.cellsOf 57 = 1 := by kernel_rfl
/-- Bytes that came in. -/
theorem bytes5_in {H : Type} {enc : TypeId × Value → H} {W : World} {base fuel : Nat} {cs : List Value} {x : DataW H × List MemPlace} {spare : Nat → Bool} {held : Bool} (hsp : ∀ b, spare b = true)
  (hf : DataW.trod enc Tryz.prog W base spare held fuel 57 cs = some x) (hw : Light 57 x.1) :
  ∃ (a : Option Addr) (len cap : Nat) (z : Nat → Int), cs = [.slice a len cap] ∧ SlAt W a len z ∧ len ≤ 140737488355328 := by
 rcases open_ints Tryz.underlying57 Tryz.underlying5 (by kernel_rfl) hf with ⟨hcs, hx⟩ | ⟨ad, l, c, zs, hcs, _, hl, hm, hz, hx, hcell, hwz⟩
 ·exact ⟨none, 0, 0, fun _ => 0, hcs, SlAt.zero _ _, by omega⟩
 ·rw [hsp, if_pos rfl] at hz
  have hlen : l ≤ 140737488355328 := by
   have h1 := hw.len (congrArg Prod.fst hx)
   simp [lits] at h1
   omega
  refine ⟨some ad, l, c, fun j => zs.getD j 0, hcs, ⟨fun j hj => ?_, fun hn => ?_⟩, hlen⟩
  ·have hjz : j < zs.length := by omega
   have := hwz zs[j] (List.getElem_mem hjz)
   have hb := bounds_u8 this
   simp only [List.getD_eq_getElem?_getD, List.getElem?_eq_getElem hjz, Option.getD_some]
   omega
  ·obtain ⟨b, off, spot⟩ := ad
   have hc := hcell 0 (by omega)
   have hspot : spot = none := by simpa [Addr.add] using World.cell?_spot hc
   subst hspot
   refine ⟨b, off, rfl, fun j hj => ?_⟩
   have := hcell j (by omega)
   rwa [Addr.add_lit] at this
/-- Keys that came in. -/
theorem keys5_in {H : Type} {enc : TypeId × Value → H} {W : World} {base fuel : Nat} {cs : List Value} {x : DataW H × List MemPlace} {spare : Nat → Bool} {held : Bool} (hsp : ∀ b, spare b = true)
  (hf : DataW.trod enc Tryz.prog W base spare held fuel 71 cs = some x) (hw : Light 71 x.1) :
  ∃ (a : Option Addr) (len cap : Nat) (z : Nat → Int), cs = [.slice a len cap] ∧ len ≤ 1048576 ∧ IsAt W a len z ∧ ∀ j, j < len → Ib (z j) := by
 rcases open_ints Tryz.underlying71 Tryz.underlying3 (by kernel_rfl) hf with ⟨hcs, hx⟩ | ⟨ad, l, c, zs, hcs, _, hl, hm, hz, hx, hcell, hwz⟩
 ·exact ⟨none, 0, 0, fun _ => 0, hcs, by omega, fun h => by omega, fun j hj => by omega⟩
 ·rw [hsp, if_pos rfl] at hz
  refine ⟨some ad, l, c, fun j => zs.getD j 0, hcs, ?_, fun hn => ?_, fun j hj => ?_⟩
  ·have h1 := hw.len (congrArg Prod.fst hx)
   simp [lits] at h1
   omega
  ·obtain ⟨b, off, spot⟩ := ad
   have hc := hcell 0 (by omega)
   have hspot : spot = none := by simpa [Addr.add] using World.cell?_spot hc
   subst hspot
   refine ⟨b, off, rfl, fun j hj => ?_⟩
   have := hcell j (by omega)
   rwa [Addr.add_lit] at this
  ·have hjz : j < zs.length := by omega
   have h5 := bounds_i64 (hwz zs[j] (List.getElem_mem hjz))
   simp only [List.getD_eq_getElem?_getD, List.getElem?_eq_getElem hjz, Option.getD_some]
   exact h5
/-- One branch, of its 35 cells. -/
theorem branch5_in {H : Type} {enc : TypeId × Value → H} {W : World} {base fuel : Nat} {cs : List Value} {x : DataW H × List MemPlace} {spare : Nat → Bool} {held : Bool} (hsp : ∀ b, spare b = true)
  (hf : DataW.trod enc Tryz.prog W base spare held fuel 73 cs = some x) (hw : Light 73 x.1) :
  ∃ (b : Cd.Bv) (ka : Option Addr) (kc : Nat), cs = Cd.brl b ka kc ∧ b.Ok ∧ IsAt W ka b.n b.z ∧ b.n ≤ 1048576 := by
 obtain ⟨xs, m, rfl, rfl, hcl, hxl, hfs⟩ := DataW.trod_struct Tryz.underlying73 hf
 have hcl' : cs.length = 35 := by rw [hcl]; kernel_rfl
 have hxl' : xs.length = 4 := hxl
 have g0 : DataW.trod enc Tryz.prog W base spare held m 71 ((cs.drop 0).take (Tryz.prog.cellsOf 71)) = xs[0]? := hfs 0 _ rfl
 have g1 : DataW.trod enc Tryz.prog W base spare held m 43 ((cs.drop 1).take (Tryz.prog.cellsOf 43)) = xs[1]? := hfs 1 _ rfl
 have g2 : DataW.trod enc Tryz.prog W base spare held m 3 ((cs.drop 33).take (Tryz.prog.cellsOf 3)) = xs[2]? := hfs 2 _ rfl
 have g3 : DataW.trod enc Tryz.prog W base spare held m 3 ((cs.drop 34).take (Tryz.prog.cellsOf 3)) = xs[3]? := hfs 3 _ rfl
 rw [cellsS] at g0
 rw [cellsH] at g1
 rw [cellsI] at g2 g3
 rw [take1 cs 0 (by omega), List.getElem?_eq_getElem (by omega)] at g0
 rw [List.getElem?_eq_getElem (by omega)] at g1
 rw [take1 cs 33 (by omega), List.getElem?_eq_getElem (by omega)] at g2
 rw [take1 cs 34 (by omega), List.getElem?_eq_getElem (by omega)] at g3
 have w0 : Light 71 (xs[0]'(by omega)).1 := hw.part (List.mem_map.2 ⟨xs[0]'(by omega), List.getElem_mem _, rfl⟩)
 obtain ⟨ka, n, kc, z, h0, hn, hI, hz⟩ := keys5_in hsp g0 w0
 obtain ⟨lk, h1, hlk⟩ := sum_in g1
 obtain ⟨af, h2, _, w2⟩ := DataW.trod_int Tryz.underlying3 g2
 obtain ⟨ol, h3, _, w3⟩ := DataW.trod_int Tryz.underlying3 g3
 refine ⟨⟨n, z, lk, af, ol⟩, ka, kc, ?_, ⟨hz, hlk, bounds_i64 w2, bounds_i64 w3⟩, hI, hn⟩
 simp at h0 h2 h3
 have e0 : cs = cs[0] :: cs.drop 1 := by
  have := List.drop_eq_getElem_cons (l := cs) (i := 0) (by omega)
  simpa using this
 have e1 : cs.drop 1 = (cs.drop 1).take 32 ++ (cs.drop 1).drop 32 := (List.take_append_drop 32 _).symm
 have e2 : (cs.drop 1).drop 32 = [cs[33], cs[34]] := by
  rw [List.drop_drop, List.drop_eq_getElem_cons (by omega), List.drop_eq_getElem_cons (by omega), List.drop_eq_nil_of_le (by omega)]
 rw [e0, h0, e1, h1, e2, h2, h3]
 rfl
/-- A condition that came in. -/
theorem cond5_in {H : Type} {enc : TypeId × Value → H} {W : World} {base fuel : Nat} {cs : List Value} {x : DataW H × List MemPlace} {spare : Nat → Bool} {held : Bool} (hsp : ∀ b, spare b = true)
  (hf : DataW.trod enc Tryz.prog W base spare held fuel 68 cs = some x) (hw : Light 68 x.1) :
  ∃ (a : Option Addr) (len cap : Nat) (X : Nat → Cd.Bv), cs = [.slice a len cap] ∧ Cd.BrAt W a len X ∧ (a = none → len = 0 ∧ cap = 0) ∧ len ≤ 140737488355328 ∧ ∀ i, i < len → (X i).n ≤ 1048576 := by
 obtain ⟨xs, m0, rfl, rfl, hcl, hxl, hfs⟩ := DataW.trod_struct Tryz.underlying68 hf
 have hcl' : cs.length = 1 := by rw [hcl]; kernel_rfl
 have hxl' : xs.length = 1 := hxl
 have cB : Tryz.prog.cellsOf 66 = 1 := by kernel_rfl
 have g0 : DataW.trod enc Tryz.prog W base spare held m0 66 ((cs.drop 0).take (Tryz.prog.cellsOf 66)) = xs[0]? := hfs 0 _ rfl
 rw [cB, take1 cs 0 (by omega), List.getElem?_eq_getElem (by omega)] at g0
 have w0 : Light 66 (xs[0]'(by omega)).1 := hw.part (List.mem_map.2 ⟨xs[0]'(by omega), List.getElem_mem _, rfl⟩)
 obtain ⟨c0, rfl⟩ := List.length_eq_one_iff.1 hcl'
 have g0 : DataW.trod enc Tryz.prog W base spare held m0 66 [c0] = some (xs[0]'(by omega)) := g0
 rcases Go.Deep.open_slice Tryz.underlying66 g0 with ⟨hcs, hx⟩ | ⟨ad, l, c, m, n, D, Pl, hcs, _, hl, hcm, hm, hx, hcell⟩
 ·exact ⟨none, 0, 0, fun _ => default, hcs, Cd.BrAt.nil _ _ _, fun _ => ⟨rfl, rfl⟩, by omega, fun i hi => by omega⟩
 ·rw [hsp, if_pos rfl] at hm
  subst hm
  have cT : Tryz.prog.cellsOf 73 = 35 := by kernel_rfl
  have bT : Tryz.prog.bytesOf 73 = 72 := by kernel_rfl
  rw [cT] at hcell
  have hlen : l ≤ 140737488355328 := by
   have h1 := w0.len (congrArg Prod.fst hx)
   simp at h1
   omega
  have each : ∀ i, i < l → ∃ t : Cd.Bv × (Option Addr × Nat), W.cells? base (ad.add (i * 35)) 35 = some (Cd.brl t.1 t.2.1 t.2.2) ∧ t.1.Ok ∧ IsAt W t.2.1 t.1.n t.1.z ∧ t.1.n ≤ 1048576 := by
   intro i hi
   obtain ⟨cs', h1, h2⟩ := hcell i (by omega)
   have wi : Light 73 (D i) := w0.elem (congrArg Prod.fst hx) (List.mem_map.2 ⟨i, List.mem_range.2 hi, rfl⟩)
   obtain ⟨b, ka, kc, rfl, h3, h4, h5⟩ := branch5_in hsp h2 wi
   exact ⟨(b, ka, kc), h1, h3, h4, h5⟩
  obtain ⟨X, hX⟩ := Go.Deep.choose_lt each
  refine ⟨some ad, l, _, fun i => (X i).1, hcs, ⟨fun i hi => (hX i hi).2.1, fun hn => ?_⟩, (fun h => by cases h), hlen, fun i hi => (hX i hi).2.2.2⟩
  obtain ⟨b, off, spot⟩ := ad
  obtain ⟨_, _, h0⟩ := World.cells?_some (hX 0 (by omega)).1
  have h0' := h0 0 (by omega)
  have hspot : spot = none := by
   have : W.cell? ⟨b, off, spot⟩ = some (.slice (X 0).2.1 (X 0).1.n (X 0).2.2) := by simpa [Addr.add, Cd.brl] using h0'
   exact World.cell?_spot this
  subst hspot
  refine ⟨b, off, rfl, fun i hi => ⟨(X i).2.1, (X i).2.2, fun j v hv => ?_, (hX i hi).2.2.1⟩⟩
  obtain ⟨_, _, h1⟩ := World.cells?_some (hX i (by omega)).1
  have hj : j < 35 := by
   have := (List.getElem?_eq_some_iff.1 hv).1
   rwa [Cd.brl_length] at this
  have h2 := h1 j hj
  rw [Addr.add_lit, Addr.add_lit, hv] at h2
  exact h2
/-- An output, of its two cells. -/
theorem out5_in {H : Type} {enc : TypeId × Value → H} {W : World} {base fuel : Nat} {cs : List Value} {x : DataW H × List MemPlace} {spare : Nat → Bool} {held : Bool} (hsp : ∀ b, spare b = true)
  (hf : DataW.trod enc Tryz.prog W base spare held fuel 70 cs = some x) (hw : Light 70 x.1) :
  ∃ (b : To) (ca : Option Addr) (cc : Nat), cs = tol b ca cc ∧ Cd.BrAt W ca b.cn b.X ∧ (ca = none → b.cn = 0 ∧ cc = 0) ∧ b.cn ≤ 140737488355328 ∧ ∀ i, i < b.cn → (b.X i).n ≤ 1048576 := by
 obtain ⟨xs, m, rfl, rfl, hcl, hxl, hfs⟩ := DataW.trod_struct Tryz.underlying70 hf
 have hcl' : cs.length = 2 := by rw [hcl]; kernel_rfl
 have hxl' : xs.length = 2 := hxl
 have cC : Tryz.prog.cellsOf 68 = 1 := by kernel_rfl
 have g0 : DataW.trod enc Tryz.prog W base spare held m 3 ((cs.drop 0).take (Tryz.prog.cellsOf 3)) = xs[0]? := hfs 0 _ rfl
 have g1 : DataW.trod enc Tryz.prog W base spare held m 68 ((cs.drop 1).take (Tryz.prog.cellsOf 68)) = xs[1]? := hfs 1 _ rfl
 rw [cellsI, take1 cs 0 (by omega), List.getElem?_eq_getElem (by omega)] at g0
 rw [cC, take1 cs 1 (by omega), List.getElem?_eq_getElem (by omega)] at g1
 have w1 : Light 68 (xs[1]'(by omega)).1 := hw.part (List.mem_map.2 ⟨xs[1]'(by omega), List.getElem_mem _, rfl⟩)
 obtain ⟨am, h0, _, _⟩ := DataW.trod_int Tryz.underlying3 g0
 obtain ⟨ca, n, cc, X, h1, hB, hnil, hn, hk⟩ := cond5_in hsp g1 w1
 refine ⟨⟨am, n, X⟩, ca, cc, ?_, hB, hnil, hn, hk⟩
 simp at h0 h1
 have e0 : cs = [cs[0], cs[1]] := by
  apply List.ext_getElem
  ·simp [hcl']
  ·intro i h1 h2
   match i, h2 with
   | 0, _ => rfl
   | 1, _ => rfl
 rw [e0, h0, h1]
 rfl
/-- An input, of its 35 cells. -/
theorem in5_in {H : Type} {enc : TypeId × Value → H} {W : World} {base fuel : Nat} {cs : List Value} {x : DataW H × List MemPlace} {spare : Nat → Bool} {held : Bool} (hsp : ∀ b, spare b = true)
  (hf : DataW.trod enc Tryz.prog W base spare held fuel 65 cs = some x) (hw : Light 65 x.1) :
  ∃ (b : Ti) (sa : Option Addr) (sc : Nat) (z : Nat → Int), cs = til b sa sc ∧ Hb b.pt ∧ SlAt W sa b.sn z ∧ b.sn ≤ 140737488355328 ∧ Kp.Ib b.n := by
 obtain ⟨xs, m, rfl, rfl, hcl, hxl, hfs⟩ := DataW.trod_struct Tryz.underlying65 hf
 have hcl' : cs.length = 35 := by rw [hcl]; kernel_rfl
 have hxl' : xs.length = 3 := hxl
 have cP : Tryz.prog.cellsOf 45 = 33 := by kernel_rfl
 have g0 : DataW.trod enc Tryz.prog W base spare held m 45 ((cs.drop 0).take (Tryz.prog.cellsOf 45)) = xs[0]? := hfs 0 _ rfl
 have g1 : DataW.trod enc Tryz.prog W base spare held m 3 ((cs.drop 33).take (Tryz.prog.cellsOf 3)) = xs[1]? := hfs 1 _ rfl
 have g2 : DataW.trod enc Tryz.prog W base spare held m 57 ((cs.drop 34).take (Tryz.prog.cellsOf 57)) = xs[2]? := hfs 2 _ rfl
 rw [cP, List.getElem?_eq_getElem (by omega)] at g0
 rw [cellsI, take1 cs 33 (by omega), List.getElem?_eq_getElem (by omega)] at g1
 rw [cellsY5, take1 cs 34 (by omega), List.getElem?_eq_getElem (by omega)] at g2
 have w2 : Light 57 (xs[2]'(by omega)).1 := hw.part (List.mem_map.2 ⟨xs[2]'(by omega), List.getElem_mem _, rfl⟩)
 obtain ⟨pz, pn, h0, hz, hpn⟩ := point_in g0
 obtain ⟨br, h1, _, _⟩ := DataW.trod_int Tryz.underlying3 g1
 obtain ⟨sa, sn, sc, z, h2, hS, hsn⟩ := bytes5_in hsp g2 w2
 refine ⟨⟨pz, pn, br, sn⟩, sa, sc, z, ?_, hz, hS, hsn, hpn⟩
 simp at h0 h1 h2
 have e0 : cs = cs.take 33 ++ [cs[33], cs[34]] := by
  have := List.take_append_drop 33 cs
  rw [List.drop_eq_getElem_cons (l := cs) (i := 33) (by omega), List.drop_eq_getElem_cons (l := cs) (i := 33 + 1) (by omega), List.drop_eq_nil_of_le (by omega)] at this
  exact this.symm
 rw [e0, h0, h1, h2]
 simp [til, ptl]
theorem outs5_in {H : Type} {enc : TypeId × Value → H} {W : World} {base fuel : Nat} {c0 : Value} {x : DataW H × List MemPlace} {spare : Nat → Bool} {held : Bool} (hsp : ∀ b, spare b = true)
  (hf : DataW.trod enc Tryz.prog W base spare held fuel 23 [c0] = some x) (hw : Light 23 x.1) :
  ∃ (a : Option Addr) (len cap : Nat) (O : Nat → To), c0 = .slice a len cap ∧ ToAt W a len O ∧ len ≤ 140737488355328 ∧ ∀ i, i < len → (O i).cn ≤ 140737488355328 ∧ ∀ j, j < (O i).cn → ((O i).X j).n ≤ 1048576 := by
 rcases Go.Deep.open_slice Tryz.underlying23 hf with ⟨hcs, hx⟩ | ⟨ad, l, c, m, n, D, Pl, hcs, _, hl, hcm, hm, hx, hcell⟩
 ·exact ⟨none, 0, 0, fun _ => default, by simpa using hcs, ToAt.nil _ _ _, by omega, fun i hi => by omega⟩
 ·rw [hsp, if_pos rfl] at hm
  subst hm
  have cT : Tryz.prog.cellsOf 70 = 2 := by kernel_rfl
  have bT : Tryz.prog.bytesOf 70 = 32 := by kernel_rfl
  rw [cT] at hcell
  have hlen : l ≤ 140737488355328 := by
   have h1 := hw.len (congrArg Prod.fst hx)
   simp at h1
   omega
  have each : ∀ i, i < l → ∃ t : To × (Option Addr × Nat), W.cells? base (ad.add (i * 2)) 2 = some (tol t.1 t.2.1 t.2.2) ∧ Cd.BrAt W t.2.1 t.1.cn t.1.X ∧ (t.2.1 = none → t.1.cn = 0 ∧ t.2.2 = 0) ∧ t.1.cn ≤ 140737488355328 ∧ ∀ j, j < t.1.cn → (t.1.X j).n ≤ 1048576 := by
   intro i hi
   obtain ⟨cs', h1, h2⟩ := hcell i (by omega)
   have wi : Light 70 (D i) := hw.elem (congrArg Prod.fst hx) (List.mem_map.2 ⟨i, List.mem_range.2 hi, rfl⟩)
   obtain ⟨b, ka, kc, rfl, h3, h4, h5, h6⟩ := out5_in hsp h2 wi
   exact ⟨(b, ka, kc), h1, h3, h4, h5, h6⟩
  obtain ⟨X, hX⟩ := Go.Deep.choose_lt each
  refine ⟨some ad, l, _, fun i => (X i).1, (List.cons.inj hcs).1, ⟨fun hn => ?_⟩, hlen, fun i hi => ⟨(hX i hi).2.2.2.1, (hX i hi).2.2.2.2⟩⟩
  obtain ⟨b, off, spot⟩ := ad
  obtain ⟨_, _, h0⟩ := World.cells?_some (hX 0 (by omega)).1
  have h0' := h0 0 (by omega)
  have hspot : spot = none := by
   have : W.cell? ⟨b, off, spot⟩ = some (.int .i64 (X 0).1.am) := by simpa [Addr.add, tol] using h0'
   exact World.cell?_spot this
  subst hspot
  refine ⟨b, off, rfl, fun i hi => ⟨(X i).2.1, (X i).2.2, fun j v hv => ?_, (hX i hi).2.1, (hX i hi).2.2.1⟩⟩
  obtain ⟨_, _, h1⟩ := World.cells?_some (hX i (by omega)).1
  have hj : j < 2 := by
   have := (List.getElem?_eq_some_iff.1 hv).1
   simpa [tol] using this
  have h2 := h1 j hj
  rw [Addr.add_lit, Addr.add_lit, hv] at h2
  exact h2
theorem ins5_in {H : Type} {enc : TypeId × Value → H} {W : World} {base fuel : Nat} {c0 : Value} {x : DataW H × List MemPlace} {spare : Nat → Bool} {held : Bool} (hsp : ∀ b, spare b = true)
  (hf : DataW.trod enc Tryz.prog W base spare held fuel 22 [c0] = some x) (hw : Light 22 x.1) :
  ∃ (a : Option Addr) (len cap : Nat) (X : Nat → Ti) (S : Nat → Option Addr × Nat) (Z : Nat → Nat → Int), c0 = .slice a len cap ∧ TiAt W a len X S ∧ len ≤ 140737488355328 ∧ ∀ i, i < len → SlAt W (S i).1 (X i).sn (Z i) ∧ (X i).sn ≤ 140737488355328 ∧ Kp.Ib (X i).n := by
 rcases Go.Deep.open_slice Tryz.underlying22 hf with ⟨hcs, hx⟩ | ⟨ad, l, c, m, n, D, Pl, hcs, _, hl, hcm, hm, hx, hcell⟩
 ·exact ⟨none, 0, 0, fun _ => default, fun _ => (none, 0), fun _ _ => 0, by simpa using hcs, TiAt.nil _ _ _ _, by omega, fun i hi => by omega⟩
 ·rw [hsp, if_pos rfl] at hm
  subst hm
  have cT : Tryz.prog.cellsOf 65 = 35 := by kernel_rfl
  have bT : Tryz.prog.bytesOf 65 = 72 := by kernel_rfl
  rw [cT] at hcell
  have hlen : l ≤ 140737488355328 := by
   have h1 := hw.len (congrArg Prod.fst hx)
   simp at h1
   omega
  have each : ∀ i, i < l → ∃ t : (Ti × (Nat → Int)) × (Option Addr × Nat), W.cells? base (ad.add (i * 35)) 35 = some (til t.1.1 t.2.1 t.2.2) ∧ Hb t.1.1.pt ∧ SlAt W t.2.1 t.1.1.sn t.1.2 ∧ t.1.1.sn ≤ 140737488355328 ∧ Kp.Ib t.1.1.n := by
   intro i hi
   obtain ⟨cs', h1, h2⟩ := hcell i (by omega)
   have wi : Light 65 (D i) := hw.elem (congrArg Prod.fst hx) (List.mem_map.2 ⟨i, List.mem_range.2 hi, rfl⟩)
   obtain ⟨b, sa, sc, z, rfl, h3, h4, h5, h6⟩ := in5_in hsp h2 wi
   exact ⟨((b, z), (sa, sc)), h1, h3, h4, h5, h6⟩
  obtain ⟨X, hX⟩ := Go.Deep.choose_lt each
  refine ⟨some ad, l, _, fun i => (X i).1.1, fun i => (X i).2, fun i => (X i).1.2, (List.cons.inj hcs).1, ⟨fun i hi => (hX i hi).2.1, fun hn => ?_⟩, hlen, fun i hi => ⟨(hX i hi).2.2.1, (hX i hi).2.2.2.1, (hX i hi).2.2.2.2⟩⟩
  obtain ⟨b, off, spot⟩ := ad
  obtain ⟨_, _, h0⟩ := World.cells?_some (hX 0 (by omega)).1
  have h0' := h0 0 (by omega)
  have hspot : spot = none := by
   have e : (til (X 0).1.1 (X 0).2.1 (X 0).2.2)[0]? = some (.int .u8 ((X 0).1.1.pt 0)) := by rfl
   rw [e] at h0'
   have e2 : W.cell? ⟨b, off, spot⟩ = some (.int .u8 ((X 0).1.1.pt 0)) := by simpa [Addr.add] using h0'
   exact World.cell?_spot e2
  subst hspot
  refine ⟨b, off, rfl, fun i hi => fun j v hv => ?_⟩
  obtain ⟨_, _, h1⟩ := World.cells?_some (hX i (by omega)).1
  have hj : j < 35 := by
   have := (List.getElem?_eq_some_iff.1 hv).1
   rwa [til_length] at this
  have h2 := h1 j hj
  rw [Addr.add_lit, Addr.add_lit, hv] at h2
  exact h2
/-- A transaction that came in. -/
structure TxIn (W : World) (t : Tc5) (S : Nat → Option Addr × Nat) : Prop where
 ti : TiAt W t.ia t.n t.X S
 ou : ToAt W t.oa t.m t.O
 sc : ∀ k, k < t.n → SlAt W (S k).1 (t.X k).sn (t.Z k)
 bn : t.n ≤ 140737488355328 ∧ t.m ≤ 140737488355328
 bs : ∀ i, i < t.n → (t.X i).sn ≤ 140737488355328
 bo : ∀ i, i < t.m → (t.O i).cn ≤ 140737488355328 ∧ ∀ j, j < (t.O i).cn → ((t.O i).X j).n ≤ 1048576
 ib : ∀ i, i < t.n → Kp.Ib (t.X i).n
theorem tx_in {H : Type} {enc : TypeId × Value → H} {W : World} {base fuel : Nat} {cs : List Value} {x : DataW H × List MemPlace} {spare : Nat → Bool} {held : Bool} (hsp : ∀ b, spare b = true)
  (hf : DataW.trod enc Tryz.prog W base spare held fuel 25 cs = some x) (hw : Light 25 x.1) :
  ∃ (t : Tc5) (S : Nat → Option Addr × Nat), cs = txl t.lk t.ia t.n t.ic t.oa t.m t.oc ∧ TxIn W t S := by
 obtain ⟨xs, m, rfl, rfl, hcl, hxl, hfs⟩ := DataW.trod_struct Tryz.underlying25 hf
 have hcl' : cs.length = 3 := by rw [hcl]; kernel_rfl
 have hxl' : xs.length = 3 := hxl
 have c1 : Tryz.prog.cellsOf 22 = 1 := by kernel_rfl
 have c2 : Tryz.prog.cellsOf 23 = 1 := by kernel_rfl
 have g0 : DataW.trod enc Tryz.prog W base spare held m 3 ((cs.drop 0).take (Tryz.prog.cellsOf 3)) = xs[0]? := hfs 0 _ rfl
 have g1 : DataW.trod enc Tryz.prog W base spare held m 22 ((cs.drop 1).take (Tryz.prog.cellsOf 22)) = xs[1]? := hfs 1 _ rfl
 have g2 : DataW.trod enc Tryz.prog W base spare held m 23 ((cs.drop 2).take (Tryz.prog.cellsOf 23)) = xs[2]? := hfs 2 _ rfl
 rw [cellsI, take1 cs 0 (by omega), List.getElem?_eq_getElem (by omega)] at g0
 rw [c1, take1 cs 1 (by omega), List.getElem?_eq_getElem (by omega)] at g1
 rw [c2, take1 cs 2 (by omega), List.getElem?_eq_getElem (by omega)] at g2
 have w1 : Light 22 (xs[1]'(by omega)).1 := hw.part (List.mem_map.2 ⟨xs[1]'(by omega), List.getElem_mem _, rfl⟩)
 have w2 : Light 23 (xs[2]'(by omega)).1 := hw.part (List.mem_map.2 ⟨xs[2]'(by omega), List.getElem_mem _, rfl⟩)
 obtain ⟨lk, h0, _, _⟩ := DataW.trod_int Tryz.underlying3 g0
 obtain ⟨ia, n, ic, X, S, Z, h1, hX, hn, hS⟩ := ins5_in hsp g1 w1
 obtain ⟨oa, m', oc, O, h2, hO, hm, hk⟩ := outs5_in hsp g2 w2
 refine ⟨⟨lk, ia, n, ic, oa, m', oc, X, Z, O⟩, S, ?_, hX, hO, fun k h => (hS k h).1, ⟨hn, hm⟩, fun i h => (hS i h).2.1, hk, fun i h => (hS i h).2.2⟩
 simp at h0 h1 h2
 have e0 : cs = [cs[0], cs[1], cs[2]] := by
  apply List.ext_getElem
  ·simp [hcl']
  ·intro i h1 h2
   match i, h2 with
   | 0, _ => rfl
   | 1, _ => rfl
   | 2, _ => rfl
 rw [e0, h0, h1, h2]
 rfl
end Go.Proofs.YtanchjfodcjlmaaGreatDoor
/- The writer's Bytes, behind EWrDone. -/
namespace Go.Proofs.YtanchjfodcjlmaaGreatDoor
open Go.RowKit

/-- A byte as it is laid within bytes. -/
def esc (x : Int) : List Int := if x = 0 then [0, 255] else [x]
def escF (z : Nat → Int) : Nat → List Int
 | 0 => []
 | k + 1 => escF z k ++ esc (z k)
theorem esc_len (x : Int) : (esc x).length ≤ 2 ∧ 1 ≤ (esc x).length := by unfold esc; split <;> simp
theorem escF_le (z : Nat → Int) (k : Nat) : (escF z k).length ≤ 2 * k := by
 induction k with
 | zero => simp [escF]
 | succ k ih => have := esc_len (z k); simp only [escF, List.length_append]; omega

/-- Bytes do not lie in a writer's own block. -/
theorem SlAt.ne_wr {w : World} {ad : Option Addr} {n : Nat} {z : Nat → Int} (h : SlAt w ad n z) {B p : Nat} {g : Option Nat} {l : List Int} (hw : WrAt w B p g l) {b off : Nat} (hn : 0 < n) (e : ad = some ⟨b, off, none⟩) : b ≠ p := by
 obtain ⟨v, hp, hown, _⟩ := hw
 rcases hown.2 with ⟨rfl, _⟩ | ⟨g, cap, cur, rfl, _⟩
 ·exact h.ne_one hp hn e
 ·exact h.ne_one hp hn e

set_option maxRecDepth 100000 in
set_option maxHeartbeats 1600000 in
theorem wrBytes_any (p B : Nat) (g : Option Nat) (l : List Int) (ad : Option Addr) (n cap : Nat) (z : Nat → Int) (w : World) (hw : WrAt w B p g l) (hl : l.length + 2 * n + 2 ≤ 140737488355328)
  (hs : SlAt w ad n z) (hsg : ∀ b off, 0 < n → ad = some ⟨b, off, none⟩ → some b ≠ g) :
  Calls Tryz.prog 62 #[.pointer (some ⟨p, 0, none⟩), .slice ad n cap] w fun e w' => e = .returned (.pointer (some ⟨p, 0, none⟩)) ∧ WrGrown w w' B p g (l ++ (escF z n ++ [0, 0])) := by
 obtain ⟨i0, hi0, hz0, hz1, hz2⟩ := info_parts Tryz.infoB
 have H : Hid (Tryz.prog.info? 5 = some i0 ∧ i0.zero = some (.int .u8 0) ∧ i0.size = 1 ∧ i0.bytes = 1) := ⟨hi0, hz0, hz1, hz2⟩
 clear hi0 hz0 hz1 hz2
 have HS : Hid (SlAt w ad n z) := hs
 have HG : Hid (∀ b off, 0 < n → ad = some ⟨b, off, none⟩ → some b ≠ g) := hsg
 have HW : Hid (WrAt w B p g l) := hw
 clear hs hsg hw
 go_enter Tryz.func62, Tryz.ntmps62
 go_wp2
 go_loopw [11] (fun iv wr => ∃ q : Nat, q ≤ n ∧ iv = .int .i64 q ∧ WrGrown w wr B p g (l ++ escF z q)) (fun iv _ => n - (intOf iv).toNat)
 case atStart => exact ⟨0, Nat.zero_le _, rfl, g, by simpa [escF] using HW.out, Frm.refl _ _, .inl rfl⟩
 case round =>
  obtain ⟨q, hq, rfl, hR⟩ := hrel
  have hle := escF_le z q
  generalize hL : l ++ escF z q = L at hR
  have hLl : L.length + 2 * (n - q) + 2 ≤ 140737488355328 := by rw [← hL, List.length_append]; omega
  have HL : Hid (l ++ escF z q = L) := hL
  clear hL hle
  obtain ⟨g1, hA, hF, hg1⟩ := hR
  obtain ⟨v, hp, hown, hg, hB, hx, hne1, hplt⟩ := hA.parts
  have hc := cell_of_one hp
  have hf := free_of_one hp
  have HO : Hid (wr.ownsRow B 5 1 v L.length (L.map (Value.int .u8))) := hown
  have HP1 : Hid (wr.heap[p]? = some (.cells #[v] 161 (0, 0))) := hp
  have HF : Hid (Frm (p :: g.toList) w wr) := hF
  clear hown hp hA hF
  by_cases hlt : q < n
  ·obtain ⟨b, off, rfl, hcz⟩ := HS.out.2 (by omega)
   have hzq := HS.out.1 q hlt
   have hcq : wr.cell? ⟨b, off + q, none⟩ = some (.int .u8 (z q)) := by
    have hblt : b < w.heap.size := HS.out.lt (by omega) rfl
    have hb : b ∉ p :: g.toList := by
     intro hm
     simp at hm
     rcases hm with h | h
     ·exact HS.out.ne_wr HW.out (by omega) rfl h
     ·exact HG.out b off (by omega) rfl h.symm
    rw [World.cell?_of_block (a := ⟨b, off + q, none⟩) (HF.out.block b hblt hb)]
    exact hcz q hlt
   clear hcz
   by_cases h0 : z q = 0
   ·have h0' : (z q == 0) = true := by simp [h0]
    have H0 : Hid (z q = 0) := h0
    clear h0
    go_wp2_with (first | (at_builtin; refine wpList_append_lies _ rfl (.tmp 19) (.tmp 21) 57 rfl B 5 i0 _ 1 1 Tryz.underlying57 H.out.1 H.out.2.1 H.out.2.2.1 H.out.2.2.2 rfl (by omega) v L.length (L.map (Value.int .u8)) rfl (HO.out.alloc _) ⟨wr.heap.size, 0, none⟩ 1 1 [.int .u8 (z q)] rfl rfl (World.news_of_block (cs := #[.int .u8 (z q)]) (t := 5) (fr := (0, 0)) (heap_alloc_new wr _)) (by simp [Value.oneCell']) (by omega) (by simp [maxLen]; omega) (by simp; omega) (by simp; omega) (wr.heap.size + 1) (by simp) ?_; intro gg1 cap1 w1 hown1 hgrow1 hat1 hlt1; have hp1 := grown_keep ((Frm.refl [] wr).alloc _) hgrow1 HP1.out hne1; have hc1 := cell_of_one hp1; have hf1 := free_of_one hp1; have HX := wr_two HP1.out ((Frm.refl [] wr).alloc _) hown1 hgrow1 hat1 hg hg1 HF.out hB hx hzq hne1; have HP2 := HX.out.1; have hne2 : some p ≠ (Value.slice (some ⟨gg1, 0, none⟩) (L.length + 1) cap1).ownBlock := fun e => HX.out.2.2.1 (Option.some.inj e).symm; have hB2 : p < w1.heap.size := HX.out.2.2.2.1; clear hown1 hgrow1 hp1) | (at_builtin; refine wpList_append_lies _ rfl (.tmp 31) (.tmp 32) 57 rfl B 5 i0 _ 1 1 Tryz.underlying57 H.out.1 H.out.2.1 H.out.2.2.1 H.out.2.2.2 rfl (by omega) (.slice (some ⟨gg1, 0, none⟩) (L.length + 1) cap1) (L.length + 1) ((L ++ [z q]).map (Value.int .u8)) rfl (HX.out.2.1.alloc _) ⟨w1.heap.size, 0, none⟩ 1 1 [.int .u8 255] rfl rfl (World.news_of_block (cs := #[.int .u8 255]) (t := 5) (fr := (0, 0)) (alloc_set_new w1 _ _ _)) (by simp [Value.oneCell']) (by omega) (by simp [maxLen]; omega) (by simp; omega) (by simp; omega) (w1.heap.size + 1) (by simp) ?_; intro gg2 cap2 w2 hown2 hgrow2 hat2 hlt2; have hp2 := grown_keep ((Frm.refl [] (w1.setCell ⟨p, 0, none⟩ (.slice (some ⟨gg1, 0, none⟩) (L.length + 1) cap1))).alloc _) hgrow2 HP2 hne2; have hc2 := cell_of_one hp2; have hf2 := free_of_one hp2))
    have R := wr_step (L := L ++ [z q]) (ys := [255]) HP2 ((Frm.refl [] _).alloc _) (by simpa using hown2) hgrow2 (by simpa [World.setCell] using hat2) rfl HX.out.2.2.2.2.2.2 HX.out.2.2.2.2.2.1 hB HX.out.2.2.2.2.1 (by intro y hy; simp at hy; omega) hne2
    refine ⟨⟨q + 1, by omega, by go_num, ?_⟩, by simp [intOf]; omega⟩
    have e : l ++ escF z (q + 1) = L ++ [z q] ++ [255] := by rw [escF, esc, if_pos H0.out, ← List.append_assoc, HL.out, H0.out]; simp
    rw [e]
    simpa using R
   ·have h0' : (z q == 0) = false := by simp [h0]
    have H0 : Hid (¬ z q = 0) := h0
    clear h0
    go_wp2_with (at_builtin; refine wpList_append_lies _ rfl (.tmp 19) (.tmp 21) 57 rfl B 5 i0 _ 1 1 Tryz.underlying57 H.out.1 H.out.2.1 H.out.2.2.1 H.out.2.2.2 rfl (by omega) v L.length (L.map (Value.int .u8)) rfl (HO.out.alloc _) ⟨wr.heap.size, 0, none⟩ 1 1 [.int .u8 (z q)] rfl rfl (World.news_of_block (cs := #[.int .u8 (z q)]) (t := 5) (fr := (0, 0)) (heap_alloc_new wr _)) (by simp [Value.oneCell']) (by omega) (by simp [maxLen]; omega) (by simp; omega) (by simp; omega) (wr.heap.size + 1) (by simp) ?_; intro gg1 cap1 w1 hown1 hgrow1 hat1 hlt1; have hp1 := grown_keep ((Frm.refl [] wr).alloc _) hgrow1 HP1.out hne1; have hc1 := cell_of_one hp1; have hf1 := free_of_one hp1)
    have R := wr_step (ys := [z q]) HP1.out ((Frm.refl [] wr).alloc _) (by simpa using hown1) hgrow1 hat1 hg hg1 HF.out hB hx (by intro y hy; rw [List.mem_singleton.1 hy]; exact hzq) hne1
    refine ⟨⟨q + 1, by omega, by go_num, ?_⟩, by simp [intOf]; omega⟩
    rw [escF, esc, if_neg H0.out, ← List.append_assoc, HL.out]
    simpa using R
  ·have : q = n := by omega
   subst this
   go_wp2_with (at_builtin; refine wpList_append_lies _ rfl (.tmp 41) (.tmp 42) 57 rfl B 5 i0 _ 1 1 Tryz.underlying57 H.out.1 H.out.2.1 H.out.2.2.1 H.out.2.2.2 rfl (by omega) v L.length (L.map (Value.int .u8)) rfl (HO.out.alloc _) ⟨wr.heap.size, 0, none⟩ 2 2 [.int .u8 0, .int .u8 0] rfl rfl (World.news_of_block (cs := #[.int .u8 0, .int .u8 0]) (t := 5) (fr := (0, 0)) (heap_alloc_new wr _)) (by simp [Value.oneCell']) (by omega) (by simp [maxLen]; omega) (by simp; omega) (by simp; omega) (wr.heap.size + 1) (by simp) ?_; intro gg1 cap1 w1 hown1 hgrow1 hat1 hlt1; have hp1 := grown_keep ((Frm.refl [] wr).alloc _) hgrow1 HP1.out hne1; have hc1 := cell_of_one hp1; have hf1 := free_of_one hp1)
   have R := wr_step (ys := [0, 0]) HP1.out ((Frm.refl [] wr).alloc _) (by simpa using hown1) hgrow1 hat1 hg hg1 HF.out hB hx (by intro y hy; simp at hy; omega) hne1
   go_ret
   refine ⟨rfl, ?_⟩
   rw [← List.append_assoc, HL.out]
   simpa using R

end Go.Proofs.YtanchjfodcjlmaaGreatDoor
/- The writer's Hash; a nil writer's calls. -/
namespace Go.Proofs.YtanchjfodcjlmaaGreatDoor
open Go.RowKit

attribute [local go_sem ↓] Go.wp_at_zero Go.wp_at_succ

/-- A sum's bytes. -/
def hB (z : Nat → Int) : List Int := (List.range 32).map z
theorem hB_length (z : Nat → Int) : (hB z).length = 32 := by simp [hB]
theorem hB_bl (z : Nat → Int) : (hB z).map (Value.int .u8) = bl z 32 := by simp [hB, bl]

set_option maxRecDepth 100000 in
set_option maxHeartbeats 1600000 in
theorem wrHash_any (p B : Nat) (g : Option Nat) (l : List Int) (z : Nat → Int) (w : World) (hw : WrAt w B p g l) (hl : l.length + 32 ≤ 140737488355328) (hz : ∀ j, j < 32 → 0 ≤ z j ∧ z j ≤ 255) :
  Calls Tryz.prog 61 #[.pointer (some ⟨p, 0, none⟩), .agg (hv z)] w fun e w' => e = .returned (.pointer (some ⟨p, 0, none⟩)) ∧ WrGrown w w' B p g (l ++ hB z) := by
 obtain ⟨i0, hi0, hz0, hz1, hz2⟩ := info_parts Tryz.infoB
 have H : Hid (Tryz.prog.info? 5 = some i0 ∧ i0.zero = some (.int .u8 0) ∧ i0.size = 1 ∧ i0.bytes = 1) := ⟨hi0, hz0, hz1, hz2⟩
 clear hi0 hz0 hz1 hz2
 have HZ : Hid (∀ j, j < 32 → 0 ≤ z j ∧ z j ≤ 255) := hz
 clear hz
 obtain ⟨v, hp, hown, hg, hB0, hx⟩ := hw
 have hc := cell_of_one hp
 have hf := free_of_one hp
 have hplt := lt_of_block hp
 have hne : some p ≠ v.ownBlock := fun e => own_ne hown hp e.symm
 have HO : Hid (w.ownsRow B 5 1 v l.length (l.map (Value.int .u8))) := hown
 have HP : Hid (w.heap[p]? = some (.cells #[v] 161 (0, 0))) := hp
 clear hown hp
 have HN : Hid (((w.alloc (.cells (hv z) 43)).drew).heap[w.heap.size]? = some (.cells (hv z) 43 (0, 0))) := heap_alloc_new w (.cells (hv z) 43)
 go_enter Tryz.func61, Tryz.ntmps61
 go_wp2_with (refine Go.Great.wpList_boxTo rfl _ _ rfl _ rfl _ rfl (hv z) rfl ?_)
 go_region_law (refine step_append_lies _ (by rfl) _ _ _ (by rfl) B 5 i0 _ 1 1 Tryz.underlying57 H.out.1 H.out.2.1 H.out.2.2.1 H.out.2.2.2 rfl (by omega) v l.length (l.map (Value.int .u8)) (by rfl) ((HO.out.alloc _).drew) ⟨w.heap.size, 0, none⟩ 32 32 (bl z 32) (by rfl) (by simp [bl_length]) (by have := World.news_of_block HN.out; rw [hv_list] at this; exact this) (bl_one z 32) (by omega) (by simp [maxLen]; omega) (by simp; omega) (by simp; omega) (w.heap.size + 1) (by simp) ?_; intro gg cap w1 hown1 hgrow hat hlt1; have hp1 := grown_keep (((Frm.refl [] w).alloc _).drew) hgrow HP.out hne; have hc1 := cell_of_one hp1; have hf1 := free_of_one hp1)
 all_goals
  have R := wr_step (ys := hB z) HP.out (((Frm.refl [] w).alloc _).drew) (by rw [hB_bl, hB_length]; exact hown1) hgrow hat hg (.inl rfl) (Frm.refl _ w) hB0 hx (by intro y hy; simp [hB] at hy; obtain ⟨j, hj, rfl⟩ := hy; exact HZ.out j hj) hne
  rw [hB_length] at R
  clear hown1 hgrow hp1
  go_wp2
  go_ret
  exact ⟨rfl, R⟩

end Go.Proofs.YtanchjfodcjlmaaGreatDoor
/- Bytes as a string. -/
namespace Go.Proofs.YtanchjfodcjlmaaGreatDoor
open Go.RowKit


end Go.Proofs.YtanchjfodcjlmaaGreatDoor
/- cond.lay: ints laid by a writer. -/
namespace Go.Proofs.YtanchjfodcjlmaaGreatDoor.Cd
open Go.RowKit

/-- An int as a number from 0 on. -/
def u64 (n : Int) : Int := IntKind.u64.wrap n
theorem u64_bd (n : Int) : 0 ≤ u64 n ∧ u64 n ≤ 18446744073709551615 := by
 unfold u64
 simp [IntKind.wrap, IntKind.bits, IntKind.signed]
 omega
theorem u64_nat (n : Nat) (h : n ≤ 9223372036854775807) : u64 (n : Int) = n := by
 unfold u64
 simp [IntKind.wrap, IntKind.bits, IntKind.signed]
 omega
/-- Ints as they are laid. -/
def laidK (z : Nat → Int) : Nat → List Int
 | 0 => []
 | j + 1 => laidK z j ++ uB (u64 (z j))
theorem uB_len (n : Int) : (uB n).length ≤ 9 := by
 have := sz_le n
 simp [uB, dgs_length]
 omega
theorem laidK_len (z : Nat → Int) : ∀ j, (laidK z j).length ≤ 9 * j
 | 0 => by simp [laidK]
 | j + 1 => by
  have h1 := laidK_len z j
  have h2 := uB_len (u64 (z j))
  simp only [laidK, List.length_append]
  omega
theorem _root_.Go.Proofs.YtanchjfodcjlmaaGreatDoor.WrGrown.refl {w : World} {B p : Nat} {g : Option Nat} {l : List Int} (h : WrAt w B p g l) : WrGrown w w B p g l := ⟨g, h, Frm.refl _ _, .inl rfl⟩
theorem _root_.Go.Proofs.YtanchjfodcjlmaaGreatDoor.WrGrown.next {w w1 w2 : World} {B p : Nat} {g g1 : Option Nat} {l l' : List Int} (h : WrGrown w w1 B p g l) (h1 : WrAt w1 B p g1 l) (h2 : WrGrown w1 w2 B p g1 l') : WrGrown w w2 B p g l' :=
 h.trans fun g' hg' => by rw [hg'.same h1]; exact h2
theorem isAt_frm {S : List Nat} {w w' : World} {ad : Option Addr} {n : Nat} {z : Nat → Int} (h : IsAt w ad n z) (hf : Frm S w w') (ha : ∀ a, ad = some a → a.block ∉ S) : IsAt w' ad n z := by
 intro hn
 obtain ⟨b, off, e, hc⟩ := h hn
 refine ⟨b, off, e, fun j hj => ?_⟩
 have h1 := hc j hj
 rw [World.cell?_of_block (a := ⟨b, off + j, none⟩) (hf.block b (World.block_lt_of_cell? w ⟨b, off + j, none⟩ h1) (ha _ e))]
 exact h1

set_option maxHeartbeats 1600000 in
theorem lay_any (p B : Nat) (g : Option Nat) (l : List Int) (ad : Option Addr) (n cap : Nat) (z : Nat → Int) (w : World) (hw : WrAt w B p g l) (hl : l.length + 9 * n + 16 ≤ 140737488355328) (hI : IsAt w ad n z) (ha : 0 < n → ∀ a, ad = some a → a.block ∉ p :: g.toList) (hn : n ≤ 1048576) :
  Calls Tryz.prog 103 #[.pointer (some ⟨p, 0, none⟩), .slice ad n cap] w fun e w' => e = .returned (.tuple #[]) ∧ WrGrown w w' B p g (l ++ laidK z n) := by
 have HI : Hid (IsAt w ad n z ∧ (0 < n → ∀ a, ad = some a → a.block ∉ p :: g.toList)) := ⟨hI, ha⟩
 have h0 : WrGrown w w B p g (l ++ laidK z 0) := by simpa [laidK] using WrGrown.refl hw
 clear hI ha hw
 go_enter Tryz.func103, Tryz.ntmps103
 go_wp2
 go_loopw [5, 8] (fun _ iv wr => ∃ i : Nat, i ≤ n ∧ iv = .int .i64 i ∧ WrGrown w wr B p g (l ++ laidK z i)) (fun _ iv _ => n + 1 - (intOf iv).toNat)
 case atStart => exact ⟨0, by omega, rfl, h0⟩
 case round =>
  clear h0
  obtain ⟨i, hi, rfl, hW⟩ := hrel
  have HW : Hid (WrGrown w wr B p g (l ++ laidK z i)) := hW
  clear hW
  by_cases hlt : i < n
  ·have hlt' : (i : Int) < n := by omega
   obtain ⟨g1, hA1, hF1, -⟩ := HW.out
   obtain ⟨b, off, rfl, hc⟩ := (isAt_frm HI.out.1 hF1 (HI.out.2 (by omega))) (by omega)
   have hci := hc i hlt
   have hbd := u64_bd (z i)
   have hll := laidK_len z i
   have hcall := wrUint_any p B g1 (l ++ laidK z i) (u64 (z i)) wr hA1 (by simp; omega) hbd
   have HA : Hid (WrAt wr B p g1 (l ++ laidK z i)) := hA1
   clear hc hF1 hA1
   unfold u64 at hcall
   go_wp2_with (go_at_call 80; refine hcall.mono ?_; rintro e w1 ⟨rfl, hW1⟩)
   have HN : Hid (WrGrown w w1 B p g (l ++ laidK z (i + 1))) := by
    have := HW.out.next HA.out hW1
    rw [List.append_assoc] at this
    exact this
   clear hW1 hcall
   go_roundw
   case rel => exact ⟨i + 1, by omega, by go_num, HN.out⟩
   case measure => simp [intOf]; omega
  ·obtain rfl : i = n := by omega
   have hnn : ¬ ((i : Int) < i) := by omega
   have hW := HW.out
   go_wp2
   go_end0
   exact ⟨rfl, hW⟩
end Go.Proofs.YtanchjfodcjlmaaGreatDoor.Cd
/- The library's contracts laid at this program: which of its functions and types they speak of. -/
namespace Go.Proofs
open Go.Shelf
def Tryz.lGrow_ren : Go.Shelf.Ren := ⟨fun | 4 => 114 | n => n, fun | 22 => 57 | 25 => 5 | 3 => 3 | 4 => 4 | 9 => 9 | 20 => 20 | 0 => 0 | n => n, fun | n => n⟩
theorem Tryz.lGrow : Go.Proofs.Lays8.n4 Tryz.prog Tryz.lGrow_ren := {
 mixed := by kernel_rfl
 f4 := ⟨Tryz.f114.name, by decide, Tryz.func114.trans (congrArg some (by kernel_rfl))⟩
 t0 := Tryz.underlying0
 a0 := Tryz.isAgg0
 z0 := Tryz.sizeOf0
 v0 := Tryz.zeroValue0
 t3 := Tryz.underlying3
 a3 := Tryz.isAgg3
 z3 := Tryz.sizeOf3
 v3 := Tryz.zeroValue3
 t4 := Tryz.underlying4
 a4 := Tryz.isAgg4
 z4 := Tryz.sizeOf4
 v4 := Tryz.zeroValue4
 t9 := Tryz.underlying9
 a9 := Tryz.isAgg9
 z9 := Tryz.sizeOf9
 v9 := Tryz.zeroValue9
 t20 := Tryz.underlying20
 a20 := Tryz.isAgg20
 z20 := Tryz.sizeOf20
 v20 := Tryz.zeroValue20
 t22 := Tryz.underlying57
 a22 := Tryz.isAgg57
 z22 := Tryz.sizeOf57
 v22 := Tryz.zeroValue57 }
end Go.Proofs
/- slices.Concat of two rows of bytes. -/
namespace Go.Proofs.YtanchjfodcjlmaaGreatDoor.Cd
open Go.RowKit Go.Shelf

/-- Room made for n bytes behind nothing. -/
theorem grow_nil (n : Nat) (w : World) (hn : n ≤ 140737488355328) :
  Calls Tryz.prog 114 #[.slice none 0 0, .int .i64 n] w fun e w' => ∃ v, e = .returned v ∧ Ow w w' v [] := by
 rcases Nat.eq_zero_or_pos n with h0 | hp
 ·subst h0
  have hcon := Any8.slices_Grow_room Tryz.lGrow none 0 0 0 w (Nat.le_refl _) (by omega) (by omega) (by omega)
  change Calls Tryz.prog 114 _ _ _ at hcon
  refine hcon.mono ?_
  rintro e w' ⟨rfl, rfl⟩
  exact ⟨_, rfl, Ow.nil _⟩
 ·obtain ⟨i0, hi0, hz0, hz1, hz2⟩ := info_parts Tryz.infoB
  have hcon := Any8.slices_Grow_grow Tryz.lGrow i0 (.int .u8 0) hi0 hz0 (by omega) none 0 0 n [] w (Nat.le_refl _) (by omega) (by rw [hz2]; omega) (by omega) (by simp) (fun _ => rfl) (fun a h => by cases h)
  change Calls Tryz.prog 114 _ _ _ at hcon
  refine hcon.mono ?_
  rintro e w' ⟨rfl, rfl⟩
  refine ⟨_, rfl, ⟨⟨by simp, .inr ⟨w.heap.size, _, _, rfl, Nat.le_refl _, heap_alloc_new w.drew _, Nat.zero_le _, ?_, ?_, by simp⟩⟩, ((Below.refl _ w).drew).alloc (Nat.le_refl _) _, fun x h => by cases h⟩⟩
  ·exact grownCap_le_maxLen _ _ _ _ (by unfold maxLen; omega)
  ·have := grownCap_ge w n 0 (Tryz.lGrow_ren.t 25)
   simp [size_zeroCells, Value.cells]
   omega

theorem bd_of {w : World} {ad : Option Addr} {l : List Int} (h : SlAt w ad l.length (fn l)) : ∀ y, y ∈ l → 0 ≤ y ∧ y ≤ 255 := by
 intro y hy
 obtain ⟨j, hj, rfl⟩ := List.mem_iff_getElem.1 hy
 have := h.1 j hj
 rwa [fn_get l j hj] at this
/-- Two slices of bytes, as they lie in a row of two. -/
structure TwoAt (w : World) (q : Nat) (v1 v2 : Value) : Prop where
 c0 : w.cell? ⟨q, 0, none⟩ = some v1
 c1 : w.cell? ⟨q, 1, none⟩ = some v2

set_option maxRecDepth 100000 in
set_option maxHeartbeats 3200000 in
theorem concat_two (q : Nat) (ad1 : Option Addr) (l1 : List Int) (c1 : Nat) (ad2 : Option Addr) (l2 : List Int) (c2 : Nat) (w : World) (hT : TwoAt w q (.slice ad1 l1.length c1) (.slice ad2 l2.length c2)) (hs1 : SlAt w ad1 l1.length (fn l1)) (hn1 : ad1 = none → l1.length = 0 ∧ c1 = 0) (hs2 : SlAt w ad2 l2.length (fn l2)) (hn2 : ad2 = none → l2.length = 0 ∧ c2 = 0) (hl : l1.length + l2.length ≤ 140737488355328) :
  Calls Tryz.prog 104 #[.slice (some ⟨q, 0, none⟩) 2 2] w fun e w' => ∃ v, e = .returned v ∧ Ow w w' v (l1 ++ l2) := by
 obtain ⟨h0, h1⟩ := hT
 have HS : Hid ((SlAt w ad1 l1.length (fn l1) ∧ (ad1 = none → l1.length = 0 ∧ c1 = 0)) ∧ (SlAt w ad2 l2.length (fn l2) ∧ (ad2 = none → l2.length = 0 ∧ c2 = 0))) := ⟨⟨hs1, hn1⟩, hs2, hn2⟩
 clear hs1 hn1 hs2 hn2
 have hb0 := Below.refl w.heap.size w
 have hq := World.block_lt_of_cell? w ⟨q, 0, none⟩ h0
 have e1 : wrap64 ((l1.length : Int) + l2.length) = ((l1.length + l2.length : Nat) : Int) := by unfold wrap64; omega
 have e2 : ¬ (l1.length : Int) < 0 := by omega
 go_enter Tryz.func104, Tryz.ntmps104
 go_wp2
 refine wp_loop_rounds 3 ?_
 rw [rounds_succ]
 go_wp2
 rw [rounds_succ]
 go_wp2
 rw [rounds_succ]
 go_wp2_with fail
 have hgr := grow_nil (l1.length + l2.length) w hl
 rw [Int.natCast_add] at hgr
 refine hgr.mono ?_
 rintro e w1 ⟨v, rfl, hO1⟩
 have d0 : w1.cell? ⟨q, 0, none⟩ = some (.slice ad1 l1.length c1) := by rw [hO1.below.cell (p := ⟨q, 0, none⟩) hq]; exact h0
 have HO1 : Hid (Ow w w1 v [] ∧ BSrc w1 (.slice ad1 l1.length c1) l1) := ⟨hO1, SlAt.src (HS.out.1.1.below hO1.below) HS.out.1.2⟩
 have HD : Hid (∀ w' v' L, Ow w w' v' L → w'.cell? ⟨q, 1, none⟩ = some (.slice ad2 l2.length c2) ∧ BSrc w' (.slice ad2 l2.length c2) l2) := fun w' v' L h => ⟨by rw [h.below.cell (p := ⟨q, 1, none⟩) hq]; exact h1, SlAt.src (HS.out.2.1.below h.below) HS.out.2.2⟩
 have HY : Hid ((∀ y, y ∈ l1 → 0 ≤ y ∧ y ≤ 255) ∧ (∀ y, y ∈ l2 → 0 ≤ y ∧ y ≤ 255)) := ⟨bd_of HS.out.1.1, bd_of HS.out.2.1⟩
 clear hgr hO1 h0 h1 hb0
 go_wp2
 refine wp_loop_rounds 3 ?_
 rw [rounds_succ]
 go_wp2_with (at_builtin; refine wpList_append_B rfl _ _ rfl w _ _ [] l1 rfl rfl HO1.out.1 HO1.out.2 HY.out.1 (by simp; omega) ?_; intro v2 w2 hO2; obtain ⟨d1, hs2⟩ := HD.out w2 v2 _ hO2; have HO2 : Hid (Ow w w2 v2 l1 ∧ BSrc w2 (.slice ad2 l2.length c2) l2) := ⟨by simpa using hO2, hs2⟩; clear hO2 hs2)
 rw [rounds_succ]
 go_wp2_with (at_builtin; refine wpList_append_B rfl _ _ rfl w _ _ l1 l2 rfl rfl HO2.out.1 HO2.out.2 HY.out.2 (by omega) ?_; intro v3 w3 hO3)
 rw [rounds_succ]
 go_wp2
 go_ret
 exact ⟨_, rfl, hO3⟩
end Go.Proofs.YtanchjfodcjlmaaGreatDoor.Cd
