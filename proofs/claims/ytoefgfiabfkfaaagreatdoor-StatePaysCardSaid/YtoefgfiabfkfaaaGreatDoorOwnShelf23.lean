/- longState: whether a state has more than is gone through. -/
import Derived.Test.YtoefgfiabfkfaaaGreatDoorOwnShelf15
import Derived.Test.YtoefgfiabfkfaaaGreatDoorOwnShelf17
import Derived.Test.YtoefgfiabfkfaaaGreatDoorOwnShelf20
import Derived.Test.YtoefgfiabfkfaaaGreatDoorOwnShelf22
import Derived.Test.YtoefgfiabfkfaaaGreatDoorRows
import Derived.Test.YtoefgfiabfkfaaaGreatDoorOwnShelf01
import Derived.Test.YtoefgfiabfkfaaaGreatDoorOwnShelf09
import Derived.Lib.Walk
import Derived.ChangeSame
import Derived.ChangeVars
import Derived.JoinedOf
import Derived.RowKit
import Derived.RowKitTokens
import Derived.LaidLaws
import Derived.LaidHandle
import Derived.Stop.Joined
import Derived.ProofKit
import Derived.OpenShut
import Derived.ChangeOld
import Derived.SizedLaws
import Derived.Deep.Slices
namespace Go.Proofs.YtoefgfiabfkfaaaGreatDoor
open Go.RowKit

/-- The keys of the first holds together. -/
def sumN (X : Nat → Hd) : Nat → Nat
 | 0 => 0
 | i + 1 => sumN X i + (X i).n
theorem sumN_le {X : Nat → Hd} {i n : Nat} (h : i < n) : (X i).n ≤ sumN X n := by
 induction n with
 | zero => omega
 | succ n ih =>
  simp only [sumN]
  by_cases e : i = n
  ·subst e; omega
  ·have := ih (by omega); omega
theorem sumN_bd {X : Nat → Hd} {m n : Nat} (hx : ∀ i, i < n → (X i).n ≤ m) : ∀ i, i ≤ n → sumN X i ≤ i * m
 | 0, _ => by simp [sumN]
 | i + 1, hi => by
  have h1 := sumN_bd hx i (by omega)
  have h2 := hx i (by omega)
  simp only [sumN]
  rw [Nat.succ_mul]; omega
def lngS (s : Sv) : Bool := decide (100 < s.pn + s.hn ∨ 300 < s.pn + s.hn + sumN s.H s.hn)
theorem lngS_no {s : Sv} (h : lngS s = false) : s.Small := by
 simp only [lngS, decide_eq_false_iff_not] at h
 refine ⟨by omega, fun i hi => ?_⟩
 have := sumN_le (X := s.H) hi
 omega

set_option maxRecDepth 100000 in
set_option maxHeartbeats 1600000 in
theorem long_any (s : Sv) (p : Pl) (w : World) (h : SvAt w s p) (hp : s.pn ≤ 140737488355328) (hh : s.hn ≤ 140737488355328) (hx : ∀ i, i < s.hn → (s.H i).n ≤ 140737488355328) :
  Calls Tryz.prog 4 #[.agg (svv s p)] w fun e w' => e = .returned (.bool (lngS s)) ∧ Below w.heap.size w w' := by
 obtain ⟨nu, a, b, pn, P, hn, H⟩ := s
 obtain ⟨pa, pc, ha, hc⟩ := p
 obtain ⟨_, hd, _, _, _, _⟩ := h
 simp only at hd hp hh hx
 have HL : Hid (lngS ⟨nu, a, b, pn, P, hn, H⟩ = decide (100 < pn + hn ∨ 300 < pn + hn + sumN H hn)) := rfl
 generalize lngS ⟨nu, a, b, pn, P, hn, H⟩ = LL at *
 unfold svv
 simp only
 have hb0 : Below w.heap.size w (w.alloc (.cells #[.int .i64 nu, .int .i64 a, .int .i64 b, .slice pa pn pc, .slice ha hn hc] 26)) := (Below.refl _ w).alloc (Nat.le_refl _) _
 have HHD : Hid (HdAt (w.alloc (.cells #[.int .i64 nu, .int .i64 a, .int .i64 b, .slice pa pn pc, .slice ha hn hc] 26)) ha hn H) := hd.below hb0
 have hr0 := heap_alloc_new w (.cells #[.int .i64 nu, .int .i64 a, .int .i64 b, .slice pa pn pc, .slice ha hn hc] 26)
 have HX : Hid (∀ i, i < hn → (H i).n ≤ 140737488355328) := hx
 clear hd hx
 have ew : wrap64 ((pn : Int) + hn) = (pn : Int) + hn := by simp [wrap64]; omega
 have HB : Hid (Below w.heap.size w (w.alloc (.cells #[.int .i64 nu, .int .i64 a, .int .i64 b, .slice pa pn pc, .slice ha hn hc] 26))) := hb0
 clear hb0
 by_cases h1 : 100 < pn + hn
 ·have h1' : (100 : Int) < (pn : Int) + hn := by omega
  have HE : Hid (LL = true) := by rw [HL.out]; exact decide_eq_true (.inl h1)
  clear hr0
  go_enter Tryz.func4, Tryz.ntmps4
  go_wp2
  go_ret
  exact ⟨by rw [HE.out]; rfl, HB.out⟩
 ·have h1'' : ¬ (100 : Int) < (pn : Int) + hn := by omega
  go_enter Tryz.func4, Tryz.ntmps4
  go_wp2
  generalize w.alloc (.cells #[.int .i64 nu, .int .i64 a, .int .i64 b, .slice pa pn pc, .slice ha hn hc] 26) = W0 at *
  have c4 : W0.cell? ⟨w.heap.size, 4, none⟩ = some (.slice ha hn hc) := by rw [cell_of_row _ _ 4 _ _ _ hr0]; rfl
  clear hr0
  go_loop [3, 4] (fun sv iv => ∃ i : Nat, i ≤ hn ∧ sv = .int .i64 ((pn : Int) + hn + (sumN H i : Nat)) ∧ iv = .int .i64 i) (fun _ iv => hn + 1 - (intOf iv).toNat)
  case atStart => exact ⟨0, by omega, by simp [sumN], rfl⟩
  case round =>
   obtain ⟨i, hi, rfl, rfl⟩ := hrel
   have hs := sumN_bd HX.out i hi
   by_cases hlt : i < hn
   ·have hlt' : (i : Int) < hn := by omega
    have hxi := HX.out i hlt
    obtain ⟨bl0, off, rfl, hc0⟩ := HHD.out.at_ (by omega)
    obtain ⟨ka, kc, hr, _, _⟩ := hc0 i hlt
    obtain ⟨_, _, d2⟩ := hd_cells hr
    have HW : Hid ((pn : Int) + hn + (sumN H i : Nat) + (H i).n = (pn : Int) + hn + (sumN H (i + 1) : Nat)) := by show _ = _; simp only [sumN]; omega
    have hq : 0 ≤ (pn : Int) + hn + (sumN H i : Nat) ∧ (pn : Int) + hn + (sumN H i : Nat) ≤ 14073748835532900 := by omega
    clear hc0 hr hs
    generalize (pn : Int) + hn + (sumN H i : Nat) = q at *
    obtain ⟨x, hx⟩ : ∃ x, H i = x := ⟨_, rfl⟩
    rw [hx] at hxi HW d2
    clear hx
    have e2 : wrap64 (q + (x.n : Int)) = q + (x.n : Int) := by simp [wrap64]; omega
    go_wp2
    go_round
    case rel => exact ⟨i + 1, by omega, by first | rw [HW.out] | (rw [e2, HW.out]) | (rw [← HW.out]), by go_num⟩
    case measure => simp [intOf]; omega
   ·obtain rfl : i = hn := by omega
    have hnn : ¬ ((i : Int) < i) := by omega
    have HE : Hid (LL = decide ((300 : Int) < (pn : Int) + i + (sumN H i : Nat))) := by
     show _ = _
     rw [HL.out]
     exact decide_eq_decide.2 (by omega)
    generalize (pn : Int) + i + (sumN H i : Nat) = q at *
    go_wp2
    go_ret
    exact ⟨by rw [HE.out]; rfl, HB.out⟩
end Go.Proofs.YtoefgfiabfkfaaaGreatDoor
/- A state that came in. -/
namespace Go.Proofs.YtoefgfiabfkfaaaGreatDoor
open Go.RowKit

/-- A state that came in. -/
structure StIn (w : World) (s : Sv) (p : Pl) : Prop where
 at_ : SvAt w s p
 pn : s.pn ≤ 140737488355328
 hn : s.hn ≤ 140737488355328
 ks : ∀ i, i < s.hn → (s.H i).n ≤ 140737488355328
end Go.Proofs.YtoefgfiabfkfaaaGreatDoor
/- From the rows' hypothesis on the library's variable to its cell; states that came in. -/
namespace Go.Proofs.YtoefgfiabfkfaaaGreatDoor
open Go.ChangeShapes Go.WideShapes Go.RowKit Go.ChangeAt

theorem laidOut : laidOutB Tryz.prog = true := by kernel_rfl
theorem own : ownKnob Tryz.prog.godebug = none := by kernel_rfl
theorem et : Tryz.prog.globalNamed "errors.errorType" = some 0 := by kernel_rfl
/-- The name under which the row lists the handle's own type. -/
def handleName : String := match (Rows.laid_errors_errorType (H := Unit)) with
 | .iface s _ => s
 | _ => ""
theorem rt : (Tryz.prog.cutTypes.find? (·.1 == handleName)).map (·.2) = some 147 := by kernel_rfl
theorem oneRow : ((List.range 199).filter fun t => Tryz.prog.rowNamed t [101, 114, 114, 111, 114]) = [40] := by kernel_rfl
/-- The variables that the rows list. -/
def vars {H : Type} : List (String × DataW H) := [("errors.errorType", Rows.laid_errors_errorType), ("bayou/blake.first", Rows.laid_bayou_blake_first), ("bayou/blake.rows", Rows.laid_bayou_blake_rows)]
/-- What the condition gives a walk: the variable's one cell. -/
theorem glob_of_laid {W : World} (h : laidMetH Tryz.prog vars W) : Glob W := by
 have h' : laidMet Tryz.prog [("bayou/blake.first", Rows.laid_bayou_blake_first), ("bayou/blake.rows", Rows.laid_bayou_blake_rows)] W ∧ handlesMet Tryz.prog [("errors.errorType", Rows.laid_errors_errorType)] W := h
 obtain ⟨name, u, ty, e1, e2, e3, e4, e5⟩ := h'.2 _ (List.mem_singleton.2 rfl)
 have en : name = [101, 114, 114, 111, 114] := (Option.some.inj e1).symm
 subst en
 obtain rfl := Option.some.inj (rt.symm.trans e2)
 have hm : ty ∈ (List.range 199).filter fun t => Tryz.prog.rowNamed t [101, 114, 114, 111, 114] := List.mem_filter.2 ⟨List.mem_range.2 (by rw [← tsize]; exact e3), e4⟩
 rw [oneRow] at hm
 obtain rfl := List.mem_singleton.1 hm
 have hh : typeHandle Tryz.prog 40 = .pointer (some ⟨3, 40, none⟩) := by kernel_rfl
 rw [hh] at e5
 have := World.var?_cell et e5 0
 unfold Glob
 simpa using this


theorem array_len {H : Type} {enc : TypeId × Value → H} {P : Program} {w : World} {base : Nat} {sp : Nat → Bool} {held : Bool} {fuel : Nat} {t e : TypeId} {n : Nat} {cs : List Value} {x : DataW H × List MemPlace} (ht : P.underlying t = some (.array n e))
  (h : DataW.trod enc P w base sp held fuel t cs = some x) : cs.length = P.cellsOf t := by
 obtain ⟨ys, m3, _, _, hcl, _, _⟩ := DataW.trod_array ht h
 exact hcl
theorem var_heap {P : Program} {w : World} {n : String} {g : Nat} {cs : Array Value} (hg : P.globalNamed n = some g) (h : w.var? P n = some cs) : ∃ t fr, w.heap[g]? = some (.cells cs t fr) := by
 unfold World.var? at h
 rw [hg] at h
 simp only [Option.bind_some] at h
 split at h
 ·rename_i c t fr he
  cases h
  exact ⟨t, fr, he⟩
 ·cases h
theorem rowD (i : Nat) (hi : i < 10) : ∃ ds, Rows.laid_bayou_blake_rows (H := Unit) = .agg ds ∧ ds[i]? = some (Lib.tabData .u8 ((rowL i).map Int.ofNat)) := by
 refine ⟨_, rfl, ?_⟩
 have h : i = 0 ∨ i = 1 ∨ i = 2 ∨ i = 3 ∨ i = 4 ∨ i = 5 ∨ i = 6 ∨ i = 7 ∨ i = 8 ∨ i = 9 := by omega
 rcases h with rfl | rfl | rfl | rfl | rfl | rfl | rfl | rfl | rfl | rfl <;> rfl
theorem tab_of_reads {W : World} (h1 : Lib.VarReads Tryz.prog W "bayou/blake.first" Rows.laid_bayou_blake_first) (h2 : Lib.VarReads Tryz.prog W "bayou/blake.rows" Rows.laid_bayou_blake_rows) : Tab W := by
 constructor
 ·obtain ⟨g, t, cs, fuel, p, hg, ht, hv, hd⟩ := h1
  obtain rfl : 1 = g := Option.some.inj ((show Tryz.prog.globalNamed "bayou/blake.first" = some 1 by kernel_rfl).symm.trans hg)
  obtain rfl : 137 = t := Option.some.inj ((show (Tryz.prog.globals[1]?).map (·.type) = some 137 by kernel_rfl).symm.trans ht)
  have hc := Lib.cells_of_tab (zs := firstL.map Int.ofNat) Tryz.underlying137 Tryz.underlying120 (by kernel_rfl) (by kernel_rfl) hd
  obtain ⟨t', fr, he⟩ := var_heap hg hv
  refine ⟨t', fr, ?_⟩
  rw [he]
  have : cs = wv firstL := by rw [← Array.toList_inj, hc]; rfl
  rw [this]
 ·obtain ⟨g, t, cs, fuel, p, hg, ht, hv, hd⟩ := h2
  obtain rfl : 2 = g := Option.some.inj ((show Tryz.prog.globalNamed "bayou/blake.rows" = some 2 by kernel_rfl).symm.trans hg)
  obtain rfl : 166 = t := Option.some.inj ((show (Tryz.prog.globals[2]?).map (·.type) = some 166 by kernel_rfl).symm.trans ht)
  obtain ⟨t', fr, he⟩ := var_heap hg hv
  refine ⟨t', fr, ?_⟩
  rw [he]
  have hl : cs.toList.length = 160 := (array_len Tryz.underlying166 hd).trans (by kernel_rfl)
  have : cs = sv rowsF := by
   rw [← Array.toList_inj]
   apply List.ext_getElem?
   intro j
   by_cases hj : j < 160
   ·obtain ⟨i, k, hi, hk, rfl⟩ : ∃ i k, i < 10 ∧ k < 16 ∧ j = i * 16 + k := ⟨j / 16, j % 16, by omega, by omega, by omega⟩
    obtain ⟨ds, hds, hrow⟩ := rowD i hi
    rw [hds] at hd
    obtain ⟨fuel', d, q, hd1, hd2⟩ := Lib.array_elem Tryz.underlying166 hd i hi
    rw [hrow] at hd1
    cases hd1
    rw [show Tryz.prog.cellsOf 165 = 16 by kernel_rfl] at hd2
    have hc := Lib.cells_of_tab (zs := (rowL i).map Int.ofNat) Tryz.underlying165 Tryz.underlying5 (by kernel_rfl) (by kernel_rfl) hd2
    have h3 := congrArg (·[k]?) hc
    simp only [List.getElem?_take, hk, if_true, List.getElem?_drop, List.getElem?_map] at h3
    rw [h3]
    have h4 := rowsF_at hi hk
    simp only [sv, sl8, List.getElem?_map, h4, Option.map_some]
    rw [List.getElem?_eq_getElem (show k < (rowL i).length by rw [rowL_len hi]; exact hk)]
    simp [List.getD_eq_getElem?_getD, List.getElem?_eq_getElem (show k < (rowL i).length by rw [rowL_len hi]; exact hk)]
   ·rw [List.getElem?_eq_none (by omega), List.getElem?_eq_none (by
     have : (sv rowsF).toList.length = 160 := by kernel_rfl
     omega)]
  rw [this]
theorem Tab.size {w : World} (h : Tab w) : 3 ≤ w.heap.size := by
 obtain ⟨⟨_, _, h1⟩, ⟨_, _, h2⟩⟩ := h
 have := lt_of_block h1
 have := lt_of_block h2
 omega
theorem tab_of_laid {W : World} (h : laidMetH Tryz.prog vars W) : Tab W := by
 have h' : laidMet Tryz.prog [("bayou/blake.first", Rows.laid_bayou_blake_first), ("bayou/blake.rows", Rows.laid_bayou_blake_rows)] W ∧ handlesMet Tryz.prog [("errors.errorType", Rows.laid_errors_errorType)] W := h
 exact tab_of_reads (Lib.laidMet.reads h'.1 (.head _)) (Lib.laidMet.reads h'.1 (.tail _ (.head _)))
/-- What all weights are at most. -/
def Light {H : Type} (t : TypeId) (d : DataW H) : Prop := ∀ q ∈ d.weights Tryz.prog t, q ≤ 140737488351232
theorem weights_mem_all {H : Type} {P : Program} {e : TypeId} : ∀ {l : List (DataW H)} {d : DataW H}, d ∈ l → ∀ q ∈ d.weights P e, q ∈ DataW.weightsAll P e l
 | d0 :: l, d, hd, q, hq => by
  simp only [DataW.weightsAll, List.mem_append]
  rcases List.mem_cons.1 hd with rfl | h
  ·exact Or.inl hq
  ·exact Or.inr (weights_mem_all h q hq)
theorem bytesI : Tryz.prog.bytesOf 3 = 8 := by kernel_rfl
/-- Ints that came in: how they lie. -/
theorem ints_in {H : Type} {enc : TypeId × Value → H} {W : World} {base fuel : Nat} {cs : List Value} {x : DataW H × List MemPlace} {spare : Nat → Bool} {held : Bool} (hsp : ∀ b, spare b = true)
  (hf : DataW.trod enc Tryz.prog W base spare held fuel 54 cs = some x) (hw : Light 54 x.1) :
  ∃ (a : Option Addr) (len cap : Nat) (z : Nat → Int), cs = [.slice a len cap] ∧ len ≤ 140737488355328 ∧ IsAt W a len z ∧ (a = none → len = 0 ∧ cap = 0) ∧ ∀ j, j < len → Ib (z j) := by
 rcases open_ints Tryz.underlying54 Tryz.underlying3 (by kernel_rfl) hf with ⟨hcs, hx⟩ | ⟨ad, l, c, zs, hcs, _, hl, hm, hz, hx, hcell, hwz⟩
 ·exact ⟨none, 0, 0, fun _ => 0, hcs, by omega, fun h => by omega, fun _ => ⟨rfl, rfl⟩, fun j h => by omega⟩
 ·rw [hsp, if_pos rfl] at hz
  refine ⟨some ad, l, c, fun j => zs.getD j 0, hcs, ?_, fun hn => ?_, (fun h => by cases h), fun j hj => ?_⟩
  ·have h1 := hw _ (by rw [hx]; simp only [DataW.weights, Tryz.underlying54]; exact List.mem_cons_self)
   rw [bytesI] at h1
   simp [lits] at h1
   omega
  ·obtain ⟨b, off, spot⟩ := ad
   have hc := hcell 0 (by omega)
   have hspot : spot = none := by simpa [Addr.add] using World.cell?_spot hc
   subst hspot
   refine ⟨b, off, rfl, fun j hj => ?_⟩
   have := hcell j (by omega)
   rwa [Addr.add_lit] at this
  ·have hjz : j < zs.length := by omega
   simp only [List.getD_eq_getElem?_getD, List.getElem?_eq_getElem hjz, Option.getD_some]
   exact bounds_i64 (hwz zs[j] (List.getElem_mem hjz))
theorem take1 {α : Type} (l : List α) (i : Nat) (h : i < l.length) : (l.drop i).take 1 = [l[i]] := by
 rw [List.drop_eq_getElem_cons h]; rfl
/-- A sum's cells. -/
theorem sum_in {H : Type} {enc : TypeId × Value → H} {W : World} {base fuel : Nat} {cs : List Value} {x : DataW H × List MemPlace} {spare : Nat → Bool} {held : Bool}
  (hf : DataW.trod enc Tryz.prog W base spare held fuel 28 cs = some x) : ∃ z : Nat → Int, cs = bl z 32 ∧ Zb z := by
 obtain ⟨ys, m3, _, _, hcl, hyl, hy⟩ := DataW.trod_array Tryz.underlying28 hf
 rw [cellsB] at hy
 have hcl' : cs.length = 32 := by rw [hcl]; kernel_rfl
 have hb : ∀ i, i < 32 → ∃ q : Int, cs[i]? = some (.int .u8 q) ∧ 0 ≤ q ∧ q ≤ 255 := by
  intro i hi
  have h := hy i hi
  rw [Nat.mul_one, List.getElem?_eq_getElem (by omega), take1 _ i (by omega)] at h
  obtain ⟨q, e, _, wq⟩ := DataW.trod_int Tryz.underlying5 h
  refine ⟨q, ?_, bounds_u8 wq⟩
  simp at e
  rw [List.getElem?_eq_getElem (by omega), e]
 obtain ⟨h, hh⟩ := Go.Deep.choose_lt hb
 refine ⟨h, ?_, fun j hj => (hh j hj).2⟩
 apply List.ext_getElem?
 intro i
 by_cases hi : i < 32
 ·rw [bl_at hi, (hh i hi).1]
 ·rw [List.getElem?_eq_none (by omega), List.getElem?_eq_none (by simp [bl_length]; omega)]
/-- One payment, of its 36 cells. -/
theorem pay_in {H : Type} {enc : TypeId × Value → H} {W : World} {base fuel : Nat} {cs : List Value} {x : DataW H × List MemPlace} {spare : Nat → Bool} {held : Bool}
  (hf : DataW.trod enc Tryz.prog W base spare held fuel 30 cs = some x) :
  ∃ b : Py, cs = pyl b ∧ Zb b.lk ∧ (Ib b.id ∧ Ib b.fr ∧ Ib b.am ∧ Ib b.af) := by
 obtain ⟨xs, m, rfl, rfl, hcl, hxl, hfs⟩ := DataW.trod_struct Tryz.underlying30 hf
 have hcl' : cs.length = 36 := by rw [hcl]; kernel_rfl
 have hxl' : xs.length = 5 := hxl
 have g0 : DataW.trod enc Tryz.prog W base spare held m 3 ((cs.drop 0).take (Tryz.prog.cellsOf 3)) = xs[0]? := hfs 0 _ rfl
 have g1 : DataW.trod enc Tryz.prog W base spare held m 3 ((cs.drop 1).take (Tryz.prog.cellsOf 3)) = xs[1]? := hfs 1 _ rfl
 have g2 : DataW.trod enc Tryz.prog W base spare held m 3 ((cs.drop 2).take (Tryz.prog.cellsOf 3)) = xs[2]? := hfs 2 _ rfl
 have g3 : DataW.trod enc Tryz.prog W base spare held m 3 ((cs.drop 3).take (Tryz.prog.cellsOf 3)) = xs[3]? := hfs 3 _ rfl
 have g4 : DataW.trod enc Tryz.prog W base spare held m 28 ((cs.drop 4).take (Tryz.prog.cellsOf 28)) = xs[4]? := hfs 4 _ rfl
 rw [cellsI] at g0 g1 g2 g3
 rw [cellsH] at g4
 rw [take1 cs 0 (by omega), List.getElem?_eq_getElem (by omega)] at g0
 rw [take1 cs 1 (by omega), List.getElem?_eq_getElem (by omega)] at g1
 rw [take1 cs 2 (by omega), List.getElem?_eq_getElem (by omega)] at g2
 rw [take1 cs 3 (by omega), List.getElem?_eq_getElem (by omega)] at g3
 rw [List.getElem?_eq_getElem (by omega)] at g4
 obtain ⟨x0, h0, _, w0⟩ := DataW.trod_int Tryz.underlying3 g0
 obtain ⟨x1, h1, _, w1⟩ := DataW.trod_int Tryz.underlying3 g1
 obtain ⟨x2, h2, _, w2⟩ := DataW.trod_int Tryz.underlying3 g2
 obtain ⟨x3, h3, _, w3⟩ := DataW.trod_int Tryz.underlying3 g3
 obtain ⟨lk, h4, hlk⟩ := sum_in g4
 refine ⟨⟨x0, x1, x2, x3, lk⟩, ?_, hlk, bounds_i64 w0, bounds_i64 w1, bounds_i64 w2, bounds_i64 w3⟩
 simp at h0 h1 h2 h3
 have e0 : cs = cs[0] :: cs[1] :: cs[2] :: cs[3] :: cs.drop 4 := by
  have := List.drop_eq_getElem_cons (l := cs) (i := 0) (by omega)
  rw [List.drop_eq_getElem_cons (l := cs) (i := 0 + 1) (by omega), List.drop_eq_getElem_cons (l := cs) (i := 0 + 1 + 1) (by omega), List.drop_eq_getElem_cons (l := cs) (i := 0 + 1 + 1 + 1) (by omega)] at this
  simpa using this
 have e1 : cs.drop 4 = (cs.drop 4).take 32 := (List.take_of_length_le (by simp [hcl'])).symm
 rw [e0, h0, h1, h2, h3, e1, h4]
 rfl
/-- One hold, of its three cells. -/
theorem hold_in {H : Type} {enc : TypeId × Value → H} {W : World} {base fuel : Nat} {cs : List Value} {x : DataW H × List MemPlace} {spare : Nat → Bool} {held : Bool} (hsp : ∀ b, spare b = true)
  (hf : DataW.trod enc Tryz.prog W base spare held fuel 56 cs = some x) (hw : Light 56 x.1) :
  ∃ (b : Hd) (ka : Option Addr) (kc : Nat), cs = hdl b ka kc ∧ IsAt W ka b.n b.z ∧ (ka = none → b.n = 0 ∧ kc = 0) ∧ b.n ≤ 140737488355328 ∧ (Ib b.id ∧ Ib b.am ∧ ∀ j, j < b.n → Ib (b.z j)) := by
 obtain ⟨xs, m, rfl, rfl, hcl, hxl, hfs⟩ := DataW.trod_struct Tryz.underlying56 hf
 have hcl' : cs.length = 3 := by rw [hcl]; kernel_rfl
 have hxl' : xs.length = 3 := hxl
 have g0 : DataW.trod enc Tryz.prog W base spare held m 3 ((cs.drop 0).take (Tryz.prog.cellsOf 3)) = xs[0]? := hfs 0 _ rfl
 have g1 : DataW.trod enc Tryz.prog W base spare held m 3 ((cs.drop 1).take (Tryz.prog.cellsOf 3)) = xs[1]? := hfs 1 _ rfl
 have g2 : DataW.trod enc Tryz.prog W base spare held m 54 ((cs.drop 2).take (Tryz.prog.cellsOf 54)) = xs[2]? := hfs 2 _ rfl
 rw [cellsI] at g0 g1
 rw [cellsS] at g2
 rw [take1 cs 0 (by omega), List.getElem?_eq_getElem (by omega)] at g0
 rw [take1 cs 1 (by omega), List.getElem?_eq_getElem (by omega)] at g1
 rw [take1 cs 2 (by omega), List.getElem?_eq_getElem (by omega)] at g2
 have wk : Light 54 (xs[2]'(by omega)).1 := fun q hq => hw q (by
  simp only [DataW.weights, Tryz.underlying56]
  exact DataW.weights_mem_each (j := 2) (t := 54) (d := (xs[2]'(by omega)).1) rfl (by rw [List.getElem?_map, List.getElem?_eq_getElem (by omega)]; rfl) q hq)
 obtain ⟨x0, h0, _, w0⟩ := DataW.trod_int Tryz.underlying3 g0
 obtain ⟨x1, h1, _, w1⟩ := DataW.trod_int Tryz.underlying3 g1
 obtain ⟨ka, n, kc, z, h2, hn, hI, hnil, hkb⟩ := ints_in hsp g2 wk
 refine ⟨⟨x0, x1, n, z⟩, ka, kc, ?_, hI, hnil, hn, bounds_i64 w0, bounds_i64 w1, hkb⟩
 simp at h0 h1 h2
 have e0 : cs = [cs[0], cs[1], cs[2]] := by
  apply List.ext_getElem
  ·simp [hcl']
  ·intro i h1 h2
   match i, h2 with
   | 0, _ => rfl
   | 1, _ => rfl
   | 2, _ => rfl
 rw [e0, h0, h1, h2]
 rfl
theorem pays_in {H : Type} {enc : TypeId × Value → H} {W : World} {base fuel : Nat} {c0 : Value} {x : DataW H × List MemPlace} {spare : Nat → Bool} {held : Bool} (hsp : ∀ b, spare b = true)
  (hf : DataW.trod enc Tryz.prog W base spare held fuel 23 [c0] = some x) (hw : Light 23 x.1) :
  ∃ (a : Option Addr) (len cap : Nat) (X : Nat → Py), c0 = .slice a len cap ∧ PyAt W a len X ∧ len ≤ 140737488355328 ∧ len ≤ cap ∧ (a = none → len = 0 ∧ cap = 0) ∧ ∀ i, i < len → Ib (X i).id ∧ Ib (X i).fr ∧ Ib (X i).am ∧ Ib (X i).af := by
 rcases Go.Deep.open_slice Tryz.underlying23 hf with ⟨hcs, hx⟩ | ⟨ad, l, c, m, n, D, Pl, hcs, _, hl, hcm, hm, hx, hcell⟩
 ·exact ⟨none, 0, 0, fun _ => default, by simpa using hcs, PyAt.nil _ _ _, by omega, by omega, fun _ => ⟨rfl, rfl⟩, fun i hi => by omega⟩
 ·rw [hsp, if_pos rfl] at hm
  subst hm
  have cT : Tryz.prog.cellsOf 30 = 36 := by kernel_rfl
  have bT : Tryz.prog.bytesOf 30 = 64 := by kernel_rfl
  rw [cT] at hcell
  have hlen : l ≤ 140737488355328 := by
   have h1 := hw _ (by rw [hx]; simp only [DataW.weights, Tryz.underlying23]; exact List.mem_cons_self)
   rw [bT] at h1
   simp at h1
   omega
  have each : ∀ i, i < l → ∃ t : Py, W.cells? base (ad.add (i * 36)) 36 = some (pyl t) ∧ Zb t.lk ∧ (Ib t.id ∧ Ib t.fr ∧ Ib t.am ∧ Ib t.af) := by
   intro i hi
   obtain ⟨cs', h1, h2⟩ := hcell i (by omega)
   obtain ⟨b, rfl, h3, h4⟩ := pay_in h2
   exact ⟨b, h1, h3, h4⟩
  obtain ⟨X, hX⟩ := Go.Deep.choose_lt each
  refine ⟨some ad, l, _, X, (List.cons.inj hcs).1, ⟨fun i hi => (hX i hi).2.1, fun hn => ?_⟩, hlen, by omega, (fun h => by cases h), fun i hi => (hX i hi).2.2⟩
  obtain ⟨b, off, spot⟩ := ad
  obtain ⟨_, _, h0⟩ := World.cells?_some (hX 0 (by omega)).1
  have h0' := h0 0 (by omega)
  have hspot : spot = none := by
   have : W.cell? ⟨b, off, spot⟩ = some (.int .i64 (X 0).id) := by simpa [Addr.add, pyl] using h0'
   exact World.cell?_spot this
  subst hspot
  refine ⟨b, off, rfl, fun i hi j v hv => ?_⟩
  obtain ⟨_, _, h1⟩ := World.cells?_some (hX i (by omega)).1
  have hj : j < 36 := by
   have := (List.getElem?_eq_some_iff.1 hv).1
   rwa [pyl_length] at this
  have h2 := h1 j hj
  rw [Addr.add_lit, Addr.add_lit, hv] at h2
  exact h2
theorem holds_in {H : Type} {enc : TypeId × Value → H} {W : World} {base fuel : Nat} {c0 : Value} {x : DataW H × List MemPlace} {spare : Nat → Bool} {held : Bool} (hsp : ∀ b, spare b = true)
  (hf : DataW.trod enc Tryz.prog W base spare held fuel 24 [c0] = some x) (hw : Light 24 x.1) :
  ∃ (a : Option Addr) (len cap : Nat) (X : Nat → Hd), c0 = .slice a len cap ∧ HdAt W a len X ∧ len ≤ 140737488355328 ∧ len ≤ cap ∧ (a = none → len = 0 ∧ cap = 0) ∧ ∀ i, i < len → (X i).n ≤ 140737488355328 ∧ (Ib (X i).id ∧ Ib (X i).am ∧ ∀ j, j < (X i).n → Ib ((X i).z j)) := by
 rcases Go.Deep.open_slice Tryz.underlying24 hf with ⟨hcs, hx⟩ | ⟨ad, l, c, m, n, D, Pl, hcs, _, hl, hcm, hm, hx, hcell⟩
 ·exact ⟨none, 0, 0, fun _ => default, by simpa using hcs, HdAt.nil _ _ _, by omega, by omega, fun _ => ⟨rfl, rfl⟩, fun i hi => by omega⟩
 ·rw [hsp, if_pos rfl] at hm
  subst hm
  have cT : Tryz.prog.cellsOf 56 = 3 := by kernel_rfl
  have bT : Tryz.prog.bytesOf 56 = 40 := by kernel_rfl
  rw [cT] at hcell
  have hlen : l ≤ 140737488355328 := by
   have h1 := hw _ (by rw [hx]; simp only [DataW.weights, Tryz.underlying24]; exact List.mem_cons_self)
   rw [bT] at h1
   simp at h1
   omega
  have each : ∀ i, i < l → ∃ t : Hd × (Option Addr × Nat), W.cells? base (ad.add (i * 3)) 3 = some (hdl t.1 t.2.1 t.2.2) ∧ IsAt W t.2.1 t.1.n t.1.z ∧ (t.2.1 = none → t.1.n = 0 ∧ t.2.2 = 0) ∧ t.1.n ≤ 140737488355328 ∧ (Ib t.1.id ∧ Ib t.1.am ∧ ∀ j, j < t.1.n → Ib (t.1.z j)) := by
   intro i hi
   obtain ⟨cs', h1, h2⟩ := hcell i (by omega)
   have wi : Light 56 (D i) := fun q hq => hw q (by
    rw [hx]
    simp only [DataW.weights, Tryz.underlying24]
    exact List.mem_cons_of_mem _ (List.mem_append_left _ (weights_mem_all (List.mem_map.2 ⟨i, List.mem_range.2 hi, rfl⟩) q hq)))
   obtain ⟨b, ka, kc, rfl, h3, h4, h5, h6⟩ := hold_in hsp h2 wi
   exact ⟨(b, ka, kc), h1, h3, h4, h5, h6⟩
  obtain ⟨X, hX⟩ := Go.Deep.choose_lt each
  refine ⟨some ad, l, _, fun i => (X i).1, (List.cons.inj hcs).1, ⟨fun hn => ?_⟩, hlen, by omega, (fun h => by cases h), fun i hi => ⟨(hX i hi).2.2.2.1, (hX i hi).2.2.2.2⟩⟩
  obtain ⟨b, off, spot⟩ := ad
  obtain ⟨_, _, h0⟩ := World.cells?_some (hX 0 (by omega)).1
  have h0' := h0 0 (by omega)
  have hspot : spot = none := by
   have : W.cell? ⟨b, off, spot⟩ = some (.int .i64 (X 0).1.id) := by simpa [Addr.add, hdl] using h0'
   exact World.cell?_spot this
  subst hspot
  refine ⟨b, off, rfl, fun i hi => ⟨(X i).2.1, (X i).2.2, fun j v hv => ?_, (hX i hi).2.1, (hX i hi).2.2.1⟩⟩
  obtain ⟨_, _, h1⟩ := World.cells?_some (hX i (by omega)).1
  have hj : j < 3 := by
   have := (List.getElem?_eq_some_iff.1 hv).1
   simpa [hdl] using this
  have h2 := h1 j hj
  rw [Addr.add_lit, Addr.add_lit, hv] at h2
  exact h2
theorem cells2 : Tryz.prog.cellsOf 22 = 2 := by kernel_rfl
theorem cellsPs : Tryz.prog.cellsOf 23 = 1 := by kernel_rfl
theorem cellsHs : Tryz.prog.cellsOf 24 = 1 := by kernel_rfl
/-- Two ints that came in. -/
theorem two_in {H : Type} {enc : TypeId × Value → H} {W : World} {base fuel : Nat} {cs : List Value} {x : DataW H × List MemPlace} {spare : Nat → Bool} {held : Bool}
  (hf : DataW.trod enc Tryz.prog W base spare held fuel 22 cs = some x) : ∃ a b : Int, cs = [.int .i64 a, .int .i64 b] ∧ Ib a ∧ Ib b := by
 obtain ⟨ys, m3, _, _, hcl, hyl, hy⟩ := DataW.trod_array Tryz.underlying22 hf
 rw [cellsI] at hy
 have hcl' : cs.length = 2 := by rw [hcl]; kernel_rfl
 have h0 := hy 0 (by omega)
 have h1 := hy 1 (by omega)
 rw [List.getElem?_eq_getElem (by omega)] at h0 h1
 rw [show 0 * 1 = 0 from rfl, take1 cs 0 (by omega)] at h0
 rw [show 1 * 1 = 1 from rfl, take1 cs 1 (by omega)] at h1
 obtain ⟨a, e0, _, wa⟩ := DataW.trod_int Tryz.underlying3 h0
 obtain ⟨b, e1, _, wb⟩ := DataW.trod_int Tryz.underlying3 h1
 refine ⟨a, b, ?_, bounds_i64 wa, bounds_i64 wb⟩
 simp at e0 e1
 have : cs = [cs[0], cs[1]] := by
  apply List.ext_getElem
  ·simp [hcl']
  ·intro i h1 h2
   match i, h2 with
   | 0, _ => rfl
   | 1, _ => rfl
 rw [this, e0, e1]
/-- Its numbers are ints. -/
structure Sv.Ib (s : Sv) : Prop where
 nu : YtoefgfiabfkfaaaGreatDoor.Ib s.nu
 a : YtoefgfiabfkfaaaGreatDoor.Ib s.a
 b : YtoefgfiabfkfaaaGreatDoor.Ib s.b
 py : ∀ i, i < s.pn → YtoefgfiabfkfaaaGreatDoor.Ib (s.P i).id ∧ YtoefgfiabfkfaaaGreatDoor.Ib (s.P i).fr ∧ YtoefgfiabfkfaaaGreatDoor.Ib (s.P i).am ∧ YtoefgfiabfkfaaaGreatDoor.Ib (s.P i).af
 hd : ∀ i, i < s.hn → YtoefgfiabfkfaaaGreatDoor.Ib (s.H i).id ∧ YtoefgfiabfkfaaaGreatDoor.Ib (s.H i).am ∧ ∀ j, j < (s.H i).n → YtoefgfiabfkfaaaGreatDoor.Ib ((s.H i).z j)
/-- A state that came in. -/
theorem state_in {H : Type} {enc : TypeId × Value → H} {W : World} {base fuel : Nat} {cs : List Value} {x : DataW H × List MemPlace} {spare : Nat → Bool} {held : Bool} (hsp : ∀ b, spare b = true)
  (hf : DataW.trod enc Tryz.prog W base spare held fuel 26 cs = some x) (hw : Light 26 x.1) :
  ∃ (s : Sv) (p : Pl), cs = (svv s p).toList ∧ StIn W s p ∧ s.Ib := by
 obtain ⟨xs, m, rfl, rfl, hcl, hxl, hfs⟩ := DataW.trod_struct Tryz.underlying26 hf
 have hcl' : cs.length = 5 := by rw [hcl]; kernel_rfl
 have hxl' : xs.length = 4 := hxl
 have g0 : DataW.trod enc Tryz.prog W base spare held m 3 ((cs.drop 0).take (Tryz.prog.cellsOf 3)) = xs[0]? := hfs 0 _ rfl
 have g1 : DataW.trod enc Tryz.prog W base spare held m 22 ((cs.drop 1).take (Tryz.prog.cellsOf 22)) = xs[1]? := hfs 1 _ rfl
 have g2 : DataW.trod enc Tryz.prog W base spare held m 23 ((cs.drop 3).take (Tryz.prog.cellsOf 23)) = xs[2]? := hfs 2 _ rfl
 have g3 : DataW.trod enc Tryz.prog W base spare held m 24 ((cs.drop 4).take (Tryz.prog.cellsOf 24)) = xs[3]? := hfs 3 _ rfl
 rw [cellsI] at g0
 rw [cells2] at g1
 rw [cellsPs] at g2
 rw [cellsHs] at g3
 rw [take1 cs 0 (by omega), List.getElem?_eq_getElem (by omega)] at g0
 rw [List.getElem?_eq_getElem (by omega)] at g1
 rw [take1 cs 3 (by omega), List.getElem?_eq_getElem (by omega)] at g2
 rw [take1 cs 4 (by omega), List.getElem?_eq_getElem (by omega)] at g3
 have w2 : Light 23 (xs[2]'(by omega)).1 := fun q hq => hw q (by
  simp only [DataW.weights, Tryz.underlying26]
  exact DataW.weights_mem_each (j := 2) (t := 23) (d := (xs[2]'(by omega)).1) rfl (by rw [List.getElem?_map, List.getElem?_eq_getElem (by omega)]; rfl) q hq)
 have w3 : Light 24 (xs[3]'(by omega)).1 := fun q hq => hw q (by
  simp only [DataW.weights, Tryz.underlying26]
  exact DataW.weights_mem_each (j := 3) (t := 24) (d := (xs[3]'(by omega)).1) rfl (by rw [List.getElem?_map, List.getElem?_eq_getElem (by omega)]; rfl) q hq)
 obtain ⟨nu, h0, _, wn⟩ := DataW.trod_int Tryz.underlying3 g0
 obtain ⟨a, b, h1, wa, wb⟩ := two_in g1
 obtain ⟨pa, pn, pc, P, h2, hP, hpl, hpc, hpn, hpb⟩ := pays_in hsp g2 w2
 obtain ⟨ha, hn, hc, HH, h3, hH, hhl, hhc, hhn, hhb⟩ := holds_in hsp g3 w3
 refine ⟨⟨nu, a, b, pn, P, hn, HH⟩, ⟨pa, pc, ha, hc⟩, ?_, ⟨⟨hP, hH, hpc, hhc, hpn, hhn⟩, hpl, hhl, fun i hi => (hhb i hi).1⟩, bounds_i64 wn, wa, wb, hpb, fun i hi => (hhb i hi).2⟩
 simp at h0
 have e0 : cs = cs[0] :: ((cs.drop 1).take 2 ++ [cs[3], cs[4]]) := by
  apply List.ext_getElem
  ·simp [hcl']
  ·intro i h1 h2
   have hi : i < 5 := by omega
   match i, hi with
   | 0, _ => rfl
   | 1, _ => simp [hcl']
   | 2, _ => simp [hcl']
   | 3, _ => simp [hcl']
   | 4, _ => simp [hcl']
 rw [e0, h0, h1, h2, h3]
 rfl
theorem bytesB : Tryz.prog.bytesOf 5 = 1 := by kernel_rfl
/-- Bytes that came in: how they lie. -/
theorem bytes_in {H : Type} {enc : TypeId × Value → H} {W : World} {base fuel : Nat} {a : Option Addr} {len cap : Nat} {x : DataW H × List MemPlace} {spare : Nat → Bool} {held : Bool} (hsp : ∀ b, spare b = true)
  (hf : DataW.trod enc Tryz.prog W base spare held fuel 31 (Value.slice a len cap).cells.toList = some x) :
  ∃ z : Nat → Int, len ≤ cap ∧ SlAt W a len z ∧ (a = none → len = 0 ∧ cap = 0) ∧ ((x.1 = .nil ∧ cap = 0) ∨ ∃ el sp, x.1 = .slice el sp ∧ el.length + sp.length = cap) := by
 rcases open_ints Tryz.underlying31 Tryz.underlying5 (by kernel_rfl) hf with ⟨hcs, hx⟩ | ⟨ad, l, c, zs, hcs, _, hl, hm, hz, hx, hcell, hwz⟩
 ·simp [Value.cells] at hcs
  obtain ⟨rfl, rfl, rfl⟩ := hcs
  exact ⟨fun _ => 0, Nat.le_refl _, SlAt.zero _ _, fun _ => ⟨rfl, rfl⟩, .inl ⟨by rw [hx], rfl⟩⟩
 ·simp [Value.cells] at hcs
  obtain ⟨rfl, rfl, rfl⟩ := hcs
  rw [hsp, if_pos rfl] at hz
  refine ⟨fun j => zs.getD j 0, hl, ⟨fun j hj => ?_, fun hn => ?_⟩, (fun h => by cases h), .inr ⟨_, _, by rw [hx], ?_⟩⟩
  ·have hjz : j < zs.length := by omega
   have := hwz zs[j] (List.getElem_mem hjz)
   have hb := bounds_u8 this
   simp only [List.getD_eq_getElem?_getD, List.getElem?_eq_getElem hjz, Option.getD_some]
   omega
  ·obtain ⟨b, off, spot⟩ := ad
   have hc := hcell 0 (by omega)
   have hspot : spot = none := by simpa [Addr.add] using World.cell?_spot hc
   subst hspot
   refine ⟨b, off, rfl, fun j hj => ?_⟩
   have := hcell j (by omega)
   rwa [Addr.add_lit] at this
  ·simp [lits, hz]; omega
end Go.Proofs.YtoefgfiabfkfaaaGreatDoor
