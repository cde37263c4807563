/- longState: whether a state has more than is gone through. -/
import Derived.Test.YtjnepkggdkccaaaGreatDoorOwnShelf01
import Derived.Test.YtjnepkggdkccaaaGreatDoorOwnShelf22
import Derived.Test.YtjnepkggdkccaaaGreatDoorOwnShelf23
import Derived.Test.YtjnepkggdkccaaaGreatDoorOwnShelf07
import Derived.Test.YtjnepkggdkccaaaGreatDoorRows
import Derived.ChangeSame
import Derived.ChangeVars
import Derived.JoinedOf
import Derived.RowKit
import Derived.RowKitTokens
import Derived.LaidLaws
import Derived.LaidHandle
import Derived.Stop.Joined
import Derived.ProofKit
import Derived.OpenShut
import Derived.ChangeOld
import Derived.SizedLaws
import Derived.Deep.Slices
import Derived.Test.YtjnepkggdkccaaaGreatDoorOwnShelf16
import Derived.Test.YtjnepkggdkccaaaGreatDoorOwnShelf11
namespace Go.Proofs.YtjnepkggdkccaaaGreatDoor
open Go.RowKit

/-- The keys of the first holds together. -/
def sumN (X : Nat → Hd) : Nat → Nat
 | 0 => 0
 | i + 1 => sumN X i + (X i).n
theorem sumN_le {X : Nat → Hd} {i n : Nat} (h : i < n) : (X i).n ≤ sumN X n := by
 induction n with
 | zero => omega
 | succ n ih =>
  simp only [sumN]
  by_cases e : i = n
  ·subst e; omega
  ·have := ih (by omega); omega
theorem sumN_bd {X : Nat → Hd} {m n : Nat} (hx : ∀ i, i < n → (X i).n ≤ m) : ∀ i, i ≤ n → sumN X i ≤ i * m
 | 0, _ => by simp [sumN]
 | i + 1, hi => by
  have h1 := sumN_bd hx i (by omega)
  have h2 := hx i (by omega)
  simp only [sumN]
  rw [Nat.succ_mul]; omega
def lngS (s : Sv) : Bool := decide (100 < s.pn + s.hn ∨ 300 < s.pn + s.hn + sumN s.H s.hn)
theorem lngS_no {s : Sv} (h : lngS s = false) : s.Small := by
 simp only [lngS, decide_eq_false_iff_not] at h
 refine ⟨by omega, fun i hi => ?_⟩
 have := sumN_le (X := s.H) hi
 omega

set_option maxRecDepth 100000 in
set_option maxHeartbeats 1600000 in
theorem long_any (s : Sv) (p : Pl) (w : World) (h : SvAt w s p) (hp : s.pn ≤ 140737488355328) (hh : s.hn ≤ 140737488355328) (hx : ∀ i, i < s.hn → (s.H i).n ≤ 140737488355328) :
  Calls Tryz.prog 7 #[.agg (svv s p)] w fun e w' => e = .returned (.bool (lngS s)) ∧ Below w.heap.size w w' := by
 obtain ⟨nu, a, b, pn, P, hn, H⟩ := s
 obtain ⟨pa, pc, ha, hc⟩ := p
 obtain ⟨_, hd, _, _, _, _⟩ := h
 simp only at hd hp hh hx
 have HL : Hid (lngS ⟨nu, a, b, pn, P, hn, H⟩ = decide (100 < pn + hn ∨ 300 < pn + hn + sumN H hn)) := rfl
 generalize lngS ⟨nu, a, b, pn, P, hn, H⟩ = LL at *
 unfold svv
 simp only
 have hb0 : Below w.heap.size w (w.alloc (.cells #[.int .i64 nu, .int .i64 a, .int .i64 b, .slice pa pn pc, .slice ha hn hc] 32)) := (Below.refl _ w).alloc (Nat.le_refl _) _
 have HHD : Hid (HdAt (w.alloc (.cells #[.int .i64 nu, .int .i64 a, .int .i64 b, .slice pa pn pc, .slice ha hn hc] 32)) ha hn H) := hd.below hb0
 have hr0 := heap_alloc_new w (.cells #[.int .i64 nu, .int .i64 a, .int .i64 b, .slice pa pn pc, .slice ha hn hc] 32)
 have HX : Hid (∀ i, i < hn → (H i).n ≤ 140737488355328) := hx
 clear hd hx
 have ew : wrap64 ((pn : Int) + hn) = (pn : Int) + hn := by simp [wrap64]; omega
 have HB : Hid (Below w.heap.size w (w.alloc (.cells #[.int .i64 nu, .int .i64 a, .int .i64 b, .slice pa pn pc, .slice ha hn hc] 32))) := hb0
 clear hb0
 by_cases h1 : 100 < pn + hn
 ·have h1' : (100 : Int) < (pn : Int) + hn := by omega
  have HE : Hid (LL = true) := by rw [HL.out]; exact decide_eq_true (.inl h1)
  clear hr0
  go_enter Tryz.func7, Tryz.ntmps7
  go_wp2
  go_ret
  exact ⟨by rw [HE.out]; rfl, HB.out⟩
 ·have h1'' : ¬ (100 : Int) < (pn : Int) + hn := by omega
  go_enter Tryz.func7, Tryz.ntmps7
  go_wp2
  generalize w.alloc (.cells #[.int .i64 nu, .int .i64 a, .int .i64 b, .slice pa pn pc, .slice ha hn hc] 32) = W0 at *
  have c4 : W0.cell? ⟨w.heap.size, 4, none⟩ = some (.slice ha hn hc) := by rw [cell_of_row _ _ 4 _ _ _ hr0]; rfl
  clear hr0
  go_loop [3, 4] (fun sv iv => ∃ i : Nat, i ≤ hn ∧ sv = .int .i64 ((pn : Int) + hn + (sumN H i : Nat)) ∧ iv = .int .i64 i) (fun _ iv => hn + 1 - (intOf iv).toNat)
  case atStart => exact ⟨0, by omega, by simp [sumN], rfl⟩
  case round =>
   obtain ⟨i, hi, rfl, rfl⟩ := hrel
   have hs := sumN_bd HX.out i hi
   by_cases hlt : i < hn
   ·have hlt' : (i : Int) < hn := by omega
    have hxi := HX.out i hlt
    obtain ⟨bl0, off, rfl, hc0⟩ := HHD.out.at_ (by omega)
    obtain ⟨ka, kc, hr, _, _⟩ := hc0 i hlt
    obtain ⟨_, _, d2⟩ := hd_cells hr
    have HW : Hid ((pn : Int) + hn + (sumN H i : Nat) + (H i).n = (pn : Int) + hn + (sumN H (i + 1) : Nat)) := by show _ = _; simp only [sumN]; omega
    have hq : 0 ≤ (pn : Int) + hn + (sumN H i : Nat) ∧ (pn : Int) + hn + (sumN H i : Nat) ≤ 14073748835532900 := by omega
    clear hc0 hr hs
    generalize (pn : Int) + hn + (sumN H i : Nat) = q at *
    obtain ⟨x, hx⟩ : ∃ x, H i = x := ⟨_, rfl⟩
    rw [hx] at hxi HW d2
    clear hx
    have e2 : wrap64 (q + (x.n : Int)) = q + (x.n : Int) := by simp [wrap64]; omega
    go_wp2
    go_round
    case rel => exact ⟨i + 1, by omega, by first | rw [HW.out] | (rw [e2, HW.out]) | (rw [← HW.out]), by go_num⟩
    case measure => simp [intOf]; omega
   ·obtain rfl : i = hn := by omega
    have hnn : ¬ ((i : Int) < i) := by omega
    have HE : Hid (LL = decide ((300 : Int) < (pn : Int) + i + (sumN H i : Nat))) := by
     show _ = _
     rw [HL.out]
     exact decide_eq_decide.2 (by omega)
    generalize (pn : Int) + i + (sumN H i : Nat) = q at *
    go_wp2
    go_ret
    exact ⟨by rw [HE.out]; rfl, HB.out⟩
end Go.Proofs.YtjnepkggdkccaaaGreatDoor
/- What the laws of build share: a state that came in, giveParams. -/
namespace Go.Proofs.YtjnepkggdkccaaaGreatDoor
open Go.RowKit

/-- A state that came in. -/
structure StIn (w : World) (s : Sv) (p : Pl) : Prop where
 at_ : SvAt w s p
 pn : s.pn ≤ 140737488355328
 hn : s.hn ≤ 140737488355328
 ks : ∀ i, i < s.hn → (s.H i).n ≤ 140737488355328
theorem szPtr (z : Nat → Int) (n : Int) : (Tryz.prog.info? 25).map (·.size) = some (ptl z n).length := by rw [ptl_length]; kernel_rfl
theorem build_Pm (P : Pm) (w : World) : (Instr.build 40 #[(0, .agg (ptl P.pt P.n).toArray), (1, .int .i64 P.am), (2, .agg #[.int .i64 P.k0, .int .i64 P.k1]), (3, .int .i64 P.dl), (4, .int .i64 P.fe)]).run Tryz.prog w = .ok (.agg (pmv P)) w := by kernel_rfl
theorem wpList_buildPm {ops : Array Oper} {rest : List Oper} {o : Oper} {a : Act} {w : World} {Q : Exit → Act → World → Prop} (P : Pm) (hgd : o.guard = none) (x0 x1 x2 x3 x4 : Operand) (ho : o.op = .build 40 #[(0, x0), (1, x1), (2, x2), (3, x3), (4, x4)]) (h0 : a.eval x0 = .agg (ptl P.pt P.n).toArray) (h1 : a.eval x1 = .int .i64 P.am) (h2 : a.eval x2 = .agg #[.int .i64 P.k0, .int .i64 P.k1]) (h3 : a.eval x3 = .int .i64 P.dl) (h4 : a.eval x4 = .int .i64 P.fe)
  (h : wpList Tryz.prog ops Q rest (a.put o.dst (.agg (pmv P))) w) : wpList Tryz.prog ops Q (o :: rest) a w := by
 refine wpList_plain hgd fun K hK => ?_
 unfold Oper.wp execOp
 simp only [ho, List.map_toArray, List.map_cons, List.map_nil, h0, h1, h2, h3, h4, Sem.run_bind, build_Pm, Result.andThen]
 exact hK _ _ h
set_option maxRecDepth 100000 in
set_option maxHeartbeats 1600000 in
theorem giveParams_any (P : Pm) (w : World) :
  Calls Tryz.prog 9 #[.agg (pmv P)] w fun e w' => e = .returned (.agg (pmv P)) ∧ Below w.heap.size w w' := by
 go_enter Tryz.func9, Tryz.ntmps9
 go_upto_region 1 with (first | (refine wpList_boxN rfl _ _ rfl (pmv P) rfl ?_; intro v1 N1) | (refine wpList_allocN 40 (pmv ⟨nz, 0, 0, 0, 0, 0, 0⟩) run_allocPm rfl rfl ?_; intro v2 N2) | fail)
 have hr := pml_range (N2.old N1.blk)
 have HPT := hidV (pm_pt hr)
 have hpm := pmBox hr
 have c33 : v2.cell? ⟨w.heap.size, 33, none⟩ = some (.int .i64 P.am) := by simpa using hpm.am
 have c34 : v2.cell? ⟨w.heap.size, 34, none⟩ = some (.int .i64 P.k0) := by simpa using hpm.k0
 have c35 : v2.cell? ⟨w.heap.size, 35, none⟩ = some (.int .i64 P.k1) := by simpa using hpm.k1
 have c36 : v2.cell? ⟨w.heap.size, 36, none⟩ = some (.int .i64 P.dl) := by simpa using hpm.dl
 have c37 : v2.cell? ⟨w.heap.size, 37, none⟩ = some (.int .i64 P.fe) := by simpa using hpm.fe
 have HB := hidV (And.intro N2.blk (And.intro (Below.transS N1.below N2.below) (show w.heap.size ≤ v1.heap.size from N1.below.size)))
 clear hr hpm N1 N2
 go_wp2_with (first | (refine wpList_load_mid rfl 25 _ rfl w.heap.size 0 rfl (ptl P.pt P.n) _ HPT.out Tryz.underlying25 rfl (szPtr _ _) ?_) | (refine wpList_buildPm P rfl _ _ _ _ _ rfl rfl rfl rfl rfl rfl ?_) | (refine wpList_storeG 40 szPm rfl _ _ rfl v1.heap.size rfl (pmv P) (pmv ⟨nz, 0, 0, 0, 0, 0, 0⟩) (pmv_size _) (pmv_size _) (all_oneCell_toArray (pml_one _)) 40 rfl HB.out.1 ?_; intro v3 hg3 hf3) | fail)
 refine bodyPost_ret (results_cell_row Tryz.results9 _ v3 v1.heap.size 40 _ (0, 0) _ rfl hg3 Tryz.underlying40 rfl (by rw [pmv_size]; exact szPm)) rfl ⟨rfl, HB.out.2.1.trans (hf3.below HB.out.2.1.size (by have := HB.out.2.2; simp; omega))⟩
end Go.Proofs.YtjnepkggdkccaaaGreatDoor
/- From the rows' hypothesis on the library's variable to its cell; states that came in. -/
namespace Go.Proofs.YtjnepkggdkccaaaGreatDoor
open Go.ChangeShapes Go.WideShapes Go.RowKit Go.ChangeAt

theorem laidOut : laidOutB Tryz.prog = true := by kernel_rfl
theorem own : ownKnob Tryz.prog.godebug = none := by kernel_rfl
theorem et : Tryz.prog.globalNamed "errors.errorType" = some 0 := by kernel_rfl
/-- The name under which the row lists the handle's own type. -/
def handleName : String := match (Rows.laid_errors_errorType (H := Unit)) with
 | .iface s _ => s
 | _ => ""
theorem rt : (Tryz.prog.cutTypes.find? (·.1 == handleName)).map (·.2) = some 182 := by kernel_rfl
theorem oneRow : ((List.range 277).filter fun t => Tryz.prog.rowNamed t [101, 114, 114, 111, 114]) = [52] := by kernel_rfl
/-- What the condition gives a walk: the variable's one cell. -/
theorem glob_of_laid {W : World} (h : laidMetH Tryz.prog [("errors.errorType", Rows.laid_errors_errorType)] W) : Cd.Glob W := by
 have h' : laidMet Tryz.prog [] W ∧ handlesMet Tryz.prog [("errors.errorType", Rows.laid_errors_errorType)] W := h
 obtain ⟨name, u, ty, e1, e2, e3, e4, e5⟩ := h'.2 _ (List.mem_singleton.2 rfl)
 have en : name = [101, 114, 114, 111, 114] := (Option.some.inj e1).symm
 subst en
 obtain rfl := Option.some.inj (rt.symm.trans e2)
 have hm : ty ∈ (List.range 277).filter fun t => Tryz.prog.rowNamed t [101, 114, 114, 111, 114] := List.mem_filter.2 ⟨List.mem_range.2 (by rw [← tsize]; exact e3), e4⟩
 rw [oneRow] at hm
 obtain rfl := List.mem_singleton.1 hm
 have hh : typeHandle Tryz.prog 52 = .pointer (some ⟨1, 52, none⟩) := by kernel_rfl
 rw [hh] at e5
 have := World.var?_cell et e5 0
 unfold Cd.Glob
 simpa using this
/-- What all weights are at most. -/
def Light {H : Type} (t : TypeId) (d : DataW H) : Prop := ∀ q ∈ d.weights Tryz.prog t, q ≤ 140737488351232
theorem weights_mem_all {H : Type} {P : Program} {e : TypeId} : ∀ {l : List (DataW H)} {d : DataW H}, d ∈ l → ∀ q ∈ d.weights P e, q ∈ DataW.weightsAll P e l
 | d0 :: l, d, hd, q, hq => by
  simp only [DataW.weightsAll, List.mem_append]
  rcases List.mem_cons.1 hd with rfl | h
  ·exact Or.inl hq
  ·exact Or.inr (weights_mem_all h q hq)
theorem bytesI : Tryz.prog.bytesOf 3 = 8 := by kernel_rfl
/-- Ints that came in: how they lie. -/
theorem ints_in {H : Type} {enc : TypeId × Value → H} {W : World} {base fuel : Nat} {cs : List Value} {x : DataW H × List MemPlace} {spare : Nat → Bool} {held : Bool} (hsp : ∀ b, spare b = true)
  (hf : DataW.trod enc Tryz.prog W base spare held fuel 88 cs = some x) (hw : Light 88 x.1) :
  ∃ (a : Option Addr) (len cap : Nat) (z : Nat → Int), cs = [.slice a len cap] ∧ len ≤ 140737488355328 ∧ IsAt W a len z ∧ (a = none → len = 0 ∧ cap = 0) := by
 rcases open_ints Tryz.underlying88 Tryz.underlying3 (by kernel_rfl) hf with ⟨hcs, hx⟩ | ⟨ad, l, c, zs, hcs, _, hl, hm, hz, hx, hcell, hwz⟩
 ·exact ⟨none, 0, 0, fun _ => 0, hcs, by omega, fun h => by omega, fun _ => ⟨rfl, rfl⟩⟩
 ·rw [hsp, if_pos rfl] at hz
  refine ⟨some ad, l, c, fun j => zs.getD j 0, hcs, ?_, fun hn => ?_, fun h => by cases h⟩
  ·have h1 := hw _ (by rw [hx]; simp only [DataW.weights, Tryz.underlying88]; exact List.mem_cons_self)
   rw [bytesI] at h1
   simp [lits] at h1
   omega
  ·obtain ⟨b, off, spot⟩ := ad
   have hc := hcell 0 (by omega)
   have hspot : spot = none := by simpa [Addr.add] using World.cell?_spot hc
   subst hspot
   refine ⟨b, off, rfl, fun j hj => ?_⟩
   have := hcell j (by omega)
   rwa [Addr.add_lit] at this
theorem take1 {α : Type} (l : List α) (i : Nat) (h : i < l.length) : (l.drop i).take 1 = [l[i]] := by
 rw [List.drop_eq_getElem_cons h]; rfl
/-- A sum's cells. -/
theorem sum_in {H : Type} {enc : TypeId × Value → H} {W : World} {base fuel : Nat} {cs : List Value} {x : DataW H × List MemPlace} {spare : Nat → Bool} {held : Bool}
  (hf : DataW.trod enc Tryz.prog W base spare held fuel 23 cs = some x) : ∃ z : Nat → Int, cs = bl z 32 ∧ Zb z := by
 obtain ⟨ys, m3, _, _, hcl, hyl, hy⟩ := DataW.trod_array Tryz.underlying23 hf
 rw [cellsB] at hy
 have hcl' : cs.length = 32 := by rw [hcl]; kernel_rfl
 have hb : ∀ i, i < 32 → ∃ q : Int, cs[i]? = some (.int .u8 q) ∧ 0 ≤ q ∧ q ≤ 255 := by
  intro i hi
  have h := hy i hi
  rw [Nat.mul_one, List.getElem?_eq_getElem (by omega), take1 _ i (by omega)] at h
  obtain ⟨q, e, _, wq⟩ := DataW.trod_int Tryz.underlying5 h
  refine ⟨q, ?_, bounds_u8 wq⟩
  simp at e
  rw [List.getElem?_eq_getElem (by omega), e]
 obtain ⟨h, hh⟩ := Go.Deep.choose_lt hb
 refine ⟨h, ?_, fun j hj => (hh j hj).2⟩
 apply List.ext_getElem?
 intro i
 by_cases hi : i < 32
 ·rw [bl_at hi, (hh i hi).1]
 ·rw [List.getElem?_eq_none (by omega), List.getElem?_eq_none (by simp [bl_length]; omega)]
/-- One payment, of its 36 cells. -/
theorem pay_in {H : Type} {enc : TypeId × Value → H} {W : World} {base fuel : Nat} {cs : List Value} {x : DataW H × List MemPlace} {spare : Nat → Bool} {held : Bool}
  (hf : DataW.trod enc Tryz.prog W base spare held fuel 98 cs = some x) :
  ∃ b : Py, cs = pyl b ∧ Zb b.lk ∧ (Ib b.id ∧ Ib b.fr ∧ Ib b.am ∧ Ib b.af) := by
 obtain ⟨xs, m, rfl, rfl, hcl, hxl, hfs⟩ := DataW.trod_struct Tryz.underlying98 hf
 have hcl' : cs.length = 36 := by rw [hcl]; kernel_rfl
 have hxl' : xs.length = 5 := hxl
 have g0 : DataW.trod enc Tryz.prog W base spare held m 3 ((cs.drop 0).take (Tryz.prog.cellsOf 3)) = xs[0]? := hfs 0 _ rfl
 have g1 : DataW.trod enc Tryz.prog W base spare held m 3 ((cs.drop 1).take (Tryz.prog.cellsOf 3)) = xs[1]? := hfs 1 _ rfl
 have g2 : DataW.trod enc Tryz.prog W base spare held m 3 ((cs.drop 2).take (Tryz.prog.cellsOf 3)) = xs[2]? := hfs 2 _ rfl
 have g3 : DataW.trod enc Tryz.prog W base spare held m 3 ((cs.drop 3).take (Tryz.prog.cellsOf 3)) = xs[3]? := hfs 3 _ rfl
 have g4 : DataW.trod enc Tryz.prog W base spare held m 23 ((cs.drop 4).take (Tryz.prog.cellsOf 23)) = xs[4]? := hfs 4 _ rfl
 rw [cellsI] at g0 g1 g2 g3
 rw [cellsH] at g4
 rw [take1 cs 0 (by omega), List.getElem?_eq_getElem (by omega)] at g0
 rw [take1 cs 1 (by omega), List.getElem?_eq_getElem (by omega)] at g1
 rw [take1 cs 2 (by omega), List.getElem?_eq_getElem (by omega)] at g2
 rw [take1 cs 3 (by omega), List.getElem?_eq_getElem (by omega)] at g3
 rw [List.getElem?_eq_getElem (by omega)] at g4
 obtain ⟨x0, h0, _, w0⟩ := DataW.trod_int Tryz.underlying3 g0
 obtain ⟨x1, h1, _, w1⟩ := DataW.trod_int Tryz.underlying3 g1
 obtain ⟨x2, h2, _, w2⟩ := DataW.trod_int Tryz.underlying3 g2
 obtain ⟨x3, h3, _, w3⟩ := DataW.trod_int Tryz.underlying3 g3
 obtain ⟨lk, h4, hlk⟩ := sum_in g4
 refine ⟨⟨x0, x1, x2, x3, lk⟩, ?_, hlk, bounds_i64 w0, bounds_i64 w1, bounds_i64 w2, bounds_i64 w3⟩
 simp at h0 h1 h2 h3
 have e0 : cs = cs[0] :: cs[1] :: cs[2] :: cs[3] :: cs.drop 4 := by
  have := List.drop_eq_getElem_cons (l := cs) (i := 0) (by omega)
  rw [List.drop_eq_getElem_cons (l := cs) (i := 0 + 1) (by omega), List.drop_eq_getElem_cons (l := cs) (i := 0 + 1 + 1) (by omega), List.drop_eq_getElem_cons (l := cs) (i := 0 + 1 + 1 + 1) (by omega)] at this
  simpa using this
 have e1 : cs.drop 4 = (cs.drop 4).take 32 := (List.take_of_length_le (by simp [hcl'])).symm
 rw [e0, h0, h1, h2, h3, e1, h4]
 rfl
/-- One hold, of its three cells. -/
theorem hold_in {H : Type} {enc : TypeId × Value → H} {W : World} {base fuel : Nat} {cs : List Value} {x : DataW H × List MemPlace} {spare : Nat → Bool} {held : Bool} (hsp : ∀ b, spare b = true)
  (hf : DataW.trod enc Tryz.prog W base spare held fuel 90 cs = some x) (hw : Light 90 x.1) :
  ∃ (b : Hd) (ka : Option Addr) (kc : Nat), cs = hdl b ka kc ∧ IsAt W ka b.n b.z ∧ (ka = none → b.n = 0 ∧ kc = 0) ∧ b.n ≤ 140737488355328 ∧ (Ib b.id ∧ Ib b.am) := by
 obtain ⟨xs, m, rfl, rfl, hcl, hxl, hfs⟩ := DataW.trod_struct Tryz.underlying90 hf
 have hcl' : cs.length = 3 := by rw [hcl]; kernel_rfl
 have hxl' : xs.length = 3 := hxl
 have g0 : DataW.trod enc Tryz.prog W base spare held m 3 ((cs.drop 0).take (Tryz.prog.cellsOf 3)) = xs[0]? := hfs 0 _ rfl
 have g1 : DataW.trod enc Tryz.prog W base spare held m 3 ((cs.drop 1).take (Tryz.prog.cellsOf 3)) = xs[1]? := hfs 1 _ rfl
 have g2 : DataW.trod enc Tryz.prog W base spare held m 88 ((cs.drop 2).take (Tryz.prog.cellsOf 88)) = xs[2]? := hfs 2 _ rfl
 rw [cellsI] at g0 g1
 rw [cellsS] at g2
 rw [take1 cs 0 (by omega), List.getElem?_eq_getElem (by omega)] at g0
 rw [take1 cs 1 (by omega), List.getElem?_eq_getElem (by omega)] at g1
 rw [take1 cs 2 (by omega), List.getElem?_eq_getElem (by omega)] at g2
 have wk : Light 88 (xs[2]'(by omega)).1 := fun q hq => hw q (by
  simp only [DataW.weights, Tryz.underlying90]
  exact DataW.weights_mem_each (j := 2) (t := 88) (d := (xs[2]'(by omega)).1) rfl (by rw [List.getElem?_map, List.getElem?_eq_getElem (by omega)]; rfl) q hq)
 obtain ⟨x0, h0, _, w0⟩ := DataW.trod_int Tryz.underlying3 g0
 obtain ⟨x1, h1, _, w1⟩ := DataW.trod_int Tryz.underlying3 g1
 obtain ⟨ka, n, kc, z, h2, hn, hI, hnil⟩ := ints_in hsp g2 wk
 refine ⟨⟨x0, x1, n, z⟩, ka, kc, ?_, hI, hnil, hn, bounds_i64 w0, bounds_i64 w1⟩
 simp at h0 h1 h2
 have e0 : cs = [cs[0], cs[1], cs[2]] := by
  apply List.ext_getElem
  ·simp [hcl']
  ·intro i h1 h2
   match i, h2 with
   | 0, _ => rfl
   | 1, _ => rfl
   | 2, _ => rfl
 rw [e0, h0, h1, h2]
 rfl
theorem pays_in {H : Type} {enc : TypeId × Value → H} {W : World} {base fuel : Nat} {c0 : Value} {x : DataW H × List MemPlace} {spare : Nat → Bool} {held : Bool} (hsp : ∀ b, spare b = true)
  (hf : DataW.trod enc Tryz.prog W base spare held fuel 29 [c0] = some x) (hw : Light 29 x.1) :
  ∃ (a : Option Addr) (len cap : Nat) (X : Nat → Py), c0 = .slice a len cap ∧ PyAt W a len X ∧ len ≤ 140737488355328 ∧ len ≤ cap ∧ (a = none → len = 0 ∧ cap = 0) ∧ ∀ i, i < len → Ib (X i).id ∧ Ib (X i).fr ∧ Ib (X i).am ∧ Ib (X i).af := by
 rcases Go.Deep.open_slice Tryz.underlying29 hf with ⟨hcs, hx⟩ | ⟨ad, l, c, m, n, D, Pl, hcs, _, hl, hcm, hm, hx, hcell⟩
 ·exact ⟨none, 0, 0, fun _ => default, by simpa using hcs, PyAt.nil _ _ _, by omega, by omega, fun _ => ⟨rfl, rfl⟩, fun i hi => by omega⟩
 ·rw [hsp, if_pos rfl] at hm
  subst hm
  have cT : Tryz.prog.cellsOf 98 = 36 := by kernel_rfl
  have bT : Tryz.prog.bytesOf 98 = 64 := by kernel_rfl
  rw [cT] at hcell
  have hlen : l ≤ 140737488355328 := by
   have h1 := hw _ (by rw [hx]; simp only [DataW.weights, Tryz.underlying29]; exact List.mem_cons_self)
   rw [bT] at h1
   simp at h1
   omega
  have each : ∀ i, i < l → ∃ t : Py, W.cells? base (ad.add (i * 36)) 36 = some (pyl t) ∧ Zb t.lk ∧ (Ib t.id ∧ Ib t.fr ∧ Ib t.am ∧ Ib t.af) := by
   intro i hi
   obtain ⟨cs', h1, h2⟩ := hcell i (by omega)
   obtain ⟨b, rfl, h3, h4⟩ := pay_in h2
   exact ⟨b, h1, h3, h4⟩
  obtain ⟨X, hX⟩ := Go.Deep.choose_lt each
  refine ⟨some ad, l, _, X, (List.cons.inj hcs).1, ⟨fun i hi => (hX i hi).2.1, fun hn => ?_⟩, hlen, by omega, (fun h => by cases h), fun i hi => (hX i hi).2.2⟩
  obtain ⟨b, off, spot⟩ := ad
  obtain ⟨_, _, h0⟩ := World.cells?_some (hX 0 (by omega)).1
  have h0' := h0 0 (by omega)
  have hspot : spot = none := by
   have : W.cell? ⟨b, off, spot⟩ = some (.int .i64 (X 0).id) := by simpa [Addr.add, pyl] using h0'
   exact World.cell?_spot this
  subst hspot
  refine ⟨b, off, rfl, fun i hi j v hv => ?_⟩
  obtain ⟨_, _, h1⟩ := World.cells?_some (hX i (by omega)).1
  have hj : j < 36 := by
   have := (List.getElem?_eq_some_iff.1 hv).1
   rwa [pyl_length] at this
  have h2 := h1 j hj
  rw [Addr.add_lit, Addr.add_lit, hv] at h2
  exact h2
theorem holds_in {H : Type} {enc : TypeId × Value → H} {W : World} {base fuel : Nat} {c0 : Value} {x : DataW H × List MemPlace} {spare : Nat → Bool} {held : Bool} (hsp : ∀ b, spare b = true)
  (hf : DataW.trod enc Tryz.prog W base spare held fuel 30 [c0] = some x) (hw : Light 30 x.1) :
  ∃ (a : Option Addr) (len cap : Nat) (X : Nat → Hd), c0 = .slice a len cap ∧ HdAt W a len X ∧ len ≤ 140737488355328 ∧ len ≤ cap ∧ (a = none → len = 0 ∧ cap = 0) ∧ ∀ i, i < len → (X i).n ≤ 140737488355328 ∧ (Ib (X i).id ∧ Ib (X i).am) := by
 rcases Go.Deep.open_slice Tryz.underlying30 hf with ⟨hcs, hx⟩ | ⟨ad, l, c, m, n, D, Pl, hcs, _, hl, hcm, hm, hx, hcell⟩
 ·exact ⟨none, 0, 0, fun _ => default, by simpa using hcs, HdAt.nil _ _ _, by omega, by omega, fun _ => ⟨rfl, rfl⟩, fun i hi => by omega⟩
 ·rw [hsp, if_pos rfl] at hm
  subst hm
  have cT : Tryz.prog.cellsOf 90 = 3 := by kernel_rfl
  have bT : Tryz.prog.bytesOf 90 = 40 := by kernel_rfl
  rw [cT] at hcell
  have hlen : l ≤ 140737488355328 := by
   have h1 := hw _ (by rw [hx]; simp only [DataW.weights, Tryz.underlying30]; exact List.mem_cons_self)
   rw [bT] at h1
   simp at h1
   omega
  have each : ∀ i, i < l → ∃ t : Hd × (Option Addr × Nat), W.cells? base (ad.add (i * 3)) 3 = some (hdl t.1 t.2.1 t.2.2) ∧ IsAt W t.2.1 t.1.n t.1.z ∧ (t.2.1 = none → t.1.n = 0 ∧ t.2.2 = 0) ∧ t.1.n ≤ 140737488355328 ∧ (Ib t.1.id ∧ Ib t.1.am) := by
   intro i hi
   obtain ⟨cs', h1, h2⟩ := hcell i (by omega)
   have wi : Light 90 (D i) := fun q hq => hw q (by
    rw [hx]
    simp only [DataW.weights, Tryz.underlying30]
    exact List.mem_cons_of_mem _ (List.mem_append_left _ (weights_mem_all (List.mem_map.2 ⟨i, List.mem_range.2 hi, rfl⟩) q hq)))
   obtain ⟨b, ka, kc, rfl, h3, h4, h5, h6⟩ := hold_in hsp h2 wi
   exact ⟨(b, ka, kc), h1, h3, h4, h5, h6⟩
  obtain ⟨X, hX⟩ := Go.Deep.choose_lt each
  refine ⟨some ad, l, _, fun i => (X i).1, (List.cons.inj hcs).1, ⟨fun hn => ?_⟩, hlen, by omega, (fun h => by cases h), fun i hi => ⟨(hX i hi).2.2.2.1, (hX i hi).2.2.2.2⟩⟩
  obtain ⟨b, off, spot⟩ := ad
  obtain ⟨_, _, h0⟩ := World.cells?_some (hX 0 (by omega)).1
  have h0' := h0 0 (by omega)
  have hspot : spot = none := by
   have : W.cell? ⟨b, off, spot⟩ = some (.int .i64 (X 0).1.id) := by simpa [Addr.add, hdl] using h0'
   exact World.cell?_spot this
  subst hspot
  refine ⟨b, off, rfl, fun i hi => ⟨(X i).2.1, (X i).2.2, fun j v hv => ?_, (hX i hi).2.1, (hX i hi).2.2.1⟩⟩
  obtain ⟨_, _, h1⟩ := World.cells?_some (hX i (by omega)).1
  have hj : j < 3 := by
   have := (List.getElem?_eq_some_iff.1 hv).1
   simpa [hdl] using this
  have h2 := h1 j hj
  rw [Addr.add_lit, Addr.add_lit, hv] at h2
  exact h2
theorem cells2 : Tryz.prog.cellsOf 26 = 2 := by kernel_rfl
theorem cellsPs : Tryz.prog.cellsOf 29 = 1 := by kernel_rfl
theorem cellsHs : Tryz.prog.cellsOf 30 = 1 := by kernel_rfl
/-- Two ints that came in. -/
theorem two_in {H : Type} {enc : TypeId × Value → H} {W : World} {base fuel : Nat} {cs : List Value} {x : DataW H × List MemPlace} {spare : Nat → Bool} {held : Bool}
  (hf : DataW.trod enc Tryz.prog W base spare held fuel 26 cs = some x) : ∃ a b : Int, cs = [.int .i64 a, .int .i64 b] ∧ Ib a ∧ Ib b := by
 obtain ⟨ys, m3, _, _, hcl, hyl, hy⟩ := DataW.trod_array Tryz.underlying26 hf
 rw [cellsI] at hy
 have hcl' : cs.length = 2 := by rw [hcl]; kernel_rfl
 have h0 := hy 0 (by omega)
 have h1 := hy 1 (by omega)
 rw [List.getElem?_eq_getElem (by omega)] at h0 h1
 rw [show 0 * 1 = 0 from rfl, take1 cs 0 (by omega)] at h0
 rw [show 1 * 1 = 1 from rfl, take1 cs 1 (by omega)] at h1
 obtain ⟨a, e0, _, wa⟩ := DataW.trod_int Tryz.underlying3 h0
 obtain ⟨b, e1, _, wb⟩ := DataW.trod_int Tryz.underlying3 h1
 refine ⟨a, b, ?_, bounds_i64 wa, bounds_i64 wb⟩
 simp at e0 e1
 have : cs = [cs[0], cs[1]] := by
  apply List.ext_getElem
  ·simp [hcl']
  ·intro i h1 h2
   match i, h2 with
   | 0, _ => rfl
   | 1, _ => rfl
 rw [this, e0, e1]
/-- A point that came in, of its 33 cells. -/
theorem point_in {H : Type} {enc : TypeId × Value → H} {W : World} {base fuel : Nat} {cs : List Value} {x : DataW H × List MemPlace} {spare : Nat → Bool} {held : Bool}
  (hf : DataW.trod enc Tryz.prog W base spare held fuel 25 cs = some x) :
  ∃ (z : Nat → Int) (n : Int), cs = ptl z n ∧ Zb z ∧ Ib n := by
 obtain ⟨xs, m, rfl, rfl, hcl, hxl, hfs⟩ := DataW.trod_struct Tryz.underlying25 hf
 have hcl' : cs.length = 33 := by rw [hcl]; kernel_rfl
 have hxl' : xs.length = 2 := hxl
 have g0 : DataW.trod enc Tryz.prog W base spare held m 23 ((cs.drop 0).take (Tryz.prog.cellsOf 23)) = xs[0]? := hfs 0 _ rfl
 have g1 : DataW.trod enc Tryz.prog W base spare held m 3 ((cs.drop 32).take (Tryz.prog.cellsOf 3)) = xs[1]? := hfs 1 _ rfl
 rw [cellsH, List.getElem?_eq_getElem (by omega)] at g0
 rw [cellsI, take1 cs 32 (by omega), List.getElem?_eq_getElem (by omega)] at g1
 obtain ⟨z, h0, hz⟩ := sum_in g0
 obtain ⟨n, h1, _, w1⟩ := DataW.trod_int Tryz.underlying3 g1
 refine ⟨z, n, ?_, hz, bounds_i64 w1⟩
 simp at h0 h1
 have e0 : cs = cs.take 32 ++ [cs[32]] := by
  have := List.take_append_drop 32 cs
  rw [List.drop_eq_getElem_cons (l := cs) (i := 32) (by omega), List.drop_eq_nil_of_le (by omega)] at this
  exact this.symm
 rw [e0, h0, h1]
 rfl
/-- Params that came in, of their 38 cells. -/
theorem pm_in {H : Type} {enc : TypeId × Value → H} {W : World} {base fuel : Nat} {cs : List Value} {x : DataW H × List MemPlace} {spare : Nat → Bool} {held : Bool}
  (hf : DataW.trod enc Tryz.prog W base spare held fuel 28 cs = some x) :
  ∃ P : Pm, cs = pml P ∧ Zb P.pt ∧ (Ib P.n ∧ Ib P.am ∧ Ib P.k0 ∧ Ib P.k1 ∧ Ib P.dl ∧ Ib P.fe) := by
 obtain ⟨xs, m, rfl, rfl, hcl, hxl, hfs⟩ := DataW.trod_struct Tryz.underlying28 hf
 have hcl' : cs.length = 38 := by rw [hcl]; kernel_rfl
 have hxl' : xs.length = 5 := hxl
 have cellsP : Tryz.prog.cellsOf 25 = 33 := by kernel_rfl
 have g0 : DataW.trod enc Tryz.prog W base spare held m 25 ((cs.drop 0).take (Tryz.prog.cellsOf 25)) = xs[0]? := hfs 0 _ rfl
 have g1 : DataW.trod enc Tryz.prog W base spare held m 3 ((cs.drop 33).take (Tryz.prog.cellsOf 3)) = xs[1]? := hfs 1 _ rfl
 have g2 : DataW.trod enc Tryz.prog W base spare held m 26 ((cs.drop 34).take (Tryz.prog.cellsOf 26)) = xs[2]? := hfs 2 _ rfl
 have g3 : DataW.trod enc Tryz.prog W base spare held m 3 ((cs.drop 36).take (Tryz.prog.cellsOf 3)) = xs[3]? := hfs 3 _ rfl
 have g4 : DataW.trod enc Tryz.prog W base spare held m 3 ((cs.drop 37).take (Tryz.prog.cellsOf 3)) = xs[4]? := hfs 4 _ rfl
 rw [cellsP, List.getElem?_eq_getElem (by omega)] at g0
 rw [cellsI] at g1 g3 g4
 rw [cells2, List.getElem?_eq_getElem (by omega)] at g2
 rw [take1 cs 33 (by omega), List.getElem?_eq_getElem (by omega)] at g1
 rw [take1 cs 36 (by omega), List.getElem?_eq_getElem (by omega)] at g3
 rw [take1 cs 37 (by omega), List.getElem?_eq_getElem (by omega)] at g4
 obtain ⟨z, n, h0, hz, hn⟩ := point_in g0
 obtain ⟨am, h1, _, w1⟩ := DataW.trod_int Tryz.underlying3 g1
 obtain ⟨k0, k1, h2, wa, wb⟩ := two_in g2
 obtain ⟨dl, h3, _, w3⟩ := DataW.trod_int Tryz.underlying3 g3
 obtain ⟨fe, h4, _, w4⟩ := DataW.trod_int Tryz.underlying3 g4
 refine ⟨⟨z, n, am, k0, k1, dl, fe⟩, ?_, hz, hn, bounds_i64 w1, wa, wb, bounds_i64 w3, bounds_i64 w4⟩
 simp at h0 h1 h3 h4
 have e0 : cs = cs.take 33 ++ (cs[33] :: ((cs.drop 34).take 2 ++ [cs[36], cs[37]])) := by
  have := List.take_append_drop 33 cs
  rw [List.drop_eq_getElem_cons (l := cs) (i := 33) (by omega)] at this
  have h5 : cs.drop (33 + 1) = (cs.drop 34).take 2 ++ [cs[36], cs[37]] := by
   have h6 := (List.take_append_drop 2 (cs.drop 34)).symm
   have h7 : cs.drop (34 + 2 + 1 + 1) = [] := List.drop_eq_nil_iff.2 (by omega)
   rw [List.drop_drop, List.drop_eq_getElem_cons (l := cs) (i := 34 + 2) (by omega), List.drop_eq_getElem_cons (l := cs) (i := 34 + 2 + 1) (by omega), h7] at h6
   exact h6
  rw [h5] at this
  exact this.symm
 rw [e0, h0, h1, h2, h3, h4]
 simp [pml, ptl]
/-- Its numbers are ints. -/
structure Sv.Ib (s : Sv) : Prop where
 nu : YtjnepkggdkccaaaGreatDoor.Ib s.nu
 a : YtjnepkggdkccaaaGreatDoor.Ib s.a
 b : YtjnepkggdkccaaaGreatDoor.Ib s.b
 py : ∀ i, i < s.pn → YtjnepkggdkccaaaGreatDoor.Ib (s.P i).id ∧ YtjnepkggdkccaaaGreatDoor.Ib (s.P i).fr ∧ YtjnepkggdkccaaaGreatDoor.Ib (s.P i).am ∧ YtjnepkggdkccaaaGreatDoor.Ib (s.P i).af
 hd : ∀ i, i < s.hn → YtjnepkggdkccaaaGreatDoor.Ib (s.H i).id ∧ YtjnepkggdkccaaaGreatDoor.Ib (s.H i).am
/-- A state that came in. -/
theorem state_in {H : Type} {enc : TypeId × Value → H} {W : World} {base fuel : Nat} {cs : List Value} {x : DataW H × List MemPlace} {spare : Nat → Bool} {held : Bool} (hsp : ∀ b, spare b = true)
  (hf : DataW.trod enc Tryz.prog W base spare held fuel 32 cs = some x) (hw : Light 32 x.1) :
  ∃ (s : Sv) (p : Pl), cs = (svv s p).toList ∧ StIn W s p ∧ s.Ib := by
 obtain ⟨xs, m, rfl, rfl, hcl, hxl, hfs⟩ := DataW.trod_struct Tryz.underlying32 hf
 have hcl' : cs.length = 5 := by rw [hcl]; kernel_rfl
 have hxl' : xs.length = 4 := hxl
 have g0 : DataW.trod enc Tryz.prog W base spare held m 3 ((cs.drop 0).take (Tryz.prog.cellsOf 3)) = xs[0]? := hfs 0 _ rfl
 have g1 : DataW.trod enc Tryz.prog W base spare held m 26 ((cs.drop 1).take (Tryz.prog.cellsOf 26)) = xs[1]? := hfs 1 _ rfl
 have g2 : DataW.trod enc Tryz.prog W base spare held m 29 ((cs.drop 3).take (Tryz.prog.cellsOf 29)) = xs[2]? := hfs 2 _ rfl
 have g3 : DataW.trod enc Tryz.prog W base spare held m 30 ((cs.drop 4).take (Tryz.prog.cellsOf 30)) = xs[3]? := hfs 3 _ rfl
 rw [cellsI] at g0
 rw [cells2] at g1
 rw [cellsPs] at g2
 rw [cellsHs] at g3
 rw [take1 cs 0 (by omega), List.getElem?_eq_getElem (by omega)] at g0
 rw [List.getElem?_eq_getElem (by omega)] at g1
 rw [take1 cs 3 (by omega), List.getElem?_eq_getElem (by omega)] at g2
 rw [take1 cs 4 (by omega), List.getElem?_eq_getElem (by omega)] at g3
 have w2 : Light 29 (xs[2]'(by omega)).1 := fun q hq => hw q (by
  simp only [DataW.weights, Tryz.underlying32]
  exact DataW.weights_mem_each (j := 2) (t := 29) (d := (xs[2]'(by omega)).1) rfl (by rw [List.getElem?_map, List.getElem?_eq_getElem (by omega)]; rfl) q hq)
 have w3 : Light 30 (xs[3]'(by omega)).1 := fun q hq => hw q (by
  simp only [DataW.weights, Tryz.underlying32]
  exact DataW.weights_mem_each (j := 3) (t := 30) (d := (xs[3]'(by omega)).1) rfl (by rw [List.getElem?_map, List.getElem?_eq_getElem (by omega)]; rfl) q hq)
 obtain ⟨nu, h0, _, wn⟩ := DataW.trod_int Tryz.underlying3 g0
 obtain ⟨a, b, h1, wa, wb⟩ := two_in g1
 obtain ⟨pa, pn, pc, P, h2, hP, hpl, hpc, hpn, hpb⟩ := pays_in hsp g2 w2
 obtain ⟨ha, hn, hc, HH, h3, hH, hhl, hhc, hhn, hhb⟩ := holds_in hsp g3 w3
 refine ⟨⟨nu, a, b, pn, P, hn, HH⟩, ⟨pa, pc, ha, hc⟩, ?_, ⟨⟨hP, hH, hpc, hhc, hpn, hhn⟩, hpl, hhl, fun i hi => (hhb i hi).1⟩, bounds_i64 wn, wa, wb, hpb, fun i hi => (hhb i hi).2⟩
 simp at h0
 have e0 : cs = cs[0] :: ((cs.drop 1).take 2 ++ [cs[3], cs[4]]) := by
  apply List.ext_getElem
  ·simp [hcl']
  ·intro i h1 h2
   have hi : i < 5 := by omega
   match i, hi with
   | 0, _ => rfl
   | 1, _ => simp [hcl']
   | 2, _ => simp [hcl']
   | 3, _ => simp [hcl']
   | 4, _ => simp [hcl']
 rw [e0, h0, h1, h2, h3]
 rfl
end Go.Proofs.YtjnepkggdkccaaaGreatDoor
/- longTx: whether a transaction has more than is gone through. -/
namespace Go.Proofs.YtjnepkggdkccaaaGreatDoor
open Go.RowKit

/-- What is said of a transaction that is not long. -/
structure NoLong (n : Nat) (X : Nat → Ti) (m : Nat) (O : Nat → To) : Prop where
 nm : n + m ≤ 300
 sn : ∀ i, i < n → (X i).sn ≤ 10000
 cn : ∀ i, i < m → (O i).cn ≤ 400
def LngR (n : Nat) (X : Nat → Ti) (m : Nat) (O : Nat → To) (w : World) (e : Ending) (w' : World) : Prop := ∃ b : Bool, e = .returned (.bool b) ∧ (b = false → NoLong n X m O) ∧ Below w.heap.size w w'
set_option maxRecDepth 100000 in
set_option maxHeartbeats 3200000 in
theorem longTx_any (lk : Int) (ia : Option Addr) (n ic : Nat) (oa : Option Addr) (m oc : Nat) (X : Nat → Ti) (S : Nat → Option Addr × Nat) (O : Nat → To) (w : World) (h : TiAt w ia n X S) (ho : ToAt w oa m O) (hn : n ≤ 140737488355328) (hm : m ≤ 140737488355328) (hs : ∀ i, i < n → (X i).sn ≤ 140737488355328) (hc : ∀ i, i < m → (O i).cn ≤ 140737488355328 ∧ ∀ j, j < (O i).cn → ((O i).X j).n ≤ 140737488355328) :
  Calls Tryz.prog 19 #[.agg (txv lk ia n ic oa m oc)] w (LngR n X m O w) := by
 have hb0 : Below w.heap.size w (w.alloc (.cells #[.int .i64 lk, .slice ia n ic, .slice oa m oc] 58)) := (Below.refl _ w).alloc (Nat.le_refl _) _
 have HT : Hid (TiAt (w.alloc (.cells #[.int .i64 lk, .slice ia n ic, .slice oa m oc] 58)) ia n X S ∧ ToAt (w.alloc (.cells #[.int .i64 lk, .slice ia n ic, .slice oa m oc] 58)) oa m O) := ⟨h.below hb0, ho.below hb0⟩
 have hr0 := heap_alloc_new w (.cells #[.int .i64 lk, .slice ia n ic, .slice oa m oc] 58)
 have HS := hidV hs
 have HC := hidV hc
 have HB := hidV hb0
 have ew : wrap64 ((n : Int) + m) = (n : Int) + m := by simp [wrap64]; omega
 unfold txv
 clear h ho hs hc hb0
 by_cases h1 : 300 < n + m
 ·have h1' : (300 : Int) < (n : Int) + m := by omega
  clear hr0
  go_enter Tryz.func19, Tryz.ntmps19
  go_wp2
  go_ret
  exact ⟨true, rfl, (fun h => by cases h), HB.out⟩
 ·have h1'' : ¬ (300 : Int) < (n : Int) + m := by omega
  go_enter Tryz.func19, Tryz.ntmps19
  go_wp2
  generalize w.alloc (.cells #[.int .i64 lk, .slice ia n ic, .slice oa m oc] 58) = W0 at *
  have c1 : W0.cell? ⟨w.heap.size, 1, none⟩ = some (.slice ia n ic) := by rw [cell_of_row _ _ 1 _ _ _ hr0]; rfl
  have c2 : W0.cell? ⟨w.heap.size, 2, none⟩ = some (.slice oa m oc) := by rw [cell_of_row _ _ 2 _ _ _ hr0]; rfl
  clear hr0
  go_loop [3, 4] (fun qv iv => ∃ (i : Nat) (q : Int), i ≤ n ∧ qv = .int .i64 q ∧ iv = .int .i64 i ∧ 0 ≤ q ∧ q ≤ 300 + i * 8796093022208 ∧ ∀ j, j < i → (((X j).sn / 16 : Nat) : Int) ≤ q) (fun _ iv => n + 1 - (intOf iv).toNat)
  case atStart => exact ⟨0, _, by omega, rfl, rfl, by omega, by omega, fun j hj => by omega⟩
  case round =>
   obtain ⟨i, q, hi, rfl, rfl, hq0, hq1, hq⟩ := hrel
   have HQ := hidV hq
   clear hq
   by_cases hlt : i < n
   ·have hlt' : (i : Int) < n := by omega
    have hsi := HS.out i hlt
    obtain ⟨b0, off, rfl, hra⟩ := HT.out.1.at_ (by omega)
    have hr := hra i hlt
    clear hra
    obtain ⟨x, hx⟩ : ∃ x, X i = x := ⟨_, rfl⟩
    rw [hx] at hr hsi
    have d2 : W0.cell? ⟨b0, off + i * 35 + 34, none⟩ = some (.slice (S i).1 x.sn (S i).2) := hr 34 _ (by rfl)
    have eq : Int.tdiv (x.sn : Int) 16 = ((x.sn / 16 : Nat) : Int) := by rw [Int.tdiv_eq_ediv_of_nonneg (by omega)]; rfl
    have ew2 : wrap64 (q + ((x.sn / 16 : Nat) : Int)) = q + ((x.sn / 16 : Nat) : Int) := by simp [wrap64]; omega
    have HX := hidV hx
    clear hr hx
    go_wp2
    go_round
    case rel => exact ⟨i + 1, q + ((x.sn / 16 : Nat) : Int), by omega, rfl, by go_num, by omega, by omega, fun j hj => by
     by_cases e : j = i
     ·subst e; rw [HX.out]; omega
     ·have := HQ.out j (by omega); omega⟩
    case measure => simp [intOf]; omega
   ·obtain rfl : i = n := by omega
    have hnn : ¬ ((i : Int) < i) := by omega
    have HA : Hid (∀ r : Int, q ≤ r → r ≤ 400 → ∀ j, j < i → (X j).sn ≤ 10000) := fun r h1 h2 j hj => by have := HQ.out j hj; omega
    have hq2 : q ≤ 2700000000000000 := by omega
    clear hq1 HQ HS ew h1
    go_wp2
    go_loop [3, 5] (fun qv iv => ∃ (k : Nat) (r : Int), k ≤ m ∧ qv = .int .i64 r ∧ iv = .int .i64 k ∧ q ≤ r ∧ r ≤ 2700000000000000 + k * 562949953421312 ∧ ∀ j, j < k → ((O j).cn : Int) ≤ r) (fun _ iv => m + 1 - (intOf iv).toNat)
    case atStart => exact ⟨0, _, by omega, rfl, rfl, by omega, by omega, fun j hj => by omega⟩
    case round =>
     obtain ⟨k, r, hk, rfl, rfl, hr0, hr1, hr⟩ := hrel
     have HR := hidV hr
     clear hr
     by_cases hlt : k < m
     ·have hlt' : (k : Int) < m := by omega
      have hck := HC.out k hlt
      obtain ⟨b0, off, rfl, hra⟩ := HT.out.2.at_ (by omega)
      obtain ⟨ca, cc, hrw, hbr, _⟩ := hra k hlt
      clear hra
      obtain ⟨y, hy⟩ : ∃ y, O k = y := ⟨_, rfl⟩
      rw [hy] at hrw hck hbr
      have d1 : W0.cell? ⟨b0, off + k * 2 + 1, none⟩ = some (.slice ca y.cn cc) := hrw 1 _ (by rfl)
      have ew2 : wrap64 (r + (y.cn : Int)) = r + (y.cn : Int) := by simp [wrap64]; omega
      have HY := hidV (And.intro hy hbr)
      have HK := hidV hck.2
      have hk2 := hck.1
      clear hrw hy hbr hck
      go_wp2
      go_loop [3, 6] (fun qv iv => ∃ (l : Nat) (t : Int), l ≤ y.cn ∧ qv = .int .i64 t ∧ iv = .int .i64 l ∧ r + y.cn ≤ t ∧ (t = r + y.cn ∨ t ≤ 140737488355728)) (fun _ iv => y.cn + 1 - (intOf iv).toNat)
      case atStart => exact ⟨0, _, by omega, rfl, rfl, by omega, .inl rfl⟩
      case round =>
       obtain ⟨l, t, hl, rfl, rfl, ht0, ht1⟩ := hrel
       by_cases hlt2 : l < y.cn
       ·have hlt2' : (l : Int) < y.cn := by omega
        by_cases h400 : t < 400
        ·obtain ⟨b2, o2, rfl, hrb⟩ := HY.out.2.at_ (by omega)
         obtain ⟨ka, kc, hrk, _⟩ := hrb l hlt2
         have hkl := HK.out l hlt2
         obtain ⟨z, hz⟩ : ∃ z, (y.X l).n = z := ⟨_, rfl⟩
         have d3 : W0.cell? ⟨b2, o2 + l * 35, none⟩ = some (.slice ka (y.X l).n kc) := hrk 0 _ (by rfl)
         rw [hz] at d3 hkl
         have ew3 : wrap64 (t + (z : Int)) = t + (z : Int) := by simp [wrap64]; omega
         clear hrb hrk hz
         go_wp2
         go_round
         case rel => exact ⟨l + 1, t + z, by omega, rfl, by go_num, by omega, by omega⟩
         case measure => simp [intOf]; omega
        ·go_wp2
         go_round
         case rel => exact ⟨k + 1, t, by omega, rfl, by go_num, by omega, by omega, fun j hj => by
          by_cases e : j = k
          ·subst e; rw [HY.out.1]; omega
          ·have := HR.out j (by omega); omega⟩
         case measure => simp [intOf]; omega
       ·obtain rfl : l = y.cn := by omega
        have hnn2 : ¬ ((y.cn : Int) < y.cn) := by omega
        go_wp2
        go_round
        case rel => exact ⟨k + 1, t, by omega, rfl, by go_num, by omega, by omega, fun j hj => by
         by_cases e : j = k
         ·subst e; rw [HY.out.1]; omega
         ·have := HR.out j (by omega); omega⟩
        case measure => simp [intOf]; omega
     ·obtain rfl : k = m := by omega
      have hnn3 : ¬ ((k : Int) < k) := by omega
      go_wp2
      go_ret
      refine ⟨_, rfl, fun h => ?_, HB.out⟩
      have h4 : r ≤ 400 := by simpa using h
      exact ⟨by omega, HA.out r hr0 h4, fun j hj => by have := HR.out j hj; omega⟩
end Go.Proofs.YtjnepkggdkccaaaGreatDoor
