/- The law BuildFunds. -/
import Derived.Test.YtjnepkggdkccaaaGreatDoorOwnShelf24
import Derived.Test.YtjnepkggdkccaaaGreatDoorOwnShelf39
import Derived.Test.YtjnepkggdkccaaaGreatDoorOwnShelf42
namespace Go.Proofs.YtjnepkggdkccaaaGreatDoor
open Go.RowKit

structure ClW (v w : World) (tb : Option Nat) : Prop where
 below : Below v.heap.size v w
 tb : ∀ k, tb = some k → w.heap[k]? = some (.cells #[.int .i64 0, .slice none 0 0, .slice none 0 0] 50 (0, 0)) ∧ v.heap.size ≤ k
theorem ClW.keep {v w w1 : World} {tb : Option Nat} (h : ClW v w tb) (hb : Below w.heap.size w w1) : ClW v w1 tb := ⟨Below.transS h.below hb, fun k e => ⟨heap_below hb (h.tb k e).1, (h.tb k e).2⟩⟩
theorem ClW.new {v w w1 : World} {k : Nat} (h : ClW v w none) (hk : w1.heap[k]? = some (.cells #[.int .i64 0, .slice none 0 0, .slice none 0 0] 50 (0, 0))) (hl : w.heap.size ≤ k) (hb : Below w.heap.size w w1) : ClW v w1 (some k) :=
 ⟨Below.transS h.below hb, fun q e => by cases e; exact ⟨hk, by have := h.below.size; omega⟩⟩
theorem txv_one (lk : Int) (ia : Option Addr) (n ic : Nat) (oa : Option Addr) (m oc : Nat) : (txv lk ia n ic oa m oc).all (·.oneCell') = true := by simp [txv, Value.oneCell']
def ptR (Z : Nat → (Nat → Int) × Int) : Nat → List Value := fun i => ptl (Z i).1 (Z i).2
theorem infoPt5 : (Tryz.prog.info? 38).map (fun i => (i.zero, i.size, i.bytes)) = some (some (.agg (ptv (nz, 0))), 33, 40) := by kernel_rfl
theorem infoPtR : (Tryz.prog.info? 25).map (fun i => (i.zero, i.size, i.bytes)) = some (some (.agg (ptv (nz, 0))), 33, 40) := by kernel_rfl
theorem slice_ptR (z : (Nat → Int) × Int) (w : World) : (Instr.buildSlice 77 1 #[(0, .agg (ptl z.1 z.2).toArray)]).run Tryz.prog w = .ok (.slice (some ⟨w.heap.size, 0, none⟩) 1 1) (w.alloc (.cells (ptl z.1 z.2).toArray 25)) := by kernel_rfl
section
variable {ops : Array Oper} {rest : List Oper} {o : Oper} {a : Act} {w : World} {Q : Exit → Act → World → Prop}
theorem wpList_slicePtR (z : (Nat → Int) × Int) (hgd : o.guard = none) (x : Operand) (ho : o.op = .buildSlice 77 1 #[(0, x)]) (hx : a.eval x = .agg (ptl z.1 z.2).toArray)
  (h : ∀ w1, New w w1 (ptl z.1 z.2).toArray 25 → wpList Tryz.prog ops Q rest (a.put o.dst (.slice (some ⟨w.heap.size, 0, none⟩) 1 1)) w1) : wpList Tryz.prog ops Q (o :: rest) a w := by
 refine wpList_plain hgd fun K hK => ?_
 unfold Oper.wp execOp
 simp only [ho, List.map_toArray, List.map_cons, List.map_nil, hx, Sem.run_bind, slice_ptR, Result.andThen]
 exact hK _ _ (h _ (new_alloc w _ _))
theorem run_append_Pt (L T : TypeId) (hu : Tryz.prog.underlying L = some (.slice T)) (hinf : (Tryz.prog.info? T).map (fun i => (i.zero, i.size, i.bytes)) = some (some (.agg (ptv (nz, 0))), 33, 40)) (w : World) (B q : Nat) (ty : TypeId) (v : Value) (i : Nat) (xs : List Value) (z : (Nat → Int) × Int) (hown : w.ownsRow B T 33 v i xs) (hB : B ≤ w.heap.size) (hq : w.heap[q]? = some (.cells (ptl z.1 z.2).toArray T (0, 0))) (hi : i ≤ 1000000) :
  ∃ va vc w1, (Builtin.append_ #[L, L] ty #[v, .slice (some ⟨q, 0, none⟩) 1 1]).run Tryz.prog w = .ok (.slice va (i + 1) vc) w1 ∧ w1.ownsRow B T 33 (.slice va (i + 1) vc) (i + 1) (xs ++ ptl z.1 z.2) ∧ w.grownBy w1 v.ownBlock := by
 obtain ⟨i0, hi0, hz0, hz1, hz2⟩ := info_parts hinf
 obtain ⟨v', w1, hr, h2, h3, _, h5⟩ := run_append_own_at (P := Tryz.prog) w B L ty T i0 (.agg (ptv (nz, 0))) 33 40 hu hi0 hz0 hz1 hz2 (by simp [Value.cells, ptv_size]) (by omega) v i xs hown ⟨q, 0, none⟩ 1 1 (ptl z.1 z.2) (by rw [ptl_length]) (fun j u hj => by
   rw [Addr.add_lit, Nat.zero_add, cell_of_row _ _ j _ _ _ hq]
   simpa using hj) (ptl_one _ _) (by unfold maxLen; omega) (by omega) hB
 obtain ⟨va, vc, rfl, _, _⟩ := own_frmV h2
 exact ⟨va, vc, w1, hr, h2, h3⟩
theorem wpList_append_Pt (L T : TypeId) (hu : Tryz.prog.underlying L = some (.slice T)) (hinf : (Tryz.prog.info? T).map (fun i => (i.zero, i.size, i.bytes)) = some (some (.agg (ptv (nz, 0))), 33, 40)) (hgd : o.guard = none) (s x : Operand) (ho : o.op = .call { callee := .builtin .append, args := #[s, x], argTypes := #[L, L] })
  (B q : Nat) (v : Value) (i : Nat) (xs : List Value) (z : (Nat → Int) × Int) (hs : a.eval s = v) (hx : a.eval x = .slice (some ⟨q, 0, none⟩) 1 1) (hown : w.ownsRow B T 33 v i xs) (hB : B ≤ w.heap.size) (hq : w.heap[q]? = some (.cells (ptl z.1 z.2).toArray T (0, 0))) (hi : i ≤ 1000000)
  (h : ∀ va vc w1, w1.ownsRow B T 33 (.slice va (i + 1) vc) (i + 1) (xs ++ ptl z.1 z.2) → w.grownBy w1 v.ownBlock → wpList Tryz.prog ops Q rest (a.put o.dst (.slice va (i + 1) vc)) w1) : wpList Tryz.prog ops Q (o :: rest) a w := by
 obtain ⟨va, vc, w1, hr, h2, h3⟩ := run_append_Pt L T hu hinf w B q o.type v i xs z hown hB hq hi
 refine wpList_plain hgd fun K hK => ?_
 unfold Oper.wp execOp
 simp only [ho, resolve, invoke, builtin, Sem.run_bind, Sem.run_pure, Result.andThen_ok, List.map_toArray, List.map_cons, List.map_nil, hs, hx, hr]
 exact hK _ _ (h va vc w1 h2 h3)
/-- A transaction loaded, guarded or not. -/
theorem wpList_loadTxG (lk : Int) (ia : Option Addr) (n ic : Nat) (oa : Option Addr) (m oc : Nat) (hw : Region.wanted o (yielded ops a.tmps) = true) (x : Operand) (ho : o.op = .load 58 x) (b q : Nat) (hx : a.eval x = .pointer (some ⟨b, q, none⟩)) (hc : w.rangeAt b q (txl lk ia n ic oa m oc))
  (h : wpList Tryz.prog ops Q rest (a.put o.dst (.agg (txv lk ia n ic oa m oc))) w) : wpList Tryz.prog ops Q (o :: rest) a w :=
 wpList_wanted hw fun _ hK => wp_load_mid 58 x ho b q hx (txl lk ia n ic oa m oc) _ hc Tryz.underlying58 rfl szTxR (hK _ _ h)
theorem wpList_loadTxPG (lk : Int) (ia : Option Addr) (n ic : Nat) (oa : Option Addr) (m oc : Nat) (hw : Region.wanted o (yielded ops a.tmps) = true) (x : Operand) (ho : o.op = .load 50 x) (b q : Nat) (hx : a.eval x = .pointer (some ⟨b, q, none⟩)) (hc : w.rangeAt b q (txl lk ia n ic oa m oc))
  (h : wpList Tryz.prog ops Q rest (a.put o.dst (.agg (txv lk ia n ic oa m oc))) w) : wpList Tryz.prog ops Q (o :: rest) a w :=
 wpList_wanted hw fun _ hK => wp_load_mid 50 x ho b q hx (txl lk ia n ic oa m oc) _ hc Tryz.underlying50 rfl szTx (hK _ _ h)
end
theorem pt_of_own {w : World} {B T n c : Nat} {ad : Option Addr} {Z : Nat → (Nat → Int) × Int} (h : w.ownsRow B T 33 (.slice ad n c) n (flatL (ptR Z) n)) : PtAt w ad n Z := ⟨fun hn => by
 obtain ⟨g, e, _, _, hr⟩ := own_range h hn
 exact ⟨g, 0, e, (flatL_range n (fun i _ => ptl_length _ _)).1 hr⟩⟩
/-- Points gathered so far, on both sides. -/
structure LpS (v w : World) (Z : Nat → (Nat → Int) × Int) (i : Nat) (va : Option Addr) (vc : Nat) (ua : Option Addr) (uc : Nat) (k : Nat) : Prop where
 below : Below v.heap.size v w
 a : w.ownsRow v.heap.size 38 33 (.slice va i vc) i (flatL (ptR Z) i)
 b : w.ownsRow v.heap.size 25 33 (.slice ua k uc) k (flatL (ptR Z) k)
theorem LpS.keep {v w w1 : World} {Z : Nat → (Nat → Int) × Int} {i k : Nat} {va ua : Option Addr} {vc uc : Nat} (h : LpS v w Z i va vc ua uc k) (hb : Below w.heap.size w w1) : LpS v w1 Z i va vc ua uc k := ⟨Below.transS h.below hb, own_below h.a hb, own_below h.b hb⟩
theorem LpS.pushA {v w w1 : World} {Z : Nat → (Nat → Int) × Int} {i k : Nat} {va va' ua : Option Addr} {vc vc' uc : Nat} (h : LpS v w Z i va vc ua uc k) (hown : w1.ownsRow v.heap.size 38 33 (.slice va' (i + 1) vc') (i + 1) (flatL (ptR Z) i ++ ptl (Z i).1 (Z i).2)) (hg : w.grownBy w1 (Value.slice va i vc).ownBlock) : LpS v w1 Z (i + 1) va' vc' ua uc k :=
 ⟨grown_below h.a hg h.below (Nat.le_refl _), hown, grown_keepV h.a h.b (by decide) hg⟩
theorem LpS.pushB {v w w1 : World} {Z : Nat → (Nat → Int) × Int} {i k : Nat} {va ua ua' : Option Addr} {vc uc uc' : Nat} (h : LpS v w Z i va vc ua uc k) (hown : w1.ownsRow v.heap.size 25 33 (.slice ua' (k + 1) uc') (k + 1) (flatL (ptR Z) k ++ ptl (Z k).1 (Z k).2)) (hg : w.grownBy w1 (Value.slice ua k uc).ownBlock) : LpS v w1 Z i va vc ua' uc' (k + 1) :=
 ⟨grown_below h.b hg h.below (Nat.le_refl _), grown_keepV h.b h.a (by decide) hg, hown⟩
def zT (t : Tc5) : Nat → (Nat → Int) × Int := fun i => ((t.X i).pt, (t.X i).n)
set_option maxRecDepth 100000 in
set_option maxHeartbeats 12800000 in
theorem lfunds_any (P : Pm) (s : Sv) (p : Pl) (t : Tc5) (S0 : Nat → Option Addr × Nat) (w : World) (hg : Cd.Glob w) (hpt : Hb P.pt) (hi : Ib P.n ∧ Ib P.am ∧ Ib P.k0 ∧ Ib P.k1 ∧ Ib P.dl ∧ Ib P.fe) (h : StIn w s p) (ht : TiAt w t.ia t.n t.X S0 ∧ ToAt w t.oa t.m t.O ∧ (∀ k, k < t.n → SlAt w (S0 k).1 (t.X k).sn (t.Z k)) ∧ (t.n ≤ 140737488355328 ∧ t.m ≤ 140737488355328) ∧ (∀ i, i < t.n → (t.X i).sn ≤ 140737488355328) ∧ ∀ i, i < t.m → (t.O i).cn ≤ 140737488355328 ∧ ∀ j, j < (t.O i).cn → ((t.O i).X j).n ≤ 17592186043904) :
  Calls Tryz.prog 4 #[.agg (pmv P), .agg (svv s p), .agg (txv t.lk t.ia t.n t.ic t.oa t.m t.oc)] w fun e w' => e = .returned (.bool true) ∧ Below w.heap.size w w' := by
 have HH := hidV (And.intro h hg)
 have HPT := hidV hpt
 have HKI := hidV (And.intro hi.2.2.1 hi.2.2.2.1)
 have HT := hidV ht
 clear h hg hpt hi ht
 unfold txv
 go_enter Tryz.func4, Tryz.ntmps4
 go_upto_region 1 with (first | (refine wpList_boxN rfl _ _ rfl (pmv P) rfl ?_; intro v1 N1) | (refine wpList_boxN rfl _ _ rfl (svv s p) rfl ?_; intro v2 N2) | (refine wpList_boxN rfl _ _ rfl #[.int .i64 t.lk, .slice t.ia t.n t.ic, .slice t.oa t.m t.oc] rfl ?_; intro v4 N3) | fail)
 have HX : Hid (Below w.heap.size w v4 ∧ (∀ w' : World, Below v4.heap.size v4 w' → w'.rangeAt w.heap.size 0 (pml P) ∧ w'.rangeAt v1.heap.size 0 (svv s p).toList ∧ w'.heap[v2.heap.size]? = some (.cells #[.int .i64 t.lk, .slice t.ia t.n t.ic, .slice t.oa t.m t.oc] 58 (0, 0)))) :=
  ⟨Below.transS N1.below (Below.transS N2.below N3.below), fun w' hb => ⟨pml_range (heap_below hb (N3.old (N2.old N1.blk))), sv_range (heap_below hb (N3.old N2.blk)), heap_below hb N3.blk⟩⟩
 clear N1 N2 N3
 generalize v1.heap.size = bs at *
 generalize v2.heap.size = xb at *
 have HS4 := hidV (HX.out.2 v4 (Below.refl _ _)).2.1
 go_wp2_with (first | (refine wpList_load_mid rfl 32 _ rfl bs 0 rfl (svv s p).toList _ HS4.out Tryz.underlying32 rfl szSr ?_) | fail)
 refine (long_any s p v4 (HH.out.1.at_.below HX.out.1) HH.out.1.pn HH.out.1.hn HH.out.1.ks).mono ?_
 rintro e v5 ⟨rfl, hb5⟩
 have HB5 := hidV hb5
 clear hb5 HS4
 by_cases hl : lngS s = true
 ·rw [hl]
  clear hl
  go_wp2_with fail
  refine (sure_any v5).mono ?_
  rintro e v6 ⟨rfl, hb6⟩
  have HE : Hid (Below w.heap.size w v6) := Below.transS (Below.transS HX.out.1 HB5.out) hb6
  clear hb6
  go_wp2
  go_ret
  exact ⟨rfl, HE.out⟩
 ·have hlf : lngS s = false := by simpa using hl
  have HSM := hidV (lngS_no hlf)
  rw [hlf]
  clear hl hlf
  have HX5 := hidV (txl_range (HX.out.2 v5 HB5.out).2.2)
  go_wp2_with (first | (refine wpList_loadTxG t.lk t.ia t.n t.ic t.oa t.m t.oc (by rfl) _ rfl xb 0 rfl HX5.out ?_) | fail)
  refine (longTx_any t.lk t.ia t.n t.ic t.oa t.m t.oc t.X S0 t.O v5 ((HT.out.1.below HX.out.1).below HB5.out) ((HT.out.2.1.below HX.out.1).below HB5.out) HT.out.2.2.2.1.1 HT.out.2.2.2.1.2 HT.out.2.2.2.2.1 (fun i hi => ⟨(HT.out.2.2.2.2.2 i hi).1, fun j hj => by have := (HT.out.2.2.2.2.2 i hi).2 j hj; omega⟩)).mono ?_
  rintro e v6 ⟨lb, rfl, hN, hb6⟩
  have HB6 := hidV (Below.transS HB5.out hb6)
  clear hb6 HX5 HB5
  cases lb with
  | true =>
   clear hN
   go_wp2_with fail
   refine (sure_any v6).mono ?_
   rintro e v7 ⟨rfl, hb7⟩
   have HE : Hid (Below w.heap.size w v7) := Below.transS (Below.transS HX.out.1 HB6.out) hb7
   clear hb7
   go_wp2
   go_ret
   exact ⟨rfl, HE.out⟩
  | false =>
   have HN := hidV (hN rfl)
   clear hN
   have HS : Hid (∀ w' : World, Below v6.heap.size v6 w' → w'.rangeAt w.heap.size 0 (pml P) ∧ w'.rangeAt bs 0 (svv s p).toList ∧ w'.rangeAt xb 0 (txl t.lk t.ia t.n t.ic t.oa t.m t.oc)) := fun w' hb => by
    have h1 := HX.out.2 w' (Below.transS HB6.out hb)
    exact ⟨h1.1, h1.2.1, txl_range h1.2.2⟩
   have HEW : Hid (∀ w' : World, Below v6.heap.size v6 w' → Below w.heap.size w w') := fun w' hb => Below.transS (Below.transS HX.out.1 HB6.out) hb
   have HST : Hid (∀ w' : World, Below v6.heap.size v6 w' → SvAt w' s p) := fun w' hb => HH.out.1.at_.below (HEW.out w' hb)
   have c1 : v6.cell? ⟨xb, 1, none⟩ = some (.slice t.ia t.n t.ic) := (HS.out v6 (Below.refl _ _)).2.2 1 _ rfl
   go_wp2_with fail
   go_loopw [7, 8, 9] (fun av bv iv wr => ∃ (i : Nat) (va : Option Addr) (vc : Nat) (ua : Option Addr) (uc : Nat), i ≤ t.n ∧ av = .slice va i vc ∧ bv = .slice ua i uc ∧ iv = .int .i64 i ∧ LpS v6 wr (zT t) i va vc ua uc i) (fun _ _ iv _ => t.n + 1 - (intOf iv).toNat)
   case atStart => exact ⟨0, none, 0, none, 0, by omega, rfl, rfl, rfl, Below.refl _ _, World.ownsRow_nil _ _ _ _, World.ownsRow_nil _ _ _ _⟩
   case round =>
    clear c1
    obtain ⟨i, va, vc, ua, uc, hi, rfl, rfl, rfl, hG⟩ := hrel
    have HG := hidV hG
    clear hG
    have c1 : wr.cell? ⟨xb, 1, none⟩ = some (.slice t.ia t.n t.ic) := (HS.out wr HG.out.below).2.2 1 _ rfl
    by_cases hlt : i < t.n
    ·have hlt' : (i : Int) < t.n := by omega
     obtain ⟨b, off, ead, hc0⟩ := HT.out.1.at_ (by omega)
     have hr0 := hc0 i hlt
     have hi300 : i ≤ 300 := by have := HN.out.nm; omega
     rw [ead] at c1
     have HPR : Hid (∀ w' : World, Below v6.heap.size v6 w' → w'.rangeAt b (off + i * 35) (ptl (t.X i).pt (t.X i).n) ∧ w'.cell? ⟨xb, 1, none⟩ = some (.slice (some ⟨b, off, none⟩) t.n t.ic)) := fun w' hb => by
      have h1 := range_below hr0 (HEW.out w' hb)
      have e : til (t.X i) (S0 i).1 (S0 i).2 = ptl (t.X i).pt (t.X i).n ++ [.int .i64 (t.X i).br, .slice (S0 i).1 (t.X i).sn (S0 i).2] := by simp [til, ptl]
      rw [e] at h1
      have h2 := (HS.out w' hb).2.2 1 _ (rfl : (txl t.lk t.ia t.n t.ic t.oa t.m t.oc)[1]? = some (.slice t.ia t.n t.ic))
      rw [ead] at h2
      exact ⟨(range_app h1).1, h2⟩
     clear hc0 hr0 ead
     have HR0 := hidV (HPR.out wr HG.out.below).1
     go_upto_region 9 with (first | (refine wpList_load_mid rfl 25 _ rfl b (off + i * 35) rfl (ptl (t.X i).pt (t.X i).n) _ HR0.out Tryz.underlying25 rfl (szPtlR _ _) ?_) | (refine wpList_slicePt ((t.X i).pt, (t.X i).n) rfl _ rfl rfl ?_; intro y1 N1; have HG1 := hidV (HG.out.keep N1.below); have HB1 := hidV N1.blk; clear N1) | (at_builtin; refine wpList_append_Pt 76 38 Tryz.underlying76 infoPt5 rfl _ _ rfl v6.heap.size wr.heap.size (.slice va i vc) i (flatL (ptR (zT t)) i) ((t.X i).pt, (t.X i).n) rfl rfl HG1.out.a HG1.out.below.size HB1.out (by omega) ?_; intro va' vc' y2 hown hgrow; have HG2 := hidV (HG1.out.pushA hown hgrow); clear hown hgrow) | fail)
     clear HG HG1 HB1 HR0 c1
     have HR2 := hidV (HPR.out y2 HG2.out.below).1
     have c2 : y2.cell? ⟨xb, 1, none⟩ = some (.slice (some ⟨b, off, none⟩) t.n t.ic) := (HPR.out y2 HG2.out.below).2
     go_wp2_with (first | (refine wpList_load_mid rfl 25 _ rfl b (off + i * 35) rfl (ptl (t.X i).pt (t.X i).n) _ HR2.out Tryz.underlying25 rfl (szPtlR _ _) ?_) | (refine wpList_slicePtR ((t.X i).pt, (t.X i).n) rfl _ rfl rfl ?_; intro y3 N3; have HG3 := hidV (HG2.out.keep N3.below); have HB3 := hidV N3.blk; clear N3) | (at_builtin; refine wpList_append_Pt 77 25 Tryz.underlying77 infoPtR rfl _ _ rfl v6.heap.size y2.heap.size (.slice ua i uc) i (flatL (ptR (zT t)) i) ((t.X i).pt, (t.X i).n) rfl rfl HG3.out.b HG3.out.below.size HB3.out (by omega) ?_; intro ua' uc' y4 hown hgrow; have HG4 := hidV (HG3.out.pushB hown hgrow); clear hown hgrow) | fail)
     go_roundw
     case rel => exact ⟨i + 1, va', vc', ua', uc', by omega, rfl, rfl, by go_num, HG4.out⟩
     case measure => simp [intOf]; omega
    ·obtain rfl : i = t.n := by omega
     have hnn : ¬ ((t.n : Int) < t.n) := by omega
     go_upto_region 10 with fail
     clear c1 hnn hi hlt
     generalize wr = y0 at *
     have HPA : Hid (∀ w' : World, Below y0.heap.size y0 w' → PtAt w' va t.n (zT t) ∧ PtAt w' ua t.n (zT t)) := fun w' hb => ⟨(pt_of_own HG.out.a).below hb, (pt_of_own HG.out.b).below hb⟩
     have HS : Hid (∀ w' : World, Below y0.heap.size y0 w' → w'.rangeAt w.heap.size 0 (pml P) ∧ w'.rangeAt bs 0 (svv s p).toList ∧ w'.rangeAt xb 0 (txl t.lk t.ia t.n t.ic t.oa t.m t.oc)) := fun w' hb => HS.out w' (Below.transS HG.out.below hb)
     have HEW : Hid (∀ w' : World, Below y0.heap.size y0 w' → Below w.heap.size w w') := fun w' hb => HEW.out w' (Below.transS HG.out.below hb)
     have HST : Hid (∀ w' : World, Below y0.heap.size y0 w' → SvAt w' s p) := fun w' hb => HST.out w' (Below.transS HG.out.below hb)
     have HTX : Hid (∀ w' : World, Below y0.heap.size y0 w' → TiAt w' t.ia t.n t.X S0 ∧ ToAt w' t.oa t.m t.O ∧ ∀ k, k < t.n → SlAt w' (S0 k).1 (t.X k).sn (t.Z k)) := fun w' hb => ⟨HT.out.1.below (HEW.out w' hb), HT.out.2.1.below (HEW.out w' hb), fun k hk => (HT.out.2.2.1 k hk).below (HEW.out w' hb)⟩
     have HZH : Hid (∀ i, i < t.n → Hb (zT t i).1) := fun i hi => HT.out.1.pt i hi
     have HBG : Hid (∀ j, j < t.m → (t.O j).Big) := fun j hj => ⟨by have := HN.out.cn j hj; omega, (HT.out.2.2.2.2.2 j hj).2⟩
     have HNM : Hid (t.n ≤ 1000 ∧ t.m ≤ 1000) := by have := HN.out.nm; exact ⟨by omega, by omega⟩
     clear HG
     have HK0 : Hid (∀ w' : World, Below y0.heap.size y0 w' → w'.rangeAt w.heap.size 34 [.int .i64 P.k0, .int .i64 P.k1] ∧ w'.cell? ⟨w.heap.size, 33, none⟩ = some (.int .i64 P.am) ∧ w'.rangeAt xb 0 (txl t.lk t.ia t.n t.ic t.oa t.m t.oc)) := fun w' hb => by
      have h1 := (HS.out w' hb).1
      have hpm := pmBox h1
      refine ⟨fun j v hv => ?_, by simpa using hpm.am, (HS.out w' hb).2.2⟩
      match j, hv with
      | 0, hv => cases hv; simpa using hpm.k0
      | 1, hv => cases hv; simpa using hpm.k1
      | j + 2, hv => simp at hv
     go_cut [10, 11] (fun a c wc => ∃ (ta : Nat) (ia : Option Addr) (ic : Nat) (oa : Option Addr) (oc : Nat), a = .pointer (some ⟨ta, 0, none⟩) ∧ c = errV (fndE t.n (zT t) P.am P.k0 P.k1 t.m t.O) ∧ Below y0.heap.size y0 wc ∧ wc.heap[ta]? = some (.cells (txv 0 ia (fnN t.n (zT t) P.am P.k0 P.k1 t.m t.O) ic oa (fnM t.n (zT t) P.am P.k0 P.k1 t.m t.O) oc) 50 (0, 0)) ∧ FnAt t.n (zT t) P.am P.k0 P.k1 t.m t.O wc ia oa)
     case first =>
      refine wp_region_noPanic ?_
      refine wp_region_held_drew (S := fun w' => w'.rangeAt w.heap.size 34 [.int .i64 P.k0, .int .i64 P.k1] ∧ w'.cell? ⟨w.heap.size, 33, none⟩ = some (.int .i64 P.am) ∧ w'.rangeAt xb 0 (txl t.lk t.ia t.n t.ic t.oa t.m t.oc)) (by kernel_rfl) (HK0.out y0.drew (Below.refl _ _).drew) (fun hHeld => ?_)
      have M0 : Hid (ClW y0 y0.drew none) := ⟨(Below.refl _ _).drew, fun _ h => by cases h⟩
      generalize y0.drew = z0 at *
      refine wpT (i := 0) (oi := ⟨some 51, .move (.tmp 7), 76, _, _, none⟩) (v := ?_) rfl (by kernel_rfl) (fun _ _ _ h => h) (Or.inl ⟨by rfl, ?_⟩) (by assumption) ?_
      rotate_left
      ·intro wz hSw; (try dsimp only at hSw); go_simp; (try with_reducible rfl)
      try simp only [Act.put, zA, zB, zC]
      refine wpT (i := 1) (oi := ⟨some 52, .fieldAddr 28 (.tmp 3) 2, 0, _, _, none⟩) (v := ?_) rfl (by kernel_rfl) (fun _ _ _ h => h) (Or.inl ⟨by rfl, ?_⟩) (by assumption) ?_
      rotate_left
      ·intro wz hSw; (try dsimp only at hSw); go_simp; (try with_reducible rfl)
      try simp only [Act.put, zA, zB, zC]
      refine wpT (i := 3) (oi := ⟨some 54, .fieldAddr 28 (.tmp 3) 1, 0, _, _, none⟩) (v := ?_) rfl (by kernel_rfl) (fun _ _ _ h => h) (Or.inl ⟨by rfl, ?_⟩) (by assumption) ?_
      rotate_left
      ·intro wz hSw; (try dsimp only at hSw); go_simp; (try with_reducible rfl)
      try simp only [Act.put, zA, zB, zC]
      refine wpT (i := 4) (oi := ⟨some 55, .load 3 (.tmp 54), 3, _, _, none⟩) (v := ?_) rfl (by kernel_rfl) (fun _ _ _ h => h) (Or.inl ⟨by rfl, ?_⟩) (by assumption) ?_
      rotate_left
      ·intro wz hSw; (try dsimp only at hSw); go_simp; (try with_reducible rfl)
      try simp only [Act.put, zA, zB, zC]
      refine wpAnyH_take (i := 2) (oi := ⟨some 53, .load 26 (.tmp 52), 26, _, _, none⟩) rfl (by kernel_rfl) (by kernel_rfl) (by kernel_rfl) (fun _ _ _ h => h) (yieldsIf_load_mid (by rfl) _ _ rfl w.heap.size 34 rfl [.int .i64 P.k0, .int .i64 P.k1] _ (fun _ h => h.1) Tryz.underlying26 rfl (szTwo _ _)) (by assumption) ?_
      try simp only [Act.put, zA, zB, zC]
      refine wpAnyH_take (i := 5) (oi := ⟨some 56, .load 58 (.tmp 5), 58, _, _, none⟩) rfl (by kernel_rfl) (by kernel_rfl) (by kernel_rfl) (fun _ _ _ h => h) (yieldsIf_load_mid (by rfl) _ _ rfl xb 0 rfl (txl t.lk t.ia t.n t.ic t.oa t.m t.oc) _ (fun _ h => h.2.2) Tryz.underlying58 rfl szTxR) (by assumption) ?_
      try simp only [Act.put, zA, zB, zC]
      refine wpAnyH_ready (rs := [6, 12]) (by kernel_rfl) (by simp) ?_
      refine (AllReadyH.cons (o := ⟨some 57, .call { callee := Go.Callee.value (.func 21), args := #[.tmp 56], argTypes := #[58] }, 50, _, _, none⟩) rfl (fun K hK => ?_) (AllReadyH.cons (o := ⟨some 10, .alloc 50, 0, _, _, none⟩) rfl (fun K hK => ?_) AllReadyH.nil))
      focus
       go_simp
       refine (giveTx_any t S0 z0 (HTX.out z0 M0.out.below).1 (HTX.out z0 M0.out.below).2.1 (HTX.out z0 M0.out.below).2.2 HN.out (fun i hi => (HT.out.2.2.2.2.2 i hi).2)).mono ?_
       rintro e z1 ⟨gia, gic, goa, goc, gS, rfl, hT, hb⟩
       have M1 := hidV (M0.out.keep hb)
       have HO1 := hidV hT.ou
       clear hT hb M0
       refine hK.out _ _ (HK0.out z1 M1.out.below) (fun _ => ?_)
       clear hK K
       try simp only [Act.put, zA, zB, zC]
       refine wpT (i := 7) (oi := ⟨some 58, .field 50 (.tmp 57) 2, 48, _, _, none⟩) (v := .slice goa t.m goc) rfl (by kernel_rfl) (fun _ _ _ h => h) (Or.inl ⟨by rfl, ?_⟩) (by assumption) ?_
       ·intro wz hSw; (try dsimp only at hSw); kernel_rfl
       try simp only [Act.put, zA, zB, zC]
       refine wpAnyH_ready (rs := [8, 12]) (by kernel_rfl) (by simp) ?_
       refine (AllReadyH.cons (o := ⟨some 59, .call { callee := Go.Callee.value (.func 20), args := #[.tmp 51, .tmp 53, .tmp 55, .tmp 58], argTypes := #[76, 26, 3, 48] }, 53, _, _, none⟩) rfl (fun K hK => ?_) (AllReadyH.cons (o := ⟨some 10, .alloc 50, 0, _, _, none⟩) rfl (fun K hK => ?_) AllReadyH.nil))
       focus
        go_simp
        refine (fund_any va t.n vc (zT t) P.am P.k0 P.k1 goa t.m goc t.O z1 (HPA.out z1 M1.out.below).1 HZH.out HO1.out HBG.out HNM.out.1 HNM.out.2 HKI.out).mono ?_
        intro e z2 hR
        have M2 := hidV (M1.out.keep hR.below)
        obtain ⟨ia, ic, oa, oc, rfl, hT⟩ := fnd_tx hR
        have HF2 := hidV hT
        clear hR hT HO1 M1
        refine hK.out _ _ (HK0.out z2 M2.out.below) (fun _ => ?_)
        clear hK K
        try simp only [Act.put, zA, zB, zC]
        refine wpT (i := 9) (oi := ⟨some 50, .move (.tmp 59), 53, _, _, none⟩) (v := ?_) rfl (by kernel_rfl) (fun _ _ _ h => h) (Or.inl ⟨by rfl, ?_⟩) (by assumption) ?_
        rotate_left
        ·intro wz hSw; (try dsimp only at hSw); go_simp; (try with_reducible rfl)
        try simp only [Act.put, zA, zB, zC]
        refine wpT (i := 10) (oi := ⟨some 60, .extract (.tmp 50) 0, 50, _, _, none⟩) (v := ?_) rfl (by kernel_rfl) (fun _ _ _ h => h) (Or.inl ⟨by rfl, ?_⟩) (by assumption) ?_
        rotate_left
        ·intro wz hSw; (try dsimp only at hSw); go_simp; (try with_reducible rfl)
        try simp only [Act.put, zA, zB, zC]
        refine wpT (i := 11) (oi := ⟨some 61, .extract (.tmp 50) 1, 52, _, _, none⟩) (v := ?_) rfl (by kernel_rfl) (fun _ _ _ h => h) (Or.inl ⟨by rfl, ?_⟩) (by assumption) ?_
        rotate_left
        ·intro wz hSw; (try dsimp only at hSw); go_simp; (try with_reducible rfl)
        try simp only [Act.put, zA, zB, zC]
        refine wpAnyH_ready (rs := [12]) (by kernel_rfl) (by simp) ?_
        refine (AllReadyH.cons (o := ⟨some 10, .alloc 50, 0, _, _, none⟩) rfl (fun K hK => ?_) AllReadyH.nil)
        refine step_allocP 50 #[.int .i64 0, .slice none 0 0, .slice none 0 0] run_allocTx rfl rfl ?_
        intro tb z3 hk hl hb
        have M3 := hidV (M2.out.new hk hl hb)
        have HF3 := hidV (HF2.out.below hb)
        clear hk hl hb M2 HF2
        refine hK.out _ _ (HK0.out z3 M3.out.below) (fun _ => ?_)
        clear hK K
        try simp only [Act.put, zA, zB, zC]
        have HZ := hidV (And.intro M3.out HF3.out)
        clear M3 HF3
        refine wpAnyH_ready (rs := [13]) (by kernel_rfl) (by simp) ?_
        refine (AllReadyH.cons (o := ⟨none, .store 50 (.tmp 10) (.tmp 60), 0, _, _, none⟩) rfl (fun K hK => ?_) AllReadyH.nil)
        refine step_storeG 50 szTx rfl _ _ rfl tb (by rfl) (txv 0 ia (fnN t.n (zT t) P.am P.k0 P.k1 t.m t.O) ic oa (fnM t.n (zT t) P.am P.k0 P.k1 t.m t.O) oc) #[.int .i64 0, .slice none 0 0, .slice none 0 0] rfl rfl (txv_one _ _ _ _ _ _ _) 50 (by rfl) (HZ.out.1.tb _ rfl).1 ?_
        intro z5 hg5 hf5
        have hlb := (HZ.out.1.tb _ rfl).2
        have hb5 : Below y0.heap.size y0 z5 := HZ.out.1.below.trans (hf5.below HZ.out.1.below.size (fun k hk => by rw [List.mem_singleton.1 hk]; exact hlb))
        have hT5 := HZ.out.2.over (HZ.out.1.tb _ rfl).1 hg5 (fun k hk hne => hf5.block k hk (by simpa using hne))
        have H5 := hidV (And.intro hb5 (And.intro hg5 hT5))
        clear hg5 hf5 hlb hb5 hT5 HZ
        refine hK.out _ _ (HK0.out z5 H5.out.1) (fun _ => ?_)
        clear hK K
        try simp only [Act.put]
        refine wpT (i := 14) (oi := ⟨some 11, .assign (.tmp 61), 52, _, _, none⟩) (v := ?_) rfl (by kernel_rfl) (fun _ _ _ h => h) (Or.inl ⟨by rfl, ?_⟩) (by assumption) ?_
        rotate_left
        ·intro wz hSw; (try dsimp only at hSw); go_simp; (try with_reducible rfl)
        try simp only [Act.put, zA, zB, zC]
        refine wpAnyH_done (by kernel_rfl) (NoPanic.normal ?_) _
        try simp only [Act.put, zA, zB, zC]
        clear hHeld
        go_wp2
        go_meet
        case rel => exact ⟨tb, ia, ic, oa, oc, rfl, rfl, H5.out.1, H5.out.2.1, H5.out.2.2⟩
       focus
        refine step_allocP 50 #[.int .i64 0, .slice none 0 0, .slice none 0 0] run_allocTx rfl rfl ?_
        intro tb z2 hk hl hb
        have M2 := hidV (M1.out.new hk hl hb)
        have HO2 := hidV (HO1.out.below hb)
        clear hk hl hb M1 HO1
        refine hK.out _ _ (HK0.out z2 M2.out.below) (fun _ => ?_)
        clear hK K
        try simp only [Act.put, zA, zB, zC]
        refine wpAnyH_ready (rs := [8]) (by kernel_rfl) (by simp) ?_
        refine (AllReadyH.cons (o := ⟨some 59, .call { callee := Go.Callee.value (.func 20), args := #[.tmp 51, .tmp 53, .tmp 55, .tmp 58], argTypes := #[76, 26, 3, 48] }, 53, _, _, none⟩) rfl (fun K hK => ?_) AllReadyH.nil)
        go_simp
        refine (fund_any va t.n vc (zT t) P.am P.k0 P.k1 goa t.m goc t.O z2 (HPA.out z2 M2.out.below).1 HZH.out HO2.out HBG.out HNM.out.1 HNM.out.2 HKI.out).mono ?_
        intro e z3 hR
        have M3 := hidV (M2.out.keep hR.below)
        obtain ⟨ia, ic, oa, oc, rfl, hT⟩ := fnd_tx hR
        have HF3 := hidV hT
        clear hR hT HO2 M2
        refine hK.out _ _ (HK0.out z3 M3.out.below) (fun _ => ?_)
        clear hK K
        try simp only [Act.put, zA, zB, zC]
        refine wpT (i := 9) (oi := ⟨some 50, .move (.tmp 59), 53, _, _, none⟩) (v := ?_) rfl (by kernel_rfl) (fun _ _ _ h => h) (Or.inl ⟨by rfl, ?_⟩) (by assumption) ?_
        rotate_left
        ·intro wz hSw; (try dsimp only at hSw); go_simp; (try with_reducible rfl)
        try simp only [Act.put, zA, zB, zC]
        refine wpT (i := 10) (oi := ⟨some 60, .extract (.tmp 50) 0, 50, _, _, none⟩) (v := ?_) rfl (by kernel_rfl) (fun _ _ _ h => h) (Or.inl ⟨by rfl, ?_⟩) (by assumption) ?_
        rotate_left
        ·intro wz hSw; (try dsimp only at hSw); go_simp; (try with_reducible rfl)
        try simp only [Act.put, zA, zB, zC]
        refine wpT (i := 11) (oi := ⟨some 61, .extract (.tmp 50) 1, 52, _, _, none⟩) (v := ?_) rfl (by kernel_rfl) (fun _ _ _ h => h) (Or.inl ⟨by rfl, ?_⟩) (by assumption) ?_
        rotate_left
        ·intro wz hSw; (try dsimp only at hSw); go_simp; (try with_reducible rfl)
        try simp only [Act.put, zA, zB, zC]
        have HZ := hidV (And.intro M3.out HF3.out)
        clear M3 HF3
        refine wpAnyH_ready (rs := [13]) (by kernel_rfl) (by simp) ?_
        refine (AllReadyH.cons (o := ⟨none, .store 50 (.tmp 10) (.tmp 60), 0, _, _, none⟩) rfl (fun K hK => ?_) AllReadyH.nil)
        refine step_storeG 50 szTx rfl _ _ rfl tb (by rfl) (txv 0 ia (fnN t.n (zT t) P.am P.k0 P.k1 t.m t.O) ic oa (fnM t.n (zT t) P.am P.k0 P.k1 t.m t.O) oc) #[.int .i64 0, .slice none 0 0, .slice none 0 0] rfl rfl (txv_one _ _ _ _ _ _ _) 50 (by rfl) (HZ.out.1.tb _ rfl).1 ?_
        intro z5 hg5 hf5
        have hlb := (HZ.out.1.tb _ rfl).2
        have hb5 : Below y0.heap.size y0 z5 := HZ.out.1.below.trans (hf5.below HZ.out.1.below.size (fun k hk => by rw [List.mem_singleton.1 hk]; exact hlb))
        have hT5 := HZ.out.2.over (HZ.out.1.tb _ rfl).1 hg5 (fun k hk hne => hf5.block k hk (by simpa using hne))
        have H5 := hidV (And.intro hb5 (And.intro hg5 hT5))
        clear hg5 hf5 hlb hb5 hT5 HZ
        refine hK.out _ _ (HK0.out z5 H5.out.1) (fun _ => ?_)
        clear hK K
        try simp only [Act.put]
        refine wpT (i := 14) (oi := ⟨some 11, .assign (.tmp 61), 52, _, _, none⟩) (v := ?_) rfl (by kernel_rfl) (fun _ _ _ h => h) (Or.inl ⟨by rfl, ?_⟩) (by assumption) ?_
        rotate_left
        ·intro wz hSw; (try dsimp only at hSw); go_simp; (try with_reducible rfl)
        try simp only [Act.put, zA, zB, zC]
        refine wpAnyH_done (by kernel_rfl) (NoPanic.normal ?_) _
        try simp only [Act.put, zA, zB, zC]
        clear hHeld
        go_wp2
        go_meet
        case rel => exact ⟨tb, ia, ic, oa, oc, rfl, rfl, H5.out.1, H5.out.2.1, H5.out.2.2⟩
      focus
       refine step_allocP 50 #[.int .i64 0, .slice none 0 0, .slice none 0 0] run_allocTx rfl rfl ?_
       intro tb z1 hk hl hb
       have M1 := hidV (M0.out.new hk hl hb)
       clear hk hl hb M0
       refine hK.out _ _ (HK0.out z1 M1.out.below) (fun _ => ?_)
       clear hK K
       try simp only [Act.put, zA, zB, zC]
       refine wpAnyH_ready (rs := [6]) (by kernel_rfl) (by simp) ?_
       refine (AllReadyH.cons (o := ⟨some 57, .call { callee := Go.Callee.value (.func 21), args := #[.tmp 56], argTypes := #[58] }, 50, _, _, none⟩) rfl (fun K hK => ?_) AllReadyH.nil)
       go_simp
       refine (giveTx_any t S0 z1 (HTX.out z1 M1.out.below).1 (HTX.out z1 M1.out.below).2.1 (HTX.out z1 M1.out.below).2.2 HN.out (fun i hi => (HT.out.2.2.2.2.2 i hi).2)).mono ?_
       rintro e z2 ⟨gia, gic, goa, goc, gS, rfl, hT, hb⟩
       have M2 := hidV (M1.out.keep hb)
       have HO2 := hidV hT.ou
       clear hT hb M1
       refine hK.out _ _ (HK0.out z2 M2.out.below) (fun _ => ?_)
       clear hK K
       try simp only [Act.put, zA, zB, zC]
       refine wpT (i := 7) (oi := ⟨some 58, .field 50 (.tmp 57) 2, 48, _, _, none⟩) (v := .slice goa t.m goc) rfl (by kernel_rfl) (fun _ _ _ h => h) (Or.inl ⟨by rfl, ?_⟩) (by assumption) ?_
       ·intro wz hSw; (try dsimp only at hSw); kernel_rfl
       try simp only [Act.put, zA, zB, zC]
       refine wpAnyH_ready (rs := [8]) (by kernel_rfl) (by simp) ?_
       refine (AllReadyH.cons (o := ⟨some 59, .call { callee := Go.Callee.value (.func 20), args := #[.tmp 51, .tmp 53, .tmp 55, .tmp 58], argTypes := #[76, 26, 3, 48] }, 53, _, _, none⟩) rfl (fun K hK => ?_) AllReadyH.nil)
       go_simp
       refine (fund_any va t.n vc (zT t) P.am P.k0 P.k1 goa t.m goc t.O z2 (HPA.out z2 M2.out.below).1 HZH.out HO2.out HBG.out HNM.out.1 HNM.out.2 HKI.out).mono ?_
       intro e z3 hR
       have M3 := hidV (M2.out.keep hR.below)
       obtain ⟨ia, ic, oa, oc, rfl, hT⟩ := fnd_tx hR
       have HF3 := hidV hT
       clear hR hT HO2 M2
       refine hK.out _ _ (HK0.out z3 M3.out.below) (fun _ => ?_)
       clear hK K
       try simp only [Act.put, zA, zB, zC]
       refine wpT (i := 9) (oi := ⟨some 50, .move (.tmp 59), 53, _, _, none⟩) (v := ?_) rfl (by kernel_rfl) (fun _ _ _ h => h) (Or.inl ⟨by rfl, ?_⟩) (by assumption) ?_
       rotate_left
       ·intro wz hSw; (try dsimp only at hSw); go_simp; (try with_reducible rfl)
       try simp only [Act.put, zA, zB, zC]
       refine wpT (i := 10) (oi := ⟨some 60, .extract (.tmp 50) 0, 50, _, _, none⟩) (v := ?_) rfl (by kernel_rfl) (fun _ _ _ h => h) (Or.inl ⟨by rfl, ?_⟩) (by assumption) ?_
       rotate_left
       ·intro wz hSw; (try dsimp only at hSw); go_simp; (try with_reducible rfl)
       try simp only [Act.put, zA, zB, zC]
       refine wpT (i := 11) (oi := ⟨some 61, .extract (.tmp 50) 1, 52, _, _, none⟩) (v := ?_) rfl (by kernel_rfl) (fun _ _ _ h => h) (Or.inl ⟨by rfl, ?_⟩) (by assumption) ?_
       rotate_left
       ·intro wz hSw; (try dsimp only at hSw); go_simp; (try with_reducible rfl)
       try simp only [Act.put, zA, zB, zC]
       have HZ := hidV (And.intro M3.out HF3.out)
       clear M3 HF3
       refine wpAnyH_ready (rs := [13]) (by kernel_rfl) (by simp) ?_
       refine (AllReadyH.cons (o := ⟨none, .store 50 (.tmp 10) (.tmp 60), 0, _, _, none⟩) rfl (fun K hK => ?_) AllReadyH.nil)
       refine step_storeG 50 szTx rfl _ _ rfl tb (by rfl) (txv 0 ia (fnN t.n (zT t) P.am P.k0 P.k1 t.m t.O) ic oa (fnM t.n (zT t) P.am P.k0 P.k1 t.m t.O) oc) #[.int .i64 0, .slice none 0 0, .slice none 0 0] rfl rfl (txv_one _ _ _ _ _ _ _) 50 (by rfl) (HZ.out.1.tb _ rfl).1 ?_
       intro z5 hg5 hf5
       have hlb := (HZ.out.1.tb _ rfl).2
       have hb5 : Below y0.heap.size y0 z5 := HZ.out.1.below.trans (hf5.below HZ.out.1.below.size (fun k hk => by rw [List.mem_singleton.1 hk]; exact hlb))
       have hT5 := HZ.out.2.over (HZ.out.1.tb _ rfl).1 hg5 (fun k hk hne => hf5.block k hk (by simpa using hne))
       have H5 := hidV (And.intro hb5 (And.intro hg5 hT5))
       clear hg5 hf5 hlb hb5 hT5 HZ
       refine hK.out _ _ (HK0.out z5 H5.out.1) (fun _ => ?_)
       clear hK K
       try simp only [Act.put]
       refine wpT (i := 14) (oi := ⟨some 11, .assign (.tmp 61), 52, _, _, none⟩) (v := ?_) rfl (by kernel_rfl) (fun _ _ _ h => h) (Or.inl ⟨by rfl, ?_⟩) (by assumption) ?_
       rotate_left
       ·intro wz hSw; (try dsimp only at hSw); go_simp; (try with_reducible rfl)
       try simp only [Act.put, zA, zB, zC]
       refine wpAnyH_done (by kernel_rfl) (NoPanic.normal ?_) _
       try simp only [Act.put, zA, zB, zC]
       clear hHeld
       go_wp2
       go_meet
       case rel => exact ⟨tb, ia, ic, oa, oc, rfl, rfl, H5.out.1, H5.out.2.1, H5.out.2.2⟩
     case rest =>
      obtain ⟨ta, ia, ic, oa, oc, rfl, rfl, hb, hg, hF⟩ := hcut
      have HF0 := hidV (And.intro hb (And.intro hg hF))
      clear hb hg hF
      generalize wc = y1 at *
      have HKK := hidV (HK0.out y1 HF0.out.1).1
      have cam : y1.cell? ⟨w.heap.size, 33, none⟩ = some (.int .i64 P.am) := (HK0.out y1 HF0.out.1).2.1
      have coa : y1.cell? ⟨xb, 2, none⟩ = some (.slice t.oa t.m t.oc) := by have h1 := (HK0.out y1 HF0.out.1).2.2 2 _ (rfl : (txl t.lk t.ia t.n t.ic t.oa t.m t.oc)[2]? = some (.slice t.oa t.m t.oc)); simpa using h1
      go_wp2_with (first | (refine wpList_load_mid rfl 26 _ rfl w.heap.size 34 rfl [.int .i64 P.k0, .int .i64 P.k1] _ HKK.out Tryz.underlying26 rfl (szTwo _ _) ?_) | fail)
      refine (rfund_any ua t.n uc (zT t) P.am P.k0 P.k1 t.oa t.m t.oc t.O y1 (HPA.out y1 HF0.out.1).2 HZH.out (HTX.out y1 HF0.out.1).2.1 HBG.out HNM.out.1 HNM.out.2 HKI.out).mono ?_
      intro e y2 hR
      have HY2 := hidV (Below.transS HF0.out.1 hR.below)
      have HF2 : Hid (y2.heap[ta]? = some (.cells (txv 0 ia (fnN t.n (zT t) P.am P.k0 P.k1 t.m t.O) ic oa (fnM t.n (zT t) P.am P.k0 P.k1 t.m t.O) oc) 50 (0, 0)) ∧ FnAt t.n (zT t) P.am P.k0 P.k1 t.m t.O y2 ia oa) := ⟨heap_below hR.below HF0.out.2.1, HF0.out.2.2.below hR.below⟩
      obtain ⟨ja, jc, qa, qc, rfl, hT⟩ := rfnd_tx hR
      have HU2 := hidV hT
      clear hR hT HF0 HKK cam coa
      go_upto_region 12 with (first | (refine wpList_allocN 58 #[.int .i64 0, .slice none 0 0, .slice none 0 0] run_allocTxR rfl rfl ?_; intro y3 N3) | (refine wpList_storeG 58 szTxR rfl _ _ rfl y2.heap.size rfl (txv 0 ja (fnN t.n (zT t) P.am P.k0 P.k1 t.m t.O) jc qa (fnM t.n (zT t) P.am P.k0 P.k1 t.m t.O) qc) #[.int .i64 0, .slice none 0 0, .slice none 0 0] rfl rfl (txv_one _ _ _ _ _ _ _) 58 rfl N3.blk ?_; intro y4 hg4 hf4; have hb24 : Below y2.heap.size y2 y4 := N3.below.trans (hf4.below N3.below.size (fun k hk => by rw [List.mem_singleton.1 hk]; exact Nat.le_refl _)); have H4 := hidV (And.intro (Below.transS HY2.out hb24) (And.intro (heap_below hb24 HF2.out.1) (And.intro (HF2.out.2.below hb24) (And.intro hg4 (HU2.out.below hb24))))); clear hg4 hf4 hb24 N3 HF2 HU2) | fail)
      generalize y2.heap.size = tc at *
      have HS2 : Hid (∀ w' : World, Below y4.heap.size y4 w' → w'.rangeAt w.heap.size 0 (pml P) ∧ w'.rangeAt bs 0 (svv s p).toList) := fun w' hb => ⟨(HS.out w' (Below.transS H4.out.1 hb)).1, (HS.out w' (Below.transS H4.out.1 hb)).2.1⟩
      have HST2 : Hid (∀ w' : World, Below y4.heap.size y4 w' → SvAt w' s p) := fun w' hb => HST.out w' (Below.transS H4.out.1 hb)
      go_cut [14, 15] (fun a c wc => ∃ (tb : Nat) (ka : Option Addr) (kc : Nat) (la : Option Addr) (lc : Nat), a = .pointer (some ⟨tb, 0, none⟩) ∧ c = errV (clsE P s) ∧ Below y4.heap.size y4 wc ∧ wc.heap[tb]? = some (.cells (txv 0 ka (clN P s) kc la (clM P s) lc) 50 (0, 0)) ∧ ClAt wc P s ka la)
      case first =>
       refine wp_region_noPanic ?_
       refine wp_region_held_drew (S := fun w' => w'.rangeAt w.heap.size 0 (pml P) ∧ w'.rangeAt bs 0 (svv s p).toList) (by kernel_rfl) (HS2.out y4.drew (Below.refl _ _).drew) (fun hHeld => ?_)
       have M0 : Hid (ClW y4 y4.drew none) := ⟨(Below.refl _ _).drew, fun _ h => by cases h⟩
       generalize y4.drew = z0 at *
       refine wpAnyH_take (i := 0) (oi := ⟨some 74, .load 28 (.tmp 3), 28, _, _, none⟩) rfl (by kernel_rfl) (by kernel_rfl) (by kernel_rfl) (fun _ _ _ h => h) (yieldsIf_load_mid (by rfl) _ _ rfl w.heap.size 0 rfl (pml P) _ (fun _ h => h.1) Tryz.underlying28 rfl (szPmrl P)) (by assumption) ?_
       try simp only [Act.put, zA, zB, zC]
       refine wpAnyH_take (i := 2) (oi := ⟨some 76, .load 32 (.tmp 4), 32, _, _, none⟩) rfl (by kernel_rfl) (by kernel_rfl) (by kernel_rfl) (fun _ _ _ h => h) (yieldsIf_load_mid (by rfl) _ _ rfl bs 0 rfl (svv s p).toList _ (fun _ h => h.2) Tryz.underlying32 rfl szSr) (by assumption) ?_
       try simp only [Act.put, zA, zB, zC]
       refine wpAnyH_ready (rs := [1, 8]) (by kernel_rfl) (by simp) ?_
       refine (AllReadyH.cons (o := ⟨some 75, .call { callee := Go.Callee.value (.func 9), args := #[.tmp 74], argTypes := #[28] }, 40, _, _, none⟩) rfl (fun K hK => ?_) (AllReadyH.cons (o := ⟨some 14, .alloc 50, 0, _, _, none⟩) rfl (fun K hK => ?_) AllReadyH.nil))
       focus
        go_simp
        refine (giveParams_any P z0).mono ?_
        rintro e z1 ⟨rfl, hb⟩
        have M1 := hidV (M0.out.keep hb)
        clear hb M0
        refine hK.out _ _ (HS2.out z1 M1.out.below) (fun _ => ?_)
        clear hK K
        try simp only [Act.put, zA, zB, zC]
        refine wpAnyH_ready (rs := [3, 8]) (by kernel_rfl) (by simp) ?_
        refine (AllReadyH.cons (o := ⟨some 77, .call { callee := Go.Callee.value (.func 10), args := #[.tmp 76], argTypes := #[32] }, 45, _, _, none⟩) rfl (fun K hK => ?_) (AllReadyH.cons (o := ⟨some 14, .alloc 50, 0, _, _, none⟩) rfl (fun K hK => ?_) AllReadyH.nil))
        focus
         go_simp
         refine (give_any s p z1 (HST2.out z1 M1.out.below) HSM.out).mono ?_
         rintro e z2 ⟨⟨p', A, rfl, hO⟩, hb⟩
         have HV2 := hidV hO.at
         have M2 := hidV (M1.out.keep hb)
         clear hO hb M1
         refine hK.out _ _ (HS2.out z2 M2.out.below) (fun _ => ?_)
         clear hK K
         try simp only [Act.put, zA, zB, zC]
         refine wpAnyH_ready (rs := [4, 8]) (by kernel_rfl) (by simp) ?_
         refine (AllReadyH.cons (o := ⟨some 78, .call { callee := Go.Callee.value (.func 23), args := #[.tmp 75, .tmp 77], argTypes := #[40, 45] }, 53, _, _, none⟩) rfl (fun K hK => ?_) (AllReadyH.cons (o := ⟨some 14, .alloc 50, 0, _, _, none⟩) rfl (fun K hK => ?_) AllReadyH.nil))
         focus
          go_simp
          refine (close_any P s p' z2 HV2.out HSM.out HPT.out).mono ?_
          intro e z3 hR
          have M3 := hidV (M2.out.keep hR.below)
          obtain ⟨ka, kc, la, lc, rfl, hT⟩ := cls_tx hR
          have HT3 := hidV hT
          clear hR hT HV2 M2
          refine hK.out _ _ (HS2.out z3 M3.out.below) (fun _ => ?_)
          clear hK K
          try simp only [Act.put, zA, zB, zC]
          refine wpT (i := 5) (oi := ⟨some 73, .move (.tmp 78), 53, _, _, none⟩) (v := ?_) rfl (by kernel_rfl) (fun _ _ _ h => h) (Or.inl ⟨by rfl, ?_⟩) (by assumption) ?_
          rotate_left
          ·intro wz hSw; (try dsimp only at hSw); go_simp; (try with_reducible rfl)
          try simp only [Act.put, zA, zB, zC]
          refine wpT (i := 6) (oi := ⟨some 79, .extract (.tmp 73) 0, 50, _, _, none⟩) (v := ?_) rfl (by kernel_rfl) (fun _ _ _ h => h) (Or.inl ⟨by rfl, ?_⟩) (by assumption) ?_
          rotate_left
          ·intro wz hSw; (try dsimp only at hSw); go_simp; (try with_reducible rfl)
          try simp only [Act.put, zA, zB, zC]
          refine wpT (i := 7) (oi := ⟨some 80, .extract (.tmp 73) 1, 52, _, _, none⟩) (v := ?_) rfl (by kernel_rfl) (fun _ _ _ h => h) (Or.inl ⟨by rfl, ?_⟩) (by assumption) ?_
          rotate_left
          ·intro wz hSw; (try dsimp only at hSw); go_simp; (try with_reducible rfl)
          try simp only [Act.put, zA, zB, zC]
          refine wpAnyH_ready (rs := [8]) (by kernel_rfl) (by simp) ?_
          refine (AllReadyH.cons (o := ⟨some 14, .alloc 50, 0, _, _, none⟩) rfl (fun K hK => ?_) AllReadyH.nil)
          refine step_allocP 50 #[.int .i64 0, .slice none 0 0, .slice none 0 0] run_allocTx rfl rfl ?_
          intro tb z4 hk hl hb
          have M4 := hidV (M3.out.new hk hl hb)
          have HT4 := hidV (HT3.out.below hb)
          clear hk hl hb M3 HT3
          refine hK.out _ _ (HS2.out z4 M4.out.below) (fun _ => ?_)
          clear hK K
          try simp only [Act.put, zA, zB, zC]
          have HZ := hidV (And.intro M4.out HT4.out)
          clear M4 HT4
          refine wpAnyH_ready (rs := [9]) (by kernel_rfl) (by simp) ?_
          refine (AllReadyH.cons (o := ⟨none, .store 50 (.tmp 14) (.tmp 79), 0, _, _, none⟩) rfl (fun K hK => ?_) AllReadyH.nil)
          refine step_storeG 50 szTx rfl _ _ rfl tb (by rfl) (txv 0 ka (clN P s) kc la (clM P s) lc) #[.int .i64 0, .slice none 0 0, .slice none 0 0] rfl rfl (txv_one _ _ _ _ _ _ _) 50 (by rfl) (HZ.out.1.tb _ rfl).1 ?_
          intro z5 hg5 hf5
          have hlb := (HZ.out.1.tb _ rfl).2
          have hb5 : Below y4.heap.size y4 z5 := HZ.out.1.below.trans (hf5.below HZ.out.1.below.size (fun k hk => by rw [List.mem_singleton.1 hk]; exact hlb))
          have hT5 : ClAt z5 P s ka la := HZ.out.2.over (HZ.out.1.tb _ rfl).1 hg5 (fun k hk hne => hf5.block k hk (by simpa using hne))
          have H5 := hidV (And.intro hb5 (And.intro hg5 hT5))
          clear hg5 hf5 hlb hb5 hT5 HZ
          refine hK.out _ _ (HS2.out z5 H5.out.1) (fun _ => ?_)
          clear hK K
          try simp only [Act.put]
          refine wpT (i := 10) (oi := ⟨some 15, .assign (.tmp 80), 52, _, _, none⟩) (v := ?_) rfl (by kernel_rfl) (fun _ _ _ h => h) (Or.inl ⟨by rfl, ?_⟩) (by assumption) ?_
          rotate_left
          ·intro wz hSw; (try dsimp only at hSw); go_simp; (try with_reducible rfl)
          try simp only [Act.put, zA, zB, zC]
          refine wpAnyH_done (by kernel_rfl) (NoPanic.normal ?_) _
          try simp only [Act.put, zA, zB, zC]
          clear hHeld
          go_wp2
          go_meet
          case rel => exact ⟨tb, ka, kc, la, lc, rfl, rfl, H5.out.1, H5.out.2.1, H5.out.2.2⟩
         focus
          refine step_allocP 50 #[.int .i64 0, .slice none 0 0, .slice none 0 0] run_allocTx rfl rfl ?_
          intro tb z3 hk hl hb
          have M3 := hidV (M2.out.new hk hl hb)
          have HV3 := hidV (HV2.out.below hb)
          clear hk hl hb M2 HV2
          refine hK.out _ _ (HS2.out z3 M3.out.below) (fun _ => ?_)
          clear hK K
          try simp only [Act.put, zA, zB, zC]
          refine wpAnyH_ready (rs := [4]) (by kernel_rfl) (by simp) ?_
          refine (AllReadyH.cons (o := ⟨some 78, .call { callee := Go.Callee.value (.func 23), args := #[.tmp 75, .tmp 77], argTypes := #[40, 45] }, 53, _, _, none⟩) rfl (fun K hK => ?_) AllReadyH.nil)
          go_simp
          refine (close_any P s p' z3 HV3.out HSM.out HPT.out).mono ?_
          intro e z4 hR
          have M4 := hidV (M3.out.keep hR.below)
          obtain ⟨ka, kc, la, lc, rfl, hT⟩ := cls_tx hR
          have HT4 := hidV hT
          clear hR hT HV3 M3
          refine hK.out _ _ (HS2.out z4 M4.out.below) (fun _ => ?_)
          clear hK K
          try simp only [Act.put, zA, zB, zC]
          refine wpT (i := 5) (oi := ⟨some 73, .move (.tmp 78), 53, _, _, none⟩) (v := ?_) rfl (by kernel_rfl) (fun _ _ _ h => h) (Or.inl ⟨by rfl, ?_⟩) (by assumption) ?_
          rotate_left
          ·intro wz hSw; (try dsimp only at hSw); go_simp; (try with_reducible rfl)
          try simp only [Act.put, zA, zB, zC]
          refine wpT (i := 6) (oi := ⟨some 79, .extract (.tmp 73) 0, 50, _, _, none⟩) (v := ?_) rfl (by kernel_rfl) (fun _ _ _ h => h) (Or.inl ⟨by rfl, ?_⟩) (by assumption) ?_
          rotate_left
          ·intro wz hSw; (try dsimp only at hSw); go_simp; (try with_reducible rfl)
          try simp only [Act.put, zA, zB, zC]
          refine wpT (i := 7) (oi := ⟨some 80, .extract (.tmp 73) 1, 52, _, _, none⟩) (v := ?_) rfl (by kernel_rfl) (fun _ _ _ h => h) (Or.inl ⟨by rfl, ?_⟩) (by assumption) ?_
          rotate_left
          ·intro wz hSw; (try dsimp only at hSw); go_simp; (try with_reducible rfl)
          try simp only [Act.put, zA, zB, zC]
          have HZ := hidV (And.intro M4.out HT4.out)
          clear M4 HT4
          refine wpAnyH_ready (rs := [9]) (by kernel_rfl) (by simp) ?_
          refine (AllReadyH.cons (o := ⟨none, .store 50 (.tmp 14) (.tmp 79), 0, _, _, none⟩) rfl (fun K hK => ?_) AllReadyH.nil)
          refine step_storeG 50 szTx rfl _ _ rfl tb (by rfl) (txv 0 ka (clN P s) kc la (clM P s) lc) #[.int .i64 0, .slice none 0 0, .slice none 0 0] rfl rfl (txv_one _ _ _ _ _ _ _) 50 (by rfl) (HZ.out.1.tb _ rfl).1 ?_
          intro z5 hg5 hf5
          have hlb := (HZ.out.1.tb _ rfl).2
          have hb5 : Below y4.heap.size y4 z5 := HZ.out.1.below.trans (hf5.below HZ.out.1.below.size (fun k hk => by rw [List.mem_singleton.1 hk]; exact hlb))
          have hT5 : ClAt z5 P s ka la := HZ.out.2.over (HZ.out.1.tb _ rfl).1 hg5 (fun k hk hne => hf5.block k hk (by simpa using hne))
          have H5 := hidV (And.intro hb5 (And.intro hg5 hT5))
          clear hg5 hf5 hlb hb5 hT5 HZ
          refine hK.out _ _ (HS2.out z5 H5.out.1) (fun _ => ?_)
          clear hK K
          try simp only [Act.put]
          refine wpT (i := 10) (oi := ⟨some 15, .assign (.tmp 80), 52, _, _, none⟩) (v := ?_) rfl (by kernel_rfl) (fun _ _ _ h => h) (Or.inl ⟨by rfl, ?_⟩) (by assumption) ?_
          rotate_left
          ·intro wz hSw; (try dsimp only at hSw); go_simp; (try with_reducible rfl)
          try simp only [Act.put, zA, zB, zC]
          refine wpAnyH_done (by kernel_rfl) (NoPanic.normal ?_) _
          try simp only [Act.put, zA, zB, zC]
          clear hHeld
          go_wp2
          go_meet
          case rel => exact ⟨tb, ka, kc, la, lc, rfl, rfl, H5.out.1, H5.out.2.1, H5.out.2.2⟩
        focus
         refine step_allocP 50 #[.int .i64 0, .slice none 0 0, .slice none 0 0] run_allocTx rfl rfl ?_
         intro tb z2 hk hl hb
         have M2 := hidV (M1.out.new hk hl hb)
         clear hk hl hb M1
         refine hK.out _ _ (HS2.out z2 M2.out.below) (fun _ => ?_)
         clear hK K
         try simp only [Act.put, zA, zB, zC]
         refine wpAnyH_ready (rs := [3]) (by kernel_rfl) (by simp) ?_
         refine (AllReadyH.cons (o := ⟨some 77, .call { callee := Go.Callee.value (.func 10), args := #[.tmp 76], argTypes := #[32] }, 45, _, _, none⟩) rfl (fun K hK => ?_) AllReadyH.nil)
         go_simp
         refine (give_any s p z2 (HST2.out z2 M2.out.below) HSM.out).mono ?_
         rintro e z3 ⟨⟨p', A, rfl, hO⟩, hb⟩
         have HV3 := hidV hO.at
         have M3 := hidV (M2.out.keep hb)
         clear hO hb M2
         refine hK.out _ _ (HS2.out z3 M3.out.below) (fun _ => ?_)
         clear hK K
         try simp only [Act.put, zA, zB, zC]
         refine wpAnyH_ready (rs := [4]) (by kernel_rfl) (by simp) ?_
         refine (AllReadyH.cons (o := ⟨some 78, .call { callee := Go.Callee.value (.func 23), args := #[.tmp 75, .tmp 77], argTypes := #[40, 45] }, 53, _, _, none⟩) rfl (fun K hK => ?_) AllReadyH.nil)
         go_simp
         refine (close_any P s p' z3 HV3.out HSM.out HPT.out).mono ?_
         intro e z4 hR
         have M4 := hidV (M3.out.keep hR.below)
         obtain ⟨ka, kc, la, lc, rfl, hT⟩ := cls_tx hR
         have HT4 := hidV hT
         clear hR hT HV3 M3
         refine hK.out _ _ (HS2.out z4 M4.out.below) (fun _ => ?_)
         clear hK K
         try simp only [Act.put, zA, zB, zC]
         refine wpT (i := 5) (oi := ⟨some 73, .move (.tmp 78), 53, _, _, none⟩) (v := ?_) rfl (by kernel_rfl) (fun _ _ _ h => h) (Or.inl ⟨by rfl, ?_⟩) (by assumption) ?_
         rotate_left
         ·intro wz hSw; (try dsimp only at hSw); go_simp; (try with_reducible rfl)
         try simp only [Act.put, zA, zB, zC]
         refine wpT (i := 6) (oi := ⟨some 79, .extract (.tmp 73) 0, 50, _, _, none⟩) (v := ?_) rfl (by kernel_rfl) (fun _ _ _ h => h) (Or.inl ⟨by rfl, ?_⟩) (by assumption) ?_
         rotate_left
         ·intro wz hSw; (try dsimp only at hSw); go_simp; (try with_reducible rfl)
         try simp only [Act.put, zA, zB, zC]
         refine wpT (i := 7) (oi := ⟨some 80, .extract (.tmp 73) 1, 52, _, _, none⟩) (v := ?_) rfl (by kernel_rfl) (fun _ _ _ h => h) (Or.inl ⟨by rfl, ?_⟩) (by assumption) ?_
         rotate_left
         ·intro wz hSw; (try dsimp only at hSw); go_simp; (try with_reducible rfl)
         try simp only [Act.put, zA, zB, zC]
         have HZ := hidV (And.intro M4.out HT4.out)
         clear M4 HT4
         refine wpAnyH_ready (rs := [9]) (by kernel_rfl) (by simp) ?_
         refine (AllReadyH.cons (o := ⟨none, .store 50 (.tmp 14) (.tmp 79), 0, _, _, none⟩) rfl (fun K hK => ?_) AllReadyH.nil)
         refine step_storeG 50 szTx rfl _ _ rfl tb (by rfl) (txv 0 ka (clN P s) kc la (clM P s) lc) #[.int .i64 0, .slice none 0 0, .slice none 0 0] rfl rfl (txv_one _ _ _ _ _ _ _) 50 (by rfl) (HZ.out.1.tb _ rfl).1 ?_
         intro z5 hg5 hf5
         have hlb := (HZ.out.1.tb _ rfl).2
         have hb5 : Below y4.heap.size y4 z5 := HZ.out.1.below.trans (hf5.below HZ.out.1.below.size (fun k hk => by rw [List.mem_singleton.1 hk]; exact hlb))
         have hT5 : ClAt z5 P s ka la := HZ.out.2.over (HZ.out.1.tb _ rfl).1 hg5 (fun k hk hne => hf5.block k hk (by simpa using hne))
         have H5 := hidV (And.intro hb5 (And.intro hg5 hT5))
         clear hg5 hf5 hlb hb5 hT5 HZ
         refine hK.out _ _ (HS2.out z5 H5.out.1) (fun _ => ?_)
         clear hK K
         try simp only [Act.put]
         refine wpT (i := 10) (oi := ⟨some 15, .assign (.tmp 80), 52, _, _, none⟩) (v := ?_) rfl (by kernel_rfl) (fun _ _ _ h => h) (Or.inl ⟨by rfl, ?_⟩) (by assumption) ?_
         rotate_left
         ·intro wz hSw; (try dsimp only at hSw); go_simp; (try with_reducible rfl)
         try simp only [Act.put, zA, zB, zC]
         refine wpAnyH_done (by kernel_rfl) (NoPanic.normal ?_) _
         try simp only [Act.put, zA, zB, zC]
         clear hHeld
         go_wp2
         go_meet
         case rel => exact ⟨tb, ka, kc, la, lc, rfl, rfl, H5.out.1, H5.out.2.1, H5.out.2.2⟩
       focus
        refine step_allocP 50 #[.int .i64 0, .slice none 0 0, .slice none 0 0] run_allocTx rfl rfl ?_
        intro tb z1 hk hl hb
        have M1 := hidV (M0.out.new hk hl hb)
        clear hk hl hb M0
        refine hK.out _ _ (HS2.out z1 M1.out.below) (fun _ => ?_)
        clear hK K
        try simp only [Act.put, zA, zB, zC]
        refine wpAnyH_ready (rs := [1]) (by kernel_rfl) (by simp) ?_
        refine (AllReadyH.cons (o := ⟨some 75, .call { callee := Go.Callee.value (.func 9), args := #[.tmp 74], argTypes := #[28] }, 40, _, _, none⟩) rfl (fun K hK => ?_) AllReadyH.nil)
        go_simp
        refine (giveParams_any P z1).mono ?_
        rintro e z2 ⟨rfl, hb⟩
        have M2 := hidV (M1.out.keep hb)
        clear hb M1
        refine hK.out _ _ (HS2.out z2 M2.out.below) (fun _ => ?_)
        clear hK K
        try simp only [Act.put, zA, zB, zC]
        refine wpAnyH_ready (rs := [3]) (by kernel_rfl) (by simp) ?_
        refine (AllReadyH.cons (o := ⟨some 77, .call { callee := Go.Callee.value (.func 10), args := #[.tmp 76], argTypes := #[32] }, 45, _, _, none⟩) rfl (fun K hK => ?_) AllReadyH.nil)
        go_simp
        refine (give_any s p z2 (HST2.out z2 M2.out.below) HSM.out).mono ?_
        rintro e z3 ⟨⟨p', A, rfl, hO⟩, hb⟩
        have HV3 := hidV hO.at
        have M3 := hidV (M2.out.keep hb)
        clear hO hb M2
        refine hK.out _ _ (HS2.out z3 M3.out.below) (fun _ => ?_)
        clear hK K
        try simp only [Act.put, zA, zB, zC]
        refine wpAnyH_ready (rs := [4]) (by kernel_rfl) (by simp) ?_
        refine (AllReadyH.cons (o := ⟨some 78, .call { callee := Go.Callee.value (.func 23), args := #[.tmp 75, .tmp 77], argTypes := #[40, 45] }, 53, _, _, none⟩) rfl (fun K hK => ?_) AllReadyH.nil)
        go_simp
        refine (close_any P s p' z3 HV3.out HSM.out HPT.out).mono ?_
        intro e z4 hR
        have M4 := hidV (M3.out.keep hR.below)
        obtain ⟨ka, kc, la, lc, rfl, hT⟩ := cls_tx hR
        have HT4 := hidV hT
        clear hR hT HV3 M3
        refine hK.out _ _ (HS2.out z4 M4.out.below) (fun _ => ?_)
        clear hK K
        try simp only [Act.put, zA, zB, zC]
        refine wpT (i := 5) (oi := ⟨some 73, .move (.tmp 78), 53, _, _, none⟩) (v := ?_) rfl (by kernel_rfl) (fun _ _ _ h => h) (Or.inl ⟨by rfl, ?_⟩) (by assumption) ?_
        rotate_left
        ·intro wz hSw; (try dsimp only at hSw); go_simp; (try with_reducible rfl)
        try simp only [Act.put, zA, zB, zC]
        refine wpT (i := 6) (oi := ⟨some 79, .extract (.tmp 73) 0, 50, _, _, none⟩) (v := ?_) rfl (by kernel_rfl) (fun _ _ _ h => h) (Or.inl ⟨by rfl, ?_⟩) (by assumption) ?_
        rotate_left
        ·intro wz hSw; (try dsimp only at hSw); go_simp; (try with_reducible rfl)
        try simp only [Act.put, zA, zB, zC]
        refine wpT (i := 7) (oi := ⟨some 80, .extract (.tmp 73) 1, 52, _, _, none⟩) (v := ?_) rfl (by kernel_rfl) (fun _ _ _ h => h) (Or.inl ⟨by rfl, ?_⟩) (by assumption) ?_
        rotate_left
        ·intro wz hSw; (try dsimp only at hSw); go_simp; (try with_reducible rfl)
        try simp only [Act.put, zA, zB, zC]
        have HZ := hidV (And.intro M4.out HT4.out)
        clear M4 HT4
        refine wpAnyH_ready (rs := [9]) (by kernel_rfl) (by simp) ?_
        refine (AllReadyH.cons (o := ⟨none, .store 50 (.tmp 14) (.tmp 79), 0, _, _, none⟩) rfl (fun K hK => ?_) AllReadyH.nil)
        refine step_storeG 50 szTx rfl _ _ rfl tb (by rfl) (txv 0 ka (clN P s) kc la (clM P s) lc) #[.int .i64 0, .slice none 0 0, .slice none 0 0] rfl rfl (txv_one _ _ _ _ _ _ _) 50 (by rfl) (HZ.out.1.tb _ rfl).1 ?_
        intro z5 hg5 hf5
        have hlb := (HZ.out.1.tb _ rfl).2
        have hb5 : Below y4.heap.size y4 z5 := HZ.out.1.below.trans (hf5.below HZ.out.1.below.size (fun k hk => by rw [List.mem_singleton.1 hk]; exact hlb))
        have hT5 : ClAt z5 P s ka la := HZ.out.2.over (HZ.out.1.tb _ rfl).1 hg5 (fun k hk hne => hf5.block k hk (by simpa using hne))
        have H5 := hidV (And.intro hb5 (And.intro hg5 hT5))
        clear hg5 hf5 hlb hb5 hT5 HZ
        refine hK.out _ _ (HS2.out z5 H5.out.1) (fun _ => ?_)
        clear hK K
        try simp only [Act.put]
        refine wpT (i := 10) (oi := ⟨some 15, .assign (.tmp 80), 52, _, _, none⟩) (v := ?_) rfl (by kernel_rfl) (fun _ _ _ h => h) (Or.inl ⟨by rfl, ?_⟩) (by assumption) ?_
        rotate_left
        ·intro wz hSw; (try dsimp only at hSw); go_simp; (try with_reducible rfl)
        try simp only [Act.put, zA, zB, zC]
        refine wpAnyH_done (by kernel_rfl) (NoPanic.normal ?_) _
        try simp only [Act.put, zA, zB, zC]
        clear hHeld
        go_wp2
        go_meet
        case rel => exact ⟨tb, ka, kc, la, lc, rfl, rfl, H5.out.1, H5.out.2.1, H5.out.2.2⟩
      case rest =>
       obtain ⟨tb, ka, kc, la, lc, rfl, rfl, hb, hg, hC⟩ := hcut
       have H5 : Hid (Below y0.heap.size y0 wc ∧ wc.heap[ta]? = some (.cells (txv 0 ia (fnN t.n (zT t) P.am P.k0 P.k1 t.m t.O) ic oa (fnM t.n (zT t) P.am P.k0 P.k1 t.m t.O) oc) 50 (0, 0)) ∧ FnAt t.n (zT t) P.am P.k0 P.k1 t.m t.O wc ia oa ∧ wc.heap[tc]? = some (.cells (txv 0 ja (fnN t.n (zT t) P.am P.k0 P.k1 t.m t.O) jc qa (fnM t.n (zT t) P.am P.k0 P.k1 t.m t.O) qc) 58 (0, 0)) ∧ FnAt t.n (zT t) P.am P.k0 P.k1 t.m t.O wc ja qa ∧ wc.heap[tb]? = some (.cells (txv 0 ka (clN P s) kc la (clM P s) lc) 50 (0, 0)) ∧ ClAt wc P s ka la) := ⟨Below.transS H4.out.1 hb, heap_below hb H4.out.2.1, H4.out.2.2.1.below hb, heap_below hb H4.out.2.2.2.1, H4.out.2.2.2.2.below hb, hg, hC⟩
       clear hb hg hC HS2 HST2 H4
       generalize wc = y5 at *
       have HP := hidV (HS.out y5 H5.out.1)
       go_wp2_with (first | (refine wpList_load_mid rfl 28 _ rfl w.heap.size 0 rfl (pml P) _ HP.out.1 Tryz.underlying28 rfl (szPmrl P) ?_) | (refine wpList_load_mid rfl 32 _ rfl bs 0 rfl (svv s p).toList _ HP.out.2.1 Tryz.underlying32 rfl szSr ?_) | fail)
       refine (rclose_any P s p y5 (HST.out y5 H5.out.1) HSM.out HPT.out).mono ?_
       intro e y6 hR
       have H6 : Hid (Below y0.heap.size y0 y6 ∧ y6.heap[ta]? = some (.cells (txv 0 ia (fnN t.n (zT t) P.am P.k0 P.k1 t.m t.O) ic oa (fnM t.n (zT t) P.am P.k0 P.k1 t.m t.O) oc) 50 (0, 0)) ∧ FnAt t.n (zT t) P.am P.k0 P.k1 t.m t.O y6 ia oa ∧ y6.heap[tc]? = some (.cells (txv 0 ja (fnN t.n (zT t) P.am P.k0 P.k1 t.m t.O) jc qa (fnM t.n (zT t) P.am P.k0 P.k1 t.m t.O) qc) 58 (0, 0)) ∧ FnAt t.n (zT t) P.am P.k0 P.k1 t.m t.O y6 ja qa ∧ y6.heap[tb]? = some (.cells (txv 0 ka (clN P s) kc la (clM P s) lc) 50 (0, 0)) ∧ ClAt y6 P s ka la) := ⟨Below.transS H5.out.1 hR.below, heap_below hR.below H5.out.2.1, H5.out.2.2.1.below hR.below, heap_below hR.below H5.out.2.2.2.1, H5.out.2.2.2.2.1.below hR.below, heap_below hR.below H5.out.2.2.2.2.2.1, H5.out.2.2.2.2.2.2.below hR.below⟩
       obtain ⟨ra, rc, xa, xc, rfl, hT⟩ := rcls_tx hR
       have HU6 := hidV hT
       clear hR hT H5 HP
       go_upto_region 14 with (first | (refine wpList_allocN 58 #[.int .i64 0, .slice none 0 0, .slice none 0 0] run_allocTxR rfl rfl ?_; intro y7 N7) | (refine wpList_storeG 58 szTxR rfl _ _ rfl y6.heap.size rfl (txv 0 ra (clN P s) rc xa (clM P s) xc) #[.int .i64 0, .slice none 0 0, .slice none 0 0] rfl rfl (txv_one _ _ _ _ _ _ _) 58 rfl N7.blk ?_; intro y8 hg8 hf8; have hb68 : Below y6.heap.size y6 y8 := N7.below.trans (hf8.below N7.below.size (fun k hk => by rw [List.mem_singleton.1 hk]; exact Nat.le_refl _)); have HB8 := hidV (And.intro hb68 hg8); clear hg8 hf8 hb68 N7) | fail)
       have H8 : Hid (Below y0.heap.size y0 y8 ∧ y8.heap[ta]? = some (.cells (txv 0 ia (fnN t.n (zT t) P.am P.k0 P.k1 t.m t.O) ic oa (fnM t.n (zT t) P.am P.k0 P.k1 t.m t.O) oc) 50 (0, 0)) ∧ FnAt t.n (zT t) P.am P.k0 P.k1 t.m t.O y8 ia oa ∧ y8.heap[tc]? = some (.cells (txv 0 ja (fnN t.n (zT t) P.am P.k0 P.k1 t.m t.O) jc qa (fnM t.n (zT t) P.am P.k0 P.k1 t.m t.O) qc) 58 (0, 0)) ∧ FnAt t.n (zT t) P.am P.k0 P.k1 t.m t.O y8 ja qa ∧ y8.heap[tb]? = some (.cells (txv 0 ka (clN P s) kc la (clM P s) lc) 50 (0, 0)) ∧ ClAt y8 P s ka la ∧ y8.heap[y6.heap.size]? = some (.cells (txv 0 ra (clN P s) rc xa (clM P s) xc) 58 (0, 0)) ∧ ClAt y8 P s ra xa) := ⟨Below.transS H6.out.1 HB8.out.1, heap_below HB8.out.1 H6.out.2.1, H6.out.2.2.1.below HB8.out.1, heap_below HB8.out.1 H6.out.2.2.2.1, H6.out.2.2.2.2.1.below HB8.out.1, heap_below HB8.out.1 H6.out.2.2.2.2.2.1, H6.out.2.2.2.2.2.2.below HB8.out.1, HB8.out.2, HU6.out.below HB8.out.1⟩
       clear H6 HU6 HB8
       generalize y6.heap.size = td at *
       have HR1 := hidV (txl_range H8.out.2.1)
       have HR2 := hidV (txl_range H8.out.2.2.2.1)
       go_wp2_with (first | (refine wpList_loadTxPG 0 ia (fnN t.n (zT t) P.am P.k0 P.k1 t.m t.O) ic oa (fnM t.n (zT t) P.am P.k0 P.k1 t.m t.O) oc (by rfl) _ rfl ta 0 rfl HR1.out ?_) | (refine wpList_loadTxG 0 ja (fnN t.n (zT t) P.am P.k0 P.k1 t.m t.O) jc qa (fnM t.n (zT t) P.am P.k0 P.k1 t.m t.O) qc (by rfl) _ rfl tc 0 rfl HR2.out ?_) | fail)
       have HE8 : Hid (Below w.heap.size w y8) := HEW.out y8 H8.out.1
       refine (same14_any (fndE t.n (zT t) P.am P.k0 P.k1 t.m t.O) 0 (fnN t.n (zT t) P.am P.k0 P.k1 t.m t.O) (tF (zT t)) (fun _ _ => 0) (fnM t.n (zT t) P.am P.k0 P.k1 t.m t.O) (oF (fndL P.am P.k0 P.k1 t.m t.O)) ia oa ic oc (fun _ => (none, 0)) ja qa jc qc (fun _ => (none, 0)) y8 (HH.out.2.below HE8.out HH.out.2.pos) H8.out.2.2.1 H8.out.2.2.2.2.1 fnd_few).mono ?_
       rintro e y9 ⟨rfl, hb9⟩
       have HE9 := hidV (And.intro (Below.transS HE8.out hb9) hb9)
       clear hb9 HR1 HR2
       have HR3 := hidV (txl_range (heap_below HE9.out.2 H8.out.2.2.2.2.2.1))
       have HR4 := hidV (txl_range (heap_below HE9.out.2 H8.out.2.2.2.2.2.2.2.1))
       go_wp2_with (first | (refine wpList_loadTxPG 0 ka (clN P s) kc la (clM P s) lc (by rfl) _ rfl tb 0 rfl HR3.out ?_) | (refine wpList_loadTxG 0 ra (clN P s) rc xa (clM P s) xc (by rfl) _ rfl td 0 rfl HR4.out ?_) | fail)
       refine (same14_any (clsE P s) 0 (clN P s) (clX P) (fun _ _ => 0) (clM P s) (clO P s) ka la kc lc (fun _ => (none, 0)) ra xa rc xc (fun _ => (none, 0)) y9 (HH.out.2.below HE9.out.1 HH.out.2.pos) (H8.out.2.2.2.2.2.2.1.below HE9.out.2) (H8.out.2.2.2.2.2.2.2.2.below HE9.out.2) (cls_few P s)).mono ?_
       rintro e y10 ⟨rfl, hb10⟩
       have HE10 := hidV (Below.transS HE9.out.1 hb10)
       clear hb10
       go_wp2_with fail
       refine (sure_any y10).mono ?_
       rintro e y11 ⟨rfl, hb11⟩
       have HE11 := hidV (Below.transS HE10.out hb11)
       clear hb11
       go_wp2
       go_ret
       exact ⟨rfl, HE11.out⟩
theorem lfundsC_any (P : Pm) (s : Sv) (p : Pl) (t : Tc5) (S0 : Nat → Option Addr × Nat) (w : World) (hg : Cd.Glob w) (hz : Hb P.pt) (hi : Ib P.n ∧ Ib P.am ∧ Ib P.k0 ∧ Ib P.k1 ∧ Ib P.dl ∧ Ib P.fe) (h : StIn w s p) (ht : TiAt w t.ia t.n t.X S0 ∧ ToAt w t.oa t.m t.O ∧ (∀ k, k < t.n → SlAt w (S0 k).1 (t.X k).sn (t.Z k)) ∧ (t.n ≤ 140737488355328 ∧ t.m ≤ 140737488355328) ∧ (∀ i, i < t.n → (t.X i).sn ≤ 140737488355328) ∧ ∀ i, i < t.m → (t.O i).cn ≤ 140737488355328 ∧ ∀ j, j < (t.O i).cn → ((t.O i).X j).n ≤ 17592186043904) :
  Calls Tryz.prog 4 #[.agg (pmv P), .agg (svv s p), .agg (txv t.lk t.ia t.n t.ic t.oa t.m t.oc)] w fun e w' => e = .returned (.bool true) ∧ Below w.heap.size w w' := lfunds_any P s p t S0 w hg hz hi h ht
end Go.Proofs.YtjnepkggdkccaaaGreatDoor
