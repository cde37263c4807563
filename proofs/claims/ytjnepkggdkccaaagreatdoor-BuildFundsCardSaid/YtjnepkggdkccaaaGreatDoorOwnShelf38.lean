/- The document's Close of layer 14. -/
import Derived.Test.YtjnepkggdkccaaaGreatDoorOwnShelf37
import Derived.Test.YtjnepkggdkccaaaGreatDoorOwnShelf22
namespace Go.Proofs.YtjnepkggdkccaaaGreatDoor
open Go.RowKit

/-- The document's transaction on the way: it lies in block tb; its input in a row of one; the outputs laid so far. -/
structure DocT (w : World) (B tb gi : Nat) (z : (Nat → Int) × Int) (os : List To) (va : Option Addr) (vc : Nat) (A : Nat → Option Addr × Nat) (I : Nat → Nat × Nat) : Prop where
 ft : w.heap[tb]? = some (.cells #[.int .i64 0, .slice (some ⟨gi, 0, none⟩) 1 1, .slice va os.length vc] 58 (0, 0))
 fi : w.heap[gi]? = some (.cells (tiv (tiOf z) none 0) 79 (0, 0))
 lt : tb < B ∧ gi < B ∧ tb ≠ gi ∧ B ≤ w.heap.size
 outs : w.ownsRow B 124 2 (.slice va os.length vc) os.length (flatL (oL os A) os.length)
 cond : ∀ j, j < os.length → ∀ w' : World, (∀ k, (I j).1 ≤ k → k < (I j).2 → w'.heap[k]? = w.heap[k]?) → Cd.BrAt w' (A j).1 (os.getD j default).cn (os.getD j default).X
 int : ∀ j, j < os.length → B ≤ (I j).1 ∧ (I j).2 ≤ w.heap.size ∧ (A j).1 ≠ none
 apO : ∀ j, j < os.length → ∀ g, (Value.slice va os.length vc).ownBlock = some g → g < (I j).1 ∨ (I j).2 ≤ g
section
variable {w w1 : World} {B tb gi : Nat} {z : (Nat → Int) × Int} {os : List To} {va : Option Addr} {vc : Nat} {A : Nat → Option Addr × Nat} {I : Nat → Nat × Nat}
theorem DocT.below (h : DocT w B tb gi z os va vc A I) (hb : Below w.heap.size w w1) : DocT w1 B tb gi z os va vc A I := by
 have hs := hb.size
 refine ⟨heap_below hb h.ft, heap_below hb h.fi, ⟨h.lt.1, h.lt.2.1, h.lt.2.2.1, by have := h.lt.2.2.2; omega⟩, own_below h.outs hb, fun j hj w' hw => h.cond j hj w' (fun k h1 h2 => ?_), fun j hj => ⟨(h.int j hj).1, by have := (h.int j hj).2.1; omega, (h.int j hj).2.2⟩, h.apO⟩
 rw [hw k h1 h2]
 exact hb.block k (by have := (h.int j hj).2.1; omega)
theorem DocT.frm (h : DocT w B tb gi z os va vc A I) {q : Nat} (hf : Frm [q] w w1) (hq : q < B) (hg : q ≠ gi) (ht : q ≠ tb) : DocT w1 B tb gi z os va vc A I := by
 have hs := hf.size
 obtain ⟨l1, l2, l3, l4⟩ := h.lt
 refine ⟨hf.heap h.ft (by simp; omega), hf.heap h.fi (by simp; omega), ⟨l1, l2, l3, by omega⟩, own_keep h.outs (fun g e => hf.block g (h.outs.lt g e).2 (by have := (h.outs.lt g e).1; simp; omega)), fun j hj w' hw => h.cond j hj w' (fun k h1 h2 => ?_), fun j hj => ⟨(h.int j hj).1, by have := (h.int j hj).2.1; omega, (h.int j hj).2.2⟩, h.apO⟩
 rw [hw k h1 h2]
 have := h.int j hj
 exact hf.block k (by omega) (by simp; omega)
/-- One more output. -/
theorem DocT.push (h : DocT w B tb gi z os va vc A I) {x : To} {ca va' : Option Addr} {cc vc' lo hi : Nat}
  (hown : w1.ownsRow B 124 2 (.slice va' (os.length + 1) vc') (os.length + 1) (flatL (oL os A) os.length ++ tol x ca cc)) (hg : w.grownBy w1 (Value.slice va os.length vc).ownBlock) (hloc : (Value.slice va' (os.length + 1) vc').ownBlock = (Value.slice va os.length vc).ownBlock ∨ (Value.slice va' (os.length + 1) vc').ownBlock = some w.heap.size)
  (hc : ∀ w' : World, (∀ k, lo ≤ k → k < hi → w'.heap[k]? = w.heap[k]?) → Cd.BrAt w' ca x.cn x.X) (hlo : B ≤ lo) (hhi : hi ≤ w.heap.size) (hva : ∀ g, (Value.slice va os.length vc).ownBlock = some g → g < lo) (hca : ca ≠ none) :
  DocT (w1.setCell ⟨tb, 2, none⟩ (.slice va' (os.length + 1) vc')) B tb gi z (os ++ [x]) va' vc' (fun j => if j = os.length then (ca, cc) else A j) (fun j => if j = os.length then (lo, hi) else I j) := by
 have hlt := h.outs.lt
 obtain ⟨l1, l2, l3, l4⟩ := h.lt
 have kept : ∀ k, k < w.heap.size → k ≠ tb → (∀ g, (Value.slice va os.length vc).ownBlock = some g → k ≠ g) → (w1.setCell ⟨tb, 2, none⟩ (.slice va' (os.length + 1) vc')).heap[k]? = w.heap[k]? := fun k hk hb ho => by
  rw [Below.heap_setCell _ _ _ _ (show k ≠ (⟨tb, 2, none⟩ : Addr).block from hb)]
  exact hg.block k hk (fun e => ho k e.symm rfl)
 have hsz : (w1.setCell ⟨tb, 2, none⟩ (.slice va' (os.length + 1) vc')).heap.size = w1.heap.size := by simp [World.setCell]
 have hnew : ∀ g, (Value.slice va' (os.length + 1) vc').ownBlock = some g → (Value.slice va os.length vc).ownBlock = some g ∨ g = w.heap.size := fun g e => by
  rcases hloc with h1 | h1
  ·exact .inl (h1 ▸ e)
  ·rw [h1] at e; exact .inr (by simpa using e.symm)
 have hll : (os ++ [x]).length = os.length + 1 := by simp
 have ht1 : w1.heap[tb]? = some (.cells #[.int .i64 0, .slice (some ⟨gi, 0, none⟩) 1 1, .slice va os.length vc] 58 (0, 0)) := by rw [hg.block tb (by omega) (fun e => by have := (hlt tb e.symm).1; omega)]; exact h.ft
 refine ⟨?_, by rw [kept gi (by omega) (by omega) (fun g e => by have := (hlt g e).1; omega)]; exact h.fi, ⟨l1, l2, l3, by rw [hsz]; have := hg.size; omega⟩, ?_, fun j hj w' hw => ?_, fun j hj => ?_, fun j hj g e => ?_⟩
 ·rw [hll]; exact heap_setCell_same w1 tb 2 _ _ _ ht1
 ·rw [oL_push, hll]
  exact own_keep hown (fun g e => Below.heap_setCell _ _ _ _ (by have := (hown.lt g e).1; show g ≠ tb; omega))
 ·rw [hll] at hj
  by_cases ej : j = os.length
  ·subst ej
   simp only [if_true] at hw ⊢
   have : (os ++ [x]).getD os.length default = x := by simp
   rw [this]
   exact hc w' (fun k h1 h2 => by rw [hw k h1 h2]; exact kept k (by omega) (by omega) (fun g e => by have := hva g e; omega))
  ·have hj' : j < os.length := by omega
   simp only [if_neg ej] at hw ⊢
   have : (os ++ [x]).getD j default = os.getD j default := by simp only [List.getD_eq_getElem?_getD, List.getElem?_append_left hj']
   rw [this]
   have hI := h.int j hj'
   exact h.cond j hj' w' (fun k h1 h2 => by rw [hw k h1 h2]; exact kept k (by omega) (by omega) (fun g e => by have := h.apO j hj' g e; omega))
 ·rw [hll] at hj
  have := hg.size
  by_cases ej : j = os.length
  ·simp only [if_pos ej]; exact ⟨hlo, by rw [hsz]; omega, hca⟩
  ·simp only [if_neg ej]
   have hI := h.int j (by omega)
   exact ⟨hI.1, by rw [hsz]; omega, hI.2.2⟩
 ·rw [hll] at hj e
  by_cases ej : j = os.length
  ·simp only [if_pos ej]
   rcases hnew g e with h1 | h1
   ·have := hva g h1; omega
   ·omega
  ·simp only [if_neg ej]
   have hI := h.int j (by omega)
   rcases hnew g e with h1 | h1
   ·exact h.apO j (by omega) g h1
   ·omega
theorem DocT.tin (h : DocT w B tb gi z os va vc A I) (hz : Hb z.1) : TiAt w (some ⟨gi, 0, none⟩) 1 (tF (fun _ => z)) (fun _ => (none, 0)) := ⟨fun _ _ => hz, fun _ => ⟨gi, 0, rfl, fun i hi => by
 obtain rfl : i = 0 := by omega
 intro j v hv
 simp only [Nat.zero_mul, Nat.zero_add]
 exact cell_list h.fi hv⟩⟩
theorem DocT.tout (h : DocT w B tb gi z os va vc A I) : ToAt w va os.length (oF os) := by
 refine ⟨fun hn => ?_⟩
 obtain ⟨g, rfl, _, _, hr⟩ := own_range h.outs hn
 refine ⟨g, 0, rfl, fun j hj => ⟨(A j).1, (A j).2, ?_, h.cond j hj w (fun _ _ _ => rfl), fun e => absurd e (h.int j hj).2.2⟩⟩
 exact (flatL_range os.length (f := oL os A) (k := 2) (fun i _ => rfl)).1 hr j hj
end
theorem build_inR (z : Nat → Int) (n : Int) (w : World) : (Instr.build 79 #[(0, .agg (ptl z n).toArray)]).run Tryz.prog w = .ok (.agg (tiv (tiOf (z, n)) none 0)) w := by kernel_rfl
theorem slice_inR (z : Nat → Int) (n : Int) (w : World) : (Instr.buildSlice 55 1 #[(0, .agg (tiv (tiOf (z, n)) none 0))]).run Tryz.prog w = .ok (.slice (some ⟨w.heap.size, 0, none⟩) 1 1) (w.alloc (.cells (tiv (tiOf (z, n)) none 0) 79)) := by kernel_rfl
section
variable {ops : Array Oper} {rest : List Oper} {o : Oper} {a : Act} {w : World} {Q : Exit → Act → World → Prop} {K : Act → World → Prop} {E : Prop}
theorem wpList_buildInR (z : Nat → Int) (n : Int) (hgd : o.guard = none) (x : Operand) (ho : o.op = .build 79 #[(0, x)]) (hx : a.eval x = .agg (ptl z n).toArray)
  (h : wpList Tryz.prog ops Q rest (a.put o.dst (.agg (tiv (tiOf (z, n)) none 0))) w) : wpList Tryz.prog ops Q (o :: rest) a w := by
 refine wpList_plain hgd fun K hK => ?_
 unfold Oper.wp execOp
 simp only [ho, List.map_toArray, List.map_cons, List.map_nil, hx, Sem.run_bind, build_inR, Result.andThen]
 exact hK _ _ h
theorem wpList_sliceInR (z : Nat → Int) (n : Int) (hgd : o.guard = none) (x : Operand) (ho : o.op = .buildSlice 55 1 #[(0, x)]) (hx : a.eval x = .agg (tiv (tiOf (z, n)) none 0))
  (h : ∀ w1, New w w1 (tiv (tiOf (z, n)) none 0) 79 → wpList Tryz.prog ops Q rest (a.put o.dst (.slice (some ⟨w.heap.size, 0, none⟩) 1 1)) w1) : wpList Tryz.prog ops Q (o :: rest) a w := by
 refine wpList_plain hgd fun K hK => ?_
 unfold Oper.wp execOp
 simp only [ho, List.map_toArray, List.map_cons, List.map_nil, hx, Sem.run_bind, slice_inR, Result.andThen]
 exact hK _ _ (h _ (new_alloc w _ _))
theorem step_append_D (hgd : o.guard = none) (s x : Operand) (ho : o.op = .call { callee := .builtin .append, args := #[s, x], argTypes := #[56, 56] }) (B q : Nat) (v : Value) (i : Nat) (xs : List Value) (am : Int) (ca : Option Addr) (n cc : Nat) (hs : a.eval s = v) (hx : a.eval x = .slice (some ⟨q, 0, none⟩) 1 1) (hown : w.ownsRow B 124 2 v i xs) (hB : B ≤ w.heap.size) (hq : w.heap[q]? = some (.cells #[.int .i64 am, .slice ca n cc] 124 (0, 0))) (hi : i ≤ 1000000)
  (h : ∀ va vc w1, w1.ownsRow B 124 2 (.slice va (i + 1) vc) (i + 1) (xs ++ [.int .i64 am, .slice ca n cc]) → w.grownBy w1 v.ownBlock → ((Value.slice va (i + 1) vc).ownBlock = v.ownBlock ∨ (Value.slice va (i + 1) vc).ownBlock = some w.heap.size) → K (a.put o.dst (.slice va (i + 1) vc)) w1) : if Region.wanted o (yielded ops a.tmps) = true then Oper.wp Tryz.prog o a w K Q else E := by
 have hw : Region.wanted o (yielded ops a.tmps) = true := by simp [Region.wanted, hgd]
 rw [if_pos hw]
 obtain ⟨va, vc, w1, hr, h1, h2, h3⟩ := run_append_Tr w B q o.type v i xs am ca n cc hown hB hq hi
 unfold Oper.wp execOp
 simp only [ho, resolve, invoke, builtin, Sem.run_bind, Sem.run_pure, Result.andThen_ok, List.map_toArray, List.map_cons, List.map_nil, hs, hx, hr]
 exact h _ _ _ h1 h2 h3
end
structure RClsP (P : Pm) (s : Sv) (w : World) (e : Ending) (w' : World) : Prop where
 bad : clsE P s ≠ 0 → e = .returned (.tuple #[zeroTx, .int .i64 (clsE P s)])
 ok : clsE P s = 0 → ∃ ia ic oa oc, e = .returned (.tuple #[.agg (txv 0 ia 1 ic oa (outsC P s 2).length oc), .int .i64 0]) ∧ TiAt w' ia 1 (tF (fun _ => (P.pt, P.n))) (fun _ => (none, 0)) ∧ ToAt w' oa (outsC P s 2).length (oF (outsC P s 2))
 below : Below w.heap.size w w'
set_option maxRecDepth 100000 in
set_option maxHeartbeats 6400000 in
theorem rclose_any (P : Pm) (s : Sv) (p : Pl) (w : World) (h : SvAt w s p) (hs : s.Small) (hpt : Hb P.pt) :
  Calls Tryz.prog 24 #[.agg (pmv P), .agg (svv s p)] w (RClsP P s w) := by
 have HH : Hid (SvAt w s p ∧ s.Small ∧ Hb P.pt) := ⟨h, hs, hpt⟩
 clear h hs hpt
 go_enter Tryz.func24, Tryz.ntmps24
 go_upto_region 1 with (first | (refine wpList_boxN rfl _ _ rfl (pmv P) rfl ?_; intro v1 N1) | (refine wpList_boxN rfl _ _ rfl (svv s p) rfl ?_; intro v2 N2) | (refine wpList_allocN 58 #[.int .i64 0, .slice none 0 0, .slice none 0 0] run_allocTxR rfl rfl ?_; intro v4 N4) | fail)
 have HQ : Hid (w.heap.size < v1.heap.size ∧ v1.heap.size < v2.heap.size ∧ v2.heap.size < v4.heap.size) := ⟨by have := N1.size; omega, by have := N2.size; omega, by have := N4.size; omega⟩
 have HX : Hid (Below w.heap.size w v4 ∧ v4.heap[v2.heap.size]? = some (.cells #[.int .i64 0, .slice none 0 0, .slice none 0 0] 58 (0, 0)) ∧ (∀ w' : World, Below v4.heap.size v4 w' → w'.rangeAt w.heap.size 0 (pml P) ∧ w'.rangeAt v1.heap.size 0 (svv s p).toList)) :=
  ⟨Below.transS N1.below (Below.transS N2.below N4.below), N4.blk, fun w' hb => ⟨pml_range (heap_below hb (N4.old (N2.old N1.blk))), sv_range (heap_below hb (N4.old N2.blk))⟩⟩
 clear N1 N2 N4
 generalize v1.heap.size = bs at *
 generalize v2.heap.size = rb at *
 have HP4 := hidV (HX.out.2.2 v4 (Below.refl _ _)).1
 have HS4 := hidV (HX.out.2.2 v4 (Below.refl _ _)).2
 go_wp2_with (first | (refine wpList_load_mid rfl 28 _ rfl w.heap.size 0 rfl (pml P) _ HP4.out Tryz.underlying28 rfl (szPmrl P) ?_) | (refine wpList_load_mid rfl 32 _ rfl bs 0 rfl (svv s p).toList _ HS4.out Tryz.underlying32 rfl szSr ?_) | fail)
 refine (rbcheck_any P s p v4 (HH.out.1.below HX.out.1) HH.out.2.1).mono ?_
 rintro e v5 ⟨rfl, hb5⟩
 have HB5 := hidV hb5
 have hr5 := heap_below hb5 HX.out.2.1
 clear hb5 HP4 HS4
 by_cases h0 : bchkE P s = 0
 ·rw [h0]
  have HS5 := hidV (HX.out.2.2 v5 HB5.out).2
  have c3 : v5.cell? ⟨bs, 3, none⟩ = some (.slice p.pa s.pn p.pc) := HS5.out 3 _ rfl
  have c4 : v5.cell? ⟨bs, 4, none⟩ = some (.slice p.ha s.hn p.hc) := HS5.out 4 _ rfl
  by_cases hp : 0 < s.pn
  ·have HE : Hid (clsE P s = 31) := by unfold clsE; rw [if_neg (by simpa using h0), if_pos (.inl hp)]; exact rfl
   have hp' : (0 : Int) < s.pn := by omega
   clear h0 hp
   go_wp2_with (first | (refine wpList_storeG 58 szTxR rfl _ _ rfl rb rfl #[.int .i64 0, .slice none 0 0, .slice none 0 0] #[.int .i64 0, .slice none 0 0, .slice none 0 0] rfl rfl (by kernel_rfl) 58 rfl hr5 ?_; intro v6 hg6 hf6) | fail)
   refine bodyPost_ret (results_T2R Tryz.results24 _ v6 rb 58 _ _ _ (0, 0) rfl hg6) rfl ⟨fun _ => by rw [HE.out]; rfl, fun h => absurd h (by rw [HE.out]; decide), ?_⟩
   exact (Below.transS HX.out.1 HB5.out).trans (hf6.below (by have := HX.out.1.size; have := HB5.out.size; omega) (by have := HQ.out; simp; omega))
  ·by_cases hh : 0 < s.hn
   ·have HE : Hid (clsE P s = 31) := by unfold clsE; rw [if_neg (by simpa using h0), if_pos (.inr hh)]; exact rfl
    have hp' : ¬ (0 : Int) < s.pn := by omega
    have hh' : (0 : Int) < s.hn := by omega
    clear h0 hp hh
    go_wp2_with (first | (refine wpList_storeG 58 szTxR rfl _ _ rfl rb rfl #[.int .i64 0, .slice none 0 0, .slice none 0 0] #[.int .i64 0, .slice none 0 0, .slice none 0 0] rfl rfl (by kernel_rfl) 58 rfl hr5 ?_; intro v6 hg6 hf6) | fail)
    refine bodyPost_ret (results_T2R Tryz.results24 _ v6 rb 58 _ _ _ (0, 0) rfl hg6) rfl ⟨fun _ => by rw [HE.out]; rfl, fun h => absurd h (by rw [HE.out]; decide), ?_⟩
    exact (Below.transS HX.out.1 HB5.out).trans (hf6.below (by have := HX.out.1.size; have := HB5.out.size; omega) (by have := HQ.out; simp; omega))
   ·have HE : Hid (clsE P s = finE 1 (fun _ => (P.pt, P.n)) (outsC P s 2) 0) := by unfold clsE; rw [if_neg (by simpa using h0), if_neg (by omega)]; exact rfl
    have hp' : ¬ (0 : Int) < s.pn := by omega
    have hh' : ¬ (0 : Int) < s.hn := by omega
    have HC := hidV (bchk0 h0)
    have HPT := hidV (pm_pt (HX.out.2.2 v5 HB5.out).1)
    clear h0 hp hh hr5
    go_upto_region 7 with (first | (refine wpList_load_mid rfl 25 _ rfl w.heap.size 0 rfl (ptl P.pt P.n) _ HPT.out Tryz.underlying25 rfl (szPtlR _ _) ?_) | (refine wpList_buildInR P.pt P.n rfl _ rfl rfl ?_) | (refine wpList_sliceInR P.pt P.n rfl _ rfl rfl ?_; intro v6 N6) | (refine wpList_allocN 58 #[.int .i64 0, .slice none 0 0, .slice none 0 0] run_allocTxR rfl rfl ?_; intro v7 N7) | (refine wpList_storeG 58 szTxR rfl _ _ rfl v6.heap.size rfl #[.int .i64 0, .slice (some ⟨v5.heap.size, 0, none⟩) 1 1, .slice none 0 0] #[.int .i64 0, .slice none 0 0, .slice none 0 0] rfl rfl (by kernel_rfl) 58 rfl N7.blk ?_; intro v8 hg8 hf8) | fail)
    have HB8 : Hid (Below v5.heap.size v5 v8 ∧ v4.heap.size ≤ v5.heap.size ∧ v5.heap.size < v6.heap.size ∧ v6.heap.size < v8.heap.size) := ⟨(Below.transS N6.below N7.below).trans (hf8.below (Below.transS N6.below N7.below).size (by have := N6.size; simp; omega)), HB5.out.size, by have := N6.size; omega, by have := N7.size; have := hf8.size; omega⟩
    have HD0 : Hid (DocT v8 v8.heap.size v6.heap.size v5.heap.size (P.pt, P.n) [] none 0 (fun _ => (none, 0)) (fun _ => (0, 0))) := ⟨hg8, hf8.heap (N7.old N6.blk) (by have := N6.size; simp; omega), ⟨by have := HB8.out; omega, by have := HB8.out; omega, by have := HB8.out; omega, Nat.le_refl _⟩, World.ownsRow_nil _ _ _ _, fun j hj => by simp at hj, fun j hj => by simp at hj, fun j hj => by simp at hj⟩
    clear N6 N7 hg8 hf8 HPT HS5 c3 c4
    generalize v6.heap.size = tb at *
    generalize v5.heap.size = gi at *
    have HR : Hid (∀ w' : World, FrB v8.heap.size [tb] v8 w' → w'.rangeAt w.heap.size 0 (pml P) ∧ w'.rangeAt bs 0 (svv s p).toList ∧ w'.heap[rb]? = some (.cells #[.int .i64 0, .slice none 0 0, .slice none 0 0] 58 (0, 0)) ∧ Below w.heap.size w w') := fun w' hf => by
     have h1 : Below v4.heap.size v4 w' := HB5.out.trans ((HB8.out.1.mono HB8.out.2.1).trans (hf.below (by have := HB8.out; omega) (by have := HB8.out; simp; omega)))
     exact ⟨(HX.out.2.2 w' h1).1, (HX.out.2.2 w' h1).2, heap_below h1 HX.out.2.1, Below.transS HX.out.1 h1⟩
    have HD0' : Hid (∃ va vc A I, DocT v8 v8.heap.size tb gi (P.pt, P.n) (outsC P s 0) va vc A I) := ⟨none, 0, _, _, HD0.out⟩
    have hwr : IntKind.i64.wrap (s.a - P.fe) = s.a - P.fe := by have h1 := HC.out.1.1.2.1; have h2 := HC.out.2.1.2; rw [IntKind.wrap_i64]; omega
    have hw0 : IntKind.i64.wrap 0 = 0 := by decide
    have hw1 : IntKind.i64.wrap 1 = 1 := by decide
    have HIB : Hid (Cd.Ib P.k0 ∧ Cd.Ib P.k1) := by have := HC.out.2.2; unfold KeyOk at this; show _ ∧ _; unfold Cd.Ib; omega
    clear HD0 hp' hh'
    obtain ⟨va0, vc0, A0, I0, hD0⟩ := HD0'.out
    have HD0 := hidV hD0
    clear hD0 HD0'
    have ca : v8.cell? ⟨bs, 1, none⟩ = some (.int .i64 s.a) := (HR.out v8 (FrB.refl _ _ _)).2.1 1 _ rfl
    have cfe : v8.cell? ⟨w.heap.size, 37, none⟩ = some (.int .i64 P.fe) := by have := (pmBox (HR.out v8 (FrB.refl _ _ _)).1).fe; simpa using this
    go_upto_if 37 with fail
    clear ca cfe
    go_cut [] (fun wc => ∃ va vc A I, DocT wc v8.heap.size tb gi (P.pt, P.n) (outsC P s 1) va vc A I ∧ FrB v8.heap.size [tb] v8 wc)
    case first =>
     have HS : Hid (∀ w' : World, FrB v8.heap.size [tb] v8 w' → w'.heap[tb]? = some (.cells #[.int .i64 0, .slice (some ⟨gi, 0, none⟩) 1 1, .slice va0 (outsC P s 0).length vc0] 58 (0, 0)) → w'.cell? ⟨tb, 2, none⟩ = some (.slice va0 (outsC P s 0).length vc0) ∧ w'.cell? ⟨bs, 1, none⟩ = some (.int .i64 s.a) ∧ w'.cell? ⟨w.heap.size, 37, none⟩ = some (.int .i64 P.fe) ∧ w'.cell? ⟨w.heap.size, 34, none⟩ = some (.int .i64 P.k0)) := fun w' hf ht => ⟨by rw [cell_of_row _ _ 2 _ _ _ ht]; rfl, (HR.out w' hf).2.1 1 _ rfl, by have := (pmBox (HR.out w' hf).1).fe; simpa using this, by have := (pmBox (HR.out w' hf).1).k0; simpa using this⟩
     by_cases h10 : 10 ≤ s.a - P.fe
     ·have HOY := hidV (outsC_yes (P := P) (s := s) (i := 0) h10)
      have HA := hidV h10
      go_upto_region 8 with fail
      refine wp_region_noPanic ?_
      have HF0 : Hid (FrB v8.heap.size [tb] v8 v8.drew) := (FrB.refl _ _ _).trans (FrB.ofBelow (Below.refl _ _).drew HD0.out.lt.2.2.2)
      have HE0 := hidV (HD0.out.below (Below.refl _ _).drew)
      refine wp_region_K (S := fun w' => w'.cell? ⟨tb, 2, none⟩ = some (.slice va0 (outsC P s 0).length vc0) ∧ w'.cell? ⟨bs, 1, none⟩ = some (.int .i64 s.a) ∧ w'.cell? ⟨w.heap.size, 37, none⟩ = some (.int .i64 P.fe) ∧ w'.cell? ⟨w.heap.size, 34, none⟩ = some (.int .i64 P.k0)) 17 (by kernel_rfl) (HS.out _ HF0.out HE0.out.ft) (fun hHeld => ?_)
      generalize v8.drew = z0 at *
      refine wpAnyK_take (by kernel_rfl) (i := 0) (oi := ⟨some 38, .fieldAddr 58 (.tmp 7) 2, 0, _, _, none⟩) (v := ?_) rfl (by kernel_rfl) (by kernel_rfl) (by kernel_rfl) (fun _ _ _ h => h) (Or.inl ⟨by rfl, ?_⟩) (by assumption) ?_
      rotate_left
      ·intro wz hSw; (try dsimp only at hSw); go_simp; (try with_reducible rfl)
      try simp only [Act.put, zA, zB, zC]
      refine wpAnyK_take (by kernel_rfl) (i := 1) (oi := ⟨some 39, .load 56 (.tmp 38), 56, _, _, none⟩) (v := ?_) rfl (by kernel_rfl) (by kernel_rfl) (by kernel_rfl) (fun _ _ _ h => h) (Or.inl ⟨by rfl, ?_⟩) (by assumption) ?_
      rotate_left
      ·intro wz hSw; (try dsimp only at hSw); go_simp; (try with_reducible rfl)
      try simp only [Act.put, zA, zB, zC]
      refine wpAnyK_take (by kernel_rfl) (i := 2) (oi := ⟨some 40, .fieldAddr 32 (.tmp 3) 1, 0, _, _, none⟩) (v := ?_) rfl (by kernel_rfl) (by kernel_rfl) (by kernel_rfl) (fun _ _ _ h => h) (Or.inl ⟨by rfl, ?_⟩) (by assumption) ?_
      rotate_left
      ·intro wz hSw; (try dsimp only at hSw); go_simp; (try with_reducible rfl)
      try simp only [Act.put, zA, zB, zC]
      refine wpAnyK_take (by kernel_rfl) (i := 3) (oi := ⟨some 41, .indexAddr 26 (.tmp 40) (.const (.int .i64 0)), 0, _, _, none⟩) (v := ?_) rfl (by kernel_rfl) (by kernel_rfl) (by kernel_rfl) (fun _ _ _ h => h) (Or.inl ⟨by rfl, ?_⟩) (by assumption) ?_
      rotate_left
      ·intro wz hSw; (try dsimp only at hSw); go_simp; (try with_reducible rfl)
      try simp only [Act.put, zA, zB, zC]
      refine wpAnyK_take (by kernel_rfl) (i := 4) (oi := ⟨some 42, .load 3 (.tmp 41), 3, _, _, none⟩) (v := ?_) rfl (by kernel_rfl) (by kernel_rfl) (by kernel_rfl) (fun _ _ _ h => h) (Or.inl ⟨by rfl, ?_⟩) (by assumption) ?_
      rotate_left
      ·intro wz hSw; (try dsimp only at hSw); go_simp; (try with_reducible rfl)
      try simp only [Act.put, zA, zB, zC]
      refine wpAnyK_take (by kernel_rfl) (i := 5) (oi := ⟨some 43, .fieldAddr 28 (.tmp 2) 4, 0, _, _, none⟩) (v := ?_) rfl (by kernel_rfl) (by kernel_rfl) (by kernel_rfl) (fun _ _ _ h => h) (Or.inl ⟨by rfl, ?_⟩) (by assumption) ?_
      rotate_left
      ·intro wz hSw; (try dsimp only at hSw); go_simp; (try with_reducible rfl)
      try simp only [Act.put, zA, zB, zC]
      refine wpAnyK_take (by kernel_rfl) (i := 6) (oi := ⟨some 44, .load 3 (.tmp 43), 3, _, _, none⟩) (v := ?_) rfl (by kernel_rfl) (by kernel_rfl) (by kernel_rfl) (fun _ _ _ h => h) (Or.inl ⟨by rfl, ?_⟩) (by assumption) ?_
      rotate_left
      ·intro wz hSw; (try dsimp only at hSw); go_simp; (try with_reducible rfl)
      try simp only [Act.put, zA, zB, zC]
      refine wpAnyK_take (by kernel_rfl) (i := 7) (oi := ⟨some 45, .binOp .sub 3 (.tmp 42) (.tmp 44) 3, 3, _, _, none⟩) (v := ?_) rfl (by kernel_rfl) (by kernel_rfl) (by kernel_rfl) (fun _ _ _ h => h) (Or.inl ⟨by rfl, ?_⟩) (by assumption) ?_
      rotate_left
      ·intro wz hSw; (try dsimp only at hSw); go_simp; (try with_reducible rfl)
      try simp only [Act.put, zA, zB, zC]
      refine wpAnyK_take (by kernel_rfl) (i := 8) (oi := ⟨some 46, .fieldAddr 28 (.tmp 2) 2, 0, _, _, none⟩) (v := ?_) rfl (by kernel_rfl) (by kernel_rfl) (by kernel_rfl) (fun _ _ _ h => h) (Or.inl ⟨by rfl, ?_⟩) (by assumption) ?_
      rotate_left
      ·intro wz hSw; (try dsimp only at hSw); go_simp; (try with_reducible rfl)
      try simp only [Act.put, zA, zB, zC]
      refine wpAnyK_take (by kernel_rfl) (i := 9) (oi := ⟨some 47, .indexAddr 26 (.tmp 46) (.const (.int .i64 0)), 0, _, _, none⟩) (v := ?_) rfl (by kernel_rfl) (by kernel_rfl) (by kernel_rfl) (fun _ _ _ h => h) (Or.inl ⟨by rfl, ?_⟩) (by assumption) ?_
      rotate_left
      ·intro wz hSw; (try dsimp only at hSw); go_simp; (try with_reducible rfl)
      try simp only [Act.put, zA, zB, zC]
      refine wpAnyK_take (by kernel_rfl) (i := 10) (oi := ⟨some 48, .load 3 (.tmp 47), 3, _, _, none⟩) (v := ?_) rfl (by kernel_rfl) (by kernel_rfl) (by kernel_rfl) (fun _ _ _ h => h) (Or.inl ⟨by rfl, ?_⟩) (by assumption) ?_
      rotate_left
      ·intro wz hSw; (try dsimp only at hSw); go_simp; (try with_reducible rfl)
      try simp only [Act.put, zA, zB, zC]
      refine wpAnyK_ready (rs := [11]) (by kernel_rfl) (by simp) ?_
      refine (AllReadyK.cons (o := ⟨some 49, .buildSlice 88 1 #[(0, .tmp 48)], 88, _, _, none⟩) rfl (fun K hK => ?_) AllReadyK.nil)
      refine step_kSliceP rfl (.tmp 48) rfl P.k0 (by rfl) ?_
      intro q1 z1 hq1 hl1 hb1
      have H1 : Hid (z1.heap[q1]? = some (.cells #[.int .i64 P.k0] 3 (0, 0)) ∧ Below z0.heap.size z0 z1 ∧ DocT z1 v8.heap.size tb gi (P.pt, P.n) (outsC P s 0) va0 vc0 A0 I0 ∧ FrB v8.heap.size [tb] v8 z1) := ⟨hq1, hb1, HE0.out.below hb1, HF0.out.trans (FrB.ofBelow hb1 HE0.out.lt.2.2.2)⟩
      clear hq1 hl1 hb1
      refine hK.out _ _ (fun _ => HS.out z1 H1.out.2.2.2 H1.out.2.2.1.ft) (fun hq => ?_)
      have hq := hq (by decide)
      clear hK K
      try simp only [Act.put, zA, zB, zC]
      refine wpAnyK_ready (rs := [12]) (by kernel_rfl) (by simp) ?_
      refine (AllReadyK.cons (o := ⟨some 50, .call { callee := Go.Callee.value (.func 44), args := #[.tmp 49], argTypes := #[88] }, 122, _, _, none⟩) rfl (fun K hK => ?_) AllReadyK.nil)
      go_simp
      refine (Cd.rall_in (some ⟨q1, 0, none⟩) 1 1 (fun _ => P.k0) z1 (keyAt H1.out.1) (fun _ _ => HIB.out.1) (by decide)).mono ?_
      rintro e z2 ⟨g, rfl, hI, hb2⟩
      rw [insL_one] at hI
      have H2 : Hid (Cd.BrIn z2 z1.heap.size (some ⟨g, 0, none⟩) 1 (fun _ => Cd.kb [P.k0]) ∧ Below z1.heap.size z1 z2 ∧ DocT z2 v8.heap.size tb gi (P.pt, P.n) (outsC P s 0) va0 vc0 A0 I0 ∧ FrB v8.heap.size [tb] v8 z2) := ⟨hI, hb2, H1.out.2.2.1.below hb2, H1.out.2.2.2.trans (FrB.ofBelow hb2 H1.out.2.2.1.lt.2.2.2)⟩
      clear hI hb2
      refine hK.out _ _ (fun _ => HS.out z2 H2.out.2.2.2 H2.out.2.2.1.ft) (fun hq => ?_)
      have hq := hq (by decide)
      clear hK K
      try simp only [Act.put, zA, zB, zC]
      refine wpAnyK_take (by kernel_rfl) (i := 13) (oi := ⟨some 51, .build 124 #[(0, .tmp 45), (1, .tmp 50)], 124, _, _, none⟩) (v := .agg #[.int .i64 (s.a - P.fe), .slice (some ⟨g, 0, none⟩) 1 1]) rfl (by kernel_rfl) (by kernel_rfl) (by kernel_rfl) (fun _ _ _ h => h) (Or.inl ⟨by rfl, ?_⟩) (by assumption) ?_
      ·intro wz hSw; (try dsimp only at hSw); kernel_rfl
      try simp only [Act.put, zA, zB, zC]
      refine wpAnyK_ready (rs := [14]) (by kernel_rfl) (by simp) ?_
      refine (AllReadyK.cons (o := ⟨some 52, .buildSlice 56 1 #[(0, .tmp 51)], 56, _, _, none⟩) rfl (fun K hK => ?_) AllReadyK.nil)
      refine step_sliceTr rfl (.tmp 51) rfl (s.a - P.fe) (some ⟨g, 0, none⟩) 1 1 (by rfl) ?_
      intro q3 z3 hq3 hl3 hb3
      have H3 : Hid (z3.heap[q3]? = some (.cells #[.int .i64 (s.a - P.fe), .slice (some ⟨g, 0, none⟩) 1 1] 124 (0, 0)) ∧ Cd.BrIn z3 z1.heap.size (some ⟨g, 0, none⟩) 1 (fun _ => Cd.kb [P.k0]) ∧ DocT z3 v8.heap.size tb gi (P.pt, P.n) (outsC P s 0) va0 vc0 A0 I0 ∧ FrB v8.heap.size [tb] v8 z3) := ⟨hq3, brIn_below H2.out.1 hb3, H2.out.2.2.1.below hb3, H2.out.2.2.2.trans (FrB.ofBelow hb3 H2.out.2.2.1.lt.2.2.2)⟩
      clear hq3 hl3 hb3
      refine hK.out _ _ (fun _ => HS.out z3 H3.out.2.2.2 H3.out.2.2.1.ft) (fun hq => ?_)
      have hq := hq (by decide)
      clear hK K
      try simp only [Act.put, zA, zB, zC]
      refine wpAnyK_ready (rs := [15]) (by kernel_rfl) (by simp) ?_
      refine (AllReadyK.cons (o := ⟨some 53, .call { callee := Go.Callee.builtin Go.Builtin.append, args := #[.tmp 39, .tmp 52], argTypes := #[56, 56] }, 56, _, _, none⟩) rfl (fun K hK => ?_) AllReadyK.nil)
      refine step_append_D rfl (.tmp 39) (.tmp 52) rfl v8.heap.size q3 (.slice va0 (outsC P s 0).length vc0) (outsC P s 0).length (flatL (oL (outsC P s 0) A0) (outsC P s 0).length) (s.a - P.fe) (some ⟨g, 0, none⟩) 1 1 (by rfl) (by rfl) H3.out.2.2.1.outs H3.out.2.2.1.lt.2.2.2 H3.out.1 (by have := outsC_len P s 0; omega) ?_
      intro va' vc' z4 hown hgrow hloc
      have HO := H3.out.2.2.1.outs.lt
      have hl3 := H3.out.2.2.1.lt
      have hft : z4.heap[tb]? = some (.cells #[.int .i64 0, .slice (some ⟨gi, 0, none⟩) 1 1, .slice va0 (outsC P s 0).length vc0] 58 (0, 0)) := by rw [hgrow.block tb (by omega) (fun e => by have := (HO tb e.symm).1; omega)]; exact H3.out.2.2.1.ft
      have hF4 : FrB v8.heap.size [tb] v8 z4 := H3.out.2.2.2.trans (FrB.grown hgrow hl3.2.2.2 (fun g e => (HO g e).1))
      have hS4 := HS.out z4 hF4 hft
      have s4 : z4.cell? ⟨tb, 2, none⟩ = some (.slice va0 (outsC P s 0).length vc0) := hS4.1
      have f4 : z4.frozen? ⟨tb, 2, none⟩ = false := frozen_of_row z4 tb 2 _ _ hft
      have HP : Hid (DocT (z4.setCell ⟨tb, 2, none⟩ (.slice va' ((outsC P s 0).length + 1) vc')) v8.heap.size tb gi (P.pt, P.n) (outsC P s 0 ++ [⟨s.a - P.fe, 1, fun _ => Cd.kb [P.k0]⟩]) va' vc' (fun j => if j = (outsC P s 0).length then (some ⟨g, 0, none⟩, 1) else A0 j) (fun j => if j = (outsC P s 0).length then (z1.heap.size, z3.heap.size) else I0 j)) :=
       H3.out.2.2.1.push hown hgrow hloc H3.out.2.1 H1.out.2.2.1.lt.2.2.2 (Nat.le_refl _) (fun g e => (H1.out.2.2.1.outs.lt g e).2) (by simp)
      have HF4 : Hid (FrB v8.heap.size [tb] v8 (z4.setCell ⟨tb, 2, none⟩ (.slice va' ((outsC P s 0).length + 1) vc'))) := hF4.setCell _ _ (by simp)
      clear hown hgrow hloc HO hl3 hft hF4
      refine hK.out _ _ (fun _ => hS4) (fun hq => ?_)
      have hq := hq (by decide)
      clear hK K hS4
      try simp only [Act.put, zA, zB, zC]
      refine wpAnyK_take (by kernel_rfl) (i := 16) (oi := ⟨some 54, .fieldAddr 58 (.tmp 7) 2, 0, _, _, none⟩) (v := ?_) rfl (by kernel_rfl) (by kernel_rfl) (by kernel_rfl) (fun _ _ _ h => h) (Or.inl ⟨by rfl, ?_⟩) (by assumption) ?_
      rotate_left
      ·intro wz hSw; (try dsimp only at hSw); go_simp; (try with_reducible rfl)
      try simp only [Act.put, zA, zB, zC]
      refine wpAnyK_ready (rs := [17]) (by kernel_rfl) (by simp) ?_
      refine (AllReadyK.cons (o := ⟨none, .store 56 (.tmp 54) (.tmp 53), 0, _, _, none⟩) rfl (fun K hK => ?_) AllReadyK.nil)
      go_simp
      refine hK.out _ _ (fun e => absurd rfl e) (fun _ => ?_)
      clear hK K
      try simp only [Act.put]
      refine wpAnyK_done (by kernel_rfl) (NoPanic.normal ?_) _
      try simp only [Act.put, zA, zB, zC]
      clear hHeld s4 f4
      go_wp2
      go_meet
      case rel =>
       rw [show outsC P s (0 + 1) = outsC P s 0 ++ [⟨s.a - P.fe, 1, fun _ => Cd.kb [P.k0]⟩] from HOY.out]
       exact ⟨va', vc', _, _, HP.out, HF4.out⟩
     ·have HOY := hidV (outsC_no (P := P) (s := s) (i := 0) h10)
      go_wp2
      go_meet
      case rel =>
       rw [show outsC P s (0 + 1) = outsC P s 0 from HOY.out]
       exact ⟨va0, vc0, A0, I0, HD0.out, (FrB.refl _ _ _)⟩
    obtain ⟨va1, vc1, A1, I1, hD1, hF1⟩ := hcut
    have HD1 := hidV hD1
    have HF1 := hidV hF1
    clear hD1 hF1 HD0
    generalize wc = y1 at *
    have cb : y1.cell? ⟨bs, 2, none⟩ = some (.int .i64 s.b) := (HR.out y1 HF1.out).2.1 2 _ rfl
    go_upto_if 58 with fail
    clear cb
    go_cut [] (fun wc => ∃ va vc A I, DocT wc v8.heap.size tb gi (P.pt, P.n) (outsC P s 2) va vc A I ∧ FrB v8.heap.size [tb] v8 wc)
    case first =>
     have HS : Hid (∀ w' : World, FrB v8.heap.size [tb] v8 w' → w'.heap[tb]? = some (.cells #[.int .i64 0, .slice (some ⟨gi, 0, none⟩) 1 1, .slice va1 (outsC P s 1).length vc1] 58 (0, 0)) → w'.cell? ⟨tb, 2, none⟩ = some (.slice va1 (outsC P s 1).length vc1) ∧ w'.cell? ⟨bs, 2, none⟩ = some (.int .i64 s.b) ∧ w'.cell? ⟨w.heap.size, 35, none⟩ = some (.int .i64 P.k1)) := fun w' hf ht => ⟨by rw [cell_of_row _ _ 2 _ _ _ ht]; rfl, (HR.out w' hf).2.1 2 _ rfl, by have := (pmBox (HR.out w' hf).1).k1; simpa using this⟩
     by_cases h10 : 10 ≤ s.b
     ·have HOY := hidV (outsC_yes (P := P) (s := s) (i := 1) h10)
      have HA := hidV h10
      go_upto_region 10 with fail
      refine wp_region_noPanic ?_
      have HF0 : Hid (FrB v8.heap.size [tb] v8 y1.drew) := HF1.out.trans (FrB.ofBelow (Below.refl _ _).drew HD1.out.lt.2.2.2)
      have HE0 := hidV (HD1.out.below (Below.refl _ _).drew)
      refine wp_region_K (S := fun w' => w'.cell? ⟨tb, 2, none⟩ = some (.slice va1 (outsC P s 1).length vc1) ∧ w'.cell? ⟨bs, 2, none⟩ = some (.int .i64 s.b) ∧ w'.cell? ⟨w.heap.size, 35, none⟩ = some (.int .i64 P.k1)) 14 (by kernel_rfl) (HS.out _ HF0.out HE0.out.ft) (fun hHeld => ?_)
      generalize y1.drew = z0 at *
      refine wpAnyK_take (by kernel_rfl) (i := 0) (oi := ⟨some 59, .fieldAddr 58 (.tmp 7) 2, 0, _, _, none⟩) (v := ?_) rfl (by kernel_rfl) (by kernel_rfl) (by kernel_rfl) (fun _ _ _ h => h) (Or.inl ⟨by rfl, ?_⟩) (by assumption) ?_
      rotate_left
      ·intro wz hSw; (try dsimp only at hSw); go_simp; (try with_reducible rfl)
      try simp only [Act.put, zA, zB, zC]
      refine wpAnyK_take (by kernel_rfl) (i := 1) (oi := ⟨some 60, .load 56 (.tmp 59), 56, _, _, none⟩) (v := ?_) rfl (by kernel_rfl) (by kernel_rfl) (by kernel_rfl) (fun _ _ _ h => h) (Or.inl ⟨by rfl, ?_⟩) (by assumption) ?_
      rotate_left
      ·intro wz hSw; (try dsimp only at hSw); go_simp; (try with_reducible rfl)
      try simp only [Act.put, zA, zB, zC]
      refine wpAnyK_take (by kernel_rfl) (i := 2) (oi := ⟨some 61, .fieldAddr 32 (.tmp 3) 1, 0, _, _, none⟩) (v := ?_) rfl (by kernel_rfl) (by kernel_rfl) (by kernel_rfl) (fun _ _ _ h => h) (Or.inl ⟨by rfl, ?_⟩) (by assumption) ?_
      rotate_left
      ·intro wz hSw; (try dsimp only at hSw); go_simp; (try with_reducible rfl)
      try simp only [Act.put, zA, zB, zC]
      refine wpAnyK_take (by kernel_rfl) (i := 3) (oi := ⟨some 62, .indexAddr 26 (.tmp 61) (.const (.int .i64 1)), 0, _, _, none⟩) (v := ?_) rfl (by kernel_rfl) (by kernel_rfl) (by kernel_rfl) (fun _ _ _ h => h) (Or.inl ⟨by rfl, ?_⟩) (by assumption) ?_
      rotate_left
      ·intro wz hSw; (try dsimp only at hSw); go_simp; (try with_reducible rfl)
      try simp only [Act.put, zA, zB, zC]
      refine wpAnyK_take (by kernel_rfl) (i := 4) (oi := ⟨some 63, .load 3 (.tmp 62), 3, _, _, none⟩) (v := ?_) rfl (by kernel_rfl) (by kernel_rfl) (by kernel_rfl) (fun _ _ _ h => h) (Or.inl ⟨by rfl, ?_⟩) (by assumption) ?_
      rotate_left
      ·intro wz hSw; (try dsimp only at hSw); go_simp; (try with_reducible rfl)
      try simp only [Act.put, zA, zB, zC]
      refine wpAnyK_take (by kernel_rfl) (i := 5) (oi := ⟨some 64, .fieldAddr 28 (.tmp 2) 2, 0, _, _, none⟩) (v := ?_) rfl (by kernel_rfl) (by kernel_rfl) (by kernel_rfl) (fun _ _ _ h => h) (Or.inl ⟨by rfl, ?_⟩) (by assumption) ?_
      rotate_left
      ·intro wz hSw; (try dsimp only at hSw); go_simp; (try with_reducible rfl)
      try simp only [Act.put, zA, zB, zC]
      refine wpAnyK_take (by kernel_rfl) (i := 6) (oi := ⟨some 65, .indexAddr 26 (.tmp 64) (.const (.int .i64 1)), 0, _, _, none⟩) (v := ?_) rfl (by kernel_rfl) (by kernel_rfl) (by kernel_rfl) (fun _ _ _ h => h) (Or.inl ⟨by rfl, ?_⟩) (by assumption) ?_
      rotate_left
      ·intro wz hSw; (try dsimp only at hSw); go_simp; (try with_reducible rfl)
      try simp only [Act.put, zA, zB, zC]
      refine wpAnyK_take (by kernel_rfl) (i := 7) (oi := ⟨some 66, .load 3 (.tmp 65), 3, _, _, none⟩) (v := ?_) rfl (by kernel_rfl) (by kernel_rfl) (by kernel_rfl) (fun _ _ _ h => h) (Or.inl ⟨by rfl, ?_⟩) (by assumption) ?_
      rotate_left
      ·intro wz hSw; (try dsimp only at hSw); go_simp; (try with_reducible rfl)
      try simp only [Act.put, zA, zB, zC]
      refine wpAnyK_ready (rs := [8]) (by kernel_rfl) (by simp) ?_
      refine (AllReadyK.cons (o := ⟨some 67, .buildSlice 88 1 #[(0, .tmp 66)], 88, _, _, none⟩) rfl (fun K hK => ?_) AllReadyK.nil)
      refine step_kSliceP rfl (.tmp 66) rfl P.k1 (by rfl) ?_
      intro q1 z1 hq1 hl1 hb1
      have H1 : Hid (z1.heap[q1]? = some (.cells #[.int .i64 P.k1] 3 (0, 0)) ∧ Below z0.heap.size z0 z1 ∧ DocT z1 v8.heap.size tb gi (P.pt, P.n) (outsC P s 1) va1 vc1 A1 I1 ∧ FrB v8.heap.size [tb] v8 z1) := ⟨hq1, hb1, HE0.out.below hb1, HF0.out.trans (FrB.ofBelow hb1 HE0.out.lt.2.2.2)⟩
      clear hq1 hl1 hb1
      refine hK.out _ _ (fun _ => HS.out z1 H1.out.2.2.2 H1.out.2.2.1.ft) (fun hq => ?_)
      have hq := hq (by decide)
      clear hK K
      try simp only [Act.put, zA, zB, zC]
      refine wpAnyK_ready (rs := [9]) (by kernel_rfl) (by simp) ?_
      refine (AllReadyK.cons (o := ⟨some 68, .call { callee := Go.Callee.value (.func 44), args := #[.tmp 67], argTypes := #[88] }, 122, _, _, none⟩) rfl (fun K hK => ?_) AllReadyK.nil)
      go_simp
      refine (Cd.rall_in (some ⟨q1, 0, none⟩) 1 1 (fun _ => P.k1) z1 (keyAt H1.out.1) (fun _ _ => HIB.out.2) (by decide)).mono ?_
      rintro e z2 ⟨g, rfl, hI, hb2⟩
      rw [insL_one] at hI
      have H2 : Hid (Cd.BrIn z2 z1.heap.size (some ⟨g, 0, none⟩) 1 (fun _ => Cd.kb [P.k1]) ∧ Below z1.heap.size z1 z2 ∧ DocT z2 v8.heap.size tb gi (P.pt, P.n) (outsC P s 1) va1 vc1 A1 I1 ∧ FrB v8.heap.size [tb] v8 z2) := ⟨hI, hb2, H1.out.2.2.1.below hb2, H1.out.2.2.2.trans (FrB.ofBelow hb2 H1.out.2.2.1.lt.2.2.2)⟩
      clear hI hb2
      refine hK.out _ _ (fun _ => HS.out z2 H2.out.2.2.2 H2.out.2.2.1.ft) (fun hq => ?_)
      have hq := hq (by decide)
      clear hK K
      try simp only [Act.put, zA, zB, zC]
      refine wpAnyK_take (by kernel_rfl) (i := 10) (oi := ⟨some 69, .build 124 #[(0, .tmp 63), (1, .tmp 68)], 124, _, _, none⟩) (v := .agg #[.int .i64 (s.b), .slice (some ⟨g, 0, none⟩) 1 1]) rfl (by kernel_rfl) (by kernel_rfl) (by kernel_rfl) (fun _ _ _ h => h) (Or.inl ⟨by rfl, ?_⟩) (by assumption) ?_
      ·intro wz hSw; (try dsimp only at hSw); kernel_rfl
      try simp only [Act.put, zA, zB, zC]
      refine wpAnyK_ready (rs := [11]) (by kernel_rfl) (by simp) ?_
      refine (AllReadyK.cons (o := ⟨some 70, .buildSlice 56 1 #[(0, .tmp 69)], 56, _, _, none⟩) rfl (fun K hK => ?_) AllReadyK.nil)
      refine step_sliceTr rfl (.tmp 69) rfl (s.b) (some ⟨g, 0, none⟩) 1 1 (by rfl) ?_
      intro q3 z3 hq3 hl3 hb3
      have H3 : Hid (z3.heap[q3]? = some (.cells #[.int .i64 (s.b), .slice (some ⟨g, 0, none⟩) 1 1] 124 (0, 0)) ∧ Cd.BrIn z3 z1.heap.size (some ⟨g, 0, none⟩) 1 (fun _ => Cd.kb [P.k1]) ∧ DocT z3 v8.heap.size tb gi (P.pt, P.n) (outsC P s 1) va1 vc1 A1 I1 ∧ FrB v8.heap.size [tb] v8 z3) := ⟨hq3, brIn_below H2.out.1 hb3, H2.out.2.2.1.below hb3, H2.out.2.2.2.trans (FrB.ofBelow hb3 H2.out.2.2.1.lt.2.2.2)⟩
      clear hq3 hl3 hb3
      refine hK.out _ _ (fun _ => HS.out z3 H3.out.2.2.2 H3.out.2.2.1.ft) (fun hq => ?_)
      have hq := hq (by decide)
      clear hK K
      try simp only [Act.put, zA, zB, zC]
      refine wpAnyK_ready (rs := [12]) (by kernel_rfl) (by simp) ?_
      refine (AllReadyK.cons (o := ⟨some 71, .call { callee := Go.Callee.builtin Go.Builtin.append, args := #[.tmp 60, .tmp 70], argTypes := #[56, 56] }, 56, _, _, none⟩) rfl (fun K hK => ?_) AllReadyK.nil)
      refine step_append_D rfl (.tmp 60) (.tmp 70) rfl v8.heap.size q3 (.slice va1 (outsC P s 1).length vc1) (outsC P s 1).length (flatL (oL (outsC P s 1) A1) (outsC P s 1).length) (s.b) (some ⟨g, 0, none⟩) 1 1 (by rfl) (by rfl) H3.out.2.2.1.outs H3.out.2.2.1.lt.2.2.2 H3.out.1 (by have := outsC_len P s 1; omega) ?_
      intro va' vc' z4 hown hgrow hloc
      have HO := H3.out.2.2.1.outs.lt
      have hl3 := H3.out.2.2.1.lt
      have hft : z4.heap[tb]? = some (.cells #[.int .i64 0, .slice (some ⟨gi, 0, none⟩) 1 1, .slice va1 (outsC P s 1).length vc1] 58 (0, 0)) := by rw [hgrow.block tb (by omega) (fun e => by have := (HO tb e.symm).1; omega)]; exact H3.out.2.2.1.ft
      have hF4 : FrB v8.heap.size [tb] v8 z4 := H3.out.2.2.2.trans (FrB.grown hgrow hl3.2.2.2 (fun g e => (HO g e).1))
      have hS4 := HS.out z4 hF4 hft
      have s4 : z4.cell? ⟨tb, 2, none⟩ = some (.slice va1 (outsC P s 1).length vc1) := hS4.1
      have f4 : z4.frozen? ⟨tb, 2, none⟩ = false := frozen_of_row z4 tb 2 _ _ hft
      have HP : Hid (DocT (z4.setCell ⟨tb, 2, none⟩ (.slice va' ((outsC P s 1).length + 1) vc')) v8.heap.size tb gi (P.pt, P.n) (outsC P s 1 ++ [⟨s.b, 1, fun _ => Cd.kb [P.k1]⟩]) va' vc' (fun j => if j = (outsC P s 1).length then (some ⟨g, 0, none⟩, 1) else A1 j) (fun j => if j = (outsC P s 1).length then (z1.heap.size, z3.heap.size) else I1 j)) :=
       H3.out.2.2.1.push hown hgrow hloc H3.out.2.1 H1.out.2.2.1.lt.2.2.2 (Nat.le_refl _) (fun g e => (H1.out.2.2.1.outs.lt g e).2) (by simp)
      have HF4 : Hid (FrB v8.heap.size [tb] v8 (z4.setCell ⟨tb, 2, none⟩ (.slice va' ((outsC P s 1).length + 1) vc'))) := hF4.setCell _ _ (by simp)
      clear hown hgrow hloc HO hl3 hft hF4
      refine hK.out _ _ (fun _ => hS4) (fun hq => ?_)
      have hq := hq (by decide)
      clear hK K hS4
      try simp only [Act.put, zA, zB, zC]
      refine wpAnyK_take (by kernel_rfl) (i := 13) (oi := ⟨some 72, .fieldAddr 58 (.tmp 7) 2, 0, _, _, none⟩) (v := ?_) rfl (by kernel_rfl) (by kernel_rfl) (by kernel_rfl) (fun _ _ _ h => h) (Or.inl ⟨by rfl, ?_⟩) (by assumption) ?_
      rotate_left
      ·intro wz hSw; (try dsimp only at hSw); go_simp; (try with_reducible rfl)
      try simp only [Act.put, zA, zB, zC]
      refine wpAnyK_ready (rs := [14]) (by kernel_rfl) (by simp) ?_
      refine (AllReadyK.cons (o := ⟨none, .store 56 (.tmp 72) (.tmp 71), 0, _, _, none⟩) rfl (fun K hK => ?_) AllReadyK.nil)
      go_simp
      refine hK.out _ _ (fun e => absurd rfl e) (fun _ => ?_)
      clear hK K
      try simp only [Act.put]
      refine wpAnyK_done (by kernel_rfl) (NoPanic.normal ?_) _
      try simp only [Act.put, zA, zB, zC]
      clear hHeld s4 f4
      go_wp2
      go_meet
      case rel =>
       rw [show outsC P s (1 + 1) = outsC P s 1 ++ [⟨s.b, 1, fun _ => Cd.kb [P.k1]⟩] from HOY.out]
       exact ⟨va', vc', _, _, HP.out, HF4.out⟩
     ·have HOY := hidV (outsC_no (P := P) (s := s) (i := 1) h10)
      go_wp2
      go_meet
      case rel =>
       rw [show outsC P s (1 + 1) = outsC P s 1 from HOY.out]
       exact ⟨va1, vc1, A1, I1, HD1.out, HF1.out⟩
    obtain ⟨va2, vc2, A2, I2, hD2, hF2⟩ := hcut
    have HD2 := hidV hD2
    have HF2 := hidV hF2
    clear hD2 hF2 HD1 HF1
    generalize wc = y2 at *
    have HRT := hidV (txl_range HD2.out.ft)
    have HSM := hidV (outsC_oF P s 2)
    have HML := hidV (outsC_len P s 2)
    generalize hos : outsC P s 2 = os at *
    have HOS := hidV hos
    clear hos
    have HW := hidV (HR.out y2 HF2.out).2.2
    have HTI := hidV (HD2.out.tin HH.out.2.2)
    have HTO := hidV HD2.out.tout
    clear HF2 HR hwr hw0 hw1 HIB HC
    go_wp2_with (first | (refine wpList_load_mid rfl 58 _ rfl tb 0 rfl (txl 0 (some ⟨gi, 0, none⟩) 1 1 va2 os.length vc2) _ HRT.out Tryz.underlying58 rfl szTxR ?_) | fail)
    refine (rdone_anyX 0 (some ⟨gi, 0, none⟩) 1 1 va2 os.length vc2 (tF (fun _ => (P.pt, P.n))) (fun _ => (none, 0)) (oF os) y2 HTI.out HTO.out (fun j hj => (HSM.out j hj).big) (by decide) (by have := HML.out; omega)).mono ?_
    rintro e y3 ⟨rfl, hb3⟩
    have hr3 := heap_below hb3 HW.out.1
    have HW3 : Hid (Below w.heap.size w y3 ∧ DocT y3 v8.heap.size tb gi (P.pt, P.n) os va2 vc2 A2 I2) := ⟨Below.transS HW.out.2 hb3, HD2.out.below hb3⟩
    have HE2 : Hid (clsE P s = txE 0 1 (tF (fun _ => (P.pt, P.n))) os.length (oF os)) := HE
    clear hb3 HTI HTO HRT HD2
    generalize hec : txE 0 1 (tF (fun _ => (P.pt, P.n))) os.length (oF os) = ec at *
    clear hec
    by_cases hf : ec = 0
    ·subst hf
     have e1 : DoneR 0 (some ⟨gi, 0, none⟩) 1 1 va2 os.length vc2 0 = .tuple #[.agg #[.int .i64 0, .slice (some ⟨gi, 0, none⟩) 1 1, .slice va2 os.length vc2], .int .i64 0] := rfl
     rw [e1]
     clear e1
     go_wp2_with (first | (refine wpList_storeG 58 szTxR rfl _ _ rfl rb rfl #[.int .i64 0, .slice (some ⟨gi, 0, none⟩) 1 1, .slice va2 os.length vc2] #[.int .i64 0, .slice none 0 0, .slice none 0 0] rfl rfl (by kernel_rfl) 58 rfl hr3 ?_; intro y4 hg4 hf4) | fail)
     have hD4 := HW3.out.2.frm hf4 (by have := HB8.out; have := HQ.out; omega) (by have := HB8.out; have := HQ.out; omega) (by have := HB8.out; have := HQ.out; omega)
     refine bodyPost_ret (results_T2R Tryz.results24 _ y4 rb 58 _ _ _ (0, 0) rfl hg4) rfl ⟨fun h => absurd HE2.out h, fun _ => ⟨some ⟨gi, 0, none⟩, 1, va2, vc2, ?_, hD4.tin HH.out.2.2, ?_⟩, ?_⟩
     ·rw [HOS.out]; rfl
     ·rw [HOS.out]; exact hD4.tout
     ·exact HW3.out.1.trans (hf4.below HW3.out.1.size (by have := HX.out.1.size; have := HQ.out; simp; omega))
    ·have e1 : DoneR 0 (some ⟨gi, 0, none⟩) 1 1 va2 os.length vc2 ec = .tuple #[.agg #[.int .i64 0, .slice none 0 0, .slice none 0 0], .int .i64 ec] := if_neg hf
     rw [e1]
     clear e1
     go_wp2_with (first | (refine wpList_storeG 58 szTxR rfl _ _ rfl rb rfl #[.int .i64 0, .slice none 0 0, .slice none 0 0] #[.int .i64 0, .slice none 0 0, .slice none 0 0] rfl rfl (by kernel_rfl) 58 rfl hr3 ?_; intro y4 hg4 hf4) | fail)
     refine bodyPost_ret (results_T2R Tryz.results24 _ y4 rb 58 _ _ _ (0, 0) rfl hg4) rfl ⟨fun _ => by rw [HE2.out]; rfl, fun h => absurd h (by rw [HE2.out]; exact hf), ?_⟩
     exact HW3.out.1.trans (hf4.below HW3.out.1.size (by have := HX.out.1.size; have := HQ.out; simp; omega))
 ·have HE : Hid (clsE P s = bchkE P s ∧ clsE P s ≠ 0) := ⟨by unfold clsE; exact if_pos h0, by unfold clsE; rw [if_pos h0]; exact h0⟩
  have e1 : (bchkE P s == 0) = false := by simpa using h0
  clear h0
  generalize bchkE P s = ec at *
  go_wp2_with (first | (refine wpList_storeG 58 szTxR rfl _ _ rfl rb rfl #[.int .i64 0, .slice none 0 0, .slice none 0 0] #[.int .i64 0, .slice none 0 0, .slice none 0 0] rfl rfl (by kernel_rfl) 58 rfl hr5 ?_; intro v6 hg6 hf6) | fail)
  refine bodyPost_ret (results_T2R Tryz.results24 _ v6 rb 58 _ _ _ (0, 0) rfl hg6) rfl ⟨fun _ => by rw [HE.out.1]; rfl, fun h => absurd h HE.out.2, ?_⟩
  exact (Below.transS HX.out.1 HB5.out).trans (hf6.below (by have := HX.out.1.size; have := HB5.out.size; omega) (by have := HQ.out; simp; omega))
end Go.Proofs.YtjnepkggdkccaaaGreatDoor
