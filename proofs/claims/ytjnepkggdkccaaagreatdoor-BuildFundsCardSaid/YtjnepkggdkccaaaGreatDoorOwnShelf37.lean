/- The document's done of any transaction, whatever its keys are. -/
import Derived.Test.YtjnepkggdkccaaaGreatDoorOwnShelf35
import Derived.Test.YtjnepkggdkccaaaGreatDoorOwnShelf36
import Derived.Test.YtjnepkggdkccaaaGreatDoorOwnShelf22
namespace Go.Proofs.YtjnepkggdkccaaaGreatDoor
open Go.RowKit

set_option maxRecDepth 100000 in
set_option maxHeartbeats 3200000 in
theorem rdone_anyX (lk : Int) (ia : Option Addr) (n ic : Nat) (oa : Option Addr) (m oc : Nat) (X : Nat → Ti) (S : Nat → Option Addr × Nat) (O : Nat → To) (w : World) (h : TiAt w ia n X S) (ho : ToAt w oa m O) (hs : ∀ i, i < m → (O i).Big) (hn : n ≤ 1000000) (hm : m ≤ 1000000) :
  Calls Tryz.prog 30 #[.agg (txv lk ia n ic oa m oc)] w fun e w' => e = .returned (DoneR lk ia n ic oa m oc (txE lk n X m O)) ∧ Below w.heap.size w w' := by
 have HH : Hid (TiAt w ia n X S ∧ ToAt w oa m O ∧ ∀ i, i < m → (O i).Big) := ⟨h, ho, hs⟩
 clear h ho hs
 unfold txv
 go_enter Tryz.func30, Tryz.ntmps30
 go_upto_region 1 with (first | (refine wpList_boxN rfl _ _ rfl #[.int .i64 lk, .slice ia n ic, .slice oa m oc] rfl ?_; intro v1 N1) | (refine wpList_allocN 58 #[.int .i64 0, .slice none 0 0, .slice none 0 0] run_allocTxR rfl rfl ?_; intro v2 N2) | fail)
 have HB2 := hidV (Below.transS N1.below N2.below)
 have HQ : Hid (w.heap.size < v1.heap.size ∧ v1.heap.size < v2.heap.size) := ⟨by have := N1.size; omega, by have := N2.size; omega⟩
 have HX : Hid (v2.heap[v1.heap.size]? = some (.cells #[.int .i64 0, .slice none 0 0, .slice none 0 0] 58 (0, 0)) ∧ v2.heap[w.heap.size]? = some (.cells #[.int .i64 lk, .slice ia n ic, .slice oa m oc] 58 (0, 0))) := ⟨N2.blk, N2.old N1.blk⟩
 clear N1 N2
 have HR2 := hidV (txl_range HX.out.2)
 go_wp2_with (first | (refine wpList_load_mid rfl 58 _ rfl w.heap.size 0 rfl (txl lk ia n ic oa m oc) _ HR2.out Tryz.underlying58 rfl szTxR ?_) | fail)
 refine (rkcheck_anyX lk ia n ic oa m oc X S O v2 (HH.out.1.below HB2.out) (HH.out.2.1.below HB2.out) HH.out.2.2 hn hm).mono ?_
 rintro e v3 ⟨rfl, hb3⟩
 have HR3 := hidV (txl_range (heap_below hb3 HX.out.2))
 have hr3 := heap_below hb3 HX.out.1
 have HB3 := hidV (And.intro (Below.transS HB2.out hb3) (show v1.heap.size < v3.heap.size by have := HQ.out; have := hb3.size; omega))
 clear hb3 HR2
 generalize hE0 : txE lk n X m O = E at *
 have HE := hidV hE0
 clear hE0
 by_cases hE : E = 0
 ·subst hE
  go_wp2_with (first | (refine wpList_load_mid rfl 58 _ rfl w.heap.size 0 rfl (txl lk ia n ic oa m oc) _ HR3.out Tryz.underlying58 rfl szTxR ?_) | (refine wpList_storeG 58 szTxR rfl _ _ rfl v1.heap.size rfl #[.int .i64 lk, .slice ia n ic, .slice oa m oc] #[.int .i64 0, .slice none 0 0, .slice none 0 0] rfl rfl (by kernel_rfl) 58 rfl hr3 ?_; intro v4 hg4 hf4) | fail)
  refine bodyPost_ret (results_T2R Tryz.results30 _ v4 v1.heap.size 58 _ _ _ (0, 0) rfl hg4) rfl ⟨?_, HB3.out.1.trans (hf4.below HB3.out.1.size (by have := HQ.out; simp; omega))⟩
  rw [HE.out]
  simp [DoneR, txv]
 ·have e1 : (E == 0) = false := by simpa using hE
  go_wp2_with (first | (refine wpList_storeG 58 szTxR rfl _ _ rfl v1.heap.size rfl #[.int .i64 0, .slice none 0 0, .slice none 0 0] #[.int .i64 0, .slice none 0 0, .slice none 0 0] rfl rfl (by kernel_rfl) 58 rfl hr3 ?_; intro v4 hg4 hf4) | fail)
  refine bodyPost_ret (results_T2R Tryz.results30 _ v4 v1.heap.size 58 _ _ _ (0, 0) rfl hg4) rfl ⟨?_, HB3.out.1.trans (hf4.below HB3.out.1.size (by have := HQ.out; simp; omega))⟩
  rw [HE.out]
  simp [DoneR, hE]
end Go.Proofs.YtjnepkggdkccaaaGreatDoor
/- build.Close. -/
namespace Go.Proofs.YtjnepkggdkccaaaGreatDoor
open Go.RowKit

/-- A side's output of a close. -/
def clsO (P : Pm) (s : Sv) (i : Nat) : To := ⟨leftF P s i, 1, fun _ => Cd.kb [keyS P i]⟩
/-- The outputs of the first i sides. -/
def outsC (P : Pm) (s : Sv) : Nat → List To
 | 0 => []
 | i + 1 => outsC P s i ++ ifL (leftF P s i) (clsO P s i)
theorem outsC_len (P : Pm) (s : Sv) : ∀ i, (outsC P s i).length ≤ i
 | 0 => by simp [outsC]
 | i + 1 => by
  have h1 := outsC_len P s i
  have h2 := ifL_len (leftF P s i) (clsO P s i)
  simp only [outsC, List.length_append]
  omega
theorem outsC_yes {P : Pm} {s : Sv} {i : Nat} (h : 10 ≤ leftF P s i) : outsC P s (i + 1) = outsC P s i ++ [clsO P s i] := by simp [outsC, ifL, h]
theorem outsC_no {P : Pm} {s : Sv} {i : Nat} (h : ¬ 10 ≤ leftF P s i) : outsC P s (i + 1) = outsC P s i := by simp [outsC, ifL, h]
theorem outsC_small (P : Pm) (s : Sv) : ∀ i, ∀ x ∈ outsC P s i, x.Small
 | 0, x, h => by simp [outsC] at h
 | i + 1, x, h => by
  simp only [outsC, List.mem_append] at h
  rcases h with h | h
  ·exact outsC_small P s i x h
  ·simp only [ifL] at h
   split at h
   ·obtain rfl := by simpa using h
    exact ⟨by simp [clsO], fun i hi => by simp [clsO, Cd.kb]⟩
   ·simp at h
theorem outsC_oF (P : Pm) (s : Sv) (i : Nat) : ∀ j, j < (outsC P s i).length → (oF (outsC P s i) j).Small := by
 intro j hj
 refine outsC_small P s i _ ?_
 simp only [oF, List.getD_eq_getElem?_getD, List.getElem?_eq_getElem hj, Option.getD_some]
 exact List.getElem_mem hj
/-- The outputs laid so far. -/
structure ClsR (w : World) (B : Nat) (os : List To) (va : Option Addr) (vc : Nat) (A : Nat → Option Addr × Nat) (I : Nat → Nat × Nat) : Prop where
 outs : w.ownsRow B 95 2 (.slice va os.length vc) os.length (flatL (oL os A) os.length)
 cond : ∀ j, j < os.length → ∀ w' : World, (∀ k, (I j).1 ≤ k → k < (I j).2 → w'.heap[k]? = w.heap[k]?) → Cd.BrAt w' (A j).1 (os.getD j default).cn (os.getD j default).X
 int : ∀ j, j < os.length → B ≤ (I j).1 ∧ (I j).2 ≤ w.heap.size ∧ (A j).1 ≠ none
 apO : ∀ j, j < os.length → ∀ g, (Value.slice va os.length vc).ownBlock = some g → g < (I j).1 ∨ (I j).2 ≤ g
 low : B ≤ w.heap.size
theorem ClsR.nil {w : World} {B : Nat} (hB : B ≤ w.heap.size) : ClsR w B [] none 0 (fun _ => (none, 0)) (fun _ => (0, 0)) :=
 ⟨World.ownsRow_nil _ _ _ _, fun j hj => by simp at hj, fun j hj => by simp at hj, fun j hj => by simp at hj, hB⟩
theorem ClsR.below {w w1 : World} {B : Nat} {os : List To} {va : Option Addr} {vc : Nat} {A : Nat → Option Addr × Nat} {I : Nat → Nat × Nat} (h : ClsR w B os va vc A I) (hb : Below w.heap.size w w1) : ClsR w1 B os va vc A I := by
 have hs := hb.size
 refine ⟨own_below h.outs hb, fun j hj w' hw => h.cond j hj w' (fun k h1 h2 => ?_), fun j hj => ⟨(h.int j hj).1, by have := (h.int j hj).2.1; omega, (h.int j hj).2.2⟩, h.apO, by have := h.low; omega⟩
 rw [hw k h1 h2]
 exact hb.block k (by have := (h.int j hj).2.1; omega)
/-- One more output. -/
theorem ClsR.push {w w1 : World} {B : Nat} {os : List To} {va : Option Addr} {vc : Nat} {A : Nat → Option Addr × Nat} {I : Nat → Nat × Nat} (h : ClsR w B os va vc A I) {x : To} {ca va' : Option Addr} {cc vc' lo hi : Nat}
  (hown : w1.ownsRow B 95 2 (.slice va' (os.length + 1) vc') (os.length + 1) (flatL (oL os A) os.length ++ tol x ca cc)) (hg : w.grownBy w1 (Value.slice va os.length vc).ownBlock) (hloc : (Value.slice va' (os.length + 1) vc').ownBlock = (Value.slice va os.length vc).ownBlock ∨ (Value.slice va' (os.length + 1) vc').ownBlock = some w.heap.size)
  (hc : ∀ w' : World, (∀ k, lo ≤ k → k < hi → w'.heap[k]? = w.heap[k]?) → Cd.BrAt w' ca x.cn x.X) (hlo : B ≤ lo) (hhi : hi ≤ w.heap.size) (hva : ∀ g, (Value.slice va os.length vc).ownBlock = some g → g < lo) (hca : ca ≠ none) :
  ClsR w1 B (os ++ [x]) va' vc' (fun j => if j = os.length then (ca, cc) else A j) (fun j => if j = os.length then (lo, hi) else I j) := by
 have hlt := h.outs.lt
 have hl := h.low
 have kept : ∀ k, k < w.heap.size → (∀ g, (Value.slice va os.length vc).ownBlock = some g → k ≠ g) → w1.heap[k]? = w.heap[k]? := fun k hk ho => hg.block k hk (fun e => ho k e.symm rfl)
 have hnew : ∀ g, (Value.slice va' (os.length + 1) vc').ownBlock = some g → (Value.slice va os.length vc).ownBlock = some g ∨ g = w.heap.size := fun g e => by
  rcases hloc with h1 | h1
  ·exact .inl (h1 ▸ e)
  ·rw [h1] at e; exact .inr (by simpa using e.symm)
 have hll : (os ++ [x]).length = os.length + 1 := by simp
 refine ⟨?_, fun j hj w' hw => ?_, fun j hj => ?_, fun j hj g e => ?_, by have := hg.size; omega⟩
 ·rw [oL_push, hll]
  exact hown
 ·rw [hll] at hj
  by_cases ej : j = os.length
  ·subst ej
   simp only [if_true] at hw ⊢
   have : (os ++ [x]).getD os.length default = x := by simp
   rw [this]
   exact hc w' (fun k h1 h2 => by rw [hw k h1 h2]; exact kept k (by omega) (fun g e => by have := hva g e; omega))
  ·have hj' : j < os.length := by omega
   simp only [if_neg ej] at hw ⊢
   have : (os ++ [x]).getD j default = os.getD j default := by simp only [List.getD_eq_getElem?_getD, List.getElem?_append_left hj']
   rw [this]
   have hI := h.int j hj'
   exact h.cond j hj' w' (fun k h1 h2 => by rw [hw k h1 h2]; exact kept k (by omega) (fun g e => by have := h.apO j hj' g e; omega))
 ·rw [hll] at hj
  have := hg.size
  by_cases ej : j = os.length
  ·simp only [if_pos ej]; exact ⟨hlo, by omega, hca⟩
  ·simp only [if_neg ej]
   have hI := h.int j (by omega)
   exact ⟨hI.1, by omega, hI.2.2⟩
 ·rw [hll] at hj e
  by_cases ej : j = os.length
  ·simp only [if_pos ej]
   rcases hnew g e with h1 | h1
   ·have := hva g h1; omega
   ·omega
  ·simp only [if_neg ej]
   have hI := h.int j (by omega)
   rcases hnew g e with h1 | h1
   ·exact h.apO j (by omega) g h1
   ·omega
theorem build_to (am : Int) (ca : Option Addr) (n cc : Nat) (w : World) : (Instr.build 95 #[(0, .int .i64 am), (1, .agg #[.slice ca n cc])]).run Tryz.prog w = .ok (.agg #[.int .i64 am, .slice ca n cc]) w := by kernel_rfl
theorem two_range {w : World} {g : Nat} {P : Pm} (h : w.rangeAt g 0 (pml P)) : w.rangeAt g 34 [.int .i64 P.k0, .int .i64 P.k1] := by
 have hb := pmBox h
 intro j v hv
 match j, hv with
 | 0, hv => obtain rfl := Option.some.inj hv; simpa using hb.k0
 | 1, hv => obtain rfl := Option.some.inj hv; simpa using hb.k1
theorem szTwo (a b : Int) : (Tryz.prog.info? 26).map (·.size) = some [Value.int .i64 a, .int .i64 b].length := by
 show _ = some 2
 kernel_rfl
theorem index_two0 (a b : Int) (w : World) : (Instr.index 26 (.agg #[.int .i64 a, .int .i64 b]) (.int .i64 0)).run Tryz.prog w = .ok (.int .i64 a) w := by kernel_rfl
theorem index_two1 (a b : Int) (w : World) : (Instr.index 26 (.agg #[.int .i64 a, .int .i64 b]) (.int .i64 1)).run Tryz.prog w = .ok (.int .i64 b) w := by kernel_rfl
section
variable {ops : Array Oper} {rest : List Oper} {o : Oper} {a : Act} {w : World} {Q : Exit → Act → World → Prop}
theorem wpList_buildTo (am : Int) (ca : Option Addr) (n cc : Nat) (hgd : o.guard = none) (x y : Operand) (ho : o.op = .build 95 #[(0, x), (1, y)]) (hx : a.eval x = .int .i64 am) (hy : a.eval y = .agg #[.slice ca n cc])
  (h : wpList Tryz.prog ops Q rest (a.put o.dst (.agg #[.int .i64 am, .slice ca n cc])) w) : wpList Tryz.prog ops Q (o :: rest) a w := by
 refine wpList_plain hgd fun K hK => ?_
 unfold Oper.wp execOp
 simp only [ho, List.map_toArray, List.map_cons, List.map_nil, hx, hy, Sem.run_bind, build_to, Result.andThen]
 exact hK _ _ h
theorem wpList_indexTwo (p q d r : Int) (hgd : o.guard = none) (x y : Operand) (ho : o.op = .index 26 x y) (hx : a.eval x = .agg #[.int .i64 p, .int .i64 q]) (hy : a.eval y = .int .i64 d) (hd : (d = 0 ∧ r = p) ∨ (d = 1 ∧ r = q))
  (h : wpList Tryz.prog ops Q rest (a.put o.dst (.int .i64 r)) w) : wpList Tryz.prog ops Q (o :: rest) a w := by
 refine wpList_plain hgd fun K hK => ?_
 unfold Oper.wp execOp
 rcases hd with ⟨rfl, rfl⟩ | ⟨rfl, rfl⟩
 ·simp only [ho, hx, hy, Sem.run_bind, index_two0, Result.andThen]
  exact hK _ _ h
 ·simp only [ho, hx, hy, Sem.run_bind, index_two1, Result.andThen]
  exact hK _ _ h
theorem wpList_sliceTo (hgd : o.guard = none) (x : Operand) (ho : o.op = .buildSlice 48 1 #[(0, x)]) (am : Int) (ca : Option Addr) (n cc : Nat) (hx : a.eval x = .agg #[.int .i64 am, .slice ca n cc])
  (h : ∀ w1, New w w1 #[.int .i64 am, .slice ca n cc] 95 → wpList Tryz.prog ops Q rest (a.put o.dst (.slice (some ⟨w.heap.size, 0, none⟩) 1 1)) w1) : wpList Tryz.prog ops Q (o :: rest) a w := by
 refine wpList_plain hgd fun K hK => ?_
 unfold Oper.wp execOp
 simp only [ho, List.map_toArray, List.map_cons, List.map_nil, hx, Sem.run_bind, slice_to, Result.andThen]
 exact hK _ _ (h _ (new_alloc w _ _))
theorem wpList_append_To (hgd : o.guard = none) (s x : Operand) (ho : o.op = .call { callee := .builtin .append, args := #[s, x], argTypes := #[48, 48] }) (B q : Nat) (v : Value) (i : Nat) (xs : List Value) (am : Int) (ca : Option Addr) (n cc : Nat) (hs : a.eval s = v) (hx : a.eval x = .slice (some ⟨q, 0, none⟩) 1 1) (hown : w.ownsRow B 95 2 v i xs) (hB : B ≤ w.heap.size) (hq : w.heap[q]? = some (.cells #[.int .i64 am, .slice ca n cc] 95 (0, 0))) (hi : i ≤ 1000000)
  (h : ∀ va vc w1, w1.ownsRow B 95 2 (.slice va (i + 1) vc) (i + 1) (xs ++ [.int .i64 am, .slice ca n cc]) → w.grownBy w1 v.ownBlock → ((Value.slice va (i + 1) vc).ownBlock = v.ownBlock ∨ (Value.slice va (i + 1) vc).ownBlock = some w.heap.size) → wpList Tryz.prog ops Q rest (a.put o.dst (.slice va (i + 1) vc)) w1) : wpList Tryz.prog ops Q (o :: rest) a w := by
 obtain ⟨va, vc, w1, hr, h1, h2, h3⟩ := run_append_To w B q o.type v i xs am ca n cc hown hB hq hi
 refine wpList_plain hgd fun K hK => ?_
 unfold Oper.wp execOp
 simp only [ho, resolve, invoke, builtin, Sem.run_bind, Sem.run_pure, Result.andThen_ok, List.map_toArray, List.map_cons, List.map_nil, hs, hx, hr]
 exact hK _ _ (h _ _ _ h1 h2 h3)
end
/-- Close's error. -/
def clsE (P : Pm) (s : Sv) : Int := if bchkE P s ≠ 0 then bchkE P s else if 0 < s.pn ∨ 0 < s.hn then 31 else finE 1 (fun _ => (P.pt, P.n)) (outsC P s 2) 0
structure ClsP (P : Pm) (s : Sv) (w : World) (e : Ending) (w' : World) : Prop where
 bad : clsE P s ≠ 0 → e = .returned (.tuple #[zeroTx, errV (clsE P s)])
 ok : clsE P s = 0 → ∃ ia ic oa oc, e = .returned (.tuple #[.agg (txv 0 ia 1 ic oa (outsC P s 2).length oc), .nilIface]) ∧ TxR w' ia ic 1 (fun _ => (P.pt, P.n)) oa oc (outsC P s 2)
 below : Below w.heap.size w w'
theorem bchk0 {P : Pm} {s : Sv} (h0 : bchkE P s = 0) : SOk s ∧ PmOk P ∧ KeyOk P := by
 unfold bchkE at h0
 by_cases h1 : SOk s ∧ PmOk P
 ·rw [if_neg (by simpa using h1)] at h0
  by_cases h2 : KeyOk P
  ·exact ⟨h1.1, h1.2, h2⟩
  ·rw [if_pos h2] at h0; simp at h0
 ·rw [if_pos h1] at h0; simp at h0
set_option maxRecDepth 100000 in
set_option maxHeartbeats 6400000 in
theorem close_any (P : Pm) (s : Sv) (p : Pl) (w : World) (h : SvAt w s p) (hs : s.Small) (hpt : Hb P.pt) :
  Calls Tryz.prog 23 #[.agg (pmv P), .agg (svv s p)] w (ClsP P s w) := by
 have HH : Hid (SvAt w s p ∧ s.Small ∧ Hb P.pt) := ⟨h, hs, hpt⟩
 clear h hs hpt
 go_enter Tryz.func23, Tryz.ntmps23
 go_upto_region 1 with (first | (refine wpList_boxN rfl _ _ rfl (pmv P) rfl ?_; intro v1 N1) | (refine wpList_boxN rfl _ _ rfl (svv s p) rfl ?_; intro v2 N2) | (refine wpList_allocN 50 #[.int .i64 0, .slice none 0 0, .slice none 0 0] run_allocTx rfl rfl ?_; intro v4 N4) | fail)
 have HQ : Hid (w.heap.size < v1.heap.size ∧ v1.heap.size < v2.heap.size ∧ v2.heap.size < v4.heap.size) := ⟨by have := N1.size; omega, by have := N2.size; omega, by have := N4.size; omega⟩
 have HX : Hid (Below w.heap.size w v4 ∧ v4.heap[v2.heap.size]? = some (.cells #[.int .i64 0, .slice none 0 0, .slice none 0 0] 50 (0, 0)) ∧ (∀ w' : World, Below v4.heap.size v4 w' → w'.rangeAt w.heap.size 0 (pml P) ∧ w'.rangeAt v1.heap.size 0 (svv s p).toList)) :=
  ⟨Below.transS N1.below (Below.transS N2.below N4.below), N4.blk, fun w' hb => ⟨pml_range (heap_below hb (N4.old (N2.old N1.blk))), sv_range (heap_below hb (N4.old N2.blk))⟩⟩
 clear N1 N2 N4
 have HP4 := hidV (HX.out.2.2 v4 (Below.refl _ _)).1
 have HS4 := hidV (HX.out.2.2 v4 (Below.refl _ _)).2
 go_wp2_with (first | (refine wpList_load_mid rfl 40 _ rfl w.heap.size 0 rfl (pml P) _ HP4.out Tryz.underlying40 rfl (szPml P) ?_) | (refine wpList_load_mid rfl 45 _ rfl v1.heap.size 0 rfl (svv s p).toList _ HS4.out Tryz.underlying45 rfl szS ?_) | fail)
 refine (bcheck_any P s p v4 (HH.out.1.below HX.out.1) HH.out.2.1).mono ?_
 rintro e v5 ⟨rfl, hb5⟩
 have HB5 := hidV hb5
 clear hb5 HP4 HS4
 by_cases h0 : bchkE P s = 0
 ·rw [h0, berrV_0]
  have HS5 := hidV (HX.out.2.2 v5 HB5.out).2
  have c3 : v5.cell? ⟨v1.heap.size, 3, none⟩ = some (.slice p.pa s.pn p.pc) := HS5.out 3 _ rfl
  have c4 : v5.cell? ⟨v1.heap.size, 4, none⟩ = some (.slice p.ha s.hn p.hc) := HS5.out 4 _ rfl
  have hr5 := heap_below HB5.out HX.out.2.1
  by_cases hp : 0 < s.pn
  ·have HE : Hid (clsE P s = 31) := by unfold clsE; rw [if_neg (by simpa using h0), if_pos (.inl hp)]; exact rfl
   have hp' : (0 : Int) < s.pn := by omega
   clear h0 hp
   go_wp2_with (first | (refine wpList_storeG 50 szTx rfl _ _ rfl v2.heap.size rfl #[.int .i64 0, .slice none 0 0, .slice none 0 0] #[.int .i64 0, .slice none 0 0, .slice none 0 0] rfl rfl (by kernel_rfl) 50 rfl hr5 ?_; intro v6 hg6 hf6) | fail)
   refine bodyPost_ret (results_T2 Tryz.results23 _ v6 v2.heap.size 50 _ _ _ (0, 0) rfl hg6) rfl ⟨fun _ => by rw [HE.out]; rfl, fun h => absurd h (by rw [HE.out]; decide), ?_⟩
   exact (Below.transS HX.out.1 HB5.out).trans (hf6.below (by have := HX.out.1.size; have := HB5.out.size; omega) (by have := HQ.out; simp; omega))
  ·by_cases hh : 0 < s.hn
   ·have HE : Hid (clsE P s = 31) := by unfold clsE; rw [if_neg (by simpa using h0), if_pos (.inr hh)]; exact rfl
    have hp' : ¬ (0 : Int) < s.pn := by omega
    have hh' : (0 : Int) < s.hn := by omega
    clear h0 hp hh
    go_wp2_with (first | (refine wpList_storeG 50 szTx rfl _ _ rfl v2.heap.size rfl #[.int .i64 0, .slice none 0 0, .slice none 0 0] #[.int .i64 0, .slice none 0 0, .slice none 0 0] rfl rfl (by kernel_rfl) 50 rfl hr5 ?_; intro v6 hg6 hf6) | fail)
    refine bodyPost_ret (results_T2 Tryz.results23 _ v6 v2.heap.size 50 _ _ _ (0, 0) rfl hg6) rfl ⟨fun _ => by rw [HE.out]; rfl, fun h => absurd h (by rw [HE.out]; decide), ?_⟩
    exact (Below.transS HX.out.1 HB5.out).trans (hf6.below (by have := HX.out.1.size; have := HB5.out.size; omega) (by have := HQ.out; simp; omega))
   ·have HE : Hid (clsE P s = finE 1 (fun _ => (P.pt, P.n)) (outsC P s 2) 0) := by unfold clsE; rw [if_neg (by simpa using h0), if_neg (by omega)]; exact rfl
    have hp' : ¬ (0 : Int) < s.pn := by omega
    have hh' : ¬ (0 : Int) < s.hn := by omega
    have HC := hidV (bchk0 h0)
    have HK2 := hidV (two_range (HX.out.2.2 v5 HB5.out).1)
    have HL : Hid ((0 ≤ s.a ∧ s.a ≤ 1125899906842624) ∧ (0 ≤ P.fe ∧ P.fe ≤ 1125899906842624)) := ⟨(bchk0 h0).1.1.2.1, (bchk0 h0).2.1.2⟩
    clear h0 hp hh hr5
    go_wp2_with (first | (refine wpList_load_mid rfl 26 _ rfl w.heap.size 34 rfl [.int .i64 P.k0, .int .i64 P.k1] _ HK2.out Tryz.underlying26 rfl (szTwo _ _) ?_) | fail)
    clear c3 c4 hp' hh' HK2 HS5
    go_loopw [7, 8, 9, 10, 32] (fun ov _ _ _ iv wr => ∃ (i : Nat) (va : Option Addr) (vc : Nat) (A : Nat → Option Addr × Nat) (I : Nat → Nat × Nat), i ≤ 2 ∧ iv = .int .i64 i ∧ ov = .slice va (outsC P s i).length vc ∧ ClsR wr v5.heap.size (outsC P s i) va vc A I ∧ Below v5.heap.size v5 wr) (fun _ _ _ _ iv _ => 3 - (intOf iv).toNat)
    case atStart => exact ⟨0, none, 0, _, _, by omega, rfl, rfl, ClsR.nil (Nat.le_refl _), Below.refl _ _⟩
    case round =>
     obtain ⟨i, va, vc, A, I, hi, rfl, rfl, hR, hb⟩ := hrel
     have HR := hidV (And.intro hR hb)
     clear hR hb
     obtain rfl | rfl | rfl : i = 0 ∨ i = 1 ∨ i = 2 := by omega
     ·have HS := hidV (HX.out.2.2 wr (Below.transS HB5.out HR.out.2))
      have HPr := hidV HS.out.1
      have HSr := hidV HS.out.2
      clear HS
      go_wp2_with (first | (refine wpList_indexTwo P.k0 P.k1 0 P.k0 rfl _ _ rfl rfl rfl (by simp) ?_) | (refine wpList_load_mid rfl 40 _ rfl w.heap.size 0 rfl (pml P) _ HPr.out Tryz.underlying40 rfl (szPml P) ?_) | (refine wpList_load_mid rfl 45 _ rfl v1.heap.size 0 rfl (svv s p).toList _ HSr.out Tryz.underlying45 rfl szS ?_) | fail)
      refine (left_any P s p 0 wr (by decide) HL.out).mono ?_
      rintro e u1 ⟨rfl, hb1⟩
      have H1 : Hid (ClsR u1 v5.heap.size (outsC P s 0) va vc A I ∧ Below v5.heap.size v5 u1) := ⟨HR.out.1.below hb1, Below.transS HR.out.2 hb1⟩
      clear hb1 HR HPr HSr
      by_cases ha : 10 ≤ leftF P s 0
      ·have HA := hidV ha
       have HOY : Hid (outsC P s (0 + 1) = outsC P s 0 ++ [⟨leftF P s 0, 1, fun _ => Cd.kb [P.k0]⟩]) := hidV (outsC_yes (P := P) (s := s) (i := 0) ha)
       generalize leftF P s 0 = am at *
       go_wp2_with (first | (refine wpList_kSliceN rfl _ rfl P.k0 rfl ?_; intro u2 N2) | fail)
       refine (Cd.all_in (some ⟨u1.heap.size, 0, none⟩) 1 1 (fun _ => P.k0) u2 (keyAt N2.blk) (fun _ _ => by have := HC.out.2.2; unfold KeyOk at this; unfold Cd.Ib; omega) (by decide)).mono ?_
       rintro e u3 ⟨g, rfl, hI, hb3⟩
       rw [insL_one] at hI
       have H3 : Hid (ClsR u3 v5.heap.size (outsC P s 0) va vc A I ∧ Below v5.heap.size v5 u3 ∧ Cd.BrIn u3 u2.heap.size (some ⟨g, 0, none⟩) 1 (fun _ => Cd.kb [P.k0]) ∧ u1.heap.size < u2.heap.size) := ⟨(H1.out.1.below N2.below).below hb3, Below.transS (Below.transS H1.out.2 N2.below) hb3, hI, by have := N2.size; omega⟩
       have HV2 : Hid ((∀ q, (Value.slice va (outsC P s 0).length vc).ownBlock = some q → q < u2.heap.size) ∧ v5.heap.size ≤ u2.heap.size) := ⟨fun q e => by have := (H1.out.1.outs.lt q e).2; have := N2.size; omega, by have := H1.out.1.low; have := N2.size; omega⟩
       clear N2 hI hb3 H1
       go_wp2_with (first | (refine wpList_buildTo am (some ⟨g, 0, none⟩) 1 1 rfl _ _ rfl rfl rfl ?_) | (refine wpList_sliceTo rfl _ rfl am (some ⟨g, 0, none⟩) 1 1 rfl ?_; intro u4 N4; have H4 : Hid (ClsR u4 v5.heap.size (outsC P s 0) va vc A I ∧ u4.heap[u3.heap.size]? = some (.cells #[.int .i64 am, .slice (some ⟨g, 0, none⟩) 1 1] 95 (0, 0)) ∧ Below v5.heap.size v5 u4 ∧ Cd.BrIn u4 u2.heap.size (some ⟨g, 0, none⟩) 1 (fun _ => Cd.kb [P.k0])) := ⟨H3.out.1.below N4.below, N4.blk, Below.transS H3.out.2.1 N4.below, brIn_below H3.out.2.2.1 N4.below⟩; clear N4) | (at_builtin; refine wpList_append_To rfl _ _ rfl v5.heap.size u3.heap.size (.slice va (outsC P s 0).length vc) (outsC P s 0).length (flatL (oL (outsC P s 0) A) (outsC P s 0).length) am (some ⟨g, 0, none⟩) 1 1 rfl rfl H4.out.1.outs H4.out.1.low H4.out.2.1 (by have := outsC_len P s 0; omega) ?_; intro va' vc' u5 hown hgrow hloc; have H5 : Hid (ClsR u5 v5.heap.size (outsC P s 0 ++ [⟨am, 1, fun _ => Cd.kb [P.k0]⟩]) va' vc' (fun j => if j = (outsC P s 0).length then (some ⟨g, 0, none⟩, 1) else A j) (fun j => if j = (outsC P s 0).length then (u2.heap.size, u4.heap.size) else I j) ∧ Below v5.heap.size v5 u5) := ⟨H4.out.1.push hown hgrow hloc H4.out.2.2.2 HV2.out.2 (Nat.le_refl _) HV2.out.1 (by simp), H4.out.2.2.1.trans ((FrB.grown (B := v5.heap.size) (S := []) hgrow H4.out.1.low (fun q e => (H4.out.1.outs.lt q e).1)).below (Nat.le_refl _) (by simp))⟩; clear hown hgrow hloc) | fail)
       go_roundw
       case rel =>
        refine ⟨0 + 1, va', vc', (fun j => if j = (outsC P s 0).length then (some ⟨g, 0, none⟩, 1) else A j), (fun j => if j = (outsC P s 0).length then (u2.heap.size, u4.heap.size) else I j), by omega, by go_num, ?_, ?_, H5.out.2⟩
        ·rw [HOY.out]; simp
        ·rw [HOY.out]; exact H5.out.1
       case measure => simp [intOf]
      ·have HOY := hidV (outsC_no (P := P) (s := s) (i := 0) ha)
       generalize leftF P s 0 = am at *
       go_wp2
       go_roundw
       case rel => exact ⟨0 + 1, va, vc, A, I, by omega, by go_num, by rw [HOY.out], by rw [HOY.out]; exact H1.out.1, H1.out.2⟩
       case measure => simp [intOf]
     ·have HS := hidV (HX.out.2.2 wr (Below.transS HB5.out HR.out.2))
      have HPr := hidV HS.out.1
      have HSr := hidV HS.out.2
      clear HS
      go_wp2_with (first | (refine wpList_indexTwo P.k0 P.k1 1 P.k1 rfl _ _ rfl rfl rfl (by simp) ?_) | (refine wpList_load_mid rfl 40 _ rfl w.heap.size 0 rfl (pml P) _ HPr.out Tryz.underlying40 rfl (szPml P) ?_) | (refine wpList_load_mid rfl 45 _ rfl v1.heap.size 0 rfl (svv s p).toList _ HSr.out Tryz.underlying45 rfl szS ?_) | fail)
      refine (left_any P s p 1 wr (by decide) HL.out).mono ?_
      rintro e u1 ⟨rfl, hb1⟩
      have H1 : Hid (ClsR u1 v5.heap.size (outsC P s 1) va vc A I ∧ Below v5.heap.size v5 u1) := ⟨HR.out.1.below hb1, Below.transS HR.out.2 hb1⟩
      clear hb1 HR HPr HSr
      by_cases ha : 10 ≤ leftF P s 1
      ·have HA := hidV ha
       have HOY : Hid (outsC P s (1 + 1) = outsC P s 1 ++ [⟨leftF P s 1, 1, fun _ => Cd.kb [P.k1]⟩]) := hidV (outsC_yes (P := P) (s := s) (i := 1) ha)
       generalize leftF P s 1 = am at *
       go_wp2_with (first | (refine wpList_kSliceN rfl _ rfl P.k1 rfl ?_; intro u2 N2) | fail)
       refine (Cd.all_in (some ⟨u1.heap.size, 0, none⟩) 1 1 (fun _ => P.k1) u2 (keyAt N2.blk) (fun _ _ => by have := HC.out.2.2; unfold KeyOk at this; unfold Cd.Ib; omega) (by decide)).mono ?_
       rintro e u3 ⟨g, rfl, hI, hb3⟩
       rw [insL_one] at hI
       have H3 : Hid (ClsR u3 v5.heap.size (outsC P s 1) va vc A I ∧ Below v5.heap.size v5 u3 ∧ Cd.BrIn u3 u2.heap.size (some ⟨g, 0, none⟩) 1 (fun _ => Cd.kb [P.k1]) ∧ u1.heap.size < u2.heap.size) := ⟨(H1.out.1.below N2.below).below hb3, Below.transS (Below.transS H1.out.2 N2.below) hb3, hI, by have := N2.size; omega⟩
       have HV2 : Hid ((∀ q, (Value.slice va (outsC P s 1).length vc).ownBlock = some q → q < u2.heap.size) ∧ v5.heap.size ≤ u2.heap.size) := ⟨fun q e => by have := (H1.out.1.outs.lt q e).2; have := N2.size; omega, by have := H1.out.1.low; have := N2.size; omega⟩
       clear N2 hI hb3 H1
       go_wp2_with (first | (refine wpList_buildTo am (some ⟨g, 0, none⟩) 1 1 rfl _ _ rfl rfl rfl ?_) | (refine wpList_sliceTo rfl _ rfl am (some ⟨g, 0, none⟩) 1 1 rfl ?_; intro u4 N4; have H4 : Hid (ClsR u4 v5.heap.size (outsC P s 1) va vc A I ∧ u4.heap[u3.heap.size]? = some (.cells #[.int .i64 am, .slice (some ⟨g, 0, none⟩) 1 1] 95 (0, 0)) ∧ Below v5.heap.size v5 u4 ∧ Cd.BrIn u4 u2.heap.size (some ⟨g, 0, none⟩) 1 (fun _ => Cd.kb [P.k1])) := ⟨H3.out.1.below N4.below, N4.blk, Below.transS H3.out.2.1 N4.below, brIn_below H3.out.2.2.1 N4.below⟩; clear N4) | (at_builtin; refine wpList_append_To rfl _ _ rfl v5.heap.size u3.heap.size (.slice va (outsC P s 1).length vc) (outsC P s 1).length (flatL (oL (outsC P s 1) A) (outsC P s 1).length) am (some ⟨g, 0, none⟩) 1 1 rfl rfl H4.out.1.outs H4.out.1.low H4.out.2.1 (by have := outsC_len P s 1; omega) ?_; intro va' vc' u5 hown hgrow hloc; have H5 : Hid (ClsR u5 v5.heap.size (outsC P s 1 ++ [⟨am, 1, fun _ => Cd.kb [P.k1]⟩]) va' vc' (fun j => if j = (outsC P s 1).length then (some ⟨g, 0, none⟩, 1) else A j) (fun j => if j = (outsC P s 1).length then (u2.heap.size, u4.heap.size) else I j) ∧ Below v5.heap.size v5 u5) := ⟨H4.out.1.push hown hgrow hloc H4.out.2.2.2 HV2.out.2 (Nat.le_refl _) HV2.out.1 (by simp), H4.out.2.2.1.trans ((FrB.grown (B := v5.heap.size) (S := []) hgrow H4.out.1.low (fun q e => (H4.out.1.outs.lt q e).1)).below (Nat.le_refl _) (by simp))⟩; clear hown hgrow hloc) | fail)
       go_roundw
       case rel =>
        refine ⟨1 + 1, va', vc', (fun j => if j = (outsC P s 1).length then (some ⟨g, 0, none⟩, 1) else A j), (fun j => if j = (outsC P s 1).length then (u2.heap.size, u4.heap.size) else I j), by omega, by go_num, ?_, ?_, H5.out.2⟩
        ·rw [HOY.out]; simp
        ·rw [HOY.out]; exact H5.out.1
       case measure => simp [intOf]
      ·have HOY := hidV (outsC_no (P := P) (s := s) (i := 1) ha)
       generalize leftF P s 1 = am at *
       go_wp2
       go_roundw
       case rel => exact ⟨1 + 1, va, vc, A, I, by omega, by go_num, by rw [HOY.out], by rw [HOY.out]; exact H1.out.1, H1.out.2⟩
       case measure => simp [intOf]
     ·have HPT := hidV (pm_pt (HX.out.2.2 wr (Below.transS HB5.out HR.out.2)).1)
      have HMI := hidV (outsC_oF P s 2)
      have HML := hidV (outsC_len P s 2)
      generalize hos : outsC P s 2 = os at *
      have HOS := hidV hos
      clear hos
      go_wp2_with (first | (refine wpList_load_mid rfl 38 _ rfl w.heap.size 0 rfl (ptl P.pt P.n) _ HPT.out Tryz.underlying38 rfl (szPtl _ _) ?_) | (refine wpList_slicePt (P.pt, P.n) rfl _ rfl rfl ?_; intro v7 N7) | fail)
      refine (spend_any (some ⟨wr.heap.size, 0, none⟩) 1 1 (fun _ => (P.pt, P.n)) v7 (ptAt_new N7) (by decide)).mono ?_
      rintro e v8 ⟨⟨ia, ic, rfl, hi8⟩, hb8⟩
      have H68 : Hid (Below wr.heap.size wr v8 ∧ wr.heap.size < v7.heap.size) := ⟨Below.transS N7.below hb8, by have := N7.size; omega⟩
      have HFR : Hid (FinR v8 v5.heap.size ia ic 1 (fun _ => (P.pt, P.n)) va vc os A) := by
       have hs6 := HR.out.2.size
       refine ⟨own_low hi8 (by have := H68.out.2; omega), own_below HR.out.1.outs H68.out.1, fun j hj w' hw => HR.out.1.cond j hj w' (fun k h1 h2 => ?_), fun j hj e => absurd e (HR.out.1.int j hj).2.2, by have := H68.out.1.size; omega⟩
       have h3 := HR.out.1.int j hj
       rw [hw k (by have := H68.out.1.size; omega) (fun e => by have := (hi8.lt k e.symm).1; have := H68.out.2; omega) (fun e => by have := HR.out.1.apO j hj k e.symm; omega)]
       exact H68.out.1.block k (by omega)
      have HB8 : Hid (Below w.heap.size w v8 ∧ v8.heap[v2.heap.size]? = some (.cells #[.int .i64 0, .slice none 0 0, .slice none 0 0] 50 (0, 0)) ∧ w.heap.size ≤ v5.heap.size ∧ v2.heap.size < v5.heap.size) := by
       have h45 := Below.transS HX.out.1 HB5.out
       have h48 := Below.transS (Below.transS HB5.out HR.out.2) H68.out.1
       exact ⟨Below.transS HX.out.1 h48, heap_below h48 HX.out.2.1, h45.size, by have := HQ.out; have := HB5.out.size; omega⟩
      clear hi8 hb8 N7 HPT
      have HZP : Hid (∀ i, i < 1 → Hb ((fun _ => (P.pt, P.n) : Nat → (Nat → Int) × Int) i).1) := fun i _ => HH.out.2.2
      go_wp2_with fail
      by_cases hf : finE 1 (fun _ => (P.pt, P.n)) os 0 = 0
      ·refine (finish_ok 0 v5.heap.size ia ic 1 (fun _ => (P.pt, P.n)) va vc os A v8 HFR.out HZP.out HMI.out (by decide) (by have := HML.out; omega) hf).mono ?_
       rintro e v9 ⟨rfl, ht9, hb9⟩
       have HT9 := hidV (And.intro ht9 hb9)
       have hr9 : v9.heap[v2.heap.size]? = some (.cells #[.int .i64 0, .slice none 0 0, .slice none 0 0] 50 (0, 0)) := by rw [hb9.block _ HB8.out.2.2.2]; exact HB8.out.2.1
       have HE0 : Hid (clsE P s = 0) := by show _ = _; rw [HE.out]; exact hf
       clear ht9 hb9 hf
       unfold txv
       go_wp2_with (first | (refine wpList_storeG 50 szTx rfl _ _ rfl v2.heap.size rfl #[.int .i64 0, .slice ia 1 ic, .slice va os.length vc] #[.int .i64 0, .slice none 0 0, .slice none 0 0] rfl rfl (by kernel_rfl) 50 rfl hr9 ?_; intro v10 hg10 hf10) | fail)
       refine bodyPost_ret (results_T2 Tryz.results23 _ v10 v2.heap.size 50 _ _ _ (0, 0) rfl hg10) rfl ⟨fun h => absurd HE0.out h, fun _ => ⟨ia, ic, va, vc, ?_, ?_⟩, ?_⟩
       ·rw [HOS.out]; rfl
       ·rw [HOS.out]
        exact HT9.out.1 v10 (fun k h1 h2 => hf10.block k h2 (by have := HB8.out; simp; omega))
       ·exact (HB8.out.1.trans (HT9.out.2.mono HB8.out.2.2.1)).trans (hf10.below (by have := HB8.out.1.size; have := HT9.out.2.size; omega) (by have := HQ.out; simp; omega))
      ·refine (finish_bad 0 v5.heap.size ia ic 1 (fun _ => (P.pt, P.n)) va vc os A v8 HFR.out HZP.out HMI.out (by decide) (by have := HML.out; omega) hf).mono ?_
       rintro e v9 ⟨rfl, hb9⟩
       have hr9 := heap_below hb9 HB8.out.2.1
       have HB9 := hidV hb9
       have HE0 : Hid (clsE P s = finE 1 (fun _ => (P.pt, P.n)) os 0 ∧ clsE P s ≠ 0) := ⟨HE.out, by rw [HE.out]; exact hf⟩
       clear hb9 hf
       generalize finE 1 (fun _ => (P.pt, P.n)) os 0 = ec at *
       go_wp2_with (first | (refine wpList_storeG 50 szTx rfl _ _ rfl v2.heap.size rfl #[.int .i64 0, .slice none 0 0, .slice none 0 0] #[.int .i64 0, .slice none 0 0, .slice none 0 0] rfl rfl (by kernel_rfl) 50 rfl hr9 ?_; intro v10 hg10 hf10) | fail)
       refine bodyPost_ret (results_T2 Tryz.results23 _ v10 v2.heap.size 50 _ _ _ (0, 0) rfl hg10) rfl ⟨fun _ => by rw [HE0.out.1]; rfl, fun h => absurd h HE0.out.2, ?_⟩
       exact (Below.transS HB8.out.1 HB9.out).trans (hf10.below (by have := HB8.out.1.size; have := HB9.out.size; omega) (by have := HQ.out; simp; omega))
 ·have HE : Hid (clsE P s = bchkE P s ∧ clsE P s ≠ 0) := ⟨by unfold clsE; exact if_pos h0, by unfold clsE; rw [if_pos h0]; exact h0⟩
  have e1 := errV_ne h0
  have HV := hidV e1
  have hr5 := heap_below HB5.out HX.out.2.1
  rw [e1]
  clear e1 h0
  go_wp2_with (first | (refine wpList_storeG 50 szTx rfl _ _ rfl v2.heap.size rfl #[.int .i64 0, .slice none 0 0, .slice none 0 0] #[.int .i64 0, .slice none 0 0, .slice none 0 0] rfl rfl (by kernel_rfl) 50 rfl hr5 ?_; intro v6 hg6 hf6) | fail)
  refine bodyPost_ret (results_T2 Tryz.results23 _ v6 v2.heap.size 50 _ _ _ (0, 0) rfl hg6) rfl ⟨fun _ => by rw [HE.out.1, HV.out]; rfl, fun h => absurd h HE.out.2, ?_⟩
  exact (Below.transS HX.out.1 HB5.out).trans (hf6.below (by have := HX.out.1.size; have := HB5.out.size; omega) (by have := HQ.out; simp; omega))
end Go.Proofs.YtjnepkggdkccaaaGreatDoor
