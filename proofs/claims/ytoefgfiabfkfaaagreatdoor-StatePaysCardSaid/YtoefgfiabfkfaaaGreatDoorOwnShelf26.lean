/- state.Add. -/
import Derived.Test.YtoefgfiabfkfaaaGreatDoorOwnShelf24
import Derived.Test.YtoefgfiabfkfaaaGreatDoorOwnShelf22
import Derived.Test.YtoefgfiabfkfaaaGreatDoorOwnShelf25
namespace Go.Proofs.YtoefgfiabfkfaaaGreatDoor
open Go.RowKit

/-- A state's five cells. -/
def svq (s : Sv) (p : Pl) : List Value := [.int .i64 s.nu, .int .i64 s.a, .int .i64 s.b, .slice p.pa s.pn p.pc, .slice p.ha s.hn p.hc]
theorem svq_range {w : World} {g : Nat} {s : Sv} {p : Pl} {t : TypeId} {fr : Nat × Nat} (h : w.heap[g]? = some (.cells (svv s p) t fr)) : w.rangeAt g 0 (svq s p) := fun j v hv => by
 rw [Nat.zero_add, cell_of_row _ _ j _ _ _ h]
 simpa [svv, svq] using hv
theorem pyv_range {w : World} {g : Nat} {y : Py} {t : TypeId} {fr : Nat × Nat} (h : w.heap[g]? = some (.cells (pyv y) t fr)) : w.rangeAt g 0 (pyl y) := fun j v hv => by
 rw [Nat.zero_add, cell_of_row _ _ j _ _ _ h]
 simpa [pyv] using hv
theorem run_allocS (w : World) : (Instr.alloc 37 true (.tuple #[])).run Tryz.prog w = .ok (.pointer (some ⟨w.heap.size, 0, none⟩)) (w.alloc (.cells #[.int .i64 0, .int .i64 0, .int .i64 0, .slice none 0 0, .slice none 0 0] 37)) := by kernel_rfl
section
variable {ops : Array Oper} {rest : List Oper} {o : Oper} {a : Act} {w : World} {K : Act → World → Prop} {Q : Exit → Act → World → Prop} {E : Prop}
/-- A variable of a state, made in whatever world. -/
theorem step_allocS (hgd : o.guard = none) (ho : o.op = .alloc 37)
  (h : ∀ p w', w'.heap[p]? = some (.cells #[.int .i64 0, .int .i64 0, .int .i64 0, .slice none 0 0, .slice none 0 0] 37 (0, 0)) → w.heap.size ≤ p → Below w.heap.size w w' → K (a.put o.dst (.pointer (some ⟨p, 0, none⟩))) w') : if Region.wanted o (yielded ops a.tmps) = true then Oper.wp Tryz.prog o a w K Q else E := by
 have hw : Region.wanted o (yielded ops a.tmps) = true := by simp [Region.wanted, hgd]
 rw [if_pos hw]
 unfold Oper.wp execOp
 simp only [ho, Sem.run_bind, run_allocS, Result.andThen]
 exact h _ _ (heap_alloc_new w _) (Nat.le_refl _) ((Below.refl _ w).alloc (Nat.le_refl _) _)
/-- A row of one payment, made in whatever world. -/
theorem step_sliceQ (hgd : o.guard = none) (x : Operand) (ho : o.op = .buildSlice 34 1 #[(0, x)]) (v : Py) (hx : a.eval x = .agg (pyv v))
  (h : ∀ q w', w'.heap[q]? = some (.cells (pyv v) 43 (0, 0)) → w.heap.size ≤ q → Below w.heap.size w w' → K (a.put o.dst (.slice (some ⟨q, 0, none⟩) 1 1)) w') : if Region.wanted o (yielded ops a.tmps) = true then Oper.wp Tryz.prog o a w K Q else E :=
 step_sliceP hgd x ho v hx (h _ _ (heap_alloc_new w _) (Nat.le_refl _) ((Below.refl _ w).alloc (Nat.le_refl _) _))
theorem wpList_sliceQ (hgd : o.guard = none) (x : Operand) (ho : o.op = .buildSlice 34 1 #[(0, x)]) (v : Py) (hx : a.eval x = .agg (pyv v))
  (h : ∀ q w', w'.heap[q]? = some (.cells (pyv v) 43 (0, 0)) → w.heap.size ≤ q → Below w.heap.size w w' → wpList Tryz.prog ops Q rest (a.put o.dst (.slice (some ⟨q, 0, none⟩) 1 1)) w') : wpList Tryz.prog ops Q (o :: rest) a w := by
 refine wpList_plain hgd fun K hK => ?_
 unfold Oper.wp execOp
 simp only [ho, List.map_toArray, List.map_cons, List.map_nil, hx, Sem.run_bind, slice_p, Result.andThen]
 exact hK _ _ (h _ _ (heap_alloc_new w _) (Nat.le_refl _) ((Below.refl _ w).alloc (Nat.le_refl _) _))
/-- A whole state stored into a variable. -/
theorem step_storeS (hgd : o.guard = none) (x y : Operand) (ho : o.op = .store 37 x y) (g : Nat) (hx : a.eval x = .pointer (some ⟨g, 0, none⟩)) (u0 u1 u2 : Int) (pa : Option Addr) (pn pc : Nat) (ha : Option Addr) (hn hc : Nat) (hy : a.eval y = .agg #[.int .i64 u0, .int .i64 u1, .int .i64 u2, .slice pa pn pc, .slice ha hn hc]) (hg : w.heap[g]? = some (.cells #[.int .i64 0, .int .i64 0, .int .i64 0, .slice none 0 0, .slice none 0 0] 37 (0, 0)))
  (h : ∀ w', w'.heap[g]? = some (.cells #[.int .i64 u0, .int .i64 u1, .int .i64 u2, .slice pa pn pc, .slice ha hn hc] 37 (0, 0)) → Frm [g] w w' → K (a.put o.dst undef) w') : if Region.wanted o (yielded ops a.tmps) = true then Oper.wp Tryz.prog o a w K Q else E := by
 have hw : Region.wanted o (yielded ops a.tmps) = true := by simp [Region.wanted, hgd]
 rw [if_pos hw]
 refine wp_store_mid 37 x y ho g 0 #[.int .i64 u0, .int .i64 u1, .int .i64 u2, .slice pa pn pc, .slice ha hn hc] hx hy ?_ szS (by simp [Value.oneCell']) (h _ ?_ (setCells_frm g _ 0 w))
 ·intro j hj
  have hj5 : j < 5 := by simpa using hj
  exact ⟨by rw [cell_of_row w g _ _ _ _ hg, Array.getElem?_eq_getElem (by simpa using hj5)]; rfl, frozen_of_row w g _ _ _ hg⟩
 ·exact five_all hg
end
/-- A row lies in another block than a state. -/
theorem own_neS {w : World} {B T k n b : Nat} {v : Value} {xs : List Value} {c : Array Value} {fr : Nat × Nat} (h : w.ownsRow B T k v n xs) (hb : w.heap[b]? = some (.cells c 37 fr)) (hT : T ≠ 37) : v.ownBlock ≠ some b := by
 intro e
 rcases h.2 with ⟨rfl, _⟩ | ⟨g, cap, cur, rfl, _, hg, _⟩
 ·cases e
 ·have e1 : g = b := by simpa [Value.ownBlock] using e
  subst e1
  rw [hg] at hb
  simp at hb
  exact hT hb.2.1
theorem SvOw.off {B b : Nat} {w w' : World} {s : Sv} {p : Pl} {A : Nat → Option Addr × Nat} {c : Array Value} {fr : Nat × Nat} (h : SvOw B w s p A) (hb : w.heap[b]? = some (.cells c 37 fr)) (hk : ∀ k, k ≠ b → w'.heap[k]? = w.heap[k]?) : SvOw B w' s p A :=
 ⟨h.lk, own_keep h.py (fun g e => hk g (fun e2 => own_neS h.py hb (by decide) (by rw [e, e2]))), own_keep h.hd (fun g e => hk g (fun e2 => own_neS h.hd hb (by decide) (by rw [e, e2]))), fun i hi => own_keep (h.ks i hi) (fun g e => hk g (fun e2 => own_neS (h.ks i hi) hb (by decide) (by rw [e, e2])))⟩
/-- Payments with one more. -/
def insY (P : Nat → Py) (i : Nat) (y : Py) : Nat → Py := fun j => if j < i then P j else if j = i then y else P (j - 1)
theorem insY_pf (P : Nat → Py) (i : Nat) (y : Py) : pf (insY P i y) = insF (pf P) i (pyl y) := by
 funext j
 simp only [pf, insY, insF]
 by_cases h : j < i
 ·simp [h]
 ·by_cases h2 : j = i <;> simp [h, h2]
/-- A state with one payment more. -/
def addY (s : Sv) (i : Nat) (y : Py) : Sv := { s with pn := s.pn + 1, P := insY s.P i y }
theorem SvOw.push {B : Nat} {w w' : World} {s : Sv} {p : Pl} {A : Nat → Option Addr × Nat} {i : Nat} {y : Py} {va : Option Addr} {vc : Nat} (h : SvOw B w s p A) (hy : Zb y.lk) (hi : i ≤ s.pn) (hrow : w'.ownsRow B 43 36 (.slice va (s.pn + 1) vc) (s.pn + 1) (flatL (insF (pf s.P) i (pyl y)) (s.pn + 1))) (hg : w.grownBy w' (Value.slice p.pa s.pn p.pc).ownBlock) : SvOw B w' (addY s i y) ⟨va, vc, p.ha, p.hc⟩ A := by
 refine ⟨fun j hj => ?_, ?_, grown_keepV h.py h.hd (by decide) hg, fun j hj => grown_keepV h.py (h.ks j hj) (by decide) hg⟩
 ·have hj' : j < s.pn + 1 := hj
  show Zb (insY s.P i y j).lk
  unfold insY
  split
  ·exact h.lk j (by omega)
  ·split
   ·exact hy
   ·exact h.lk _ (by omega)
 ·show w'.ownsRow B 43 36 (.slice va (s.pn + 1) vc) (s.pn + 1) (flatL (pf (insY s.P i y)) (s.pn + 1))
  rw [insY_pf]
  exact hrow
theorem three_boxes (w : World) (s : Sv) (p : Pl) (y : Py) : ∃ W0, W0 = ((w.alloc (.cells (svv s p) 37)).alloc (.cells (pyv y) 43)).alloc (.cells #[.int .i64 0, .int .i64 0, .int .i64 0, .slice none 0 0, .slice none 0 0] 37) ∧ W0.heap[w.heap.size]? = some (.cells (svv s p) 37 (0, 0)) ∧ W0.heap[w.heap.size + 1]? = some (.cells (pyv y) 43 (0, 0)) ∧ W0.heap[w.heap.size + 2]? = some (.cells #[.int .i64 0, .int .i64 0, .int .i64 0, .slice none 0 0, .slice none 0 0] 37 (0, 0)) ∧ W0.heap.size = w.heap.size + 3 ∧ Below w.heap.size w W0 := by
 refine ⟨_, rfl, ?_, ?_, ?_, by simp, (three_new w _ _ _).2⟩
 ·rw [Below.heap_alloc _ _ _ (by simp; omega), Below.heap_alloc _ _ _ (by simp)]; exact heap_alloc_new w _
 ·rw [Below.heap_alloc _ _ _ (by simp)]
  have := heap_alloc_new (w.alloc (.cells (svv s p) 37)) (.cells (pyv y) 43)
  simpa using this
 ·have := heap_alloc_new ((w.alloc (.cells (svv s p) 37)).alloc (.cells (pyv y) 43)) (.cells #[.int .i64 0, .int .i64 0, .int .i64 0, .slice none 0 0, .slice none 0 0] 37)
  have e2 : ((w.alloc (.cells (svv s p) 37)).alloc (.cells (pyv y) 43)).heap.size = w.heap.size + 2 := by simp
  rw [e2] at this
  exact this
theorem one_py {w : World} {q : Nat} {y : Py} (h : w.heap[q]? = some (.cells (pyv y) 43 (0, 0))) (hy : Zb y.lk) : PyAt w (some ⟨q, 0, none⟩) 1 (fun _ => y) := ⟨fun _ _ => hy, fun _ => ⟨q, 0, rfl, fun j hj => by
 obtain rfl : j = 0 := by omega
 exact pyv_range h⟩⟩
/-- Add's error. -/
def addE (s : Sv) (y : Py) (th : Bool) : Int := asideE s y.fr y.am (decide (PsOk (fun _ => y) 1)) th
/-- What Add answers. -/
def AddR (s : Sv) (y : Py) (w : World) (e : Ending) (w' : World) : Prop := ∃ (i : Nat) (th : Bool), FndR (fun j => (s.P j).id) s.pn y.id i th ∧ ((addE s y th ≠ 0 ∧ e = .returned (.tuple #[.agg #[.int .i64 0, .int .i64 0, .int .i64 0, .slice none 0 0, .slice none 0 0], errV (addE s y th)])) ∨ (addE s y th = 0 ∧ ∃ p' A, e = .returned (.tuple #[.agg (svv (addY (asideS s y.fr y.am) i y) p'), .nilIface]) ∧ SvOw w.heap.size w' (addY (asideS s y.fr y.am) i y) p' A))
theorem asideS_rows (s : Sv) (f n : Int) : (asideS s f n).pn = s.pn ∧ (asideS s f n).P = s.P ∧ (asideS s f n).hn = s.hn ∧ (asideS s f n).H = s.H := by
 unfold asideS
 split <;> exact ⟨rfl, rfl, rfl, rfl⟩
theorem SvOw.offF {B b : Nat} {w w' : World} {s : Sv} {p : Pl} {A : Nat → Option Addr × Nat} {c : Array Value} {fr : Nat × Nat} (h : SvOw B w s p A) (hb : w.heap[b]? = some (.cells c 37 fr)) (hf : Frm [b] w w') : SvOw B w' s p A :=
 ⟨h.lk, own_keep h.py (fun g e => hf.block g (h.py.lt g e).2 (fun e2 => own_neS h.py hb (by decide) (by rw [e, List.mem_singleton.1 e2]))), own_keep h.hd (fun g e => hf.block g (h.hd.lt g e).2 (fun e2 => own_neS h.hd hb (by decide) (by rw [e, List.mem_singleton.1 e2]))), fun i hi => own_keep (h.ks i hi) (fun g e => hf.block g ((h.ks i hi).lt g e).2 (fun e2 => own_neS (h.ks i hi) hb (by decide) (by rw [e, List.mem_singleton.1 e2])))⟩
set_option maxRecDepth 100000 in
set_option maxHeartbeats 6400000 in
theorem add_any (s : Sv) (p : Pl) (y : Py) (w : World) (h : SvAt w s p) (hs : s.Small) (hy : Zb y.lk) :
  Calls Tryz.prog 7 #[.agg (svv s p), .agg (pyv y)] w fun e w' => AddR s y w e w' ∧ Below w.heap.size w w' := by
 obtain ⟨W0, hW0, r0, r1, r2, hsz, hb0⟩ := three_boxes w s p y
 have HB0 : Hid (Below w.heap.size w W0) := hb0
 have HV : Hid (SvAt W0 s p) := h.below hb0
 have HY : Hid (Zb y.lk ∧ s.Small) := ⟨hy, hs⟩
 have HR : Hid (W0.heap[w.heap.size]? = some (.cells (svv s p) 37 (0, 0)) ∧ W0.heap[w.heap.size + 1]? = some (.cells (pyv y) 43 (0, 0)) ∧ W0.heap[w.heap.size + 2]? = some (.cells #[.int .i64 0, .int .i64 0, .int .i64 0, .slice none 0 0, .slice none 0 0] 37 (0, 0)) ∧ W0.heap.size = w.heap.size + 3) := ⟨r0, r1, r2, hsz⟩
 have SR : Hid (∀ u, Below W0.heap.size W0 u → u.rangeAt w.heap.size 0 (svq s p) ∧ u.rangeAt (w.heap.size + 1) 0 (pyl y) ∧ u.cell? ⟨w.heap.size + 1, 1, none⟩ = some (.int .i64 y.fr) ∧ u.cell? ⟨w.heap.size + 1, 2, none⟩ = some (.int .i64 y.am)) := fun u hb => by
  have h1 := range_below (pyv_range r1) hb
  obtain ⟨_, h2, h3, _, _⟩ := py_cells h1
  exact ⟨range_below (svq_range r0) hb, h1, by simpa using h2, by simpa using h3⟩
 have hfi := findP_any p.pa s.pn p.pc s.P y.id W0 HV.out.py (by have := hs.n; omega)
 have k3 : W0.cell? ⟨w.heap.size, 3, none⟩ = some (.slice p.pa s.pn p.pc) := by rw [cell_of_row _ _ 3 _ _ _ r0]; rfl
 have k0 : W0.cell? ⟨w.heap.size + 1, 0, none⟩ = some (.int .i64 y.id) := (pbox_of r1).c0
 clear h hs hy r0 r1 r2 hsz hb0
 subst hW0
 unfold svv at hfi k3 k0 HB0 HV HR SR ⊢
 go_enter Tryz.func7, Tryz.ntmps7
 go_wp2_with (first | (refine Go.Great.wpList_boxTo rfl _ _ rfl _ rfl _ rfl (pyv y) rfl ?_) | fail)
 generalize ((w.alloc (.cells #[.int .i64 s.nu, .int .i64 s.a, .int .i64 s.b, .slice p.pa s.pn p.pc, .slice p.ha s.hn p.hc] 37)).alloc (.cells (pyv y) 43)).alloc (.cells #[.int .i64 0, .int .i64 0, .int .i64 0, .slice none 0 0, .slice none 0 0] 37) = W0 at *
 rw [show w.heap.size + 1 + 1 = w.heap.size + 2 from rfl]
 refine hfi.mono ?_
 rintro e W1 ⟨⟨i, th, rfl, hF⟩, hb⟩
 have HB : Hid (Below W0.heap.size W0 W1.drew) := hb.drew
 have HF : Hid (FndR (fun j => (s.P j).id) s.pn y.id i th) := hF
 clear hfi hF hb k3 k0
 go_wp2_with fail
 have S0 := SR.out W1.drew HB.out
 obtain ⟨can, hcan⟩ : ∃ can, decide (PsOk (fun _ => y) 1) = can := ⟨_, rfl⟩
 have HMW : Hid (∀ q u, PyAt u (some ⟨q, 0, none⟩) 1 (fun _ => y) → Calls Tryz.prog 19 #[.slice (some ⟨q, 0, none⟩) 1 1] u fun e w' => e = .returned (.bool can) ∧ Below u.heap.size u w') := fun q u hq => by
  have := mayWait_any (some ⟨q, 0, none⟩) 1 1 (fun _ => y) u hq (by omega)
  rw [hcan] at this
  exact this
 have HCN : Hid (decide (PsOk (fun _ => y) 1) = can) := hcan
 clear hcan
 by_cases hne : addE s y th = 0
 ·have hsn := HY.out.2.n
  obtain ⟨ns, hns⟩ : ∃ ns, asideS s y.fr y.am = ns := ⟨_, rfl⟩
  have HNS : Hid (asideS s y.fr y.am = ns) := hns
  have HAS : Hid (∀ u, Below W0.heap.size W0 u → Calls Tryz.prog 18 #[.agg (svv s p), .int .i64 y.fr, .int .i64 y.am, .bool can, .bool th] u fun e w' => (∃ p' A, e = .returned (.tuple #[.agg #[.int .i64 ns.nu, .int .i64 ns.a, .int .i64 ns.b, .slice p'.pa ns.pn p'.pc, .slice p'.ha ns.hn p'.hc], .nilIface]) ∧ SvOw u.heap.size w' ns p' A) ∧ Below u.heap.size u w') := fun u hb => by
   have := aside_ok s p y.fr y.am can th u (HV.out.below hb) HY.out.2 (by rw [← HCN.out]; exact hne)
   rw [hns] at this
   exact this
  have HNR : Hid (ns.pn = s.pn ∧ ns.P = s.P ∧ ns.hn = s.hn ∧ ns.H = s.H) := by rw [← hns]; exact asideS_rows s y.fr y.am
  have hpn : ns.pn ≤ 100 := by rw [HNR.out.1]; omega
  have HI : Hid (i ≤ ns.pn) := by rw [HNR.out.1]; exact HF.out.le
  have HNE : Hid (addE s y th = 0) := hne
  clear hns hne hsn
  generalize hWd : W1.drew = Wd at S0 HB
  refine wp_region_noPanic ?_
  refine wp_region_held_drew (S := fun u => u.rangeAt w.heap.size 0 (svq s p) ∧ u.rangeAt (w.heap.size + 1) 0 (pyl y) ∧ u.cell? ⟨w.heap.size + 1, 1, none⟩ = some (.int .i64 y.fr) ∧ u.cell? ⟨w.heap.size + 1, 2, none⟩ = some (.int .i64 y.am)) (by kernel_rfl) (by rw [hWd]; exact S0) (fun hHeld => ?_)
  rw [hWd] at hHeld ⊢
  clear hWd
  clear W1
  generalize Wd = W1 at *
  refine wpAnyH_take (i := 0) (oi := ⟨some 19, .load 37 (.tmp 2), 37, _, _, none⟩) rfl (by kernel_rfl) (by kernel_rfl) (by kernel_rfl) (fun _ _ _ h => h) (yieldsIf_load_mid (by rfl) _ _ rfl w.heap.size 0 rfl (svq s p) _ (fun _ h => h.1) Tryz.underlying37 rfl szS) (by assumption) ?_
  try simp only [Act.put, sqA, sqB, sqC]
  refine wpV 1 ⟨some 20, .fieldAddr 43 (.tmp 3) 1, 0, _, _, none⟩ rfl ?_
  try simp only [Act.put, sqA, sqB, sqC]
  refine wpV 2 ⟨some 21, .load 3 (.tmp 20), 3, _, _, none⟩ rfl ?_
  try simp only [Act.put, sqA, sqB, sqC]
  refine wpV 3 ⟨some 22, .fieldAddr 43 (.tmp 3) 2, 0, _, _, none⟩ rfl ?_
  try simp only [Act.put, sqA, sqB, sqC]
  refine wpV 4 ⟨some 23, .load 3 (.tmp 22), 3, _, _, none⟩ rfl ?_
  try simp only [Act.put, sqA, sqB, sqC]
  refine wpAnyH_take (i := 5) (oi := ⟨some 24, .load 43 (.tmp 3), 43, _, _, none⟩) rfl (by kernel_rfl) (by kernel_rfl) (by kernel_rfl) (fun _ _ _ h => h) (yieldsIf_load_mid (by rfl) _ _ rfl (w.heap.size + 1) 0 rfl (pyl y) _ (fun _ h => h.2.1) Tryz.underlying43 rfl (szPl _)) (by assumption) ?_
  try simp only [Act.put, sqA, sqB, sqC]
  refine wpV 8 ⟨some 27, .move (.tmp 7), 4, _, _, none⟩ rfl ?_
  try simp only [Act.put, sqA, sqB, sqC]
  refine wpAnyH_ready (rs := [6, 13]) (by kernel_rfl) (by simp) ?_
  refine (AllReadyH.cons (o := ⟨some 25, .buildSlice 34 1 #[(0, .tmp 24)], 34, _, _, none⟩) rfl (fun K hK => ?_) (AllReadyH.cons (o := ⟨some 8, .alloc 37, 0, _, _, none⟩) rfl (fun K hK => ?_) AllReadyH.nil))
  ·refine step_sliceQ rfl (.tmp 24) rfl y (by rfl) ?_
   intro qs u1 hq hle hb
   have HB : Hid (Below W0.heap.size W0 u1) := Below.transS HB.out hb
   have HQ : Hid (PyAt u1 (some ⟨qs, 0, none⟩) 1 (fun _ => y)) := one_py hq HY.out.1
   clear hq hle
   clear hb
   refine hK.out _ _ (SR.out u1 HB.out) (fun _ => ?_)
   clear hK K
   try simp only [Act.put, sqA, sqB, sqC]
   refine wpAnyH_ready (rs := [7, 13]) (by kernel_rfl) (by simp) ?_
   refine (AllReadyH.cons (o := ⟨some 26, .call ⟨.value (.func 19), #[.tmp 25], #[34]⟩, 4, _, _, none⟩) rfl (fun K hK => ?_) (AllReadyH.cons (o := ⟨some 8, .alloc 37, 0, _, _, none⟩) rfl (fun K hK => ?_) AllReadyH.nil))
   ·go_simp
    refine (HMW.out qs u1 HQ.out).mono ?_
    rintro e u2 ⟨rfl, hb⟩
    have HB : Hid (Below W0.heap.size W0 u2) := Below.transS HB.out hb
    have HQ : Hid (PyAt u2 (some ⟨qs, 0, none⟩) 1 (fun _ => y)) := HQ.out.below hb
    clear hb
    refine hK.out _ _ (SR.out u2 HB.out) (fun _ => ?_)
    clear hK K
    try simp only [Act.put, sqA, sqB, sqC]
    refine wpAnyH_ready (rs := [9, 13]) (by kernel_rfl) (by simp) ?_
    refine (AllReadyH.cons (o := ⟨some 28, .call ⟨.value (.func 18), #[.tmp 19, .tmp 21, .tmp 23, .tmp 26, .tmp 27], #[37, 3, 3, 4, 4]⟩, 41, _, _, none⟩) rfl (fun K hK => ?_) (AllReadyH.cons (o := ⟨some 8, .alloc 37, 0, _, _, none⟩) rfl (fun K hK => ?_) AllReadyH.nil))
    ·go_simp
     refine (HAS.out u2 HB.out).mono ?_
     rintro e u3 ⟨⟨p', A, rfl, hO⟩, hb⟩
     have HBP : Hid (Below W0.heap.size W0 u2) := HB.out
     have HB : Hid (Below W0.heap.size W0 u3) := Below.transS HB.out hb
     have HQ : Hid (PyAt u3 (some ⟨qs, 0, none⟩) 1 (fun _ => y)) := HQ.out.below hb
     have HO : Hid (SvOw W0.heap.size u3 ns p' A) := hO.low HBP.out.size
     clear hO
     clear hb
     refine hK.out _ _ (SR.out u3 HB.out) (fun _ => ?_)
     clear hK K
     try simp only [Act.put, sqA, sqB, sqC]
     refine wpV 10 ⟨some 18, .move (.tmp 28), 41, _, _, none⟩ rfl ?_
     try simp only [Act.put, sqA, sqB, sqC]
     refine wpV 11 ⟨some 29, .extract (.tmp 18) 0, 37, _, _, none⟩ rfl ?_
     try simp only [Act.put, sqA, sqB, sqC]
     refine wpV 12 ⟨some 30, .extract (.tmp 18) 1, 40, _, _, none⟩ rfl ?_
     try simp only [Act.put, sqA, sqB, sqC]
     refine wpAnyH_ready (rs := [13]) (by kernel_rfl) (by simp) ?_
     refine (AllReadyH.cons (o := ⟨some 8, .alloc 37, 0, _, _, none⟩) rfl (fun K hK => ?_) AllReadyH.nil)
     refine step_allocS rfl rfl ?_
     intro bn u4 hq hle hb
     have HBP : Hid (Below W0.heap.size W0 u3) := HB.out
     have HB : Hid (Below W0.heap.size W0 u4) := Below.transS HB.out hb
     have HQ : Hid (PyAt u4 (some ⟨qs, 0, none⟩) 1 (fun _ => y)) := HQ.out.below hb
     have HO : Hid (SvOw W0.heap.size u4 ns p' A) := HO.out.below hb
     have HN : Hid (u4.heap[bn]? = some (.cells #[.int .i64 0, .int .i64 0, .int .i64 0, .slice none 0 0, .slice none 0 0] 37 (0, 0)) ∧ W0.heap.size ≤ bn) := ⟨hq, by have := HBP.out.size; omega⟩
     clear hq hle
     clear hb
     refine hK.out _ _ (SR.out u4 HB.out) (fun _ => ?_)
     clear hK K
     try simp only [Act.put, sqA, sqB, sqC]
     refine wpAnyH_ready (rs := [14]) (by kernel_rfl) (by simp) ?_
     refine (AllReadyH.cons (o := ⟨none, .store 37 (.tmp 8) (.tmp 29), 0, _, _, none⟩) rfl (fun K hK => ?_) AllReadyH.nil)
     refine step_storeS rfl (.tmp 8) (.tmp 29) rfl bn (by rfl) ns.nu ns.a ns.b p'.pa ns.pn p'.pc p'.ha ns.hn p'.hc (by rfl) HN.out.1 ?_
     intro V hx hfr
     have HB : Hid (Below W0.heap.size W0 V) := HB.out.trans (hfr.below HB.out.size (fun k hk => by rw [List.mem_singleton.1 hk]; exact HN.out.2))
     have HO : Hid (SvOw W0.heap.size V ns p' A) := HO.out.offF HN.out.1 hfr
     have HX : Hid (V.heap[bn]? = some (.cells #[.int .i64 ns.nu, .int .i64 ns.a, .int .i64 ns.b, .slice p'.pa ns.pn p'.pc, .slice p'.ha ns.hn p'.hc] 37 (0, 0)) ∧ W0.heap.size ≤ bn) := ⟨hx, HN.out.2⟩
     clear hx hfr HN
     refine hK.out _ _ (SR.out V HB.out) (fun _ => ?_)
     clear hK K
     try simp only [Act.put]
     refine wpV 15 ⟨some 9, .assign (.tmp 30), 40, _, _, none⟩ rfl ?_
     try simp only [Act.put, sqA, sqB, sqC]
     refine wpAnyH_done (by kernel_rfl) (NoPanic.normal ?_) _
     try simp only [Act.put, sqA, sqB, sqC]
     clear hHeld S0
     obtain ⟨c0, c1, c2, c3, c4, cf⟩ := five_of HX.out.1
     have HRp : Hid (V.rangeAt (w.heap.size + 1) 0 (pyl y)) := (SR.out V HB.out).2.1
     go_wp2_with (first | (refine wpList_load_mid rfl 43 _ rfl (w.heap.size + 1) 0 rfl (pyl y) _ HRp.out Tryz.underlying43 rfl (szPl _) ?_) | (refine wpList_sliceQ rfl _ rfl y rfl ?_; intro q V2 hq hle hb2; have H2 : Hid (V2.heap[q]? = some (.cells (pyv y) 43 (0, 0)) ∧ V.heap.size ≤ q ∧ Below V.heap.size V V2) := ⟨hq, hle, hb2⟩; clear hq hle hb2) | fail)
     have hins := insP_any W0.heap.size p'.pa ns.pn p'.pc i q (pf ns.P) (pyl y) V2 (own_below HO.out.py H2.out.2.2) (Nat.le_trans HB.out.size H2.out.2.2.size) HI.out (pf_len _ _) (pf_one _ _) H2.out.1 (fun e => by have h1 := (HO.out.py.lt _ e).2; have h2 := H2.out.2.1; omega) (pyl_length y) (pyl_one y) (by omega)
     refine hins.mono ?_
     rintro e V3 ⟨va, vc, rfl, hrow, hgr⟩
     have HO3 : Hid (SvOw W0.heap.size V3 (addY ns i y) ⟨va, vc, p'.ha, p'.hc⟩ A) := (HO.out.below H2.out.2.2).push HY.out.1 HI.out hrow hgr
     have hbV2 : Below W0.heap.size W0 V2 := Below.transS HB.out H2.out.2.2
     have hx2 : V2.heap[bn]? = some (.cells #[.int .i64 ns.nu, .int .i64 ns.a, .int .i64 ns.b, .slice p'.pa ns.pn p'.pc, .slice p'.ha ns.hn p'.hc] 37 (0, 0)) := by rw [H2.out.2.2.block _ (lt_of_block HX.out.1)]; exact HX.out.1
     have hr2 : V2.heap[w.heap.size + 2]? = some (.cells #[.int .i64 0, .int .i64 0, .int .i64 0, .slice none 0 0, .slice none 0 0] 37 (0, 0)) := by rw [hbV2.block _ (lt_of_block HR.out.2.2.1)]; exact HR.out.2.2.1
     have hpy2 := own_below HO.out.py H2.out.2.2
     have hx3 : V3.heap[bn]? = some (.cells #[.int .i64 ns.nu, .int .i64 ns.a, .int .i64 ns.b, .slice p'.pa ns.pn p'.pc, .slice p'.ha ns.hn p'.hc] 37 (0, 0)) := by rw [hgr.block bn (lt_of_block hx2) (fun e => own_neS hpy2 hx2 (by decide) e.symm)]; exact hx2
     have hr3 : V3.heap[w.heap.size + 2]? = some (.cells #[.int .i64 0, .int .i64 0, .int .i64 0, .slice none 0 0, .slice none 0 0] 37 (0, 0)) := by rw [hgr.block _ (lt_of_block hr2) (fun e => own_neS hpy2 hr2 (by decide) e.symm)]; exact hr2
     have HB3 : Hid (Below w.heap.size w V3) := grown_below hpy2 hgr (HB0.out.trans (hbV2.mono HB0.out.size)) HB0.out.size
     have HNB : Hid (w.heap.size + 2 ≠ bn ∧ w.heap.size + 3 ≤ bn) := by have h1 := HX.out.2; have h2 := HR.out.2.2.2; exact ⟨by omega, by omega⟩
     have HX3 : Hid (V3.heap[bn]? = some (.cells #[.int .i64 ns.nu, .int .i64 ns.a, .int .i64 ns.b, .slice p'.pa ns.pn p'.pc, .slice p'.ha ns.hn p'.hc] 37 (0, 0)) ∧ V3.heap[w.heap.size + 2]? = some (.cells #[.int .i64 0, .int .i64 0, .int .i64 0, .slice none 0 0, .slice none 0 0] 37 (0, 0))) := ⟨hx3, hr3⟩
     clear c0 c1 c2 c3 c4 cf hins hrow hgr hx2 hr2 hpy2 hbV2 HRp
     obtain ⟨c0, c1, c2, c3, c4, cf⟩ := five_of hx3
     obtain ⟨d0, d1, d2, d3, d4, df⟩ := five_of hr3
     clear hx3 hr3
     have hnb : w.heap.size + 2 < bn := HNB.out.2
     go_wp2
     clear hnb
     have hw2 : (V3.setCell ⟨bn, 3, none⟩ (.slice va (ns.pn + 1) vc)).heap[w.heap.size + 2]? = some (.cells #[.int .i64 0, .int .i64 0, .int .i64 0, .slice none 0 0, .slice none 0 0] 37 (0, 0)) := by rw [Below.heap_setCell _ _ _ _ (by exact HNB.out.1)]; exact HX3.out.2
     refine bodyPost_ret (results_S2 Tryz.results7 _ _ (w.heap.size + 2) 37 _ _ _ _ _ (0, 0) rfl (five_all hw2)) rfl ⟨⟨i, th, HF.out, .inr ⟨HNE.out, ⟨va, vc, p'.ha, p'.hc⟩, A, by rw [HNS.out]; rfl, ?_⟩⟩, five_below (HB3.out.setCell (by have := HNB.out.2; show w.heap.size ≤ bn; omega) _) (by omega)⟩
     rw [HNS.out]
     exact (((HO3.out.off HX3.out.1 (fun k hk => Below.heap_setCell _ _ _ _ (by exact hk))).off hw2 (fun k hk => five_other hk)).low HB0.out.size)
    ·refine step_allocS rfl rfl ?_
     intro bn u5 hq hle hb
     have HBP : Hid (Below W0.heap.size W0 u2) := HB.out
     have HB : Hid (Below W0.heap.size W0 u5) := Below.transS HB.out hb
     have HQ : Hid (PyAt u5 (some ⟨qs, 0, none⟩) 1 (fun _ => y)) := HQ.out.below hb
     have HN : Hid (u5.heap[bn]? = some (.cells #[.int .i64 0, .int .i64 0, .int .i64 0, .slice none 0 0, .slice none 0 0] 37 (0, 0)) ∧ W0.heap.size ≤ bn) := ⟨hq, by have := HBP.out.size; omega⟩
     clear hq hle
     clear hb
     refine hK.out _ _ (SR.out u5 HB.out) (fun _ => ?_)
     clear hK K
     try simp only [Act.put, sqA, sqB, sqC]
     refine wpAnyH_ready (rs := [9]) (by kernel_rfl) (by simp) ?_
     refine (AllReadyH.cons (o := ⟨some 28, .call ⟨.value (.func 18), #[.tmp 19, .tmp 21, .tmp 23, .tmp 26, .tmp 27], #[37, 3, 3, 4, 4]⟩, 41, _, _, none⟩) rfl (fun K hK => ?_) AllReadyH.nil)
     go_simp
     refine (HAS.out u5 HB.out).mono ?_
     rintro e u6 ⟨⟨p', A, rfl, hO⟩, hb⟩
     have HBP : Hid (Below W0.heap.size W0 u5) := HB.out
     have HB : Hid (Below W0.heap.size W0 u6) := Below.transS HB.out hb
     have HQ : Hid (PyAt u6 (some ⟨qs, 0, none⟩) 1 (fun _ => y)) := HQ.out.below hb
     have HN : Hid (u6.heap[bn]? = some (.cells #[.int .i64 0, .int .i64 0, .int .i64 0, .slice none 0 0, .slice none 0 0] 37 (0, 0)) ∧ W0.heap.size ≤ bn) := ⟨by rw [hb.block _ (lt_of_block HN.out.1)]; exact HN.out.1, HN.out.2⟩
     have HO : Hid (SvOw W0.heap.size u6 ns p' A) := hO.low HBP.out.size
     clear hO
     clear hb
     refine hK.out _ _ (SR.out u6 HB.out) (fun _ => ?_)
     clear hK K
     try simp only [Act.put, sqA, sqB, sqC]
     refine wpV 10 ⟨some 18, .move (.tmp 28), 41, _, _, none⟩ rfl ?_
     try simp only [Act.put, sqA, sqB, sqC]
     refine wpV 11 ⟨some 29, .extract (.tmp 18) 0, 37, _, _, none⟩ rfl ?_
     try simp only [Act.put, sqA, sqB, sqC]
     refine wpV 12 ⟨some 30, .extract (.tmp 18) 1, 40, _, _, none⟩ rfl ?_
     try simp only [Act.put, sqA, sqB, sqC]
     refine wpAnyH_ready (rs := [14]) (by kernel_rfl) (by simp) ?_
     refine (AllReadyH.cons (o := ⟨none, .store 37 (.tmp 8) (.tmp 29), 0, _, _, none⟩) rfl (fun K hK => ?_) AllReadyH.nil)
     refine step_storeS rfl (.tmp 8) (.tmp 29) rfl bn (by rfl) ns.nu ns.a ns.b p'.pa ns.pn p'.pc p'.ha ns.hn p'.hc (by rfl) HN.out.1 ?_
     intro V hx hfr
     have HB : Hid (Below W0.heap.size W0 V) := HB.out.trans (hfr.below HB.out.size (fun k hk => by rw [List.mem_singleton.1 hk]; exact HN.out.2))
     have HO : Hid (SvOw W0.heap.size V ns p' A) := HO.out.offF HN.out.1 hfr
     have HX : Hid (V.heap[bn]? = some (.cells #[.int .i64 ns.nu, .int .i64 ns.a, .int .i64 ns.b, .slice p'.pa ns.pn p'.pc, .slice p'.ha ns.hn p'.hc] 37 (0, 0)) ∧ W0.heap.size ≤ bn) := ⟨hx, HN.out.2⟩
     clear hx hfr HN
     refine hK.out _ _ (SR.out V HB.out) (fun _ => ?_)
     clear hK K
     try simp only [Act.put]
     refine wpV 15 ⟨some 9, .assign (.tmp 30), 40, _, _, none⟩ rfl ?_
     try simp only [Act.put, sqA, sqB, sqC]
     refine wpAnyH_done (by kernel_rfl) (NoPanic.normal ?_) _
     try simp only [Act.put, sqA, sqB, sqC]
     clear hHeld S0
     obtain ⟨c0, c1, c2, c3, c4, cf⟩ := five_of HX.out.1
     have HRp : Hid (V.rangeAt (w.heap.size + 1) 0 (pyl y)) := (SR.out V HB.out).2.1
     go_wp2_with (first | (refine wpList_load_mid rfl 43 _ rfl (w.heap.size + 1) 0 rfl (pyl y) _ HRp.out Tryz.underlying43 rfl (szPl _) ?_) | (refine wpList_sliceQ rfl _ rfl y rfl ?_; intro q V2 hq hle hb2; have H2 : Hid (V2.heap[q]? = some (.cells (pyv y) 43 (0, 0)) ∧ V.heap.size ≤ q ∧ Below V.heap.size V V2) := ⟨hq, hle, hb2⟩; clear hq hle hb2) | fail)
     have hins := insP_any W0.heap.size p'.pa ns.pn p'.pc i q (pf ns.P) (pyl y) V2 (own_below HO.out.py H2.out.2.2) (Nat.le_trans HB.out.size H2.out.2.2.size) HI.out (pf_len _ _) (pf_one _ _) H2.out.1 (fun e => by have h1 := (HO.out.py.lt _ e).2; have h2 := H2.out.2.1; omega) (pyl_length y) (pyl_one y) (by omega)
     refine hins.mono ?_
     rintro e V3 ⟨va, vc, rfl, hrow, hgr⟩
     have HO3 : Hid (SvOw W0.heap.size V3 (addY ns i y) ⟨va, vc, p'.ha, p'.hc⟩ A) := (HO.out.below H2.out.2.2).push HY.out.1 HI.out hrow hgr
     have hbV2 : Below W0.heap.size W0 V2 := Below.transS HB.out H2.out.2.2
     have hx2 : V2.heap[bn]? = some (.cells #[.int .i64 ns.nu, .int .i64 ns.a, .int .i64 ns.b, .slice p'.pa ns.pn p'.pc, .slice p'.ha ns.hn p'.hc] 37 (0, 0)) := by rw [H2.out.2.2.block _ (lt_of_block HX.out.1)]; exact HX.out.1
     have hr2 : V2.heap[w.heap.size + 2]? = some (.cells #[.int .i64 0, .int .i64 0, .int .i64 0, .slice none 0 0, .slice none 0 0] 37 (0, 0)) := by rw [hbV2.block _ (lt_of_block HR.out.2.2.1)]; exact HR.out.2.2.1
     have hpy2 := own_below HO.out.py H2.out.2.2
     have hx3 : V3.heap[bn]? = some (.cells #[.int .i64 ns.nu, .int .i64 ns.a, .int .i64 ns.b, .slice p'.pa ns.pn p'.pc, .slice p'.ha ns.hn p'.hc] 37 (0, 0)) := by rw [hgr.block bn (lt_of_block hx2) (fun e => own_neS hpy2 hx2 (by decide) e.symm)]; exact hx2
     have hr3 : V3.heap[w.heap.size + 2]? = some (.cells #[.int .i64 0, .int .i64 0, .int .i64 0, .slice none 0 0, .slice none 0 0] 37 (0, 0)) := by rw [hgr.block _ (lt_of_block hr2) (fun e => own_neS hpy2 hr2 (by decide) e.symm)]; exact hr2
     have HB3 : Hid (Below w.heap.size w V3) := grown_below hpy2 hgr (HB0.out.trans (hbV2.mono HB0.out.size)) HB0.out.size
     have HNB : Hid (w.heap.size + 2 ≠ bn ∧ w.heap.size + 3 ≤ bn) := by have h1 := HX.out.2; have h2 := HR.out.2.2.2; exact ⟨by omega, by omega⟩
     have HX3 : Hid (V3.heap[bn]? = some (.cells #[.int .i64 ns.nu, .int .i64 ns.a, .int .i64 ns.b, .slice p'.pa ns.pn p'.pc, .slice p'.ha ns.hn p'.hc] 37 (0, 0)) ∧ V3.heap[w.heap.size + 2]? = some (.cells #[.int .i64 0, .int .i64 0, .int .i64 0, .slice none 0 0, .slice none 0 0] 37 (0, 0))) := ⟨hx3, hr3⟩
     clear c0 c1 c2 c3 c4 cf hins hrow hgr hx2 hr2 hpy2 hbV2 HRp
     obtain ⟨c0, c1, c2, c3, c4, cf⟩ := five_of hx3
     obtain ⟨d0, d1, d2, d3, d4, df⟩ := five_of hr3
     clear hx3 hr3
     have hnb : w.heap.size + 2 < bn := HNB.out.2
     go_wp2
     clear hnb
     have hw2 : (V3.setCell ⟨bn, 3, none⟩ (.slice va (ns.pn + 1) vc)).heap[w.heap.size + 2]? = some (.cells #[.int .i64 0, .int .i64 0, .int .i64 0, .slice none 0 0, .slice none 0 0] 37 (0, 0)) := by rw [Below.heap_setCell _ _ _ _ (by exact HNB.out.1)]; exact HX3.out.2
     refine bodyPost_ret (results_S2 Tryz.results7 _ _ (w.heap.size + 2) 37 _ _ _ _ _ (0, 0) rfl (five_all hw2)) rfl ⟨⟨i, th, HF.out, .inr ⟨HNE.out, ⟨va, vc, p'.ha, p'.hc⟩, A, by rw [HNS.out]; rfl, ?_⟩⟩, five_below (HB3.out.setCell (by have := HNB.out.2; show w.heap.size ≤ bn; omega) _) (by omega)⟩
     rw [HNS.out]
     exact (((HO3.out.off HX3.out.1 (fun k hk => Below.heap_setCell _ _ _ _ (by exact hk))).off hw2 (fun k hk => five_other hk)).low HB0.out.size)
   ·refine step_allocS rfl rfl ?_
    intro bn u7 hq hle hb
    have HBP : Hid (Below W0.heap.size W0 u1) := HB.out
    have HB : Hid (Below W0.heap.size W0 u7) := Below.transS HB.out hb
    have HQ : Hid (PyAt u7 (some ⟨qs, 0, none⟩) 1 (fun _ => y)) := HQ.out.below hb
    have HN : Hid (u7.heap[bn]? = some (.cells #[.int .i64 0, .int .i64 0, .int .i64 0, .slice none 0 0, .slice none 0 0] 37 (0, 0)) ∧ W0.heap.size ≤ bn) := ⟨hq, by have := HBP.out.size; omega⟩
    clear hq hle
    clear hb
    refine hK.out _ _ (SR.out u7 HB.out) (fun _ => ?_)
    clear hK K
    try simp only [Act.put, sqA, sqB, sqC]
    refine wpAnyH_ready (rs := [7]) (by kernel_rfl) (by simp) ?_
    refine (AllReadyH.cons (o := ⟨some 26, .call ⟨.value (.func 19), #[.tmp 25], #[34]⟩, 4, _, _, none⟩) rfl (fun K hK => ?_) AllReadyH.nil)
    go_simp
    refine (HMW.out qs u7 HQ.out).mono ?_
    rintro e u8 ⟨rfl, hb⟩
    have HB : Hid (Below W0.heap.size W0 u8) := Below.transS HB.out hb
    have HQ : Hid (PyAt u8 (some ⟨qs, 0, none⟩) 1 (fun _ => y)) := HQ.out.below hb
    have HN : Hid (u8.heap[bn]? = some (.cells #[.int .i64 0, .int .i64 0, .int .i64 0, .slice none 0 0, .slice none 0 0] 37 (0, 0)) ∧ W0.heap.size ≤ bn) := ⟨by rw [hb.block _ (lt_of_block HN.out.1)]; exact HN.out.1, HN.out.2⟩
    clear hb
    refine hK.out _ _ (SR.out u8 HB.out) (fun _ => ?_)
    clear hK K
    try simp only [Act.put, sqA, sqB, sqC]
    refine wpAnyH_ready (rs := [9]) (by kernel_rfl) (by simp) ?_
    refine (AllReadyH.cons (o := ⟨some 28, .call ⟨.value (.func 18), #[.tmp 19, .tmp 21, .tmp 23, .tmp 26, .tmp 27], #[37, 3, 3, 4, 4]⟩, 41, _, _, none⟩) rfl (fun K hK => ?_) AllReadyH.nil)
    go_simp
    refine (HAS.out u8 HB.out).mono ?_
    rintro e u9 ⟨⟨p', A, rfl, hO⟩, hb⟩
    have HBP : Hid (Below W0.heap.size W0 u8) := HB.out
    have HB : Hid (Below W0.heap.size W0 u9) := Below.transS HB.out hb
    have HQ : Hid (PyAt u9 (some ⟨qs, 0, none⟩) 1 (fun _ => y)) := HQ.out.below hb
    have HN : Hid (u9.heap[bn]? = some (.cells #[.int .i64 0, .int .i64 0, .int .i64 0, .slice none 0 0, .slice none 0 0] 37 (0, 0)) ∧ W0.heap.size ≤ bn) := ⟨by rw [hb.block _ (lt_of_block HN.out.1)]; exact HN.out.1, HN.out.2⟩
    have HO : Hid (SvOw W0.heap.size u9 ns p' A) := hO.low HBP.out.size
    clear hO
    clear hb
    refine hK.out _ _ (SR.out u9 HB.out) (fun _ => ?_)
    clear hK K
    try simp only [Act.put, sqA, sqB, sqC]
    refine wpV 10 ⟨some 18, .move (.tmp 28), 41, _, _, none⟩ rfl ?_
    try simp only [Act.put, sqA, sqB, sqC]
    refine wpV 11 ⟨some 29, .extract (.tmp 18) 0, 37, _, _, none⟩ rfl ?_
    try simp only [Act.put, sqA, sqB, sqC]
    refine wpV 12 ⟨some 30, .extract (.tmp 18) 1, 40, _, _, none⟩ rfl ?_
    try simp only [Act.put, sqA, sqB, sqC]
    refine wpAnyH_ready (rs := [14]) (by kernel_rfl) (by simp) ?_
    refine (AllReadyH.cons (o := ⟨none, .store 37 (.tmp 8) (.tmp 29), 0, _, _, none⟩) rfl (fun K hK => ?_) AllReadyH.nil)
    refine step_storeS rfl (.tmp 8) (.tmp 29) rfl bn (by rfl) ns.nu ns.a ns.b p'.pa ns.pn p'.pc p'.ha ns.hn p'.hc (by rfl) HN.out.1 ?_
    intro V hx hfr
    have HB : Hid (Below W0.heap.size W0 V) := HB.out.trans (hfr.below HB.out.size (fun k hk => by rw [List.mem_singleton.1 hk]; exact HN.out.2))
    have HO : Hid (SvOw W0.heap.size V ns p' A) := HO.out.offF HN.out.1 hfr
    have HX : Hid (V.heap[bn]? = some (.cells #[.int .i64 ns.nu, .int .i64 ns.a, .int .i64 ns.b, .slice p'.pa ns.pn p'.pc, .slice p'.ha ns.hn p'.hc] 37 (0, 0)) ∧ W0.heap.size ≤ bn) := ⟨hx, HN.out.2⟩
    clear hx hfr HN
    refine hK.out _ _ (SR.out V HB.out) (fun _ => ?_)
    clear hK K
    try simp only [Act.put]
    refine wpV 15 ⟨some 9, .assign (.tmp 30), 40, _, _, none⟩ rfl ?_
    try simp only [Act.put, sqA, sqB, sqC]
    refine wpAnyH_done (by kernel_rfl) (NoPanic.normal ?_) _
    try simp only [Act.put, sqA, sqB, sqC]
    clear hHeld S0
    obtain ⟨c0, c1, c2, c3, c4, cf⟩ := five_of HX.out.1
    have HRp : Hid (V.rangeAt (w.heap.size + 1) 0 (pyl y)) := (SR.out V HB.out).2.1
    go_wp2_with (first | (refine wpList_load_mid rfl 43 _ rfl (w.heap.size + 1) 0 rfl (pyl y) _ HRp.out Tryz.underlying43 rfl (szPl _) ?_) | (refine wpList_sliceQ rfl _ rfl y rfl ?_; intro q V2 hq hle hb2; have H2 : Hid (V2.heap[q]? = some (.cells (pyv y) 43 (0, 0)) ∧ V.heap.size ≤ q ∧ Below V.heap.size V V2) := ⟨hq, hle, hb2⟩; clear hq hle hb2) | fail)
    have hins := insP_any W0.heap.size p'.pa ns.pn p'.pc i q (pf ns.P) (pyl y) V2 (own_below HO.out.py H2.out.2.2) (Nat.le_trans HB.out.size H2.out.2.2.size) HI.out (pf_len _ _) (pf_one _ _) H2.out.1 (fun e => by have h1 := (HO.out.py.lt _ e).2; have h2 := H2.out.2.1; omega) (pyl_length y) (pyl_one y) (by omega)
    refine hins.mono ?_
    rintro e V3 ⟨va, vc, rfl, hrow, hgr⟩
    have HO3 : Hid (SvOw W0.heap.size V3 (addY ns i y) ⟨va, vc, p'.ha, p'.hc⟩ A) := (HO.out.below H2.out.2.2).push HY.out.1 HI.out hrow hgr
    have hbV2 : Below W0.heap.size W0 V2 := Below.transS HB.out H2.out.2.2
    have hx2 : V2.heap[bn]? = some (.cells #[.int .i64 ns.nu, .int .i64 ns.a, .int .i64 ns.b, .slice p'.pa ns.pn p'.pc, .slice p'.ha ns.hn p'.hc] 37 (0, 0)) := by rw [H2.out.2.2.block _ (lt_of_block HX.out.1)]; exact HX.out.1
    have hr2 : V2.heap[w.heap.size + 2]? = some (.cells #[.int .i64 0, .int .i64 0, .int .i64 0, .slice none 0 0, .slice none 0 0] 37 (0, 0)) := by rw [hbV2.block _ (lt_of_block HR.out.2.2.1)]; exact HR.out.2.2.1
    have hpy2 := own_below HO.out.py H2.out.2.2
    have hx3 : V3.heap[bn]? = some (.cells #[.int .i64 ns.nu, .int .i64 ns.a, .int .i64 ns.b, .slice p'.pa ns.pn p'.pc, .slice p'.ha ns.hn p'.hc] 37 (0, 0)) := by rw [hgr.block bn (lt_of_block hx2) (fun e => own_neS hpy2 hx2 (by decide) e.symm)]; exact hx2
    have hr3 : V3.heap[w.heap.size + 2]? = some (.cells #[.int .i64 0, .int .i64 0, .int .i64 0, .slice none 0 0, .slice none 0 0] 37 (0, 0)) := by rw [hgr.block _ (lt_of_block hr2) (fun e => own_neS hpy2 hr2 (by decide) e.symm)]; exact hr2
    have HB3 : Hid (Below w.heap.size w V3) := grown_below hpy2 hgr (HB0.out.trans (hbV2.mono HB0.out.size)) HB0.out.size
    have HNB : Hid (w.heap.size + 2 ≠ bn ∧ w.heap.size + 3 ≤ bn) := by have h1 := HX.out.2; have h2 := HR.out.2.2.2; exact ⟨by omega, by omega⟩
    have HX3 : Hid (V3.heap[bn]? = some (.cells #[.int .i64 ns.nu, .int .i64 ns.a, .int .i64 ns.b, .slice p'.pa ns.pn p'.pc, .slice p'.ha ns.hn p'.hc] 37 (0, 0)) ∧ V3.heap[w.heap.size + 2]? = some (.cells #[.int .i64 0, .int .i64 0, .int .i64 0, .slice none 0 0, .slice none 0 0] 37 (0, 0))) := ⟨hx3, hr3⟩
    clear c0 c1 c2 c3 c4 cf hins hrow hgr hx2 hr2 hpy2 hbV2 HRp
    obtain ⟨c0, c1, c2, c3, c4, cf⟩ := five_of hx3
    obtain ⟨d0, d1, d2, d3, d4, df⟩ := five_of hr3
    clear hx3 hr3
    have hnb : w.heap.size + 2 < bn := HNB.out.2
    go_wp2
    clear hnb
    have hw2 : (V3.setCell ⟨bn, 3, none⟩ (.slice va (ns.pn + 1) vc)).heap[w.heap.size + 2]? = some (.cells #[.int .i64 0, .int .i64 0, .int .i64 0, .slice none 0 0, .slice none 0 0] 37 (0, 0)) := by rw [Below.heap_setCell _ _ _ _ (by exact HNB.out.1)]; exact HX3.out.2
    refine bodyPost_ret (results_S2 Tryz.results7 _ _ (w.heap.size + 2) 37 _ _ _ _ _ (0, 0) rfl (five_all hw2)) rfl ⟨⟨i, th, HF.out, .inr ⟨HNE.out, ⟨va, vc, p'.ha, p'.hc⟩, A, by rw [HNS.out]; rfl, ?_⟩⟩, five_below (HB3.out.setCell (by have := HNB.out.2; show w.heap.size ≤ bn; omega) _) (by omega)⟩
    rw [HNS.out]
    exact (((HO3.out.off HX3.out.1 (fun k hk => Below.heap_setCell _ _ _ _ (by exact hk))).off hw2 (fun k hk => five_other hk)).low HB0.out.size)
  ·refine step_allocS rfl rfl ?_
   intro bn u10 hq hle hb
   have HBP : Hid (Below W0.heap.size W0 W1) := HB.out
   have HB : Hid (Below W0.heap.size W0 u10) := Below.transS HB.out hb
   have HN : Hid (u10.heap[bn]? = some (.cells #[.int .i64 0, .int .i64 0, .int .i64 0, .slice none 0 0, .slice none 0 0] 37 (0, 0)) ∧ W0.heap.size ≤ bn) := ⟨hq, by have := HBP.out.size; omega⟩
   clear hq hle
   clear hb
   refine hK.out _ _ (SR.out u10 HB.out) (fun _ => ?_)
   clear hK K
   try simp only [Act.put, sqA, sqB, sqC]
   refine wpAnyH_ready (rs := [6]) (by kernel_rfl) (by simp) ?_
   refine (AllReadyH.cons (o := ⟨some 25, .buildSlice 34 1 #[(0, .tmp 24)], 34, _, _, none⟩) rfl (fun K hK => ?_) AllReadyH.nil)
   refine step_sliceQ rfl (.tmp 24) rfl y (by rfl) ?_
   intro qs u11 hq hle hb
   have HB : Hid (Below W0.heap.size W0 u11) := Below.transS HB.out hb
   have HN : Hid (u11.heap[bn]? = some (.cells #[.int .i64 0, .int .i64 0, .int .i64 0, .slice none 0 0, .slice none 0 0] 37 (0, 0)) ∧ W0.heap.size ≤ bn) := ⟨by rw [hb.block _ (lt_of_block HN.out.1)]; exact HN.out.1, HN.out.2⟩
   have HQ : Hid (PyAt u11 (some ⟨qs, 0, none⟩) 1 (fun _ => y)) := one_py hq HY.out.1
   clear hq hle
   clear hb
   refine hK.out _ _ (SR.out u11 HB.out) (fun _ => ?_)
   clear hK K
   try simp only [Act.put, sqA, sqB, sqC]
   refine wpAnyH_ready (rs := [7]) (by kernel_rfl) (by simp) ?_
   refine (AllReadyH.cons (o := ⟨some 26, .call ⟨.value (.func 19), #[.tmp 25], #[34]⟩, 4, _, _, none⟩) rfl (fun K hK => ?_) AllReadyH.nil)
   go_simp
   refine (HMW.out qs u11 HQ.out).mono ?_
   rintro e u12 ⟨rfl, hb⟩
   have HB : Hid (Below W0.heap.size W0 u12) := Below.transS HB.out hb
   have HQ : Hid (PyAt u12 (some ⟨qs, 0, none⟩) 1 (fun _ => y)) := HQ.out.below hb
   have HN : Hid (u12.heap[bn]? = some (.cells #[.int .i64 0, .int .i64 0, .int .i64 0, .slice none 0 0, .slice none 0 0] 37 (0, 0)) ∧ W0.heap.size ≤ bn) := ⟨by rw [hb.block _ (lt_of_block HN.out.1)]; exact HN.out.1, HN.out.2⟩
   clear hb
   refine hK.out _ _ (SR.out u12 HB.out) (fun _ => ?_)
   clear hK K
   try simp only [Act.put, sqA, sqB, sqC]
   refine wpAnyH_ready (rs := [9]) (by kernel_rfl) (by simp) ?_
   refine (AllReadyH.cons (o := ⟨some 28, .call ⟨.value (.func 18), #[.tmp 19, .tmp 21, .tmp 23, .tmp 26, .tmp 27], #[37, 3, 3, 4, 4]⟩, 41, _, _, none⟩) rfl (fun K hK => ?_) AllReadyH.nil)
   go_simp
   refine (HAS.out u12 HB.out).mono ?_
   rintro e u13 ⟨⟨p', A, rfl, hO⟩, hb⟩
   have HBP : Hid (Below W0.heap.size W0 u12) := HB.out
   have HB : Hid (Below W0.heap.size W0 u13) := Below.transS HB.out hb
   have HQ : Hid (PyAt u13 (some ⟨qs, 0, none⟩) 1 (fun _ => y)) := HQ.out.below hb
   have HN : Hid (u13.heap[bn]? = some (.cells #[.int .i64 0, .int .i64 0, .int .i64 0, .slice none 0 0, .slice none 0 0] 37 (0, 0)) ∧ W0.heap.size ≤ bn) := ⟨by rw [hb.block _ (lt_of_block HN.out.1)]; exact HN.out.1, HN.out.2⟩
   have HO : Hid (SvOw W0.heap.size u13 ns p' A) := hO.low HBP.out.size
   clear hO
   clear hb
   refine hK.out _ _ (SR.out u13 HB.out) (fun _ => ?_)
   clear hK K
   try simp only [Act.put, sqA, sqB, sqC]
   refine wpV 10 ⟨some 18, .move (.tmp 28), 41, _, _, none⟩ rfl ?_
   try simp only [Act.put, sqA, sqB, sqC]
   refine wpV 11 ⟨some 29, .extract (.tmp 18) 0, 37, _, _, none⟩ rfl ?_
   try simp only [Act.put, sqA, sqB, sqC]
   refine wpV 12 ⟨some 30, .extract (.tmp 18) 1, 40, _, _, none⟩ rfl ?_
   try simp only [Act.put, sqA, sqB, sqC]
   refine wpAnyH_ready (rs := [14]) (by kernel_rfl) (by simp) ?_
   refine (AllReadyH.cons (o := ⟨none, .store 37 (.tmp 8) (.tmp 29), 0, _, _, none⟩) rfl (fun K hK => ?_) AllReadyH.nil)
   refine step_storeS rfl (.tmp 8) (.tmp 29) rfl bn (by rfl) ns.nu ns.a ns.b p'.pa ns.pn p'.pc p'.ha ns.hn p'.hc (by rfl) HN.out.1 ?_
   intro V hx hfr
   have HB : Hid (Below W0.heap.size W0 V) := HB.out.trans (hfr.below HB.out.size (fun k hk => by rw [List.mem_singleton.1 hk]; exact HN.out.2))
   have HO : Hid (SvOw W0.heap.size V ns p' A) := HO.out.offF HN.out.1 hfr
   have HX : Hid (V.heap[bn]? = some (.cells #[.int .i64 ns.nu, .int .i64 ns.a, .int .i64 ns.b, .slice p'.pa ns.pn p'.pc, .slice p'.ha ns.hn p'.hc] 37 (0, 0)) ∧ W0.heap.size ≤ bn) := ⟨hx, HN.out.2⟩
   clear hx hfr HN
   refine hK.out _ _ (SR.out V HB.out) (fun _ => ?_)
   clear hK K
   try simp only [Act.put]
   refine wpV 15 ⟨some 9, .assign (.tmp 30), 40, _, _, none⟩ rfl ?_
   try simp only [Act.put, sqA, sqB, sqC]
   refine wpAnyH_done (by kernel_rfl) (NoPanic.normal ?_) _
   try simp only [Act.put, sqA, sqB, sqC]
   clear hHeld S0
   obtain ⟨c0, c1, c2, c3, c4, cf⟩ := five_of HX.out.1
   have HRp : Hid (V.rangeAt (w.heap.size + 1) 0 (pyl y)) := (SR.out V HB.out).2.1
   go_wp2_with (first | (refine wpList_load_mid rfl 43 _ rfl (w.heap.size + 1) 0 rfl (pyl y) _ HRp.out Tryz.underlying43 rfl (szPl _) ?_) | (refine wpList_sliceQ rfl _ rfl y rfl ?_; intro q V2 hq hle hb2; have H2 : Hid (V2.heap[q]? = some (.cells (pyv y) 43 (0, 0)) ∧ V.heap.size ≤ q ∧ Below V.heap.size V V2) := ⟨hq, hle, hb2⟩; clear hq hle hb2) | fail)
   have hins := insP_any W0.heap.size p'.pa ns.pn p'.pc i q (pf ns.P) (pyl y) V2 (own_below HO.out.py H2.out.2.2) (Nat.le_trans HB.out.size H2.out.2.2.size) HI.out (pf_len _ _) (pf_one _ _) H2.out.1 (fun e => by have h1 := (HO.out.py.lt _ e).2; have h2 := H2.out.2.1; omega) (pyl_length y) (pyl_one y) (by omega)
   refine hins.mono ?_
   rintro e V3 ⟨va, vc, rfl, hrow, hgr⟩
   have HO3 : Hid (SvOw W0.heap.size V3 (addY ns i y) ⟨va, vc, p'.ha, p'.hc⟩ A) := (HO.out.below H2.out.2.2).push HY.out.1 HI.out hrow hgr
   have hbV2 : Below W0.heap.size W0 V2 := Below.transS HB.out H2.out.2.2
   have hx2 : V2.heap[bn]? = some (.cells #[.int .i64 ns.nu, .int .i64 ns.a, .int .i64 ns.b, .slice p'.pa ns.pn p'.pc, .slice p'.ha ns.hn p'.hc] 37 (0, 0)) := by rw [H2.out.2.2.block _ (lt_of_block HX.out.1)]; exact HX.out.1
   have hr2 : V2.heap[w.heap.size + 2]? = some (.cells #[.int .i64 0, .int .i64 0, .int .i64 0, .slice none 0 0, .slice none 0 0] 37 (0, 0)) := by rw [hbV2.block _ (lt_of_block HR.out.2.2.1)]; exact HR.out.2.2.1
   have hpy2 := own_below HO.out.py H2.out.2.2
   have hx3 : V3.heap[bn]? = some (.cells #[.int .i64 ns.nu, .int .i64 ns.a, .int .i64 ns.b, .slice p'.pa ns.pn p'.pc, .slice p'.ha ns.hn p'.hc] 37 (0, 0)) := by rw [hgr.block bn (lt_of_block hx2) (fun e => own_neS hpy2 hx2 (by decide) e.symm)]; exact hx2
   have hr3 : V3.heap[w.heap.size + 2]? = some (.cells #[.int .i64 0, .int .i64 0, .int .i64 0, .slice none 0 0, .slice none 0 0] 37 (0, 0)) := by rw [hgr.block _ (lt_of_block hr2) (fun e => own_neS hpy2 hr2 (by decide) e.symm)]; exact hr2
   have HB3 : Hid (Below w.heap.size w V3) := grown_below hpy2 hgr (HB0.out.trans (hbV2.mono HB0.out.size)) HB0.out.size
   have HNB : Hid (w.heap.size + 2 ≠ bn ∧ w.heap.size + 3 ≤ bn) := by have h1 := HX.out.2; have h2 := HR.out.2.2.2; exact ⟨by omega, by omega⟩
   have HX3 : Hid (V3.heap[bn]? = some (.cells #[.int .i64 ns.nu, .int .i64 ns.a, .int .i64 ns.b, .slice p'.pa ns.pn p'.pc, .slice p'.ha ns.hn p'.hc] 37 (0, 0)) ∧ V3.heap[w.heap.size + 2]? = some (.cells #[.int .i64 0, .int .i64 0, .int .i64 0, .slice none 0 0, .slice none 0 0] 37 (0, 0))) := ⟨hx3, hr3⟩
   clear c0 c1 c2 c3 c4 cf hins hrow hgr hx2 hr2 hpy2 hbV2 HRp
   obtain ⟨c0, c1, c2, c3, c4, cf⟩ := five_of hx3
   obtain ⟨d0, d1, d2, d3, d4, df⟩ := five_of hr3
   clear hx3 hr3
   have hnb : w.heap.size + 2 < bn := HNB.out.2
   go_wp2
   clear hnb
   have hw2 : (V3.setCell ⟨bn, 3, none⟩ (.slice va (ns.pn + 1) vc)).heap[w.heap.size + 2]? = some (.cells #[.int .i64 0, .int .i64 0, .int .i64 0, .slice none 0 0, .slice none 0 0] 37 (0, 0)) := by rw [Below.heap_setCell _ _ _ _ (by exact HNB.out.1)]; exact HX3.out.2
   refine bodyPost_ret (results_S2 Tryz.results7 _ _ (w.heap.size + 2) 37 _ _ _ _ _ (0, 0) rfl (five_all hw2)) rfl ⟨⟨i, th, HF.out, .inr ⟨HNE.out, ⟨va, vc, p'.ha, p'.hc⟩, A, by rw [HNS.out]; rfl, ?_⟩⟩, five_below (HB3.out.setCell (by have := HNB.out.2; show w.heap.size ≤ bn; omega) _) (by omega)⟩
   rw [HNS.out]
   exact (((HO3.out.off HX3.out.1 (fun k hk => Below.heap_setCell _ _ _ _ (by exact hk))).off hw2 (fun k hk => five_other hk)).low HB0.out.size)
 ·have HAS : Hid (∀ u, Below W0.heap.size W0 u → Calls Tryz.prog 18 #[.agg (svv s p), .int .i64 y.fr, .int .i64 y.am, .bool can, .bool th] u fun e w' => e = .returned (.tuple #[.agg #[.int .i64 0, .int .i64 0, .int .i64 0, .slice none 0 0, .slice none 0 0], .iface 72 (.int .i64 (addE s y th))]) ∧ Below u.heap.size u w') := fun u hb => by
   have := aside_bad s p y.fr y.am can th u (HV.out.below hb) HY.out.2 (by rw [← HCN.out]; exact hne)
   rw [← HCN.out] at this ⊢
   rw [show asideE s y.fr y.am (decide (PsOk (fun _ => y) 1)) th = addE s y th from rfl, errV_ne hne] at this
   exact this
  have HE : Hid (errV (addE s y th) = .iface 72 (.int .i64 (addE s y th)) ∧ addE s y th ≠ 0) := ⟨errV_ne hne, hne⟩
  clear hne
  generalize hWd : W1.drew = Wd at S0 HB
  refine wp_region_noPanic ?_
  refine wp_region_held_drew (S := fun u => u.rangeAt w.heap.size 0 (svq s p) ∧ u.rangeAt (w.heap.size + 1) 0 (pyl y) ∧ u.cell? ⟨w.heap.size + 1, 1, none⟩ = some (.int .i64 y.fr) ∧ u.cell? ⟨w.heap.size + 1, 2, none⟩ = some (.int .i64 y.am)) (by kernel_rfl) (by rw [hWd]; exact S0) (fun hHeld => ?_)
  rw [hWd] at hHeld ⊢
  clear hWd
  clear W1
  generalize Wd = W1 at *
  refine wpAnyH_take (i := 0) (oi := ⟨some 19, .load 37 (.tmp 2), 37, _, _, none⟩) rfl (by kernel_rfl) (by kernel_rfl) (by kernel_rfl) (fun _ _ _ h => h) (yieldsIf_load_mid (by rfl) _ _ rfl w.heap.size 0 rfl (svq s p) _ (fun _ h => h.1) Tryz.underlying37 rfl szS) (by assumption) ?_
  try simp only [Act.put, sqA, sqB, sqC]
  refine wpV 1 ⟨some 20, .fieldAddr 43 (.tmp 3) 1, 0, _, _, none⟩ rfl ?_
  try simp only [Act.put, sqA, sqB, sqC]
  refine wpV 2 ⟨some 21, .load 3 (.tmp 20), 3, _, _, none⟩ rfl ?_
  try simp only [Act.put, sqA, sqB, sqC]
  refine wpV 3 ⟨some 22, .fieldAddr 43 (.tmp 3) 2, 0, _, _, none⟩ rfl ?_
  try simp only [Act.put, sqA, sqB, sqC]
  refine wpV 4 ⟨some 23, .load 3 (.tmp 22), 3, _, _, none⟩ rfl ?_
  try simp only [Act.put, sqA, sqB, sqC]
  refine wpAnyH_take (i := 5) (oi := ⟨some 24, .load 43 (.tmp 3), 43, _, _, none⟩) rfl (by kernel_rfl) (by kernel_rfl) (by kernel_rfl) (fun _ _ _ h => h) (yieldsIf_load_mid (by rfl) _ _ rfl (w.heap.size + 1) 0 rfl (pyl y) _ (fun _ h => h.2.1) Tryz.underlying43 rfl (szPl _)) (by assumption) ?_
  try simp only [Act.put, sqA, sqB, sqC]
  refine wpV 8 ⟨some 27, .move (.tmp 7), 4, _, _, none⟩ rfl ?_
  try simp only [Act.put, sqA, sqB, sqC]
  refine wpAnyH_ready (rs := [6, 13]) (by kernel_rfl) (by simp) ?_
  refine (AllReadyH.cons (o := ⟨some 25, .buildSlice 34 1 #[(0, .tmp 24)], 34, _, _, none⟩) rfl (fun K hK => ?_) (AllReadyH.cons (o := ⟨some 8, .alloc 37, 0, _, _, none⟩) rfl (fun K hK => ?_) AllReadyH.nil))
  ·refine step_sliceQ rfl (.tmp 24) rfl y (by rfl) ?_
   intro qs u1 hq hle hb
   have HB : Hid (Below W0.heap.size W0 u1) := Below.transS HB.out hb
   have HQ : Hid (PyAt u1 (some ⟨qs, 0, none⟩) 1 (fun _ => y)) := one_py hq HY.out.1
   clear hq hle
   clear hb
   refine hK.out _ _ (SR.out u1 HB.out) (fun _ => ?_)
   clear hK K
   try simp only [Act.put, sqA, sqB, sqC]
   refine wpAnyH_ready (rs := [7, 13]) (by kernel_rfl) (by simp) ?_
   refine (AllReadyH.cons (o := ⟨some 26, .call ⟨.value (.func 19), #[.tmp 25], #[34]⟩, 4, _, _, none⟩) rfl (fun K hK => ?_) (AllReadyH.cons (o := ⟨some 8, .alloc 37, 0, _, _, none⟩) rfl (fun K hK => ?_) AllReadyH.nil))
   ·go_simp
    refine (HMW.out qs u1 HQ.out).mono ?_
    rintro e u2 ⟨rfl, hb⟩
    have HB : Hid (Below W0.heap.size W0 u2) := Below.transS HB.out hb
    have HQ : Hid (PyAt u2 (some ⟨qs, 0, none⟩) 1 (fun _ => y)) := HQ.out.below hb
    clear hb
    refine hK.out _ _ (SR.out u2 HB.out) (fun _ => ?_)
    clear hK K
    try simp only [Act.put, sqA, sqB, sqC]
    refine wpAnyH_ready (rs := [9, 13]) (by kernel_rfl) (by simp) ?_
    refine (AllReadyH.cons (o := ⟨some 28, .call ⟨.value (.func 18), #[.tmp 19, .tmp 21, .tmp 23, .tmp 26, .tmp 27], #[37, 3, 3, 4, 4]⟩, 41, _, _, none⟩) rfl (fun K hK => ?_) (AllReadyH.cons (o := ⟨some 8, .alloc 37, 0, _, _, none⟩) rfl (fun K hK => ?_) AllReadyH.nil))
    ·go_simp
     refine (HAS.out u2 HB.out).mono ?_
     rintro e u3 ⟨rfl, hb⟩
     have HBP : Hid (Below W0.heap.size W0 u2) := HB.out
     have HB : Hid (Below W0.heap.size W0 u3) := Below.transS HB.out hb
     have HQ : Hid (PyAt u3 (some ⟨qs, 0, none⟩) 1 (fun _ => y)) := HQ.out.below hb
     clear hb
     refine hK.out _ _ (SR.out u3 HB.out) (fun _ => ?_)
     clear hK K
     try simp only [Act.put, sqA, sqB, sqC]
     refine wpV 10 ⟨some 18, .move (.tmp 28), 41, _, _, none⟩ rfl ?_
     try simp only [Act.put, sqA, sqB, sqC]
     refine wpV 11 ⟨some 29, .extract (.tmp 18) 0, 37, _, _, none⟩ rfl ?_
     try simp only [Act.put, sqA, sqB, sqC]
     refine wpV 12 ⟨some 30, .extract (.tmp 18) 1, 40, _, _, none⟩ rfl ?_
     try simp only [Act.put, sqA, sqB, sqC]
     refine wpAnyH_ready (rs := [13]) (by kernel_rfl) (by simp) ?_
     refine (AllReadyH.cons (o := ⟨some 8, .alloc 37, 0, _, _, none⟩) rfl (fun K hK => ?_) AllReadyH.nil)
     refine step_allocS rfl rfl ?_
     intro bn u4 hq hle hb
     have HBP : Hid (Below W0.heap.size W0 u3) := HB.out
     have HB : Hid (Below W0.heap.size W0 u4) := Below.transS HB.out hb
     have HQ : Hid (PyAt u4 (some ⟨qs, 0, none⟩) 1 (fun _ => y)) := HQ.out.below hb
     have HN : Hid (u4.heap[bn]? = some (.cells #[.int .i64 0, .int .i64 0, .int .i64 0, .slice none 0 0, .slice none 0 0] 37 (0, 0)) ∧ W0.heap.size ≤ bn) := ⟨hq, by have := HBP.out.size; omega⟩
     clear hq hle
     clear hb
     refine hK.out _ _ (SR.out u4 HB.out) (fun _ => ?_)
     clear hK K
     try simp only [Act.put, sqA, sqB, sqC]
     refine wpAnyH_ready (rs := [14]) (by kernel_rfl) (by simp) ?_
     refine (AllReadyH.cons (o := ⟨none, .store 37 (.tmp 8) (.tmp 29), 0, _, _, none⟩) rfl (fun K hK => ?_) AllReadyH.nil)
     refine step_storeS rfl (.tmp 8) (.tmp 29) rfl bn (by rfl) 0 0 0 none 0 0 none 0 0 (by rfl) HN.out.1 ?_
     intro V hx hfr
     have HB : Hid (Below W0.heap.size W0 V) := HB.out.trans (hfr.below HB.out.size (fun k hk => by rw [List.mem_singleton.1 hk]; exact HN.out.2))
     clear hx hfr HN
     refine hK.out _ _ (SR.out V HB.out) (fun _ => ?_)
     clear hK K
     try simp only [Act.put]
     refine wpV 15 ⟨some 9, .assign (.tmp 30), 40, _, _, none⟩ rfl ?_
     try simp only [Act.put, sqA, sqB, sqC]
     refine wpAnyH_done (by kernel_rfl) (NoPanic.normal ?_) _
     try simp only [Act.put, sqA, sqB, sqC]
     clear hHeld S0
     have k2 := HB.out.block _ (lt_of_block HR.out.2.2.1)
     rw [HR.out.2.2.1] at k2
     obtain ⟨d0, d1, d2, d3, d4, df⟩ := five_of k2
     have HK : Hid (V.heap[w.heap.size + 2]? = some (.cells #[.int .i64 0, .int .i64 0, .int .i64 0, .slice none 0 0, .slice none 0 0] 37 (0, 0))) := k2
     clear k2
     go_wp2
     exact bodyPost_ret (results_S2 Tryz.results7 _ _ (w.heap.size + 2) 37 _ _ _ _ _ (0, 0) rfl (five_all HK.out)) rfl ⟨⟨i, th, HF.out, .inl ⟨HE.out.2, by rw [HE.out.1]; rfl⟩⟩, five_below (HB0.out.trans (HB.out.mono HB0.out.size)) (by omega)⟩
    ·refine step_allocS rfl rfl ?_
     intro bn u5 hq hle hb
     have HBP : Hid (Below W0.heap.size W0 u2) := HB.out
     have HB : Hid (Below W0.heap.size W0 u5) := Below.transS HB.out hb
     have HQ : Hid (PyAt u5 (some ⟨qs, 0, none⟩) 1 (fun _ => y)) := HQ.out.below hb
     have HN : Hid (u5.heap[bn]? = some (.cells #[.int .i64 0, .int .i64 0, .int .i64 0, .slice none 0 0, .slice none 0 0] 37 (0, 0)) ∧ W0.heap.size ≤ bn) := ⟨hq, by have := HBP.out.size; omega⟩
     clear hq hle
     clear hb
     refine hK.out _ _ (SR.out u5 HB.out) (fun _ => ?_)
     clear hK K
     try simp only [Act.put, sqA, sqB, sqC]
     refine wpAnyH_ready (rs := [9]) (by kernel_rfl) (by simp) ?_
     refine (AllReadyH.cons (o := ⟨some 28, .call ⟨.value (.func 18), #[.tmp 19, .tmp 21, .tmp 23, .tmp 26, .tmp 27], #[37, 3, 3, 4, 4]⟩, 41, _, _, none⟩) rfl (fun K hK => ?_) AllReadyH.nil)
     go_simp
     refine (HAS.out u5 HB.out).mono ?_
     rintro e u6 ⟨rfl, hb⟩
     have HBP : Hid (Below W0.heap.size W0 u5) := HB.out
     have HB : Hid (Below W0.heap.size W0 u6) := Below.transS HB.out hb
     have HQ : Hid (PyAt u6 (some ⟨qs, 0, none⟩) 1 (fun _ => y)) := HQ.out.below hb
     have HN : Hid (u6.heap[bn]? = some (.cells #[.int .i64 0, .int .i64 0, .int .i64 0, .slice none 0 0, .slice none 0 0] 37 (0, 0)) ∧ W0.heap.size ≤ bn) := ⟨by rw [hb.block _ (lt_of_block HN.out.1)]; exact HN.out.1, HN.out.2⟩
     clear hb
     refine hK.out _ _ (SR.out u6 HB.out) (fun _ => ?_)
     clear hK K
     try simp only [Act.put, sqA, sqB, sqC]
     refine wpV 10 ⟨some 18, .move (.tmp 28), 41, _, _, none⟩ rfl ?_
     try simp only [Act.put, sqA, sqB, sqC]
     refine wpV 11 ⟨some 29, .extract (.tmp 18) 0, 37, _, _, none⟩ rfl ?_
     try simp only [Act.put, sqA, sqB, sqC]
     refine wpV 12 ⟨some 30, .extract (.tmp 18) 1, 40, _, _, none⟩ rfl ?_
     try simp only [Act.put, sqA, sqB, sqC]
     refine wpAnyH_ready (rs := [14]) (by kernel_rfl) (by simp) ?_
     refine (AllReadyH.cons (o := ⟨none, .store 37 (.tmp 8) (.tmp 29), 0, _, _, none⟩) rfl (fun K hK => ?_) AllReadyH.nil)
     refine step_storeS rfl (.tmp 8) (.tmp 29) rfl bn (by rfl) 0 0 0 none 0 0 none 0 0 (by rfl) HN.out.1 ?_
     intro V hx hfr
     have HB : Hid (Below W0.heap.size W0 V) := HB.out.trans (hfr.below HB.out.size (fun k hk => by rw [List.mem_singleton.1 hk]; exact HN.out.2))
     clear hx hfr HN
     refine hK.out _ _ (SR.out V HB.out) (fun _ => ?_)
     clear hK K
     try simp only [Act.put]
     refine wpV 15 ⟨some 9, .assign (.tmp 30), 40, _, _, none⟩ rfl ?_
     try simp only [Act.put, sqA, sqB, sqC]
     refine wpAnyH_done (by kernel_rfl) (NoPanic.normal ?_) _
     try simp only [Act.put, sqA, sqB, sqC]
     clear hHeld S0
     have k2 := HB.out.block _ (lt_of_block HR.out.2.2.1)
     rw [HR.out.2.2.1] at k2
     obtain ⟨d0, d1, d2, d3, d4, df⟩ := five_of k2
     have HK : Hid (V.heap[w.heap.size + 2]? = some (.cells #[.int .i64 0, .int .i64 0, .int .i64 0, .slice none 0 0, .slice none 0 0] 37 (0, 0))) := k2
     clear k2
     go_wp2
     exact bodyPost_ret (results_S2 Tryz.results7 _ _ (w.heap.size + 2) 37 _ _ _ _ _ (0, 0) rfl (five_all HK.out)) rfl ⟨⟨i, th, HF.out, .inl ⟨HE.out.2, by rw [HE.out.1]; rfl⟩⟩, five_below (HB0.out.trans (HB.out.mono HB0.out.size)) (by omega)⟩
   ·refine step_allocS rfl rfl ?_
    intro bn u7 hq hle hb
    have HBP : Hid (Below W0.heap.size W0 u1) := HB.out
    have HB : Hid (Below W0.heap.size W0 u7) := Below.transS HB.out hb
    have HQ : Hid (PyAt u7 (some ⟨qs, 0, none⟩) 1 (fun _ => y)) := HQ.out.below hb
    have HN : Hid (u7.heap[bn]? = some (.cells #[.int .i64 0, .int .i64 0, .int .i64 0, .slice none 0 0, .slice none 0 0] 37 (0, 0)) ∧ W0.heap.size ≤ bn) := ⟨hq, by have := HBP.out.size; omega⟩
    clear hq hle
    clear hb
    refine hK.out _ _ (SR.out u7 HB.out) (fun _ => ?_)
    clear hK K
    try simp only [Act.put, sqA, sqB, sqC]
    refine wpAnyH_ready (rs := [7]) (by kernel_rfl) (by simp) ?_
    refine (AllReadyH.cons (o := ⟨some 26, .call ⟨.value (.func 19), #[.tmp 25], #[34]⟩, 4, _, _, none⟩) rfl (fun K hK => ?_) AllReadyH.nil)
    go_simp
    refine (HMW.out qs u7 HQ.out).mono ?_
    rintro e u8 ⟨rfl, hb⟩
    have HB : Hid (Below W0.heap.size W0 u8) := Below.transS HB.out hb
    have HQ : Hid (PyAt u8 (some ⟨qs, 0, none⟩) 1 (fun _ => y)) := HQ.out.below hb
    have HN : Hid (u8.heap[bn]? = some (.cells #[.int .i64 0, .int .i64 0, .int .i64 0, .slice none 0 0, .slice none 0 0] 37 (0, 0)) ∧ W0.heap.size ≤ bn) := ⟨by rw [hb.block _ (lt_of_block HN.out.1)]; exact HN.out.1, HN.out.2⟩
    clear hb
    refine hK.out _ _ (SR.out u8 HB.out) (fun _ => ?_)
    clear hK K
    try simp only [Act.put, sqA, sqB, sqC]
    refine wpAnyH_ready (rs := [9]) (by kernel_rfl) (by simp) ?_
    refine (AllReadyH.cons (o := ⟨some 28, .call ⟨.value (.func 18), #[.tmp 19, .tmp 21, .tmp 23, .tmp 26, .tmp 27], #[37, 3, 3, 4, 4]⟩, 41, _, _, none⟩) rfl (fun K hK => ?_) AllReadyH.nil)
    go_simp
    refine (HAS.out u8 HB.out).mono ?_
    rintro e u9 ⟨rfl, hb⟩
    have HBP : Hid (Below W0.heap.size W0 u8) := HB.out
    have HB : Hid (Below W0.heap.size W0 u9) := Below.transS HB.out hb
    have HQ : Hid (PyAt u9 (some ⟨qs, 0, none⟩) 1 (fun _ => y)) := HQ.out.below hb
    have HN : Hid (u9.heap[bn]? = some (.cells #[.int .i64 0, .int .i64 0, .int .i64 0, .slice none 0 0, .slice none 0 0] 37 (0, 0)) ∧ W0.heap.size ≤ bn) := ⟨by rw [hb.block _ (lt_of_block HN.out.1)]; exact HN.out.1, HN.out.2⟩
    clear hb
    refine hK.out _ _ (SR.out u9 HB.out) (fun _ => ?_)
    clear hK K
    try simp only [Act.put, sqA, sqB, sqC]
    refine wpV 10 ⟨some 18, .move (.tmp 28), 41, _, _, none⟩ rfl ?_
    try simp only [Act.put, sqA, sqB, sqC]
    refine wpV 11 ⟨some 29, .extract (.tmp 18) 0, 37, _, _, none⟩ rfl ?_
    try simp only [Act.put, sqA, sqB, sqC]
    refine wpV 12 ⟨some 30, .extract (.tmp 18) 1, 40, _, _, none⟩ rfl ?_
    try simp only [Act.put, sqA, sqB, sqC]
    refine wpAnyH_ready (rs := [14]) (by kernel_rfl) (by simp) ?_
    refine (AllReadyH.cons (o := ⟨none, .store 37 (.tmp 8) (.tmp 29), 0, _, _, none⟩) rfl (fun K hK => ?_) AllReadyH.nil)
    refine step_storeS rfl (.tmp 8) (.tmp 29) rfl bn (by rfl) 0 0 0 none 0 0 none 0 0 (by rfl) HN.out.1 ?_
    intro V hx hfr
    have HB : Hid (Below W0.heap.size W0 V) := HB.out.trans (hfr.below HB.out.size (fun k hk => by rw [List.mem_singleton.1 hk]; exact HN.out.2))
    clear hx hfr HN
    refine hK.out _ _ (SR.out V HB.out) (fun _ => ?_)
    clear hK K
    try simp only [Act.put]
    refine wpV 15 ⟨some 9, .assign (.tmp 30), 40, _, _, none⟩ rfl ?_
    try simp only [Act.put, sqA, sqB, sqC]
    refine wpAnyH_done (by kernel_rfl) (NoPanic.normal ?_) _
    try simp only [Act.put, sqA, sqB, sqC]
    clear hHeld S0
    have k2 := HB.out.block _ (lt_of_block HR.out.2.2.1)
    rw [HR.out.2.2.1] at k2
    obtain ⟨d0, d1, d2, d3, d4, df⟩ := five_of k2
    have HK : Hid (V.heap[w.heap.size + 2]? = some (.cells #[.int .i64 0, .int .i64 0, .int .i64 0, .slice none 0 0, .slice none 0 0] 37 (0, 0))) := k2
    clear k2
    go_wp2
    exact bodyPost_ret (results_S2 Tryz.results7 _ _ (w.heap.size + 2) 37 _ _ _ _ _ (0, 0) rfl (five_all HK.out)) rfl ⟨⟨i, th, HF.out, .inl ⟨HE.out.2, by rw [HE.out.1]; rfl⟩⟩, five_below (HB0.out.trans (HB.out.mono HB0.out.size)) (by omega)⟩
  ·refine step_allocS rfl rfl ?_
   intro bn u10 hq hle hb
   have HBP : Hid (Below W0.heap.size W0 W1) := HB.out
   have HB : Hid (Below W0.heap.size W0 u10) := Below.transS HB.out hb
   have HN : Hid (u10.heap[bn]? = some (.cells #[.int .i64 0, .int .i64 0, .int .i64 0, .slice none 0 0, .slice none 0 0] 37 (0, 0)) ∧ W0.heap.size ≤ bn) := ⟨hq, by have := HBP.out.size; omega⟩
   clear hq hle
   clear hb
   refine hK.out _ _ (SR.out u10 HB.out) (fun _ => ?_)
   clear hK K
   try simp only [Act.put, sqA, sqB, sqC]
   refine wpAnyH_ready (rs := [6]) (by kernel_rfl) (by simp) ?_
   refine (AllReadyH.cons (o := ⟨some 25, .buildSlice 34 1 #[(0, .tmp 24)], 34, _, _, none⟩) rfl (fun K hK => ?_) AllReadyH.nil)
   refine step_sliceQ rfl (.tmp 24) rfl y (by rfl) ?_
   intro qs u11 hq hle hb
   have HB : Hid (Below W0.heap.size W0 u11) := Below.transS HB.out hb
   have HN : Hid (u11.heap[bn]? = some (.cells #[.int .i64 0, .int .i64 0, .int .i64 0, .slice none 0 0, .slice none 0 0] 37 (0, 0)) ∧ W0.heap.size ≤ bn) := ⟨by rw [hb.block _ (lt_of_block HN.out.1)]; exact HN.out.1, HN.out.2⟩
   have HQ : Hid (PyAt u11 (some ⟨qs, 0, none⟩) 1 (fun _ => y)) := one_py hq HY.out.1
   clear hq hle
   clear hb
   refine hK.out _ _ (SR.out u11 HB.out) (fun _ => ?_)
   clear hK K
   try simp only [Act.put, sqA, sqB, sqC]
   refine wpAnyH_ready (rs := [7]) (by kernel_rfl) (by simp) ?_
   refine (AllReadyH.cons (o := ⟨some 26, .call ⟨.value (.func 19), #[.tmp 25], #[34]⟩, 4, _, _, none⟩) rfl (fun K hK => ?_) AllReadyH.nil)
   go_simp
   refine (HMW.out qs u11 HQ.out).mono ?_
   rintro e u12 ⟨rfl, hb⟩
   have HB : Hid (Below W0.heap.size W0 u12) := Below.transS HB.out hb
   have HQ : Hid (PyAt u12 (some ⟨qs, 0, none⟩) 1 (fun _ => y)) := HQ.out.below hb
   have HN : Hid (u12.heap[bn]? = some (.cells #[.int .i64 0, .int .i64 0, .int .i64 0, .slice none 0 0, .slice none 0 0] 37 (0, 0)) ∧ W0.heap.size ≤ bn) := ⟨by rw [hb.block _ (lt_of_block HN.out.1)]; exact HN.out.1, HN.out.2⟩
   clear hb
   refine hK.out _ _ (SR.out u12 HB.out) (fun _ => ?_)
   clear hK K
   try simp only [Act.put, sqA, sqB, sqC]
   refine wpAnyH_ready (rs := [9]) (by kernel_rfl) (by simp) ?_
   refine (AllReadyH.cons (o := ⟨some 28, .call ⟨.value (.func 18), #[.tmp 19, .tmp 21, .tmp 23, .tmp 26, .tmp 27], #[37, 3, 3, 4, 4]⟩, 41, _, _, none⟩) rfl (fun K hK => ?_) AllReadyH.nil)
   go_simp
   refine (HAS.out u12 HB.out).mono ?_
   rintro e u13 ⟨rfl, hb⟩
   have HBP : Hid (Below W0.heap.size W0 u12) := HB.out
   have HB : Hid (Below W0.heap.size W0 u13) := Below.transS HB.out hb
   have HQ : Hid (PyAt u13 (some ⟨qs, 0, none⟩) 1 (fun _ => y)) := HQ.out.below hb
   have HN : Hid (u13.heap[bn]? = some (.cells #[.int .i64 0, .int .i64 0, .int .i64 0, .slice none 0 0, .slice none 0 0] 37 (0, 0)) ∧ W0.heap.size ≤ bn) := ⟨by rw [hb.block _ (lt_of_block HN.out.1)]; exact HN.out.1, HN.out.2⟩
   clear hb
   refine hK.out _ _ (SR.out u13 HB.out) (fun _ => ?_)
   clear hK K
   try simp only [Act.put, sqA, sqB, sqC]
   refine wpV 10 ⟨some 18, .move (.tmp 28), 41, _, _, none⟩ rfl ?_
   try simp only [Act.put, sqA, sqB, sqC]
   refine wpV 11 ⟨some 29, .extract (.tmp 18) 0, 37, _, _, none⟩ rfl ?_
   try simp only [Act.put, sqA, sqB, sqC]
   refine wpV 12 ⟨some 30, .extract (.tmp 18) 1, 40, _, _, none⟩ rfl ?_
   try simp only [Act.put, sqA, sqB, sqC]
   refine wpAnyH_ready (rs := [14]) (by kernel_rfl) (by simp) ?_
   refine (AllReadyH.cons (o := ⟨none, .store 37 (.tmp 8) (.tmp 29), 0, _, _, none⟩) rfl (fun K hK => ?_) AllReadyH.nil)
   refine step_storeS rfl (.tmp 8) (.tmp 29) rfl bn (by rfl) 0 0 0 none 0 0 none 0 0 (by rfl) HN.out.1 ?_
   intro V hx hfr
   have HB : Hid (Below W0.heap.size W0 V) := HB.out.trans (hfr.below HB.out.size (fun k hk => by rw [List.mem_singleton.1 hk]; exact HN.out.2))
   clear hx hfr HN
   refine hK.out _ _ (SR.out V HB.out) (fun _ => ?_)
   clear hK K
   try simp only [Act.put]
   refine wpV 15 ⟨some 9, .assign (.tmp 30), 40, _, _, none⟩ rfl ?_
   try simp only [Act.put, sqA, sqB, sqC]
   refine wpAnyH_done (by kernel_rfl) (NoPanic.normal ?_) _
   try simp only [Act.put, sqA, sqB, sqC]
   clear hHeld S0
   have k2 := HB.out.block _ (lt_of_block HR.out.2.2.1)
   rw [HR.out.2.2.1] at k2
   obtain ⟨d0, d1, d2, d3, d4, df⟩ := five_of k2
   have HK : Hid (V.heap[w.heap.size + 2]? = some (.cells #[.int .i64 0, .int .i64 0, .int .i64 0, .slice none 0 0, .slice none 0 0] 37 (0, 0))) := k2
   clear k2
   go_wp2
   exact bodyPost_ret (results_S2 Tryz.results7 _ _ (w.heap.size + 2) 37 _ _ _ _ _ (0, 0) rfl (five_all HK.out)) rfl ⟨⟨i, th, HF.out, .inl ⟨HE.out.2, by rw [HE.out.1]; rfl⟩⟩, five_below (HB0.out.trans (HB.out.mono HB0.out.size)) (by omega)⟩
end Go.Proofs.YtoefgfiabfkfaaaGreatDoor
