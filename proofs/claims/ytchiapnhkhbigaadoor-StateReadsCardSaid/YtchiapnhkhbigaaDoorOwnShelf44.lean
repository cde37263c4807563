/- Rows of holds with one more, one less; a state's variable. -/
import Derived.Test.YtchiapnhkhbigaaDoorOwnShelf42
import Derived.Test.YtchiapnhkhbigaaDoorOwnShelf37
import Derived.Test.YtchiapnhkhbigaaDoorOwnShelf43
namespace Go.Proofs.YtchiapnhkhbigaaDoor
open Go.RowKit

/-- A state's five cells. -/
def svq (s : Sv) (p : Pl) : List Value := [.int .i64 s.nu, .int .i64 s.a, .int .i64 s.b, .slice p.pa s.pn p.pc, .slice p.ha s.hn p.hc]
theorem svq_range {w : World} {g : Nat} {s : Sv} {p : Pl} {t : TypeId} {fr : Nat × Nat} (h : w.heap[g]? = some (.cells (svv s p) t fr)) : w.rangeAt g 0 (svq s p) := fun j v hv => by
  rw [Nat.zero_add, cell_of_row _ _ j _ _ _ h]
  simpa [svv, svq] using hv
theorem hdv_range {w : World} {g : Nat} {y : Hd} {ka : Option Addr} {kc : Nat} {t : TypeId} {fr : Nat × Nat} (h : w.heap[g]? = some (.cells (hdv y ka kc) t fr)) : w.rangeAt g 0 (hdl y ka kc) := fun j v hv => by
  rw [Nat.zero_add, cell_of_row _ _ j _ _ _ h]
  simpa [hdv, hdl] using hv
theorem run_allocS (w : World) : (Instr.alloc 35 true (.tuple #[])).run Tryd.prog w = .ok (.pointer (some ⟨w.heap.size, 0, none⟩)) (w.alloc (.cells #[.int .i64 0, .int .i64 0, .int .i64 0, .slice none 0 0, .slice none 0 0] 35)) := by kernel_rfl
section
variable {ops : Array Oper} {rest : List Oper} {o : Oper} {a : Act} {w : World} {K : Act → World → Prop} {Q : Exit → Act → World → Prop} {E : Prop}
/-- A variable of a state, made in whatever world. -/
theorem step_allocS (hgd : o.guard = none) (ho : o.op = .alloc 35)
    (h : ∀ p w', w'.heap[p]? = some (.cells #[.int .i64 0, .int .i64 0, .int .i64 0, .slice none 0 0, .slice none 0 0] 35 (0, 0)) → w.heap.size ≤ p → Below w.heap.size w w' → K (a.put o.dst (.pointer (some ⟨p, 0, none⟩))) w') : if Region.wanted o (yielded ops a.tmps) = true then Oper.wp Tryd.prog o a w K Q else E := by
  have hw : Region.wanted o (yielded ops a.tmps) = true := by simp [Region.wanted, hgd]
  rw [if_pos hw]
  unfold Oper.wp execOp
  simp only [ho, Sem.run_bind, run_allocS, Result.andThen]
  exact h _ _ (heap_alloc_new w _) (Nat.le_refl _) ((Below.refl _ w).alloc (Nat.le_refl _) _)
/-- A row of one hold, made in whatever world. -/
theorem step_sliceHQ (hgd : o.guard = none) (x : Operand) (ho : o.op = .buildSlice 33 1 #[(0, x)]) (v : Hd) (ka : Option Addr) (kc : Nat) (hx : a.eval x = .agg (hdv v ka kc))
    (h : ∀ q w', w'.heap[q]? = some (.cells (hdv v ka kc) 37 (0, 0)) → w.heap.size ≤ q → Below w.heap.size w w' → K (a.put o.dst (.slice (some ⟨q, 0, none⟩) 1 1)) w') : if Region.wanted o (yielded ops a.tmps) = true then Oper.wp Tryd.prog o a w K Q else E :=
  step_sliceH hgd x ho v ka kc hx (h _ _ (heap_alloc_new w _) (Nat.le_refl _) ((Below.refl _ w).alloc (Nat.le_refl _) _))
/-- A whole state stored into a variable. -/
theorem step_storeS (hgd : o.guard = none) (x y : Operand) (ho : o.op = .store 35 x y) (g : Nat) (hx : a.eval x = .pointer (some ⟨g, 0, none⟩)) (u0 u1 u2 : Int) (pa : Option Addr) (pn pc : Nat) (ha : Option Addr) (hn hc : Nat) (hy : a.eval y = .agg #[.int .i64 u0, .int .i64 u1, .int .i64 u2, .slice pa pn pc, .slice ha hn hc]) (hg : w.heap[g]? = some (.cells #[.int .i64 0, .int .i64 0, .int .i64 0, .slice none 0 0, .slice none 0 0] 35 (0, 0)))
    (h : ∀ w', w'.heap[g]? = some (.cells #[.int .i64 u0, .int .i64 u1, .int .i64 u2, .slice pa pn pc, .slice ha hn hc] 35 (0, 0)) → Frm [g] w w' → K (a.put o.dst undef) w') : if Region.wanted o (yielded ops a.tmps) = true then Oper.wp Tryd.prog o a w K Q else E := by
  have hw : Region.wanted o (yielded ops a.tmps) = true := by simp [Region.wanted, hgd]
  rw [if_pos hw]
  refine wp_store_mid 35 x y ho g 0 #[.int .i64 u0, .int .i64 u1, .int .i64 u2, .slice pa pn pc, .slice ha hn hc] hx hy ?_ szS (by simp [Value.oneCell']) (h _ ?_ (setCells_frm g _ 0 w))
  · intro j hj
    have hj5 : j < 5 := by simpa using hj
    exact ⟨by rw [cell_of_row w g _ _ _ _ hg, Array.getElem?_eq_getElem (by simpa using hj5)]; rfl, frozen_of_row w g _ _ _ hg⟩
  · exact five_all hg
end
/-- A row lies in another block than a state. -/
theorem own_neS {w : World} {B T k n b : Nat} {v : Value} {xs : List Value} {c : Array Value} {fr : Nat × Nat} (h : w.ownsRow B T k v n xs) (hb : w.heap[b]? = some (.cells c 35 fr)) (hT : T ≠ 35) : v.ownBlock ≠ some b := by
  intro e
  rcases h.2 with ⟨rfl, _⟩ | ⟨g, cap, cur, rfl, _, hg, _⟩
  · cases e
  · have e1 : g = b := by simpa [Value.ownBlock] using e
    subst e1
    rw [hg] at hb
    simp at hb
    exact hT hb.2.1
theorem SvOw.off {B b : Nat} {w w' : World} {s : Sv} {p : Pl} {A : Nat → Option Addr × Nat} {c : Array Value} {fr : Nat × Nat} (h : SvOw B w s p A) (hb : w.heap[b]? = some (.cells c 35 fr)) (hk : ∀ k, k ≠ b → w'.heap[k]? = w.heap[k]?) : SvOw B w' s p A :=
  ⟨h.lk, own_keep h.py (fun g e => hk g (fun e2 => own_neS h.py hb (by decide) (by rw [e, e2]))), own_keep h.hd (fun g e => hk g (fun e2 => own_neS h.hd hb (by decide) (by rw [e, e2]))), fun i hi => own_keep (h.ks i hi) (fun g e => hk g (fun e2 => own_neS (h.ks i hi) hb (by decide) (by rw [e, e2])))⟩
theorem asideS_rows (s : Sv) (f n : Int) : (asideS s f n).pn = s.pn ∧ (asideS s f n).P = s.P ∧ (asideS s f n).hn = s.hn ∧ (asideS s f n).H = s.H := by
  unfold asideS
  split <;> exact ⟨rfl, rfl, rfl, rfl⟩
theorem SvOw.offF {B b : Nat} {w w' : World} {s : Sv} {p : Pl} {A : Nat → Option Addr × Nat} {c : Array Value} {fr : Nat × Nat} (h : SvOw B w s p A) (hb : w.heap[b]? = some (.cells c 35 fr)) (hf : Frm [b] w w') : SvOw B w' s p A :=
  ⟨h.lk, own_keep h.py (fun g e => hf.block g (h.py.lt g e).2 (fun e2 => own_neS h.py hb (by decide) (by rw [e, List.mem_singleton.1 e2]))), own_keep h.hd (fun g e => hf.block g (h.hd.lt g e).2 (fun e2 => own_neS h.hd hb (by decide) (by rw [e, List.mem_singleton.1 e2]))), fun i hi => own_keep (h.ks i hi) (fun g e => hf.block g ((h.ks i hi).lt g e).2 (fun e2 => own_neS (h.ks i hi) hb (by decide) (by rw [e, List.mem_singleton.1 e2])))⟩
/-- Something more at the place i. -/
def insG {α : Type} (H : Nat → α) (i : Nat) (y : α) : Nat → α := fun j => if j < i then H j else if j = i then y else H (j - 1)
theorem insG_hf (H : Nat → Hd) (A : Nat → Option Addr × Nat) (i : Nat) (y : Hd) (a : Option Addr × Nat) : hf (insG H i y) (insG A i a) = insF (hf H A) i (hdl y a.1 a.2) := by
  funext j
  simp only [hf, insG, insF]
  by_cases h : j < i
  · simp [h]
  · by_cases h2 : j = i <;> simp [h, h2]
/-- A state with one hold more. -/
def keepY (s : Sv) (i : Nat) (y : Hd) : Sv := { s with hn := s.hn + 1, H := insG s.H i y }
theorem SvOw.pushK {B : Nat} {w w' : World} {s : Sv} {p : Pl} {A : Nat → Option Addr × Nat} {i : Nat} {y : Hd} {ka va : Option Addr} {kc vc : Nat} (h : SvOw B w s p A) (hi : i ≤ s.hn) (hk : w.ownsRow B 3 1 (.slice ka y.n kc) y.n (kL y)) (hrow : w'.ownsRow B 37 3 (.slice va (s.hn + 1) vc) (s.hn + 1) (flatL (insF (hf s.H A) i (hdl y ka kc)) (s.hn + 1))) (hg : w.grownBy w' (Value.slice p.ha s.hn p.hc).ownBlock) : SvOw B w' (keepY s i y) ⟨p.pa, p.pc, va, vc⟩ (insG A i (ka, kc)) := by
  refine ⟨h.lk, grown_keepV h.hd h.py (by decide) hg, ?_, fun j hj => ?_⟩
  · show w'.ownsRow B 37 3 (.slice va (s.hn + 1) vc) (s.hn + 1) (flatL (hf (insG s.H i y) (insG A i (ka, kc))) (s.hn + 1))
    rw [insG_hf]
    exact hrow
  · have hj' : j < s.hn + 1 := hj
    show w'.ownsRow B 3 1 (.slice (insG A i (ka, kc) j).1 (insG s.H i y j).n (insG A i (ka, kc) j).2) (insG s.H i y j).n (kL (insG s.H i y j))
    unfold insG
    by_cases h1 : j < i
    · simp only [h1, if_true]
      exact grown_keepV h.hd (h.ks j (by omega)) (by decide) hg
    · simp only [h1, if_false]
      by_cases h2 : j = i
      · simp only [h2, if_true]
        exact grown_keepV h.hd hk (by decide) hg
      · simp only [h2, if_false]
        exact grown_keepV h.hd (h.ks (j - 1) (by omega)) (by decide) hg
/-- Without what is at the place i. -/
def delG {α : Type} (H : Nat → α) (i : Nat) : Nat → α := fun j => if j < i then H j else H (j + 1)
theorem delG_hf (H : Nat → Hd) (A : Nat → Option Addr × Nat) (i : Nat) : hf (delG H i) (delG A i) = delF (hf H A) i := by
  funext j
  simp only [hf, delG, delF]
  by_cases h : j < i <;> simp [h]
/-- A state with one hold less. -/
def freeY (s : Sv) (i : Nat) : Sv := { s with hn := s.hn - 1, H := delG s.H i }
theorem SvOw.cutH {B : Nat} {w w' : World} {s : Sv} {p : Pl} {A : Nat → Option Addr × Nat} {i : Nat} (h : SvOw B w s p A) (hi : i < s.hn) (hrow : w'.ownsRow B 37 3 (.slice p.ha (s.hn - 1) p.hc) (s.hn - 1) (flatL (delF (hf s.H A) i) (s.hn - 1))) (hg : w.grownBy w' (Value.slice p.ha s.hn p.hc).ownBlock) : SvOw B w' (freeY s i) p (delG A i) := by
  refine ⟨h.lk, grown_keepV h.hd h.py (by decide) hg, ?_, fun j hj => ?_⟩
  · show w'.ownsRow B 37 3 (.slice p.ha (s.hn - 1) p.hc) (s.hn - 1) (flatL (hf (delG s.H i) (delG A i)) (s.hn - 1))
    rw [delG_hf]
    exact hrow
  · have hj' : j < s.hn - 1 := hj
    show w'.ownsRow B 3 1 (.slice (delG A i j).1 (delG s.H i j).n (delG A i j).2) (delG s.H i j).n (kL (delG s.H i j))
    unfold delG
    by_cases h1 : j < i
    · simp only [h1, if_true]
      exact grown_keepV h.hd (h.ks j (by omega)) (by decide) hg
    · simp only [h1, if_false]
      exact grown_keepV h.hd (h.ks (j + 1) (by omega)) (by decide) hg
end Go.Proofs.YtchiapnhkhbigaaDoor
