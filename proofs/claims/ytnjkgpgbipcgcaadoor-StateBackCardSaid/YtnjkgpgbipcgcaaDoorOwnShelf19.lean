/- Rows of words; slots of a frame; one cell loaded and stored. -/
import Derived.Test.YtnjkgpgbipcgcaaDoorOwnShelf01
import Derived.Test.YtnjkgpgbipcgcaaDoorOwnShelf16
import Derived.Test.YtnjkgpgbipcgcaaDoorOwnShelf18
namespace Go.Proofs.YtnjkgpgbipcgcaaDoor
open Go.RowKit

/-- Words, and small numbers, as cells. -/
def wl (v : List Nat) : List Value := v.map fun x => Value.int .u32 (x : Nat)
def wv (v : List Nat) : Array Value := (wl v).toArray
def sl8 (s : List Nat) : List Value := s.map fun x => Value.int .u8 (x : Nat)
def sv (s : List Nat) : Array Value := (sl8 s).toArray
theorem wv_size (v : List Nat) : (wv v).size = v.length := by simp [wv, wl]
theorem wv_at {v : List Nat} {j : Nat} (h : j < v.length) : (wv v)[j]? = some (.int .u32 (v.getD j 0 : Nat)) := by
  simp [wv, wl, List.getElem?_map, List.getElem?_eq_getElem h, List.getD_eq_getElem?_getD]
theorem sv_at {v : List Nat} {j : Nat} (h : j < v.length) : (sv v)[j]? = some (.int .u8 (v.getD j 0 : Nat)) := by
  simp [sv, sl8, List.getElem?_map, List.getElem?_eq_getElem h, List.getD_eq_getElem?_getD]
theorem wv_one (v : List Nat) : (wv v).all (·.oneCell') = true := by
  refine all_oneCell_toArray (fun u hu => ?_)
  obtain ⟨x, _, rfl⟩ := List.mem_map.1 hu
  rfl
theorem wv_set {w : World} {g : Nat} {t : TypeId} {v : List Nat} (h : w.heap[g]? = some (.cells (wv v) t (0, 0))) (j x : Nat) :
    (w.setCell ⟨g, j, none⟩ (.int .u32 (x : Nat))).heap[g]? = some (.cells (wv (v.set j x)) t (0, 0)) := by
  rw [heap_setCell_same w g j _ t _ h]
  simp [wv, wl, List.map_set]

section
variable {a : Act} {d x : Nat} {v : Value} {o : Option Tmp}
theorem ev_same (h : d < a.tmps.size) : (a.put (some d) v).eval (.tmp d) = v := by simp [Act.put, Act.eval, h]
theorem ev_ne (h : d ≠ x) : (a.put (some d) v).eval (.tmp x) = a.eval (.tmp x) := Act.eval_put (fun e he => by cases he; simpa using Ne.symm h)
theorem put_size : (a.put o v).tmps.size = a.tmps.size := by cases o <;> simp [Act.put]
theorem put_defers' : (a.put o v).defers = a.defers := by cases o <;> rfl
theorem put_none : a.put none v = a := rfl
end

section
variable {P : Program} {o : Oper} {a : Act} {w : World} {K : Act → World → Prop} {Q : Exit → Act → World → Prop}
theorem ru_move {x : Operand} (ho : o.op = .move x) {v : Value} (hx : a.eval x = v) : (execOp a.eval o).run P w = .ok (.value v) w := by
  unfold execOp; simp [ho, hx]
theorem ru_nil {x : Operand} (ho : o.op = .nilCheck x) {ad : Addr} (hx : a.eval x = .pointer (some ad)) : (execOp a.eval o).run P w = .ok (.value (.pointer (some ad))) w := by
  unfold execOp; simp [ho, hx]
theorem ru_idx {t e : TypeId} {x y : Operand} (ho : o.op = .indexAddr t x y) {g n j : Nat} {k : IntKind} {i : Int} (hu : P.underlying t = some (.array n e)) (hz : ∀ w, (sizeOf e).run P w = .ok 1 w)
    (hx : a.eval x = .pointer (some ⟨g, 0, none⟩)) (hy : a.eval y = .int k i) (hi : i = j) (hj : j < n) : (execOp a.eval o).run P w = .ok (.value (.pointer (some ⟨g, j, none⟩))) w := by
  subst hi
  unfold execOp
  simp [ho, hx, hy, Instr.indexAt, run_underlying hu, Instr.sureAddr, asIntOf, hz, Addr.add, hj]
  by_cases h0 : j = 0
  · simp [h0]
  · simp [h0]
theorem ru_ext {x : Operand} {i : Nat} {l : Array Value} {v : Value} (ho : o.op = .extract x i) (hx : a.eval x = .tuple l) (hi : l[i]? = some v) : (execOp a.eval o).run P w = .ok (.value v) w := by
  unfold execOp; simp [ho, hx, Instr.extract, hi]
end
theorem ru_ld32 {o : Oper} {a : Act} {w : World} {x : Operand} (ho : o.op = .load 162 x) {g j : Nat} {u : Value} (hx : a.eval x = .pointer (some ⟨g, j, none⟩)) (hc : w.cell? ⟨g, j, none⟩ = some u) : (execOp a.eval o).run Tryd.prog w = .ok (.value u) w := by
  unfold execOp
  simp only [ho, hx]
  go_simp
theorem ru_ld8 {o : Oper} {a : Act} {w : World} {x : Operand} (ho : o.op = .load 5 x) {g j : Nat} {u : Value} (hx : a.eval x = .pointer (some ⟨g, j, none⟩)) (hc : w.cell? ⟨g, j, none⟩ = some u) : (execOp a.eval o).run Tryd.prog w = .ok (.value u) w := by
  unfold execOp
  simp only [ho, hx]
  go_simp
theorem wp_st32 {o : Oper} {a : Act} {w : World} {K : Act → World → Prop} {Q : Exit → Act → World → Prop} {x y : Operand} (ho : o.op = .store 162 x y) (hd : o.dst = none) {g j : Nat} {u : Value} {n : Int} (hx : a.eval x = .pointer (some ⟨g, j, none⟩)) (hy : a.eval y = .int .u32 n)
    (hc : w.cell? ⟨g, j, none⟩ = some u) (hf : w.frozen? ⟨g, j, none⟩ = false) (h : K a (w.setCell ⟨g, j, none⟩ (.int .u32 n))) : o.wp Tryd.prog a w K Q := by
  unfold Oper.wp execOp
  simp only [ho, hx, hy]
  go_simp
  exact h
theorem hz32 (w : World) : (sizeOf 162).run Tryd.prog w = .ok 1 w := by kernel_rfl
end Go.Proofs.YtnjkgpgbipcgcaaDoor
