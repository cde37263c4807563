/- Events held against one another. -/
import Derived.Test.YthnobkiiaflelaaDoorOwnShelf03
import Derived.DeepKeys
import Derived.Deep.CutBlock
import Derived.Deep.DeepCutAuto
namespace Go.Proofs.YthnobkiiaflelaaDoor
open Go.RowKit Go.Maps Go.Sort

def Ev.Ok (x : Ev) : Prop := (-9223372036854775808 ≤ x.id ∧ x.id ≤ 9223372036854775807) ∧ (-9223372036854775808 ≤ x.due ∧ x.due ≤ 9223372036854775807) ∧ x.nm.length ≤ maxLen
theorem cellsE : Tryd.prog.cellsOf 58 = 3 := by kernel_rfl
theorem cellsEI : Tryd.prog.cellsOf 3 = 1 := by kernel_rfl
theorem cellsES : Tryd.prog.cellsOf 9 = 1 := by kernel_rfl
theorem ktE : Tryd.prog.keyTypeAt 4 58 = true := by kernel_rfl
theorem lits_i (d : Nat) {x : Int} (h : -9223372036854775808 ≤ x ∧ x ≤ 9223372036854775807) : Tryd.prog.keyLits (d + 1) 3 [.int .i64 x] = some [.int .i64 x] := by
  have hw : (Lit.int .i64 x).wf = true := by simp [Lit.wf, IntKind.min, IntKind.max, IntKind.signed, IntKind.bits]; omega
  unfold Program.keyLits
  rw [Tryd.underlying3]
  simp [hw]
theorem lits_s (d : Nat) {x : List UInt8} (h : x.length ≤ maxLen) : Tryd.prog.keyLits (d + 1) 9 [encStr x] = some [.string x] := by
  unfold Program.keyLits
  rw [Tryd.underlying9]
  simp
  exact h
theorem lits_e (d : Nat) {x : Ev} (h : x.Ok) : Tryd.prog.keyLits (d + 3) 58 (evL x) = some [.int .i64 x.id, .int .i64 x.due, .string x.nm] := by
  unfold Program.keyLits evL
  rw [Tryd.underlying58]
  simp only [List.length_cons, List.length_nil, cellsE]
  simp [cellsEI, cellsES, lits_i (d + 1) h.1, lits_i (d + 1) h.2.1, lits_s (d + 1) h.2.2]
theorem formedE (x : Ev) : (Value.agg (evL x).toArray).formed Tryd.prog 58 = true := by
  simp only [Value.formed, Tryd.underlying58, cellsE]
  simp [evL]
theorem eq_ev {x y : Ev} (hx : x.Ok) (hy : y.Ok) (w : World) :
    (Op.equalIn 10000 58 (.agg (evL x).toArray) (.agg (evL y).toArray)).run Tryd.prog w = .ok (decide (x.id = y.id ∧ x.due = y.due ∧ x.nm = y.nm)) w := by
  obtain ⟨r, h1, h2⟩ := run_equalIn_deep (P := Tryd.prog) 9996 4 58 ktE w 3 3 (.agg (evL x).toArray) (.agg (evL y).toArray) _ _ (formedE x) (formedE y) (by simpa [Value.cells] using lits_e 0 hx) (by simpa [Value.cells] using lits_e 0 hy)
  rw [show (10000 : Nat) = 9996 + 4 from rfl, h1]
  have hr : r = decide (x.id = y.id ∧ x.due = y.due ∧ x.nm = y.nm) := by
    rw [Bool.eq_iff_iff, h2, decide_eq_true_iff]
    simp
  rw [hr]
theorem guardE : Tryd.prog.eqGuardType Tryd.prog.depth 58 = false := by kernel_rfl
def evA (x : Ev) : Array Value := #[.int .i64 x.id, .int .i64 x.due, encStr x.nm]
theorem eq_evA {x y : Ev} (hx : x.Ok) (hy : y.Ok) (w : World) : (Op.equalIn 10000 58 (.agg (evA x)) (.agg (evA y))).run Tryd.prog w = .ok (decide (x.id = y.id ∧ x.due = y.due ∧ x.nm = y.nm)) w := eq_ev hx hy w
theorem exec_eqE {a : Act} {o : Oper} (p q : Operand) (ho : o.op = .binOp .eql 58 p q 58) {x y : Ev} (hx : x.Ok) (hy : y.Ok) (hp : a.eval p = .agg (evA x)) (hq : a.eval q = .agg (evA y)) {c : Bool} (hc : decide (x.id = y.id ∧ x.due = y.due ∧ x.nm = y.nm) = c) (w : World) :
    (execOp a.eval o).run Tryd.prog w = .ok (.value (.bool c)) w := by
  unfold execOp
  simp only [ho, hp, hq, Sem.run_bind, run_eqGuard_agg w .eql 58 p q _ _ guardE, run_eql_struct, eq_evA hx hy, hc, Result.andThen_ok, Sem.run_pure]
theorem exec_neE {a : Act} {o : Oper} (p q : Operand) (ho : o.op = .binOp .neq 58 p q 58) {x y : Ev} (hx : x.Ok) (hy : y.Ok) (hp : a.eval p = .agg (evA x)) (hq : a.eval q = .agg (evA y)) {c : Bool} (hc : decide (x.id = y.id ∧ x.due = y.due ∧ x.nm = y.nm) = !c) (w : World) :
    (execOp a.eval o).run Tryd.prog w = .ok (.value (.bool c)) w := by
  unfold execOp
  simp only [ho, hp, hq, Sem.run_bind, run_eqGuard_agg w .neq 58 p q _ _ guardE, run_neq_struct, eq_evA hx hy, hc, Result.andThen_ok, Sem.run_pure, Bool.not_not]
theorem ev_ext {x y : Ev} (h : x.id = y.id ∧ x.due = y.due ∧ x.nm = y.nm) : x = y := by
  cases x; cases y
  obtain ⟨rfl, rfl, rfl⟩ := h
  rfl

end Go.Proofs.YthnobkiiaflelaaDoor
