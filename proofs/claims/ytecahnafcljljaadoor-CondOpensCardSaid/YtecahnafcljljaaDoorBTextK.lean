/- Text's signs; two bytes built, bytes appended in a region that draws. -/
import Derived.Test.YtecahnafcljljaaDoorBKeyed
import Derived.Test.YtecahnafcljljaaDoorBOw
namespace Go.Proofs.YtecahnafcljljaaDoor
open Go.RowKit

/-- A digit of base 16, as a byte. -/
def dg (d : Nat) : Nat := if d < 10 then 48 + d else 87 + d
def dgS : ByteArray := ⟨#[48, 49, 50, 51, 52, 53, 54, 55, 56, 57, 97, 98, 99, 100, 101, 102]⟩
/-- The digits of the first k bytes. -/
def txI (h : List Nat) : Nat → List Int
  | 0 => []
  | k + 1 => txI h k ++ [((dg (h.getD k 0 / 16) : Nat) : Int), ((dg (h.getD k 0 % 16) : Nat) : Int)]
theorem txI_len (h : List Nat) : ∀ k, (txI h k).length = 2 * k
  | 0 => rfl
  | k + 1 => by simp [txI, txI_len h k]; omega
def strL (L : List Int) : ByteArray := strB (fn L) L.length
theorem strL_eq (L : List Int) : strL L = ⟨(L.map fun x => UInt8.ofNat x.toNat).toArray⟩ := by
  unfold strL strB
  congr 2
  apply List.ext_getElem?
  intro j
  simp only [List.getElem?_map]
  by_cases hj : j < L.length
  · simp [List.getElem?_range hj, fn, List.getElem?_eq_getElem hj]
  · rw [List.getElem?_eq_none (l := List.range L.length) (by simp; omega), List.getElem?_eq_none (l := L) (by omega)]; rfl
def hexB (h : List Nat) : ByteArray := strL (txI h 32)
theorem dg_lt {d : Nat} (h : d < 16) : dg d < 256 := by unfold dg; split <;> omega
theorem dgS_at {d : Nat} (h : d < 16) : dgS[d]? = some (UInt8.ofNat (dg d)) := by
  have : ∀ j : Fin 16, dgS[j.val]? = some (UInt8.ofNat (dg j.val)) := by decide
  exact this ⟨d, h⟩
theorem ru_idxS {P : Program} {o : Oper} {a : Act} {w : World} {t : TypeId} {y : Operand} {d : Nat} {k : IntKind} {i : Int} (hu : P.underlying t = some .string) (ho : o.op = .index t (.const (.string dgS)) y) (hy : a.eval y = .int k i) (hi : i = d) (hd : d < 16) :
    (execOp a.eval o).run P w = .ok (.value (.int .u8 (dg d : Nat))) w := by
  subst hi
  have h1 := dgS_at hd
  have h2 : (UInt8.ofNat (dg d)).toNat = dg d := by have := dg_lt hd; simp; omega
  have h3 : (dg d % 256 : Nat) = dg d := Nat.mod_eq_of_lt (dg_lt hd)
  unfold execOp
  simp [ho, hy, show a.eval (.const (.string dgS)) = .string dgS from rfl, Instr.index, run_underlying hu, asIntOf, h1, h3]
theorem run_build2 (x y : Int) (w : World) : (Instr.buildSlice 26 2 #[(0, .int .u8 x), (1, .int .u8 y)]).run Tryd.prog w = .ok (.slice (some ⟨w.heap.size, 0, none⟩) 2 2) (w.alloc (.cells #[.int .u8 x, .int .u8 y] 5)) := by kernel_rfl
theorem wp_build2 {o : Oper} {a : Act} {w : World} {K : Act → World → Prop} {Q : Exit → Act → World → Prop} {x y : Operand} {n m : Int} (ho : o.op = .buildSlice 26 2 #[(0, x), (1, y)]) (hx : a.eval x = .int .u8 n) (hy : a.eval y = .int .u8 m)
    (h : K (a.put o.dst (.slice (some ⟨w.heap.size, 0, none⟩) 2 2)) (w.alloc (.cells #[.int .u8 n, .int .u8 m] 5))) : o.wp Tryd.prog a w K Q := by
  unfold Oper.wp execOp
  simp only [ho, List.map_toArray, List.map_cons, List.map_nil, hx, hy, Sem.run_bind, run_build2, Result.andThen]
  exact h
theorem wp_append_B {o : Oper} {a : Act} {w : World} {K : Act → World → Prop} {Q : Exit → Act → World → Prop} {s x : Operand} (ho : o.op = .call { callee := .builtin .append, args := #[s, x], argTypes := #[26, 26] })
    {w0 : World} {v u : Value} {L ys : List Int} (hs : a.eval s = v) (hx : a.eval x = u) (hown : Ow w0 w v L) (hu : BSrc w u ys) (hy : ∀ y, y ∈ ys → 0 ≤ y ∧ y ≤ 255) (hlen : L.length + ys.length ≤ 140737488355328)
    (h : ∀ v' w1, Ow w0 w1 v' (L ++ ys) → K (a.put o.dst v') w1) : o.wp Tryd.prog a w K Q := by
  obtain ⟨v', w1, hr, h2⟩ := run_append_B w w0 o.type v u L ys hown hu hy hlen
  unfold Oper.wp execOp
  simp only [ho, resolve, invoke, builtin, Sem.run_bind, Sem.run_pure, Result.andThen_ok, List.map_toArray, List.map_cons, List.map_nil, hs, hx, hr]
  exact h v' w1 h2

end Go.Proofs.YtecahnafcljljaaDoor
