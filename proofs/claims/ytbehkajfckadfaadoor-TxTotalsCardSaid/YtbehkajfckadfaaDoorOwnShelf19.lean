/- What several texts share. -/
import Derived.Test.YtbehkajfckadfaaDoorOwnShelf01
import Derived.Test.YtbehkajfckadfaaDoorOwnShelf12
import Derived.Test.YtbehkajfckadfaaDoorOwnShelf13
import Derived.Test.YtbehkajfckadfaaDoorOwnShelf11
import Derived.Test.YtbehkajfckadfaaDoorOwnShelf16
import Derived.Test.YtbehkajfckadfaaDoorOwnShelf18
import Derived.Maps.AppendAt
import Derived.Deep.AppendSrc
import Derived.Deep.AppendLies
import Derived.Lib.Slices
namespace Go.Proofs.YtbehkajfckadfaaDoor
open Go.RowKit

/-- Rows of other types lie in other blocks. -/
theorem own_apart {w : World} {B C T U k l n m : Nat} {v u : Value} {xs ys : List Value} (h : w.ownsRow B T k v n xs) (h' : w.ownsRow C U l u m ys) (hT : T ≠ U) : ∀ g, v.ownBlock = some g → u.ownBlock ≠ some g := by
  intro g e e'
  rcases h.2 with ⟨rfl, _⟩ | ⟨g1, cap, cur, rfl, _, hg, _⟩
  · cases e
  · rcases h'.2 with ⟨rfl, _⟩ | ⟨g2, cap2, cur2, rfl, _, hg2, _⟩
    · cases e'
    · have e1 : g1 = g := by simpa [Value.ownBlock] using e
      have e2 : g2 = g := by simpa [Value.ownBlock] using e'
      subst e1 e2
      rw [hg] at hg2
      simp at hg2
      exact hT hg2.2
end Go.Proofs.YtbehkajfckadfaaDoor

namespace Go.Proofs.YtbehkajfckadfaaDoor
open Go.RowKit

theorem range_app {w : World} {g off : Nat} {l1 l2 : List Value} (h : w.rangeAt g off (l1 ++ l2)) : w.rangeAt g off l1 ∧ w.rangeAt g (off + l1.length) l2 := by
  refine ⟨fun j v hv => h j v ?_, fun j v hv => ?_⟩
  · rw [List.getElem?_append_left (List.getElem?_eq_some_iff.1 hv).1]; exact hv
  · have := h (l1.length + j) v (by rw [List.getElem?_append_right (by omega)]; simpa using hv)
    rwa [← Nat.add_assoc] at this
section
variable {ops : Array Oper} {rest : List Oper} {o : Oper} {a : Act} {w : World} {Q : Exit → Act → World → Prop}
end
end Go.Proofs.YtbehkajfckadfaaDoor

namespace Go.Proofs.YtbehkajfckadfaaDoor
open Go.RowKit

theorem infoTo : (Tryd.prog.info? 36).map (fun i => (i.zero, i.size, i.bytes)) = some (some (.agg #[.int .i64 0, .slice none 0 0]), 2, 32) := by kernel_rfl
theorem slice_to (am : Int) (ca : Option Addr) (n cc : Nat) (w : World) : (Instr.buildSlice 25 1 #[(0, .agg #[.int .i64 am, .slice ca n cc])]).run Tryd.prog w = .ok (.slice (some ⟨w.heap.size, 0, none⟩) 1 1) (w.alloc (.cells #[.int .i64 am, .slice ca n cc] 36)) := by kernel_rfl
theorem run_append_To (w : World) (B q : Nat) (ty : TypeId) (v : Value) (i : Nat) (xs : List Value) (am : Int) (ca : Option Addr) (n cc : Nat) (hown : w.ownsRow B 36 2 v i xs) (hB : B ≤ w.heap.size) (hq : w.heap[q]? = some (.cells #[.int .i64 am, .slice ca n cc] 36 (0, 0))) (hi : i ≤ 1000000) :
    ∃ va vc w1, (Builtin.append_ #[25, 25] ty #[v, .slice (some ⟨q, 0, none⟩) 1 1]).run Tryd.prog w = .ok (.slice va (i + 1) vc) w1 ∧ w1.ownsRow B 36 2 (.slice va (i + 1) vc) (i + 1) (xs ++ [.int .i64 am, .slice ca n cc]) ∧ w.grownBy w1 v.ownBlock ∧ ((Value.slice va (i + 1) vc).ownBlock = v.ownBlock ∨ (Value.slice va (i + 1) vc).ownBlock = some w.heap.size) := by
  obtain ⟨i0, hi0, hz0, hz1, hz2⟩ := info_parts infoTo
  obtain ⟨v', w1, hr, h2, h3, _, h5⟩ := run_append_own_at (P := Tryd.prog) w B 25 ty 36 i0 (.agg #[.int .i64 0, .slice none 0 0]) 2 32 Tryd.underlying25 hi0 hz0 hz1 hz2 rfl (by omega) v i xs hown ⟨q, 0, none⟩ 1 1 [.int .i64 am, .slice ca n cc] rfl (fun j u hj => by
      rw [Addr.add_lit, Nat.zero_add, cell_of_row _ _ j _ _ _ hq]
      simpa using hj) (fun u hu => by simp at hu; rcases hu with rfl | rfl <;> rfl) (by unfold maxLen; omega) (by omega) hB
  obtain ⟨va, vc, rfl, _, _⟩ := own_frmV h2
  exact ⟨va, vc, w1, hr, h2, h3, h5⟩
section
variable {ops : Array Oper} {rest : List Oper} {o : Oper} {a : Act} {w : World} {Q : Exit → Act → World → Prop} {K : Act → World → Prop} {E : Prop}
theorem step_sliceTo (hgd : o.guard = none) (x : Operand) (ho : o.op = .buildSlice 25 1 #[(0, x)]) (am : Int) (ca : Option Addr) (n cc : Nat) (hx : a.eval x = .agg #[.int .i64 am, .slice ca n cc])
    (h : ∀ q w1, w1.heap[q]? = some (.cells #[.int .i64 am, .slice ca n cc] 36 (0, 0)) → w.heap.size ≤ q → Below w.heap.size w w1 → K (a.put o.dst (.slice (some ⟨q, 0, none⟩) 1 1)) w1) : if Region.wanted o (yielded ops a.tmps) = true then Oper.wp Tryd.prog o a w K Q else E := by
  have hw : Region.wanted o (yielded ops a.tmps) = true := by simp [Region.wanted, hgd]
  rw [if_pos hw]
  unfold Oper.wp execOp
  simp only [ho, List.map_toArray, List.map_cons, List.map_nil, hx, Sem.run_bind, slice_to, Result.andThen]
  exact h _ _ (heap_alloc_new _ _) (Nat.le_refl _) ((Below.refl _ _).alloc (Nat.le_refl _) _)
theorem step_append_To (hgd : o.guard = none) (s x : Operand) (ho : o.op = .call { callee := .builtin .append, args := #[s, x], argTypes := #[25, 25] }) (B q : Nat) (v : Value) (i : Nat) (xs : List Value) (am : Int) (ca : Option Addr) (n cc : Nat) (hs : a.eval s = v) (hx : a.eval x = .slice (some ⟨q, 0, none⟩) 1 1) (hown : w.ownsRow B 36 2 v i xs) (hB : B ≤ w.heap.size) (hq : w.heap[q]? = some (.cells #[.int .i64 am, .slice ca n cc] 36 (0, 0))) (hi : i ≤ 1000000)
    (h : ∀ va vc w1, w1.ownsRow B 36 2 (.slice va (i + 1) vc) (i + 1) (xs ++ [.int .i64 am, .slice ca n cc]) → w.grownBy w1 v.ownBlock → ((Value.slice va (i + 1) vc).ownBlock = v.ownBlock ∨ (Value.slice va (i + 1) vc).ownBlock = some w.heap.size) → K (a.put o.dst (.slice va (i + 1) vc)) w1) : if Region.wanted o (yielded ops a.tmps) = true then Oper.wp Tryd.prog o a w K Q else E := by
  have hw : Region.wanted o (yielded ops a.tmps) = true := by simp [Region.wanted, hgd]
  rw [if_pos hw]
  obtain ⟨va, vc, w1, hr, h1, h2, h3⟩ := run_append_To w B q o.type v i xs am ca n cc hown hB hq hi
  unfold Oper.wp execOp
  simp only [ho, resolve, invoke, builtin, Sem.run_bind, Sem.run_pure, Result.andThen_ok, List.map_toArray, List.map_cons, List.map_nil, hs, hx, hr]
  exact h _ _ _ h1 h2 h3
end
end Go.Proofs.YtbehkajfckadfaaDoor

namespace Go.Proofs.YtbehkajfckadfaaDoor
open Go.RowKit

theorem slice_ti (x : Ti) (sa : Option Addr) (sc : Nat) (w : World) : (Instr.buildSlice 24 1 #[(0, .agg (tiv x sa sc))]).run Tryd.prog w = .ok (.slice (some ⟨w.heap.size, 0, none⟩) 1 1) (w.alloc (.cells (tiv x sa sc) 56)) := by kernel_rfl
theorem infoTi : (Tryd.prog.info? 56).map (fun i => (i.zero, i.size, i.bytes)) = some (some (.agg (tiv ti0 none 0)), 35, 72) := by kernel_rfl
theorem run_append_Ti (w : World) (B q : Nat) (ty : TypeId) (v : Value) (i : Nat) (xs : List Value) (x : Ti) (sa : Option Addr) (sc : Nat) (hown : w.ownsRow B 56 35 v i xs) (hB : B ≤ w.heap.size) (hq : w.heap[q]? = some (.cells (tiv x sa sc) 56 (0, 0))) (hi : i ≤ 1000000) :
    ∃ va vc w1, (Builtin.append_ #[24, 24] ty #[v, .slice (some ⟨q, 0, none⟩) 1 1]).run Tryd.prog w = .ok (.slice va (i + 1) vc) w1 ∧ w1.ownsRow B 56 35 (.slice va (i + 1) vc) (i + 1) (xs ++ til x sa sc) ∧ w.grownBy w1 v.ownBlock := by
  obtain ⟨i0, hi0, hz0, hz1, hz2⟩ := info_parts infoTi
  obtain ⟨v', w1, hr, h2, h3, _, h5⟩ := run_append_own_at (P := Tryd.prog) w B 24 ty 56 i0 (.agg (tiv ti0 none 0)) 35 72 Tryd.underlying24 hi0 hz0 hz1 hz2 (by simp [Value.cells, tiv_size]) (by omega) v i xs hown ⟨q, 0, none⟩ 1 1 (til x sa sc) (by rw [til_length]) (fun j u hj => by
      rw [Addr.add_lit, Nat.zero_add, cell_of_row _ _ j _ _ _ hq]
      simpa [tiv] using hj) (til_one _ _ _) (by unfold maxLen; omega) (by omega) hB
  obtain ⟨va, vc, rfl, _, _⟩ := own_frmV h2
  exact ⟨va, vc, w1, hr, h2, h3⟩
section
variable {ops : Array Oper} {rest : List Oper} {o : Oper} {a : Act} {w : World} {Q : Exit → Act → World → Prop}
end
end Go.Proofs.YtbehkajfckadfaaDoor

namespace Go.Proofs.YtbehkajfckadfaaDoor
open Go.RowKit

/-- A transaction lies in a world: what it says, where its bytes are. -/
structure TxAt (w : World) (lk : Int) (n : Nat) (X : Nat → Ti) (Z : Nat → Nat → Int) (m : Nat) (O : Nat → To) (ia : Option Addr) (oa : Option Addr) (S : Nat → Option Addr × Nat) : Prop where
  ti : TiAt w ia n X S
  ou : ToAt w oa m O
  sc : ∀ i, i < n → SlAt w (S i).1 (X i).sn (Z i) ∧ (X i).sn ≤ 1000000
theorem TxAt.below {w w' : World} {lk : Int} {n : Nat} {X : Nat → Ti} {Z : Nat → Nat → Int} {m : Nat} {O : Nat → To} {ia oa : Option Addr} {S : Nat → Option Addr × Nat} (h : TxAt w lk n X Z m O ia oa S) (hb : Below w.heap.size w w') : TxAt w' lk n X Z m O ia oa S := ⟨h.ti.below hb, h.ou.below hb, fun i hi => ⟨(h.sc i hi).1.below hb, (h.sc i hi).2⟩⟩
end Go.Proofs.YtbehkajfckadfaaDoor

namespace Go.Proofs.YtbehkajfckadfaaDoor
open Go.RowKit

section
variable {ops : Array Oper} {o : Oper} {a : Act} {w : World} {K : Act → World → Prop} {Q : Exit → Act → World → Prop} {E : Prop}
end
theorem grown_low {w1 w2 : World} {B T k n : Nat} {v : Value} {xs : List Value} (h : w1.ownsRow B T k v n xs) (hg : w1.grownBy w2 v.ownBlock) (hB : B ≤ w1.heap.size) : ∀ k, k < B → w2.heap[k]? = w1.heap[k]? := fun k hk =>
  hg.block k (by omega) (fun e => by have := (h.lt k e.symm).1; omega)
theorem grown_keepV {w1 w2 : World} {B C T U k l n m : Nat} {v u : Value} {xs ys : List Value} (h : w1.ownsRow B T k v n xs) (h' : w1.ownsRow C U l u m ys) (hT : U ≠ T) (hg : w1.grownBy w2 v.ownBlock) : w2.ownsRow C U l u m ys :=
  own_keep h' fun g e => hg.block g (h'.lt g e).2 (fun e2 => own_apart h' h hT g e e2.symm)
theorem grown_below {w w1 w2 : World} {B T k n : Nat} {v : Value} {xs : List Value} (h : w1.ownsRow B T k v n xs) (hg : w1.grownBy w2 v.ownBlock) (hb : Below w.heap.size w w1) (hB : w.heap.size ≤ B) : Below w.heap.size w w2 :=
  hb.trans ⟨hg.os, hg.tape, hg.output, hg.size, fun k hk => hg.block k (by have := hb.size; omega) (fun e => by have := (h.lt k e.symm).1; omega)⟩
theorem three_new (w : World) (o1 o2 o3 : Obj) : ((w.alloc o1).alloc o2).alloc o3 = ((w.alloc o1).alloc o2).alloc o3 ∧
    Below w.heap.size w (((w.alloc o1).alloc o2).alloc o3) := ⟨rfl, (((Below.refl _ w).alloc (Nat.le_refl _) _).alloc (by simp) _).alloc (by simp; omega) _⟩

end Go.Proofs.YtbehkajfckadfaaDoor
