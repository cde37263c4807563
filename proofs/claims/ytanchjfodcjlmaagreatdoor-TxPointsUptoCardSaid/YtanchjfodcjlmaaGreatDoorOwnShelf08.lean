/- give: a condition as the program's. -/
import Derived.Test.YtanchjfodcjlmaaGreatDoorOwnShelf07
import Derived.Maps.AppendAt
namespace Go.Proofs.YtanchjfodcjlmaaGreatDoor.Cd
open Go.RowKit


theorem run_allocB (w : World) : (Instr.alloc 101 true (.tuple #[])).run Tryz.prog w = .ok (.pointer (some ⟨w.heap.size, 0, none⟩)) (w.alloc (.cells (bv b0 none 0) 101)) := by kernel_rfl
theorem slice_b (x : Bv) (ka : Option Addr) (kc : Nat) (w : World) : (Instr.buildSlice 74 1 #[(0, .agg (bv x ka kc))]).run Tryz.prog w = .ok (.slice (some ⟨w.heap.size, 0, none⟩) 1 1) (w.alloc (.cells (bv x ka kc) 101)) := by kernel_rfl
theorem infoB : (Tryz.prog.info? 101).map (fun i => (i.zero, i.size, i.bytes)) = some (some (.agg (bv b0 none 0)), 35, 72) := by kernel_rfl
section
variable {ops : Array Oper} {rest : List Oper} {o : Oper} {a : Act} {w : World} {Q : Exit → Act → World → Prop}
theorem wpList_allocB (hgd : o.guard = none) (ho : o.op = .alloc 101)
  (h : wpList Tryz.prog ops Q rest (a.put o.dst (.pointer (some ⟨w.heap.size, 0, none⟩))) (w.alloc (.cells (bv b0 none 0) 101))) : wpList Tryz.prog ops Q (o :: rest) a w := by
 refine wpList_plain hgd fun K hK => ?_
 unfold Oper.wp execOp
 simp only [ho, Sem.run_bind, run_allocB, Result.andThen]
 exact hK _ _ h
theorem wpList_sliceB (hgd : o.guard = none) (x : Operand) (ho : o.op = .buildSlice 74 1 #[(0, x)]) (v : Bv) (ka : Option Addr) (kc : Nat) (hx : a.eval x = .agg (bv v ka kc))
  (h : wpList Tryz.prog ops Q rest (a.put o.dst (.slice (some ⟨w.heap.size, 0, none⟩) 1 1)) (w.alloc (.cells (bv v ka kc) 101))) : wpList Tryz.prog ops Q (o :: rest) a w := by
 refine wpList_plain hgd fun K hK => ?_
 unfold Oper.wp execOp
 simp only [ho, List.map_toArray, List.map_cons, List.map_nil, hx, Sem.run_bind, slice_b, Result.andThen]
 exact hK _ _ h
end

/-- The cells of n branches, one behind the other; the keys of the branch i at A i. -/
def flatB (X : Nat → Bv) (A : Nat → Option Addr × Nat) : Nat → List Value
 | 0 => []
 | n + 1 => flatB X A n ++ brl (X n) (A n).1 (A n).2
theorem flatB_length (X : Nat → Bv) (A : Nat → Option Addr × Nat) : ∀ n, (flatB X A n).length = n * 35
 | 0 => rfl
 | n + 1 => by rw [flatB, List.length_append, flatB_length X A n, brl_length]; omega
theorem flatB_congr {X : Nat → Bv} {A B : Nat → Option Addr × Nat} : ∀ n, (∀ i, i < n → A i = B i) → flatB X A n = flatB X B n
 | 0, _ => rfl
 | n + 1, h => by rw [flatB, flatB, flatB_congr n (fun i hi => h i (by omega)), h n (by omega)]
theorem flatB_at (X : Nat → Bv) (A : Nat → Option Addr × Nat) : ∀ n i r, i < n → r < 35 → (flatB X A n)[i * 35 + r]? = (brl (X i) (A i).1 (A i).2)[r]?
 | 0, _, _, h, _ => by omega
 | n + 1, i, r, h, hr => by
  rw [flatB]
  by_cases e : i = n
  ·subst e
   rw [List.getElem?_append_right (by rw [flatB_length]; omega), flatB_length, Nat.add_sub_cancel_left]
  ·rw [List.getElem?_append_left (by rw [flatB_length]; omega)]
   exact flatB_at X A n i r (by omega) hr
/-- What has been given of a condition: the first i branches. -/
structure GivR (w wr : World) (v : Value) (X : Nat → Bv) (A : Nat → Option Addr × Nat) (i : Nat) : Prop where
 below : Below w.heap.size w wr
 own : wr.ownsRow w.heap.size 101 35 v i (flatB X A i)
 keys : ∀ j, j < i → IsAt wr (A j).1 (X j).n (X j).z
 apart : ∀ j, j < i → ∀ a, (A j).1 = some a → w.heap.size ≤ a.block ∧ a.block < wr.heap.size ∧ v.ownBlock ≠ some a.block
/-- A condition whose branches and keys lie in blocks from B on: it stays whatever becomes of the others. -/
def BrIn (wr : World) (B : Nat) (ad : Option Addr) (n : Nat) (X : Nat → Bv) : Prop := ∀ w' : World, (∀ k, B ≤ k → k < wr.heap.size → w'.heap[k]? = wr.heap[k]?) → BrAt w' ad n X
theorem BrIn.brAt {wr : World} {B : Nat} {ad : Option Addr} {n : Nat} {X : Nat → Bv} (h : BrIn wr B ad n X) : BrAt wr ad n X := h wr (fun _ _ _ => rfl)
theorem BrIn.mono {wr : World} {B B' : Nat} {ad : Option Addr} {n : Nat} {X : Nat → Bv} (h : BrIn wr B ad n X) (hB : B' ≤ B) : BrIn wr B' ad n X := fun w' hw => h w' (fun k h1 h2 => hw k (by omega) h2)
theorem GivR.brIn {w wr : World} {v : Value} {X : Nat → Bv} {A : Nat → Option Addr × Nat} {i : Nat} (h : GivR w wr v X A i) (hok : ∀ j, j < i → (X j).Ok) : ∃ ad cap, v = .slice ad i cap ∧ BrIn wr w.heap.size ad i X := by
 rcases h.own.2 with ⟨rfl, rfl⟩ | ⟨g, cap, cur, rfl, hg, hgc, _⟩
 ·exact ⟨none, 0, rfl, fun w' _ => BrAt.nil _ _ _⟩
 ·refine ⟨_, cap, rfl, fun w' hw => ⟨hok, fun hn => ⟨g, 0, rfl, fun j hj => ⟨(A j).1, (A j).2, fun r u hu => ?_, fun hn2 => ?_⟩⟩⟩⟩
  ·have hr : r < 35 := by
    have := (List.getElem?_eq_some_iff.1 hu).1
    rwa [brl_length] at this
   have := h.own.cells (g := g) rfl (j * 35 + r) u (by rw [flatB_at X A i j r hj hr]; exact hu)
   rw [Addr.add_lit] at this
   rw [Nat.add_assoc, World.cell?_of_block (a := ⟨g, 0 + (j * 35 + r), none⟩) (hw g hg (lt_of_block hgc))]
   exact this
  ·obtain ⟨b, off, e, hc⟩ := h.keys j hj hn2
   refine ⟨b, off, e, fun q hq => ?_⟩
   rw [World.cell?_of_block (a := ⟨b, off + q, none⟩) (hw b (h.apart j hj _ e).1 (h.apart j hj _ e).2.1)]
   exact hc q hq
theorem GivR.brAt {w wr w' : World} {v : Value} {X : Nat → Bv} {A : Nat → Option Addr × Nat} {i : Nat} (h : GivR w wr v X A i) (hok : ∀ j, j < i → (X j).Ok) (hw : ∀ k, w.heap.size ≤ k → w'.heap[k]? = wr.heap[k]?) : ∃ ad cap, v = .slice ad i cap ∧ BrAt w' ad i X := by
 rcases h.own.2 with ⟨rfl, rfl⟩ | ⟨g, cap, cur, rfl, hg, _⟩
 ·exact ⟨none, 0, rfl, BrAt.nil _ _ _⟩
 ·refine ⟨_, cap, rfl, hok, fun hn => ⟨g, 0, rfl, fun j hj => ⟨(A j).1, (A j).2, fun r u hu => ?_, fun hn2 => ?_⟩⟩⟩
  ·have hr : r < 35 := by
    have := (List.getElem?_eq_some_iff.1 hu).1
    rwa [brl_length] at this
   have := h.own.cells (g := g) rfl (j * 35 + r) u (by rw [flatB_at X A i j r hj hr]; exact hu)
   rw [Addr.add_lit] at this
   rw [Nat.add_assoc, World.cell?_of_block (a := ⟨g, 0 + (j * 35 + r), none⟩) (hw g hg)]
   exact this
  ·obtain ⟨b, off, e, hc⟩ := h.keys j hj hn2
   refine ⟨b, off, e, fun q hq => ?_⟩
   rw [World.cell?_of_block (a := ⟨b, off + q, none⟩) (hw b (h.apart j hj _ e).1)]
   exact hc q hq
theorem GivR.keep {w wr w' : World} {v : Value} {X : Nat → Bv} {A : Nat → Option Addr × Nat} {i : Nat} (h : GivR w wr v X A i) (hb : Below wr.heap.size wr w') : GivR w w' v X A i := by
 obtain ⟨h1, h2, h3, h4⟩ := h
 refine ⟨Below.transS h1 hb, ⟨h2.1, ?_⟩, fun j hj => (h3 j hj).below hb, fun j hj a e => ?_⟩
 ·rcases h2.2 with hn | ⟨g, cap, cur, e, hbs, hg, rest⟩
  ·exact .inl hn
  ·exact .inr ⟨g, cap, cur, e, hbs, by rw [hb.block _ (lt_of_block hg)]; exact hg, rest⟩
 ·obtain ⟨p, q, r⟩ := h4 j hj a e
  exact ⟨p, Nat.lt_of_lt_of_le q hb.size, r⟩
theorem isAt_grown {w w' : World} {row : Option Nat} {ka : Option Addr} {n : Nat} {z : Nat → Int} (h : IsAt w ka n z) (hg : w.grownBy w' row) (ha : ∀ a, ka = some a → row ≠ some a.block) : IsAt w' ka n z := by
 intro hn
 obtain ⟨b, off, e, hc⟩ := h hn
 refine ⟨b, off, e, fun j hj => ?_⟩
 have h1 := hc j hj
 have hl : b < w.heap.size := World.block_lt_of_cell? w ⟨b, off + j, none⟩ h1
 rw [World.cell?_of_block (a := ⟨b, off + j, none⟩) (hg.block b hl (fun e2 => ha _ e e2.symm))]
 exact h1
theorem isAt_set {w : World} {g o : Nat} {u : Value} {ka : Option Addr} {n : Nat} {z : Nat → Int} (h : IsAt w ka n z) (ha : ∀ a, ka = some a → a.block ≠ g) : IsAt (w.setCell ⟨g, o, none⟩ u) ka n z := by
 intro hn
 obtain ⟨b, off, e, hc⟩ := h hn
 refine ⟨b, off, e, fun j hj => ?_⟩
 rw [World.cell?_of_block (a := ⟨b, off + j, none⟩) (Below.heap_setCell _ _ _ _ (ha _ e))]
 exact hc j hj
theorem GivR.next {w w4 w5 : World} {v v' : Value} {X : Nat → Bv} {A : Nat → Option Addr × Nat} {i : Nat} {ka : Option Addr} {kc : Nat} (h : GivR w w4 v X A i) (hown : w5.ownsRow w.heap.size 101 35 v' (i + 1) (flatB X A i ++ brl (X i) ka kc)) (hg : w4.grownBy w5 v.ownBlock)
  (hloc : v'.ownBlock = v.ownBlock ∨ v'.ownBlock = some w4.heap.size) (hI : IsAt w4 ka (X i).n (X i).z) (hA : ∀ a, ka = some a → w.heap.size ≤ a.block ∧ a.block < w4.heap.size ∧ v.ownBlock ≠ some a.block) :
  GivR w w5 v' X (fun j => if j = i then (ka, kc) else A j) (i + 1) := by
 have hlt := h.own.lt
 have hap : ∀ j, j < i + 1 → ∀ a, (if j = i then (ka, kc) else A j).1 = some a → w.heap.size ≤ a.block ∧ a.block < w4.heap.size ∧ v.ownBlock ≠ some a.block := by
  intro j hj a e
  by_cases ej : j = i
  ·rw [if_pos ej] at e; exact hA a e
  ·rw [if_neg ej] at e; exact h.apart j (by omega) a e
 refine ⟨?_, ?_, fun j hj => ?_, fun j hj a e => ?_⟩
 ·exact h.below.trans ⟨hg.os, hg.tape, hg.output, hg.size, fun k hk => hg.block k (by have := h.below.size; omega) (fun e => by have := (hlt k e.symm).1; omega)⟩
 ·rw [flatB, flatB_congr i (B := A) (fun j hj => if_neg (by omega))]
  simp only [if_true]
  exact hown
 ·by_cases ej : j = i
  ·subst ej
   simp only [if_true]
   exact isAt_grown hI hg (fun a e => (hA a e).2.2)
  ·simp only [if_neg ej]
   exact isAt_grown (h.keys j (by omega)) hg (fun a e => (h.apart j (by omega) a e).2.2)
 ·obtain ⟨p, q, r⟩ := hap j hj a e
  refine ⟨p, Nat.lt_of_lt_of_le q hg.size, fun e2 => ?_⟩
  rcases hloc with h1 | h1
  ·exact r (h1.symm.trans e2)
  ·rw [h1] at e2
   have : w4.heap.size = a.block := by simpa using e2
   omega

theorem bv_set0 (x : Bv) (ka ka' : Option Addr) (kc kc' : Nat) {w : World} {g : Nat} {t : TypeId} (h : w.heap[g]? = some (.cells (bv x ka kc) t (0, 0))) : (w.setCell ⟨g, 0, none⟩ (.slice ka' x.n kc')).heap[g]? = some (.cells (bv x ka' kc') t (0, 0)) := by
 rw [heap_setCell_same w g 0 _ t _ h]
 congr 2


theorem zero_b : (Value.agg (bv b0 none 0)).cells.size = 35 := by simp [Value.cells, bv_size]
theorem wpList_appendB {ops : Array Oper} {rest : List Oper} {o : Oper} {a : Act} {w : World} {Q : Exit → Act → World → Prop} (hgd : o.guard = none) (s x : Operand) (ho : o.op = .call { callee := .builtin .append, args := #[s, x], argTypes := #[74, 74] })
  (W0 : World) (v : Value) (X : Nat → Bv) (A : Nat → Option Addr × Nat) (i : Nat) (ka : Option Addr) (kc q : Nat) (hs : a.eval s = v) (hx : a.eval x = .slice (some ⟨q, 0, none⟩) 1 1) (hR : GivR W0 w v X A i) (hq : w.heap[q]? = some (.cells (bv (X i) ka kc) 101 (0, 0))) (hi : i ≤ 1000000)
  (h : ∀ v' w', w'.ownsRow W0.heap.size 101 35 v' (i + 1) (flatB X A i ++ brl (X i) ka kc) → w.grownBy w' v.ownBlock → (v'.ownBlock = v.ownBlock ∨ v'.ownBlock = some w.heap.size) → wpList Tryz.prog ops Q rest (a.put o.dst v') w') : wpList Tryz.prog ops Q (o :: rest) a w := by
 obtain ⟨i0, hi0, hz0, hz1, hz2⟩ := info_parts infoB
 refine wpList_append_own_at _ hgd s x 74 ho W0.heap.size 101 i0 (.agg (bv b0 none 0)) 35 72 Tryz.underlying74 hi0 hz0 hz1 hz2 zero_b (by omega) v i (flatB X A i) hs hR.own ⟨q, 0, none⟩ 1 1 (brl (X i) ka kc) hx (by rw [brl_length]) (fun j u hj => ?_) (brl_one _ _ _) (by unfold maxLen; omega) (by omega) hR.below.size (fun v' w' h1 h2 _ h4 => h v' w' h1 h2 h4)
 rw [Addr.add_lit, Nat.zero_add, cell_of_row _ _ j _ _ _ hq]
 simpa [bv] using hj

theorem szC : (Tryz.prog.info? 76).map (·.size) = some 1 := by kernel_rfl

end Go.Proofs.YtanchjfodcjlmaaGreatDoor.Cd
