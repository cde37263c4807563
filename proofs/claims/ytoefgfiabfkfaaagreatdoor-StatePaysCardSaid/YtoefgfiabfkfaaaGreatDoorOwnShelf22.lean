/- giveState: a state as the program's. -/
import Derived.Test.YtoefgfiabfkfaaaGreatDoorOwnShelf20
import Derived.Test.YtoefgfiabfkfaaaGreatDoorOwnShelf21
namespace Go.Proofs.YtoefgfiabfkfaaaGreatDoor
open Go.RowKit

/-- Keys appended to nothing. -/
theorem append_kV (w : World) (ty : TypeId) (x : Hd) (ka : Option Addr) (kc : Nat) (hI : IsAt w ka x.n x.z) (hn : ka = none → x.n = 0 ∧ kc = 0) (hx : x.n ≤ 1000000) :
  ∃ ka' kc' w1, (Builtin.append_ #[54, 54] ty #[.slice none 0 0, .slice ka x.n kc]).run Tryz.prog w = .ok (.slice ka' x.n kc') w1 ∧ w1.ownsRow w.heap.size 3 1 (.slice ka' x.n kc') x.n (kL x) ∧ Below w.heap.size w w1 := by
 obtain ⟨i0, hi0, hz0, hz1, hz2⟩ := info_parts infoI
 cases ka with
 | none =>
  obtain ⟨h1, rfl⟩ := hn rfl
  refine ⟨none, 0, w, ?_, ?_, Below.refl _ _⟩
  ·rw [h1]
   simp [Builtin.append_, run_underlying Tryz.underlying54, sizeOf, typeInfo, hi0, Builtin.lenOf, Builtin.firstCells]
  ·have : kL x = [] := List.eq_nil_of_length_eq_zero (by rw [kL_length, h1])
   rw [this, h1]
   exact World.ownsRow_nil _ _ _ _
 | some a =>
  obtain ⟨v', w1, hr, h2, h3, _, _⟩ := run_append_own_at (P := Tryz.prog) w w.heap.size 54 ty 3 i0 (.int .i64 0) 1 8 Tryz.underlying54 hi0 hz0 hz1 hz2 rfl (by decide) (.slice none 0 0) 0 [] (World.ownsRow_nil _ _ _ _) a x.n kc (kL x) (by simp [kL_length]) (fun j u hu => by
   have hj := (List.getElem?_eq_some_iff.1 hu).1
   rw [kL_length] at hj
   obtain ⟨b, off, e, hc⟩ := hI (by omega)
   cases e
   rw [kL_at hj] at hu
   rw [Addr.add_lit, hc j hj]
   exact hu) (kL_one x) (by simp only [maxLen]; omega) (by omega) (Nat.le_refl _)
  rw [Nat.zero_add, List.nil_append] at h2
  obtain ⟨ka', kc', rfl, _, _⟩ := own_frmV h2
  exact ⟨ka', kc', w1, hr, h2, ⟨h3.os, h3.tape, h3.output, h3.size, fun k hk => h3.block k hk (by simp [Value.ownBlock])⟩⟩
theorem slice_p (x : Py) (w : World) : (Instr.buildSlice 34 1 #[(0, .agg (pyv x))]).run Tryz.prog w = .ok (.slice (some ⟨w.heap.size, 0, none⟩) 1 1) (w.alloc (.cells (pyv x) 43)) := by kernel_rfl
theorem slice_h (x : Hd) (ka : Option Addr) (kc : Nat) (w : World) : (Instr.buildSlice 35 1 #[(0, .agg (hdv x ka kc))]).run Tryz.prog w = .ok (.slice (some ⟨w.heap.size, 0, none⟩) 1 1) (w.alloc (.cells (hdv x ka kc) 58)) := by kernel_rfl
theorem hdl_one (x : Hd) (ka : Option Addr) (kc : Nat) : ∀ u ∈ hdl x ka kc, u.oneCell' = true := by
 intro u h
 simp only [hdl, List.mem_cons, List.not_mem_nil, or_false] at h
 rcases h with rfl | rfl | rfl <;> rfl
theorem run_append_P (w : World) (B q : Nat) (ty : TypeId) (v : Value) (i : Nat) (xs : List Value) (y : Py) (hown : w.ownsRow B 43 36 v i xs) (hB : B ≤ w.heap.size) (hq : w.heap[q]? = some (.cells (pyv y) 43 (0, 0))) (hi : i ≤ 1000000) :
  ∃ va vc w1, (Builtin.append_ #[34, 34] ty #[v, .slice (some ⟨q, 0, none⟩) 1 1]).run Tryz.prog w = .ok (.slice va (i + 1) vc) w1 ∧ w1.ownsRow B 43 36 (.slice va (i + 1) vc) (i + 1) (xs ++ pyl y) ∧ w.grownBy w1 v.ownBlock := by
 obtain ⟨i0, hi0, hz0, hz1, hz2⟩ := info_parts infoP
 obtain ⟨v', w1, hr, h2, h3, _, h5⟩ := run_append_own_at (P := Tryz.prog) w B 34 ty 43 i0 (.agg (pyv p0)) 36 64 Tryz.underlying34 hi0 hz0 hz1 hz2 zero_p (by omega) v i xs hown ⟨q, 0, none⟩ 1 1 (pyl y) (by rw [pyl_length]) (fun j u hj => by
   rw [Addr.add_lit, Nat.zero_add, cell_of_row _ _ j _ _ _ hq]
   simpa [pyv] using hj) (pyl_one _) (by unfold maxLen; omega) (by omega) hB
 obtain ⟨va, vc, rfl, _, _⟩ := own_frmV h2
 exact ⟨va, vc, w1, hr, h2, h3⟩
theorem run_append_H (w : World) (B q : Nat) (ty : TypeId) (v : Value) (i : Nat) (xs : List Value) (y : Hd) (ka : Option Addr) (kc : Nat) (hown : w.ownsRow B 58 3 v i xs) (hB : B ≤ w.heap.size) (hq : w.heap[q]? = some (.cells (hdv y ka kc) 58 (0, 0))) (hi : i ≤ 1000000) :
  ∃ va vc w1, (Builtin.append_ #[35, 35] ty #[v, .slice (some ⟨q, 0, none⟩) 1 1]).run Tryz.prog w = .ok (.slice va (i + 1) vc) w1 ∧ w1.ownsRow B 58 3 (.slice va (i + 1) vc) (i + 1) (xs ++ hdl y ka kc) ∧ w.grownBy w1 v.ownBlock := by
 obtain ⟨i0, hi0, hz0, hz1, hz2⟩ := info_parts infoH
 obtain ⟨v', w1, hr, h2, h3, _, h5⟩ := run_append_own_at (P := Tryz.prog) w B 35 ty 58 i0 (.agg #[.int .i64 0, .int .i64 0, .slice none 0 0]) 3 40 Tryz.underlying35 hi0 hz0 hz1 hz2 rfl (by omega) v i xs hown ⟨q, 0, none⟩ 1 1 (hdl y ka kc) rfl (fun j u hj => by
   rw [Addr.add_lit, Nat.zero_add, cell_of_row _ _ j _ _ _ hq]
   simpa [hdv, hdl] using hj) (hdl_one _ _ _) (by unfold maxLen; omega) (by omega) hB
 obtain ⟨va, vc, rfl, _, _⟩ := own_frmV h2
 exact ⟨va, vc, w1, hr, h2, h3⟩
section
variable {ops : Array Oper} {o : Oper} {a : Act} {w : World} {K : Act → World → Prop} {Q : Exit → Act → World → Prop} {E : Prop}
theorem step_sliceP (hgd : o.guard = none) (x : Operand) (ho : o.op = .buildSlice 34 1 #[(0, x)]) (v : Py) (hx : a.eval x = .agg (pyv v))
  (h : K (a.put o.dst (.slice (some ⟨w.heap.size, 0, none⟩) 1 1)) (w.alloc (.cells (pyv v) 43))) : if Region.wanted o (yielded ops a.tmps) = true then Oper.wp Tryz.prog o a w K Q else E := by
 have hw : Region.wanted o (yielded ops a.tmps) = true := by simp [Region.wanted, hgd]
 rw [if_pos hw]
 unfold Oper.wp execOp
 simp only [ho, List.map_toArray, List.map_cons, List.map_nil, hx, Sem.run_bind, slice_p, Result.andThen]
 exact h
theorem step_sliceH (hgd : o.guard = none) (x : Operand) (ho : o.op = .buildSlice 35 1 #[(0, x)]) (v : Hd) (ka : Option Addr) (kc : Nat) (hx : a.eval x = .agg (hdv v ka kc))
  (h : K (a.put o.dst (.slice (some ⟨w.heap.size, 0, none⟩) 1 1)) (w.alloc (.cells (hdv v ka kc) 58))) : if Region.wanted o (yielded ops a.tmps) = true then Oper.wp Tryz.prog o a w K Q else E := by
 have hw : Region.wanted o (yielded ops a.tmps) = true := by simp [Region.wanted, hgd]
 rw [if_pos hw]
 unfold Oper.wp execOp
 simp only [ho, List.map_toArray, List.map_cons, List.map_nil, hx, Sem.run_bind, slice_h, Result.andThen]
 exact h
theorem step_append_P (hgd : o.guard = none) (s x : Operand) (ho : o.op = .call ⟨.builtin .append, #[s, x], #[34, 34]⟩)
  (B q : Nat) (v : Value) (i : Nat) (xs : List Value) (y : Py) (hs : a.eval s = v) (hx : a.eval x = .slice (some ⟨q, 0, none⟩) 1 1) (hown : w.ownsRow B 43 36 v i xs) (hB : B ≤ w.heap.size) (hq : w.heap[q]? = some (.cells (pyv y) 43 (0, 0))) (hi : i ≤ 1000000)
  (h : ∀ va vc w1, w1.ownsRow B 43 36 (.slice va (i + 1) vc) (i + 1) (xs ++ pyl y) → w.grownBy w1 v.ownBlock → K (a.put o.dst (.slice va (i + 1) vc)) w1) : if Region.wanted o (yielded ops a.tmps) = true then Oper.wp Tryz.prog o a w K Q else E := by
 have hw : Region.wanted o (yielded ops a.tmps) = true := by simp [Region.wanted, hgd]
 rw [if_pos hw]
 obtain ⟨va, vc, w1, hr, h2, h3⟩ := run_append_P w B q o.type v i xs y hown hB hq hi
 unfold Oper.wp execOp
 simp only [ho, resolve, invoke, builtin, Sem.run_bind, Sem.run_pure, Result.andThen_ok, List.map_toArray, List.map_cons, List.map_nil, hs, hx, hr]
 exact h va vc w1 h2 h3
theorem step_append_H (hgd : o.guard = none) (s x : Operand) (ho : o.op = .call ⟨.builtin .append, #[s, x], #[35, 35]⟩)
  (B q : Nat) (v : Value) (i : Nat) (xs : List Value) (y : Hd) (ka : Option Addr) (kc : Nat) (hs : a.eval s = v) (hx : a.eval x = .slice (some ⟨q, 0, none⟩) 1 1) (hown : w.ownsRow B 58 3 v i xs) (hB : B ≤ w.heap.size) (hq : w.heap[q]? = some (.cells (hdv y ka kc) 58 (0, 0))) (hi : i ≤ 1000000)
  (h : ∀ va vc w1, w1.ownsRow B 58 3 (.slice va (i + 1) vc) (i + 1) (xs ++ hdl y ka kc) → w.grownBy w1 v.ownBlock → K (a.put o.dst (.slice va (i + 1) vc)) w1) : if Region.wanted o (yielded ops a.tmps) = true then Oper.wp Tryz.prog o a w K Q else E := by
 have hw : Region.wanted o (yielded ops a.tmps) = true := by simp [Region.wanted, hgd]
 rw [if_pos hw]
 obtain ⟨va, vc, w1, hr, h2, h3⟩ := run_append_H w B q o.type v i xs y ka kc hown hB hq hi
 unfold Oper.wp execOp
 simp only [ho, resolve, invoke, builtin, Sem.run_bind, Sem.run_pure, Result.andThen_ok, List.map_toArray, List.map_cons, List.map_nil, hs, hx, hr]
 exact h va vc w1 h2 h3
theorem step_append_kV (hgd : o.guard = none) (s y : Operand) (ho : o.op = .call ⟨.builtin .append, #[s, y], #[54, 54]⟩)
  (x : Hd) (ka : Option Addr) (kc : Nat) (hs : a.eval s = .slice none 0 0) (hy : a.eval y = .slice ka x.n kc) (hI : IsAt w ka x.n x.z) (hn : ka = none → x.n = 0 ∧ kc = 0) (hx : x.n ≤ 1000000)
  (h : ∀ ka' kc' w1, w1.ownsRow w.heap.size 3 1 (.slice ka' x.n kc') x.n (kL x) → Below w.heap.size w w1 → K (a.put o.dst (.slice ka' x.n kc')) w1) : if Region.wanted o (yielded ops a.tmps) = true then Oper.wp Tryz.prog o a w K Q else E := by
 have hw : Region.wanted o (yielded ops a.tmps) = true := by simp [Region.wanted, hgd]
 rw [if_pos hw]
 obtain ⟨ka', kc', w1, hr, h2, h3⟩ := append_kV w o.type x ka kc hI hn hx
 unfold Oper.wp execOp
 simp only [ho, resolve, invoke, builtin, Sem.run_bind, Sem.run_pure, Result.andThen_ok, List.map_toArray, List.map_cons, List.map_nil, hs, hy, hr]
 exact h ka' kc' w1 h2 h3
end
/-- A state that is being given: i payments and j holds of it are there. -/
structure GvS (w wr : World) (s : Sv) (p q : Pl) (A : Nat → Option Addr × Nat) (i j : Nat) : Prop where
 inn : wr.heap[w.heap.size]? = some (.cells #[.int .i64 s.nu, .int .i64 s.a, .int .i64 s.b, .slice p.pa s.pn p.pc, .slice p.ha s.hn p.hc] 26 (0, 0))
 res : wr.heap[w.heap.size + 1]? = some (.cells #[.int .i64 0, .int .i64 0, .int .i64 0, .slice none 0 0, .slice none 0 0] 37 (0, 0))
 box : wr.heap[w.heap.size + 2]? = some (.cells #[.int .i64 s.nu, .int .i64 s.a, .int .i64 s.b, .slice q.pa i q.pc, .slice q.ha j q.hc] 37 (0, 0))
 py : wr.ownsRow (w.heap.size + 3) 43 36 (.slice q.pa i q.pc) i (flatL (pf s.P) i)
 hd : wr.ownsRow (w.heap.size + 3) 58 3 (.slice q.ha j q.hc) j (flatL (hf s.H A) j)
 ks : ∀ k, k < j → wr.ownsRow (w.heap.size + 3) 3 1 (.slice (A k).1 (s.H k).n (A k).2) (s.H k).n (kL (s.H k))
 below : Below w.heap.size w wr
theorem GvS.keep {w wr w' : World} {s : Sv} {p q : Pl} {A : Nat → Option Addr × Nat} {i j : Nat} (h : GvS w wr s p q A i j) (hb : Below wr.heap.size wr w') : GvS w w' s p q A i j :=
 ⟨by rw [hb.block _ (lt_of_block h.inn)]; exact h.inn, by rw [hb.block _ (lt_of_block h.res)]; exact h.res, by rw [hb.block _ (lt_of_block h.box)]; exact h.box, own_below h.py hb, own_below h.hd hb, fun k hk => own_below (h.ks k hk) hb, h.below.trans (hb.mono h.below.size)⟩
/-- What a walk reads of it. -/
def GvC (w w' : World) (s : Sv) (p q : Pl) (i j : Nat) : Prop := w'.cell? ⟨w.heap.size + 2, 3, none⟩ = some (.slice q.pa i q.pc) ∧ w'.cell? ⟨w.heap.size + 2, 4, none⟩ = some (.slice q.ha j q.hc) ∧ w'.cell? ⟨w.heap.size, 3, none⟩ = some (.slice p.pa s.pn p.pc) ∧ w'.cell? ⟨w.heap.size, 4, none⟩ = some (.slice p.ha s.hn p.hc)
theorem GvS.cells {w wr w' : World} {s : Sv} {p q : Pl} {A : Nat → Option Addr × Nat} {i j : Nat} (h : GvS w wr s p q A i j) (hl : ∀ k, k < w.heap.size + 3 → w'.heap[k]? = wr.heap[k]?) : GvC w w' s p q i j := by
 have h2 := hl (w.heap.size + 2) (by omega)
 rw [h.box] at h2
 have h0 := hl w.heap.size (by omega)
 rw [h.inn] at h0
 exact ⟨by rw [cell_of_row _ _ 3 _ _ _ h2]; rfl, by rw [cell_of_row _ _ 4 _ _ _ h2]; rfl, by rw [cell_of_row _ _ 3 _ _ _ h0]; rfl, by rw [cell_of_row _ _ 4 _ _ _ h0]; rfl⟩
theorem grown_low {w1 w2 : World} {B T k n : Nat} {v : Value} {xs : List Value} (h : w1.ownsRow B T k v n xs) (hg : w1.grownBy w2 v.ownBlock) (hB : B ≤ w1.heap.size) : ∀ k, k < B → w2.heap[k]? = w1.heap[k]? := fun k hk =>
 hg.block k (by omega) (fun e => by have := (h.lt k e.symm).1; omega)
theorem grown_keepV {w1 w2 : World} {B C T U k l n m : Nat} {v u : Value} {xs ys : List Value} (h : w1.ownsRow B T k v n xs) (h' : w1.ownsRow C U l u m ys) (hT : U ≠ T) (hg : w1.grownBy w2 v.ownBlock) : w2.ownsRow C U l u m ys :=
 own_keep h' fun g e => hg.block g (h'.lt g e).2 (fun e2 => own_apart h' h hT g e e2.symm)
theorem grown_below {w w1 w2 : World} {B T k n : Nat} {v : Value} {xs : List Value} (h : w1.ownsRow B T k v n xs) (hg : w1.grownBy w2 v.ownBlock) (hb : Below w.heap.size w w1) (hB : w.heap.size ≤ B) : Below w.heap.size w w2 :=
 hb.trans ⟨hg.os, hg.tape, hg.output, hg.size, fun k hk => hg.block k (by have := hb.size; omega) (fun e => by have := (h.lt k e.symm).1; omega)⟩
theorem GvS.big {w wr : World} {s : Sv} {p q : Pl} {A : Nat → Option Addr × Nat} {i j : Nat} (h : GvS w wr s p q A i j) : w.heap.size + 3 ≤ wr.heap.size := lt_of_block h.box
theorem GvS.pushP {w w1 w2 : World} {s : Sv} {p q : Pl} {A : Nat → Option Addr × Nat} {i j : Nat} {va : Option Addr} {vc : Nat} (h : GvS w w1 s p q A i j) (hown : w2.ownsRow (w.heap.size + 3) 43 36 (.slice va (i + 1) vc) (i + 1) (flatL (pf s.P) i ++ pyl (s.P i))) (hg : w1.grownBy w2 (Value.slice q.pa i q.pc).ownBlock) :
  GvS w (w2.setCell ⟨w.heap.size + 2, 3, none⟩ (.slice va (i + 1) vc)) s p ⟨va, vc, q.ha, q.hc⟩ A (i + 1) j := by
 have hl := grown_low h.py hg h.big
 have hs : ∀ k, k ≠ w.heap.size + 2 → (w2.setCell ⟨w.heap.size + 2, 3, none⟩ (.slice va (i + 1) vc)).heap[k]? = w2.heap[k]? := fun k hk => Below.heap_setCell _ _ _ _ (by exact hk)
 refine ⟨?_, ?_, ?_, ?_, ?_, fun k hk => ?_, ?_⟩
 ·rw [hs _ (by omega), hl _ (by omega)]; exact h.inn
 ·rw [hs _ (by omega), hl _ (by omega)]; exact h.res
 ·exact five_set3 (by rw [hl _ (by omega)]; exact h.box)
 ·exact own_keep hown fun g e => hs g (by have := (hown.lt g e).1; omega)
 ·have := grown_keepV h.py h.hd (by decide) hg
  exact own_keep this fun g e => hs g (by have := (this.lt g e).1; omega)
 ·have := grown_keepV h.py (h.ks k hk) (by decide) hg
  exact own_keep this fun g e => hs g (by have := (this.lt g e).1; omega)
 ·exact (grown_below h.py hg h.below (by omega)).setCell (by show w.heap.size ≤ w.heap.size + 2; omega) _
theorem GvS.pushH {w w1 w2 : World} {s : Sv} {p q : Pl} {A : Nat → Option Addr × Nat} {i j : Nat} {va ka : Option Addr} {vc kc : Nat} (h : GvS w w1 s p q A i j) (hk : w1.ownsRow (w.heap.size + 3) 3 1 (.slice ka (s.H j).n kc) (s.H j).n (kL (s.H j))) (hown : w2.ownsRow (w.heap.size + 3) 58 3 (.slice va (j + 1) vc) (j + 1) (flatL (hf s.H A) j ++ hdl (s.H j) ka kc)) (hg : w1.grownBy w2 (Value.slice q.ha j q.hc).ownBlock) :
  GvS w (w2.setCell ⟨w.heap.size + 2, 4, none⟩ (.slice va (j + 1) vc)) s p ⟨q.pa, q.pc, va, vc⟩ (fun k => if k = j then (ka, kc) else A k) i (j + 1) := by
 have hl := grown_low h.hd hg h.big
 have hs : ∀ k, k ≠ w.heap.size + 2 → (w2.setCell ⟨w.heap.size + 2, 4, none⟩ (.slice va (j + 1) vc)).heap[k]? = w2.heap[k]? := fun k hk => Below.heap_setCell _ _ _ _ (by exact hk)
 refine ⟨?_, ?_, ?_, ?_, ?_, fun k hkj => ?_, ?_⟩
 ·rw [hs _ (by omega), hl _ (by omega)]; exact h.inn
 ·rw [hs _ (by omega), hl _ (by omega)]; exact h.res
 ·exact five_set4 (by rw [hl _ (by omega)]; exact h.box)
 ·have := grown_keepV h.hd h.py (by decide) hg
  exact own_keep this fun g e => hs g (by have := (this.lt g e).1; omega)
 ·rw [flatL, flatL_congr j (g := hf s.H A) (fun k hk => by simp [hf, show ¬ k = j by omega])]
  have e : hf s.H (fun k => if k = j then (ka, kc) else A k) j = hdl (s.H j) ka kc := by simp [hf]
  rw [e]
  exact own_keep hown fun g e => hs g (by have := (hown.lt g e).1; omega)
 ·by_cases e : k = j
  ·subst e
   simp only [if_true]
   have := grown_keepV h.hd hk (by decide) hg
   exact own_keep this fun g e => hs g (by have := (this.lt g e).1; omega)
  ·simp only [if_neg e]
   have := grown_keepV h.hd (h.ks k (by omega)) (by decide) hg
   exact own_keep this fun g e => hs g (by have := (this.lt g e).1; omega)
 ·exact (grown_below h.hd hg h.below (by omega)).setCell (by show w.heap.size ≤ w.heap.size + 2; omega) _
theorem three_new (w : World) (o1 o2 o3 : Obj) : ((w.alloc o1).alloc o2).alloc o3 = ((w.alloc o1).alloc o2).alloc o3 ∧
  Below w.heap.size w (((w.alloc o1).alloc o2).alloc o3) := ⟨rfl, (((Below.refl _ w).alloc (Nat.le_refl _) _).alloc (by simp) _).alloc (by simp; omega) _⟩

set_option maxRecDepth 100000 in
set_option maxHeartbeats 3200000 in
theorem give_any (s : Sv) (p : Pl) (w : World) (h : SvAt w s p) (hs : s.Small) :
  Calls Tryz.prog 6 #[.agg (svv s p)] w fun e w' => (∃ p' A, e = .returned (.agg (svv s p')) ∧ SvOw w.heap.size w' s p' A) ∧ Below w.heap.size w w' := by
 have HV : Hid (SvAt w s p) := h
 have hsn := hs.n
 have HSK : Hid (∀ i, i < s.hn → (s.H i).n ≤ 300) := hs.k
 obtain ⟨pa, pc, ha, hc⟩ := p
 have hg0 : GvS w (((w.alloc (.cells #[.int .i64 s.nu, .int .i64 s.a, .int .i64 s.b, .slice pa s.pn pc, .slice ha s.hn hc] 26)).alloc (.cells #[.int .i64 0, .int .i64 0, .int .i64 0, .slice none 0 0, .slice none 0 0] 37)).alloc (.cells #[.int .i64 s.nu, .int .i64 s.a, .int .i64 s.b, .slice none 0 0, .slice none 0 0] 37)) s ⟨pa, pc, ha, hc⟩ pl0 (fun _ => (none, 0)) 0 0 := by
  refine ⟨?_, ?_, ?_, World.ownsRow_nil _ _ _ _, World.ownsRow_nil _ _ _ _, fun k hk => by omega, (three_new w _ _ _).2⟩
  ·rw [Below.heap_alloc _ _ _ (by simp; omega), Below.heap_alloc _ _ _ (by simp)]; exact heap_alloc_new w _
  ·rw [Below.heap_alloc _ _ _ (by simp)]
   have := heap_alloc_new (w.alloc (.cells #[.int .i64 s.nu, .int .i64 s.a, .int .i64 s.b, .slice pa s.pn pc, .slice ha s.hn hc] 26)) (.cells #[.int .i64 0, .int .i64 0, .int .i64 0, .slice none 0 0, .slice none 0 0] 37)
   simpa using this
  ·have := heap_alloc_new ((w.alloc (.cells #[.int .i64 s.nu, .int .i64 s.a, .int .i64 s.b, .slice pa s.pn pc, .slice ha s.hn hc] 26)).alloc (.cells #[.int .i64 0, .int .i64 0, .int .i64 0, .slice none 0 0, .slice none 0 0] 37)) (.cells #[.int .i64 s.nu, .int .i64 s.a, .int .i64 s.b, .slice none 0 0, .slice none 0 0] 37)
   have e2 : ((w.alloc (.cells #[.int .i64 s.nu, .int .i64 s.a, .int .i64 s.b, .slice pa s.pn pc, .slice ha s.hn hc] 26)).alloc (.cells #[.int .i64 0, .int .i64 0, .int .i64 0, .slice none 0 0, .slice none 0 0] 37)).heap.size = w.heap.size + 2 := by simp
   rw [e2] at this
   exact this
 clear h hs
 unfold svv
 dsimp only
 go_enter Tryz.func6, Tryz.ntmps6
 go_wp2_with fail
 generalize ((w.alloc (.cells #[.int .i64 s.nu, .int .i64 s.a, .int .i64 s.b, .slice pa s.pn pc, .slice ha s.hn hc] 26)).alloc (.cells #[.int .i64 0, .int .i64 0, .int .i64 0, .slice none 0 0, .slice none 0 0] 37)).alloc (.cells #[.int .i64 s.nu, .int .i64 s.a, .int .i64 s.b, .slice none 0 0, .slice none 0 0] 37) = W0 at *
 go_loopw [4] (fun iv wr => ∃ (i : Nat) (q : Pl), i ≤ s.pn ∧ iv = .int .i64 i ∧ GvS w wr s ⟨pa, pc, ha, hc⟩ q (fun _ => (none, 0)) i 0) (fun iv _ => s.pn + 1 - (intOf iv).toNat)
 case atStart => exact ⟨0, pl0, by omega, rfl, hg0⟩
 case round =>
  clear hg0
  obtain ⟨i, q, hi, rfl, hG⟩ := hrel
  have HG : Hid (GvS w wr s ⟨pa, pc, ha, hc⟩ q (fun _ => (none, 0)) i 0) := hG
  clear hG
  obtain ⟨b3, b4, k3, k4⟩ := HG.out.cells (fun _ _ => rfl)
  dsimp only at k3 k4
  by_cases hlt : i < s.pn
  ·have hlt' : (i : Int) < s.pn := by omega
   obtain ⟨b, off, ead, hc0⟩ := HV.out.py.at_ (by omega)
   dsimp only at ead
   subst ead
   have hr0 := hc0 i hlt
   have hbl : b < w.heap.size := World.block_lt_of_cell? w ⟨b, off + i * 36, none⟩ (by simpa using hr0 0 _ rfl)
   have HL : Hid (∀ w' : World, (∀ k, k < w.heap.size + 3 → w'.heap[k]? = wr.heap[k]?) → w'.cell? ⟨w.heap.size + 2, 3, none⟩ = some (.slice q.pa i q.pc) ∧ w'.cell? ⟨w.heap.size, 3, none⟩ = some (.slice (some ⟨b, off, none⟩) s.pn pc) ∧ w'.rangeAt b (off + i * 36) (pyl (s.P i))) := fun w' hl => by
    obtain ⟨h1, _, h3, _⟩ := HG.out.cells hl
    refine ⟨h1, h3, fun j v hv => ?_⟩
    have h4 := range_below hr0 HG.out.below j v hv
    rw [World.cell?_of_block (a := ⟨b, off + i * 36 + j, none⟩) (hl b (by omega))]
    exact h4
   have S0 := HL.out wr.drew (fun _ _ => rfl)
   have HG1 : Hid (GvS w (wr.drew.alloc (.cells (pyv (s.P i)) 43)) s ⟨some ⟨b, off, none⟩, pc, ha, hc⟩ q (fun _ => (none, 0)) i 0) := HG.out.keep ((Below.refl _ wr).drew.alloc (Nat.le_refl _) _)
   clear hc0
   go_wp2_with fail
   refine wp_region_noPanic ?_
   refine wp_region_K (S := fun w' => w'.cell? ⟨w.heap.size + 2, 3, none⟩ = some (.slice q.pa i q.pc) ∧ w'.cell? ⟨w.heap.size, 3, none⟩ = some (.slice (some ⟨b, off, none⟩) s.pn pc) ∧ w'.rangeAt b (off + i * 36) (pyl (s.P i))) 10 (by kernel_rfl) S0 (fun hHeld => ?_)
   refine wpAnyK_take (by kernel_rfl) (i := 0) (oi := ⟨some 19, .fieldAddr 37 (.tmp 3) 2, 0, _, _, none⟩) (v := ?_) rfl (by kernel_rfl) (by kernel_rfl) (by kernel_rfl) (fun _ _ _ h => h) (Or.inl ⟨by rfl, ?_⟩) (by assumption) ?_
   rotate_left
   ·intro wz hSw; (try dsimp only at hSw); go_simp; (try with_reducible rfl)
   try simp only [Act.put, sqA, sqB, sqC]
   refine wpAnyK_take (by kernel_rfl) (i := 1) (oi := ⟨some 20, .load 34 (.tmp 19), 34, _, _, none⟩) (v := ?_) rfl (by kernel_rfl) (by kernel_rfl) (by kernel_rfl) (fun _ _ _ h => h) (Or.inl ⟨by rfl, ?_⟩) (by assumption) ?_
   rotate_left
   ·intro wz hSw; (try dsimp only at hSw); go_simp; (try with_reducible rfl)
   try simp only [Act.put, sqA, sqB, sqC]
   refine wpAnyK_take (by kernel_rfl) (i := 2) (oi := ⟨some 21, .fieldAddr 26 (.tmp 1) 2, 0, _, _, none⟩) (v := ?_) rfl (by kernel_rfl) (by kernel_rfl) (by kernel_rfl) (fun _ _ _ h => h) (Or.inl ⟨by rfl, ?_⟩) (by assumption) ?_
   rotate_left
   ·intro wz hSw; (try dsimp only at hSw); go_simp; (try with_reducible rfl)
   try simp only [Act.put, sqA, sqB, sqC]
   refine wpAnyK_take (by kernel_rfl) (i := 3) (oi := ⟨some 22, .load 23 (.tmp 21), 23, _, _, none⟩) (v := ?_) rfl (by kernel_rfl) (by kernel_rfl) (by kernel_rfl) (fun _ _ _ h => h) (Or.inl ⟨by rfl, ?_⟩) (by assumption) ?_
   rotate_left
   ·intro wz hSw; (try dsimp only at hSw); go_simp; (try with_reducible rfl)
   try simp only [Act.put, sqA, sqB, sqC]
   refine wpAnyK_take (by kernel_rfl) (i := 4) (oi := ⟨some 23, .move (.tmp 4), 3, _, _, none⟩) (v := ?_) rfl (by kernel_rfl) (by kernel_rfl) (by kernel_rfl) (fun _ _ _ h => h) (Or.inl ⟨by rfl, ?_⟩) (by assumption) ?_
   rotate_left
   ·intro wz hSw; (try dsimp only at hSw); go_simp; (try with_reducible rfl)
   try simp only [Act.put, sqA, sqB, sqC]
   refine wpAnyK_take (by kernel_rfl) (i := 5) (oi := ⟨some 24, .indexAddr 23 (.tmp 22) (.tmp 23), 0, _, _, none⟩) (v := ?_) rfl (by kernel_rfl) (by kernel_rfl) (by kernel_rfl) (fun _ _ _ h => h) (Or.inl ⟨by rfl, ?_⟩) (by assumption) ?_
   rotate_left
   ·intro wz hSw; (try dsimp only at hSw); go_simp; (try with_reducible rfl)
   try simp only [Act.put, sqA, sqB, sqC]
   refine wpAnyK_take (by kernel_rfl) (i := 6) (oi := ⟨some 25, .load 30 (.tmp 24), 30, _, _, none⟩) rfl (by kernel_rfl) (by kernel_rfl) (by kernel_rfl) (fun _ _ _ h => h) (yieldsIf_load_mid (by rfl) _ _ rfl b (off + i * 36) rfl (pyl (s.P i)) _ (fun _ h => h.2.2) Tryz.underlying30 rfl (szPrl _)) (by assumption) ?_
   try simp only [Act.put, sqA, sqB, sqC]
   refine wpAnyK_ready (rs := [7]) (by kernel_rfl) (by simp) ?_
   refine (AllReadyK.cons (o := ⟨some 26, .buildSlice 34 1 #[(0, .tmp 25)], 34, _, _, none⟩) rfl (fun K hK => ?_) AllReadyK.nil)
   refine step_sliceP rfl (.tmp 25) rfl (s.P i) (by rfl) ?_
   have hbig := HG.out.big
   have S1 := HL.out (wr.drew.alloc (.cells (pyv (s.P i)) 43)) (fun k hk => Below.heap_alloc _ _ _ (by show k < wr.heap.size; omega))
   refine hK.out _ _ (fun _ => S1) (fun _ => ?_)
   clear hK K
   try simp only [Act.put, sqA, sqB, sqC]
   refine wpAnyK_ready (rs := [8]) (by kernel_rfl) (by simp) ?_
   refine (AllReadyK.cons (o := ⟨some 27, .call ⟨.builtin .append, #[.tmp 20, .tmp 26], #[34, 34]⟩, 34, _, _, none⟩) rfl (fun K hK => ?_) AllReadyK.nil)
   refine step_append_P rfl (.tmp 20) (.tmp 26) rfl (w.heap.size + 3) wr.drew.heap.size (.slice q.pa i q.pc) i (flatL (pf s.P) i) (s.P i) (by rfl) (by rfl) HG1.out.py HG1.out.big (heap_alloc_new wr.drew _) (by omega) ?_
   intro va vc w2 hown hgrow
   have hlo := grown_low HG1.out.py hgrow HG1.out.big
   have S2 := HL.out w2 (fun k hk => by rw [hlo k hk]; exact Below.heap_alloc _ _ _ (by show k < wr.heap.size; omega))
   have HN : Hid (GvS w (w2.setCell ⟨w.heap.size + 2, 3, none⟩ (.slice va (i + 1) vc)) s ⟨some ⟨b, off, none⟩, pc, ha, hc⟩ ⟨va, vc, q.ha, q.hc⟩ (fun _ => (none, 0)) (i + 1) 0) := HG1.out.pushP hown hgrow
   have hx2 : w2.heap[w.heap.size + 2]? = some (.cells #[.int .i64 s.nu, .int .i64 s.a, .int .i64 s.b, .slice q.pa i q.pc, .slice q.ha 0 q.hc] 37 (0, 0)) := by rw [hlo _ (by omega)]; exact HG1.out.box
   have f2 : ∀ o, w2.frozen? ⟨w.heap.size + 2, o, none⟩ = false := fun o => frozen_of_row _ _ o _ _ hx2
   refine hK.out _ _ (fun _ => S2) (fun _ => ?_)
   clear hK K hown hgrow hlo HG HG1 HL S0 S1 hx2
   try simp only [Act.put, sqA, sqB, sqC]
   refine wpAnyK_take (by kernel_rfl) (i := 9) (oi := ⟨some 28, .fieldAddr 37 (.tmp 3) 2, 0, _, _, none⟩) (v := ?_) rfl (by kernel_rfl) (by kernel_rfl) (by kernel_rfl) (fun _ _ _ h => h) (Or.inl ⟨by rfl, ?_⟩) (by assumption) ?_
   rotate_left
   ·intro wz hSw; (try dsimp only at hSw); go_simp; (try with_reducible rfl)
   try simp only [Act.put, sqA, sqB, sqC]
   obtain ⟨g3, g4, g5⟩ := S2
   refine wpAnyK_ready (rs := [10]) (by kernel_rfl) (by simp) ?_
   refine (AllReadyK.cons (o := ⟨none, .store 34 (.tmp 28) (.tmp 27), 0, _, _, none⟩) rfl (fun K hK => ?_) AllReadyK.nil)
   go_simp
   refine hK.out _ _ (fun h => absurd rfl h) (fun _ => ?_)
   clear hK K
   refine wpAnyK_done (by kernel_rfl) (NoPanic.normal ?_) _
   try simp only [Act.put, sqA, sqB, sqC]
   clear hHeld g3 g4 g5 f2
   go_wp2
   go_roundw
   case rel => exact ⟨i + 1, _, by omega, by go_num, HN.out⟩
   case measure => simp [intOf]; omega
  ·have hin : i = s.pn := by omega
   have hnn : ¬ ((i : Int) < s.pn) := by omega
   have HG2 : Hid (GvS w wr s ⟨pa, pc, ha, hc⟩ q (fun _ => (none, 0)) s.pn 0) := by rw [← hin]; exact HG.out
   clear HG hin b3 b4
   generalize wr = wo at *
   go_wp2_with fail
   have h20 := HG2.out
   clear HG2 k3 k4
   go_loopw [5, 6] (fun iv _ wr => ∃ (j : Nat) (q' : Pl) (A : Nat → Option Addr × Nat), j ≤ s.hn ∧ iv = .int .i64 j ∧ GvS w wr s ⟨pa, pc, ha, hc⟩ q' A s.pn j) (fun iv _ _ => s.hn + 1 - (intOf iv).toNat)
   case atStart => exact ⟨0, q, _, by omega, rfl, h20⟩
   case round =>
    clear h20
    obtain ⟨j, q', A, hj, rfl, hG⟩ := hrel
    have HG : Hid (GvS w wr s ⟨pa, pc, ha, hc⟩ q' A s.pn j) := hG
    clear hG
    obtain ⟨b3, b4, k3, k4⟩ := HG.out.cells (fun _ _ => rfl)
    dsimp only at k3 k4
    by_cases hlt : j < s.hn
    ·have hlt' : (j : Int) < s.hn := by omega
     obtain ⟨b, off, ead, hc0⟩ := HV.out.hd.at_ (by omega)
     dsimp only at ead
     subst ead
     obtain ⟨ka, kc, hr0, hI0, hkn⟩ := hc0 j hlt
     have hxk := HSK.out j hlt
     obtain ⟨d0, d1, d2⟩ := hd_cells hr0
     have hbl : b < w.heap.size := World.block_lt_of_cell? w ⟨b, off + j * 3, none⟩ d0
     have HL : Hid (∀ w' : World, (∀ k, k < w.heap.size + 3 → w'.heap[k]? = wr.heap[k]?) → w'.cell? ⟨w.heap.size + 2, 4, none⟩ = some (.slice q'.ha j q'.hc) ∧ w'.cell? ⟨w.heap.size, 4, none⟩ = some (.slice (some ⟨b, off, none⟩) s.hn hc) ∧ w'.cell? ⟨b, off + j * 3, none⟩ = some (.int .i64 (s.H j).id) ∧ w'.cell? ⟨b, off + j * 3 + 1, none⟩ = some (.int .i64 (s.H j).am) ∧ w'.cell? ⟨b, off + j * 3 + 2, none⟩ = some (.slice ka (s.H j).n kc)) := fun w' hl => by
      obtain ⟨_, h1, _, h3⟩ := HG.out.cells hl
      have hbb := (hl b (by omega)).trans (HG.out.below.block b hbl)
      exact ⟨h1, h3, by rw [World.cell?_of_block (a := ⟨b, _, none⟩) hbb]; exact d0, by rw [World.cell?_of_block (a := ⟨b, _, none⟩) hbb]; exact d1, by rw [World.cell?_of_block (a := ⟨b, _, none⟩) hbb]; exact d2⟩
     have S0 := HL.out wr.drew (fun _ _ => rfl)
     have HI : Hid (IsAt wr.drew ka (s.H j).n (s.H j).z) := hI0.below HG.out.below.drew
     have HK0 : Hid (∀ w', Below wr.heap.size wr w' → GvS w w' s ⟨pa, pc, some ⟨b, off, none⟩, hc⟩ q' A s.pn j) := fun w' hb => HG.out.keep hb
     have hbig := HG.out.big
     clear hc0 hr0 hI0 d0 d1 d2
     go_wp2_with fail
     refine wp_region_noPanic ?_
     refine wp_region_K (S := fun w' => w'.cell? ⟨w.heap.size + 2, 4, none⟩ = some (.slice q'.ha j q'.hc) ∧ w'.cell? ⟨w.heap.size, 4, none⟩ = some (.slice (some ⟨b, off, none⟩) s.hn hc) ∧ w'.cell? ⟨b, off + j * 3, none⟩ = some (.int .i64 (s.H j).id) ∧ w'.cell? ⟨b, off + j * 3 + 1, none⟩ = some (.int .i64 (s.H j).am) ∧ w'.cell? ⟨b, off + j * 3 + 2, none⟩ = some (.slice ka (s.H j).n kc)) 26 (by kernel_rfl) S0 (fun hHeld => ?_)
     refine wpAnyK_take (by kernel_rfl) (i := 0) (oi := ⟨some 36, .fieldAddr 37 (.tmp 3) 3, 0, _, _, none⟩) (v := ?_) rfl (by kernel_rfl) (by kernel_rfl) (by kernel_rfl) (fun _ _ _ h => h) (Or.inl ⟨by rfl, ?_⟩) (by assumption) ?_
     rotate_left
     ·intro wz hSw; (try dsimp only at hSw); go_simp; (try with_reducible rfl)
     try simp only [Act.put, sqA, sqB, sqC]
     refine wpAnyK_take (by kernel_rfl) (i := 1) (oi := ⟨some 37, .load 35 (.tmp 36), 35, _, _, none⟩) (v := ?_) rfl (by kernel_rfl) (by kernel_rfl) (by kernel_rfl) (fun _ _ _ h => h) (Or.inl ⟨by rfl, ?_⟩) (by assumption) ?_
     rotate_left
     ·intro wz hSw; (try dsimp only at hSw); go_simp; (try with_reducible rfl)
     try simp only [Act.put, sqA, sqB, sqC]
     refine wpAnyK_take (by kernel_rfl) (i := 2) (oi := ⟨some 38, .fieldAddr 26 (.tmp 1) 3, 0, _, _, none⟩) (v := ?_) rfl (by kernel_rfl) (by kernel_rfl) (by kernel_rfl) (fun _ _ _ h => h) (Or.inl ⟨by rfl, ?_⟩) (by assumption) ?_
     rotate_left
     ·intro wz hSw; (try dsimp only at hSw); go_simp; (try with_reducible rfl)
     try simp only [Act.put, sqA, sqB, sqC]
     refine wpAnyK_take (by kernel_rfl) (i := 3) (oi := ⟨some 39, .load 24 (.tmp 38), 24, _, _, none⟩) (v := ?_) rfl (by kernel_rfl) (by kernel_rfl) (by kernel_rfl) (fun _ _ _ h => h) (Or.inl ⟨by rfl, ?_⟩) (by assumption) ?_
     rotate_left
     ·intro wz hSw; (try dsimp only at hSw); go_simp; (try with_reducible rfl)
     try simp only [Act.put, sqA, sqB, sqC]
     refine wpAnyK_take (by kernel_rfl) (i := 4) (oi := ⟨some 40, .move (.tmp 5), 3, _, _, none⟩) (v := ?_) rfl (by kernel_rfl) (by kernel_rfl) (by kernel_rfl) (fun _ _ _ h => h) (Or.inl ⟨by rfl, ?_⟩) (by assumption) ?_
     rotate_left
     ·intro wz hSw; (try dsimp only at hSw); go_simp; (try with_reducible rfl)
     try simp only [Act.put, sqA, sqB, sqC]
     refine wpAnyK_take (by kernel_rfl) (i := 5) (oi := ⟨some 41, .indexAddr 24 (.tmp 39) (.tmp 40), 0, _, _, none⟩) (v := ?_) rfl (by kernel_rfl) (by kernel_rfl) (by kernel_rfl) (fun _ _ _ h => h) (Or.inl ⟨by rfl, ?_⟩) (by assumption) ?_
     rotate_left
     ·intro wz hSw; (try dsimp only at hSw); go_simp; (try with_reducible rfl)
     try simp only [Act.put, sqA, sqB, sqC]
     refine wpAnyK_take (by kernel_rfl) (i := 6) (oi := ⟨some 42, .fieldAddr 56 (.tmp 41) 0, 0, _, _, none⟩) (v := ?_) rfl (by kernel_rfl) (by kernel_rfl) (by kernel_rfl) (fun _ _ _ h => h) (Or.inl ⟨by rfl, ?_⟩) (by assumption) ?_
     rotate_left
     ·intro wz hSw; (try dsimp only at hSw); go_simp; (try with_reducible rfl)
     try simp only [Act.put, sqA, sqB, sqC]
     refine wpAnyK_take (by kernel_rfl) (i := 7) (oi := ⟨some 43, .load 3 (.tmp 42), 3, _, _, none⟩) (v := ?_) rfl (by kernel_rfl) (by kernel_rfl) (by kernel_rfl) (fun _ _ _ h => h) (Or.inl ⟨by rfl, ?_⟩) (by assumption) ?_
     rotate_left
     ·intro wz hSw; (try dsimp only at hSw); go_simp; (try with_reducible rfl)
     try simp only [Act.put, sqA, sqB, sqC]
     refine wpAnyK_take (by kernel_rfl) (i := 8) (oi := ⟨some 44, .fieldAddr 26 (.tmp 1) 3, 0, _, _, none⟩) (v := ?_) rfl (by kernel_rfl) (by kernel_rfl) (by kernel_rfl) (fun _ _ _ h => h) (Or.inl ⟨by rfl, ?_⟩) (by assumption) ?_
     rotate_left
     ·intro wz hSw; (try dsimp only at hSw); go_simp; (try with_reducible rfl)
     try simp only [Act.put, sqA, sqB, sqC]
     refine wpAnyK_take (by kernel_rfl) (i := 9) (oi := ⟨some 45, .load 24 (.tmp 44), 24, _, _, none⟩) (v := ?_) rfl (by kernel_rfl) (by kernel_rfl) (by kernel_rfl) (fun _ _ _ h => h) (Or.inl ⟨by rfl, ?_⟩) (by assumption) ?_
     rotate_left
     ·intro wz hSw; (try dsimp only at hSw); go_simp; (try with_reducible rfl)
     try simp only [Act.put, sqA, sqB, sqC]
     refine wpAnyK_take (by kernel_rfl) (i := 10) (oi := ⟨some 46, .move (.tmp 5), 3, _, _, none⟩) (v := ?_) rfl (by kernel_rfl) (by kernel_rfl) (by kernel_rfl) (fun _ _ _ h => h) (Or.inl ⟨by rfl, ?_⟩) (by assumption) ?_
     rotate_left
     ·intro wz hSw; (try dsimp only at hSw); go_simp; (try with_reducible rfl)
     try simp only [Act.put, sqA, sqB, sqC]
     refine wpAnyK_take (by kernel_rfl) (i := 11) (oi := ⟨some 47, .indexAddr 24 (.tmp 45) (.tmp 46), 0, _, _, none⟩) (v := ?_) rfl (by kernel_rfl) (by kernel_rfl) (by kernel_rfl) (fun _ _ _ h => h) (Or.inl ⟨by rfl, ?_⟩) (by assumption) ?_
     rotate_left
     ·intro wz hSw; (try dsimp only at hSw); go_simp; (try with_reducible rfl)
     try simp only [Act.put, sqA, sqB, sqC]
     refine wpAnyK_take (by kernel_rfl) (i := 12) (oi := ⟨some 48, .fieldAddr 56 (.tmp 47) 1, 0, _, _, none⟩) (v := ?_) rfl (by kernel_rfl) (by kernel_rfl) (by kernel_rfl) (fun _ _ _ h => h) (Or.inl ⟨by rfl, ?_⟩) (by assumption) ?_
     rotate_left
     ·intro wz hSw; (try dsimp only at hSw); go_simp; (try with_reducible rfl)
     try simp only [Act.put, sqA, sqB, sqC]
     refine wpAnyK_take (by kernel_rfl) (i := 13) (oi := ⟨some 49, .load 3 (.tmp 48), 3, _, _, none⟩) (v := ?_) rfl (by kernel_rfl) (by kernel_rfl) (by kernel_rfl) (fun _ _ _ h => h) (Or.inl ⟨by rfl, ?_⟩) (by assumption) ?_
     rotate_left
     ·intro wz hSw; (try dsimp only at hSw); go_simp; (try with_reducible rfl)
     try simp only [Act.put, sqA, sqB, sqC]
     refine wpAnyK_take (by kernel_rfl) (i := 14) (oi := ⟨some 50, .move (.tmp 6), 54, _, _, none⟩) (v := ?_) rfl (by kernel_rfl) (by kernel_rfl) (by kernel_rfl) (fun _ _ _ h => h) (Or.inl ⟨by rfl, ?_⟩) (by assumption) ?_
     rotate_left
     ·intro wz hSw; (try dsimp only at hSw); go_simp; (try with_reducible rfl)
     try simp only [Act.put, sqA, sqB, sqC]
     refine wpAnyK_take (by kernel_rfl) (i := 15) (oi := ⟨some 51, .fieldAddr 26 (.tmp 1) 3, 0, _, _, none⟩) (v := ?_) rfl (by kernel_rfl) (by kernel_rfl) (by kernel_rfl) (fun _ _ _ h => h) (Or.inl ⟨by rfl, ?_⟩) (by assumption) ?_
     rotate_left
     ·intro wz hSw; (try dsimp only at hSw); go_simp; (try with_reducible rfl)
     try simp only [Act.put, sqA, sqB, sqC]
     refine wpAnyK_take (by kernel_rfl) (i := 16) (oi := ⟨some 52, .load 24 (.tmp 51), 24, _, _, none⟩) (v := ?_) rfl (by kernel_rfl) (by kernel_rfl) (by kernel_rfl) (fun _ _ _ h => h) (Or.inl ⟨by rfl, ?_⟩) (by assumption) ?_
     rotate_left
     ·intro wz hSw; (try dsimp only at hSw); go_simp; (try with_reducible rfl)
     try simp only [Act.put, sqA, sqB, sqC]
     refine wpAnyK_take (by kernel_rfl) (i := 17) (oi := ⟨some 53, .move (.tmp 5), 3, _, _, none⟩) (v := ?_) rfl (by kernel_rfl) (by kernel_rfl) (by kernel_rfl) (fun _ _ _ h => h) (Or.inl ⟨by rfl, ?_⟩) (by assumption) ?_
     rotate_left
     ·intro wz hSw; (try dsimp only at hSw); go_simp; (try with_reducible rfl)
     try simp only [Act.put, sqA, sqB, sqC]
     refine wpAnyK_take (by kernel_rfl) (i := 18) (oi := ⟨some 54, .indexAddr 24 (.tmp 52) (.tmp 53), 0, _, _, none⟩) (v := ?_) rfl (by kernel_rfl) (by kernel_rfl) (by kernel_rfl) (fun _ _ _ h => h) (Or.inl ⟨by rfl, ?_⟩) (by assumption) ?_
     rotate_left
     ·intro wz hSw; (try dsimp only at hSw); go_simp; (try with_reducible rfl)
     try simp only [Act.put, sqA, sqB, sqC]
     refine wpAnyK_take (by kernel_rfl) (i := 19) (oi := ⟨some 55, .fieldAddr 56 (.tmp 54) 2, 0, _, _, none⟩) (v := ?_) rfl (by kernel_rfl) (by kernel_rfl) (by kernel_rfl) (fun _ _ _ h => h) (Or.inl ⟨by rfl, ?_⟩) (by assumption) ?_
     rotate_left
     ·intro wz hSw; (try dsimp only at hSw); go_simp; (try with_reducible rfl)
     try simp only [Act.put, sqA, sqB, sqC]
     refine wpAnyK_take (by kernel_rfl) (i := 20) (oi := ⟨some 56, .load 54 (.tmp 55), 54, _, _, none⟩) (v := ?_) rfl (by kernel_rfl) (by kernel_rfl) (by kernel_rfl) (fun _ _ _ h => h) (Or.inl ⟨by rfl, ?_⟩) (by assumption) ?_
     rotate_left
     ·intro wz hSw; (try dsimp only at hSw); go_simp; (try with_reducible rfl)
     try simp only [Act.put, sqA, sqB, sqC]
     refine wpAnyK_ready (rs := [21]) (by kernel_rfl) (by simp) ?_
     refine (AllReadyK.cons (o := ⟨some 57, .call ⟨.builtin .append, #[.tmp 50, .tmp 56], #[54, 54]⟩, 54, _, _, none⟩) rfl (fun K hK => ?_) AllReadyK.nil)
     refine step_append_kV rfl (.tmp 50) (.tmp 56) rfl (s.H j) ka kc (by rfl) (by rfl) HI.out hkn (by omega) ?_
     intro ka' kc' w1 hok hb1
     have hb1' : Below wr.heap.size wr w1 := (Below.refl _ wr).drew.trans hb1
     have S1 := HL.out w1 (fun k hk => hb1'.block k (by omega))
     have HOK : Hid (w1.ownsRow wr.heap.size 3 1 (.slice ka' (s.H j).n kc') (s.H j).n (kL (s.H j)) ∧ Below wr.heap.size wr w1) := ⟨hok, hb1'⟩
     clear hok hb1
     refine hK.out _ _ (fun _ => S1) (fun _ => ?_)
     clear hK K
     try simp only [Act.put, sqA, sqB, sqC]
     refine wpAnyK_take (by kernel_rfl) (i := 22) (oi := ⟨some 58, .build 58 #[(0, .tmp 43), (1, .tmp 49), (2, .tmp 57)], 58, _, _, none⟩) (v := .agg (hdv (s.H j) ka' kc')) rfl (by kernel_rfl) (by kernel_rfl) (by kernel_rfl) (fun _ _ _ h => h) (Or.inl ⟨by rfl, ?_⟩) (by assumption) ?_
     ·intro wz hSw; (try dsimp only at hSw); kernel_rfl
     try simp only [Act.put, sqA, sqB, sqC]
     refine wpAnyK_ready (rs := [23]) (by kernel_rfl) (by simp) ?_
     refine (AllReadyK.cons (o := ⟨some 59, .buildSlice 35 1 #[(0, .tmp 58)], 35, _, _, none⟩) rfl (fun K hK => ?_) AllReadyK.nil)
     refine step_sliceH rfl (.tmp 58) rfl (s.H j) ka' kc' (by rfl) ?_
     have hs1 : wr.heap.size ≤ w1.heap.size := HOK.out.2.size
     have hb2 : Below wr.heap.size wr (w1.alloc (.cells (hdv (s.H j) ka' kc') 58)) := HOK.out.2.alloc hs1 _
     have S2 := HL.out (w1.alloc (.cells (hdv (s.H j) ka' kc') 58)) (fun k hk => hb2.block k (by omega))
     have HG2 : Hid (GvS w (w1.alloc (.cells (hdv (s.H j) ka' kc') 58)) s ⟨pa, pc, some ⟨b, off, none⟩, hc⟩ q' A s.pn j) := HK0.out _ hb2
     refine hK.out _ _ (fun _ => S2) (fun _ => ?_)
     clear hK K
     try simp only [Act.put, sqA, sqB, sqC]
     refine wpAnyK_ready (rs := [24]) (by kernel_rfl) (by simp) ?_
     refine (AllReadyK.cons (o := ⟨some 60, .call ⟨.builtin .append, #[.tmp 37, .tmp 59], #[35, 35]⟩, 35, _, _, none⟩) rfl (fun K hK => ?_) AllReadyK.nil)
     refine step_append_H rfl (.tmp 37) (.tmp 59) rfl (w.heap.size + 3) w1.heap.size (.slice q'.ha j q'.hc) j (flatL (hf s.H A) j) (s.H j) ka' kc' (by rfl) (by rfl) HG2.out.hd HG2.out.big (heap_alloc_new w1 _) (by omega) ?_
     intro va vc w2 hown hgrow
     have hlo := grown_low HG2.out.hd hgrow HG2.out.big
     have S3 := HL.out w2 (fun k hk => by rw [hlo k hk]; exact hb2.block k (by omega))
     have HN : Hid (GvS w (w2.setCell ⟨w.heap.size + 2, 4, none⟩ (.slice va (j + 1) vc)) s ⟨pa, pc, some ⟨b, off, none⟩, hc⟩ ⟨q'.pa, q'.pc, va, vc⟩ (fun k => if k = j then (ka', kc') else A k) s.pn (j + 1)) := HG2.out.pushH (own_low (own_below HOK.out.1 ((Below.refl _ w1).alloc (Nat.le_refl _) _)) hbig) hown hgrow
     have hx2 : w2.heap[w.heap.size + 2]? = some (.cells #[.int .i64 s.nu, .int .i64 s.a, .int .i64 s.b, .slice q'.pa s.pn q'.pc, .slice q'.ha j q'.hc] 37 (0, 0)) := by rw [hlo _ (by omega)]; exact HG2.out.box
     have f2 : ∀ o, w2.frozen? ⟨w.heap.size + 2, o, none⟩ = false := fun o => frozen_of_row _ _ o _ _ hx2
     refine hK.out _ _ (fun _ => S3) (fun _ => ?_)
     clear hK K hown hgrow hlo HG HG2 HK0 HL S0 S1 S2 hx2 HOK hb2
     try simp only [Act.put, sqA, sqB, sqC]
     refine wpAnyK_take (by kernel_rfl) (i := 25) (oi := ⟨some 61, .fieldAddr 37 (.tmp 3) 3, 0, _, _, none⟩) (v := ?_) rfl (by kernel_rfl) (by kernel_rfl) (by kernel_rfl) (fun _ _ _ h => h) (Or.inl ⟨by rfl, ?_⟩) (by assumption) ?_
     rotate_left
     ·intro wz hSw; (try dsimp only at hSw); go_simp; (try with_reducible rfl)
     try simp only [Act.put, sqA, sqB, sqC]
     obtain ⟨g3, g4, g5⟩ := S3
     refine wpAnyK_ready (rs := [26]) (by kernel_rfl) (by simp) ?_
     refine (AllReadyK.cons (o := ⟨none, .store 35 (.tmp 61) (.tmp 60), 0, _, _, none⟩) rfl (fun K hK => ?_) AllReadyK.nil)
     go_simp
     refine hK.out _ _ (fun h => absurd rfl h) (fun _ => ?_)
     clear hK K
     refine wpAnyK_done (by kernel_rfl) (NoPanic.normal ?_) _
     try simp only [Act.put, sqA, sqB, sqC]
     clear hHeld g3 g4 g5 f2
     go_wp2
     go_roundw
     case rel => exact ⟨j + 1, _, _, by omega, by go_num, HN.out⟩
     case measure => simp [intOf]; omega
    ·have hin : j = s.hn := by omega
     have hnn : ¬ ((j : Int) < s.hn) := by omega
     have HG2 : Hid (GvS w wr s ⟨pa, pc, ha, hc⟩ q' A s.pn s.hn) := by rw [← hin]; exact HG.out
     obtain ⟨x0, x1, x2, x3, x4, xf⟩ := five_of HG2.out.box
     obtain ⟨y0, y1, y2, y3, y4, yf⟩ := five_of HG2.out.res
     have HR : Hid (wr.heap[w.heap.size + 1]? = some (.cells #[.int .i64 0, .int .i64 0, .int .i64 0, .slice none 0 0, .slice none 0 0] 37 (0, 0))) := HG2.out.res
     clear HG hin b3 b4
     go_wp2
     have HO : SvOw (w.heap.size + 3) wr s q' A := ⟨fun i hi => HV.out.py.lk i hi, HG2.out.py, HG2.out.hd, HG2.out.ks⟩
     refine bodyPost_ret (results_cell_row Tryz.results6 _ _ (w.heap.size + 1) 37 _ (0, 0) _ rfl (five_all HR.out) Tryz.underlying37 rfl szS) rfl ⟨⟨q', rfl, A, (HO.frm fun k h1 h2 => ?_).low (by omega)⟩, five_below HG2.out.below (by omega)⟩
     exact five_other (by omega)
end Go.Proofs.YtoefgfiabfkfaaaGreatDoor
