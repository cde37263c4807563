/- build: a commitment's branches, for any side. -/
import Derived.Test.YtjnepkggdkccaaaGreatDoorOwnShelf12
namespace Go.Proofs.YtjnepkggdkccaaaGreatDoor
open Go.RowKit

theorem branch_any (c : Cm) (ka : Option Addr) (kc : Nat) (d : Int) (w : World) (hd : d = 0 ∨ d = 1) (ho : c.o = 0 ∨ c.o = 1) :
    Calls Tryz.prog 76 #[.agg (cmv c ka kc), .int .i64 d] w fun e w' => ∃ k, e = .returned (.agg (Cd.bv (brS c d) (some ⟨k, 0, none⟩) 1)) ∧ w'.cell? ⟨k, 0, none⟩ = some (.int .i64 (keyS c.P d)) ∧ w.heap.size ≤ k ∧ Below w.heap.size w w' := by
  obtain ⟨P, o, lk, y, h⟩ := c
  rcases hd with rfl | rfl <;> rcases ho with rfl | rfl
  · have e : brS ⟨P, 0, lk, y, h⟩ 0 = ⟨1, fun _ => P.k0, nz, 0, P.dl⟩ := by simp [brS, keyS]
    rw [e]; exact branch_00 P lk y h ka kc w
  · have e : brS ⟨P, 1, lk, y, h⟩ 0 = ⟨1, fun _ => P.k0, nz, 0, 0⟩ := by simp [brS, keyS]
    rw [e]; exact branch_01 P lk y h ka kc w
  · have e : brS ⟨P, 0, lk, y, h⟩ 1 = ⟨1, fun _ => P.k1, nz, 0, 0⟩ := by simp [brS, keyS]
    rw [e]; exact branch_10 P lk y h ka kc w
  · have e : brS ⟨P, 1, lk, y, h⟩ 1 = ⟨1, fun _ => P.k1, nz, 0, P.dl⟩ := by simp [brS, keyS]
    rw [e]; exact branch_11 P lk y h ka kc w
theorem revoked_any (c : Cm) (ka : Option Addr) (kc : Nat) (w : World) (ho : c.o = 0 ∨ c.o = 1) :
    Calls Tryz.prog 77 #[.agg (cmv c ka kc)] w fun e w' => ∃ k, e = .returned (.agg (Cd.bv (rvS c) (some ⟨k, 0, none⟩) 1)) ∧ w'.cell? ⟨k, 0, none⟩ = some (.int .i64 (keyS c.P (1 - c.o))) ∧ w.heap.size ≤ k ∧ Below w.heap.size w w' := by
  obtain ⟨P, o, lk, y, h⟩ := c
  rcases ho with rfl | rfl
  · exact revoked_0 P lk y h ka kc w
  · exact revoked_1 P lk y h ka kc w
theorem own_any (c : Cm) (ka : Option Addr) (kc : Nat) (w : World) (ho : c.o = 0 ∨ c.o = 1) (hX : (brS c c.o).Ok) (hY : (rvS c).Ok) :
    Calls Tryz.prog 47 #[.agg (cmv c ka kc)] w fun e w' => ∃ b, e = .returned (.agg #[.slice (some ⟨b, 0, none⟩) 2 2]) ∧ Cd.BrIn w' w.heap.size (some ⟨b, 0, none⟩) 2 (fun i => if i = 0 then brS c c.o else rvS c) ∧ Below w.heap.size w w' := by
  obtain ⟨P, o, lk, y, h⟩ := c
  rcases ho with rfl | rfl
  · have e : brS ⟨P, 0, lk, y, h⟩ 0 = ⟨1, fun _ => P.k0, nz, 0, P.dl⟩ := by simp [brS, keyS]
    simp only at hX
    rw [e] at hX ⊢
    refine (own_0 P lk y h ka kc w hX hY).mono ?_
    rintro e w' ⟨b, rfl, h1, h2, h3⟩
    exact ⟨b, rfl, h1, h3⟩
  · have e : brS ⟨P, 1, lk, y, h⟩ 1 = ⟨1, fun _ => P.k1, nz, 0, P.dl⟩ := by simp [brS, keyS]
    simp only at hX
    rw [e] at hX ⊢
    refine (own_1 P lk y h ka kc w hX hY).mono ?_
    rintro e w' ⟨b, rfl, h1, h2, h3⟩
    exact ⟨b, rfl, h1, h3⟩
theorem bv_s33 (x : Cd.Bv) (ka : Option Addr) (kc : Nat) (v : Int) : (Cd.bv x ka kc).setIfInBounds 33 (.int .i64 v) = Cd.bv { x with af := v } ka kc := by
  have h1 : (Cd.bv x ka kc).setIfInBounds 33 (.int .i64 v) = ((Cd.brl x ka kc).set 33 (.int .i64 v)).toArray := by simp [Cd.bv]
  have e : Cd.brl x ka kc = (.slice ka x.n kc :: bl x.lk 32) ++ ([.int .i64 x.af] ++ [.int .i64 x.ol]) := by simp [Cd.brl]
  have e2 : Cd.brl { x with af := v } ka kc = (.slice ka x.n kc :: bl x.lk 32) ++ ([.int .i64 v] ++ [.int .i64 x.ol]) := by simp [Cd.brl]
  rw [h1]
  unfold Cd.bv
  rw [e2, e, List.set_append_right _ _ (by simp [bl_length])]
  simp [bl_length]
/-- What a block that holds a commitment gives a walk of its payment. -/
structure CmPay (w : World) (g : Nat) (c : Cm) : Prop where
  fr : w.cell? ⟨g, 72, none⟩ = some (.int .i64 c.y.fr)
  af : w.cell? ⟨g, 74, none⟩ = some (.int .i64 c.y.af)
  lk : w.rangeAt g 75 (bl c.y.lk 32)
theorem cmPay {w : World} {g : Nat} {c : Cm} {ka : Option Addr} {kc : Nat} (h : w.rangeAt g 0 (cml c ka kc)) : CmPay w g c := by
  have h1 : w.rangeAt g 71 ([.int .i64 c.y.id, .int .i64 c.y.fr, .int .i64 c.y.am, .int .i64 c.y.af] ++ bl c.y.lk 32) := (cmBox h).py
  obtain ⟨h2, h3⟩ := range_app h1
  exact ⟨h2 1 _ rfl, h2 3 _ rfl, h3⟩
section
variable {ops : Array Oper} {o : Oper} {a : Act} {w : World} {Q : Exit → Act → World → Prop} {K : Act → World → Prop} {E : Prop}
theorem step_allocP (T : TypeId) (z : Array Value) (hrun : ∀ w : World, (Instr.alloc T true (.tuple #[])).run Tryz.prog w = .ok (.pointer (some ⟨w.heap.size, 0, none⟩)) (w.alloc (.cells z T))) (hgd : o.guard = none) (ho : o.op = .alloc T)
    (h : ∀ p w1, w1.heap[p]? = some (.cells z T (0, 0)) → w.heap.size ≤ p → Below w.heap.size w w1 → K (a.put o.dst (.pointer (some ⟨p, 0, none⟩))) w1) : if Region.wanted o (yielded ops a.tmps) = true then Oper.wp Tryz.prog o a w K Q else E :=
  step_allocN T z hrun hgd ho (fun w1 N => h _ w1 N.blk (Nat.le_refl _) N.below)
theorem step_storeLkB (hgd : o.guard = none) (x y : Operand) (ho : o.op = .store 23 x y) (g : Nat) (hx : a.eval x = .pointer (some ⟨g, 1, none⟩)) (z : Nat → Int) (hy : a.eval y = .agg (hv z)) (v : Cd.Bv) (ka : Option Addr) (kc : Nat) (t : TypeId) (hg : w.heap[g]? = some (.cells (Cd.bv v ka kc) t (0, 0)))
    (h : ∀ w', w'.heap[g]? = some (.cells (Cd.bv { v with lk := z } ka kc) t (0, 0)) → Frm [g] w w' → K (a.put o.dst undef) w') : if Region.wanted o (yielded ops a.tmps) = true then Oper.wp Tryz.prog o a w K Q else E := by
  have hw : Region.wanted o (yielded ops a.tmps) = true := by simp [Region.wanted, hgd]
  rw [if_pos hw]
  refine wp_store_mid 23 x y ho g 1 (hv z) hx hy ?_ (by rw [hv_size]; exact hsz) (hv_one z) (h _ (bv_setLk v ka kc z hg) (setCells_frm g _ 1 w))
  intro j hj
  rw [hv_size] at hj
  refine ⟨?_, frozen_of_row w g _ _ t hg⟩
  rw [cell_of_row w g _ _ t _ hg]
  simp [Cd.bv_size]
  omega
theorem step_sliceB3 (hgd : o.guard = none) (x y z : Operand) (ho : o.op = .buildSlice 91 3 #[(0, x), (1, y), (2, z)]) (u v s : Cd.Bv) (ka kb ke : Option Addr) (kc kd kf : Nat) (hx : a.eval x = .agg (Cd.bv u ka kc)) (hy : a.eval y = .agg (Cd.bv v kb kd)) (hz : a.eval z = .agg (Cd.bv s ke kf))
    (h : ∀ q w1, w1.heap[q]? = some (.cells (Cd.brl u ka kc ++ (Cd.brl v kb kd ++ Cd.brl s ke kf)).toArray 164 (0, 0)) → w.heap.size ≤ q → Below w.heap.size w w1 → K (a.put o.dst (.slice (some ⟨q, 0, none⟩) 3 3)) w1) : if Region.wanted o (yielded ops a.tmps) = true then Oper.wp Tryz.prog o a w K Q else E := by
  have hw : Region.wanted o (yielded ops a.tmps) = true := by simp [Region.wanted, hgd]
  rw [if_pos hw]
  unfold Oper.wp execOp
  simp only [ho, List.map_toArray, List.map_cons, List.map_nil, hx, hy, hz, Sem.run_bind, slice_br3, Result.andThen]
  exact h _ _ (heap_alloc_new _ _) (Nat.le_refl _) ((Below.refl _ _).alloc (Nat.le_refl _) _)
end
theorem cell_below {w w1 : World} (h : Below w.heap.size w w1) {p : Addr} {v : Value} (hp : w.cell? p = some v) : w1.cell? p = some v := by rw [h.cell (World.block_lt_of_cell? w p hp)]; exact hp
theorem cell_frm {S : List Nat} {w w1 : World} (h : Frm S w w1) {p : Addr} {v : Value} (hp : w.cell? p = some v) (hn : p.block ∉ S) : w1.cell? p = some v := by rw [World.cell?_of_block (a := p) (h.block p.block (World.block_lt_of_cell? w p hp) hn)]; exact hp
/-- Three branches in a row of their own. -/
theorem brAt3 {w : World} {b ka kb ke : Nat} {x y s : Cd.Bv} {t : TypeId} (h : w.heap[b]? = some (.cells (Cd.brl x (some ⟨ka, 0, none⟩) 1 ++ (Cd.brl y (some ⟨kb, 0, none⟩) 1 ++ Cd.brl s (some ⟨ke, 0, none⟩) 1)).toArray t (0, 0))) (hx1 : x.n = 1) (hy1 : y.n = 1) (hs1 : s.n = 1) (hx : x.Ok) (hy : y.Ok) (hs : s.Ok) (hka : w.cell? ⟨ka, 0, none⟩ = some (.int .i64 (x.z 0))) (hkb : w.cell? ⟨kb, 0, none⟩ = some (.int .i64 (y.z 0))) (hke : w.cell? ⟨ke, 0, none⟩ = some (.int .i64 (s.z 0))) :
    Cd.BrAt w (some ⟨b, 0, none⟩) 3 (fun i => if i = 0 then x else if i = 1 then y else s) := by
  have hr : w.rangeAt b 0 (Cd.brl x (some ⟨ka, 0, none⟩) 1 ++ (Cd.brl y (some ⟨kb, 0, none⟩) 1 ++ Cd.brl s (some ⟨ke, 0, none⟩) 1)) := fun j v hv => by
    rw [Nat.zero_add, cell_of_row _ _ j _ _ _ h]
    simpa using hv
  obtain ⟨h1, h23⟩ := range_app hr
  obtain ⟨h2, h3⟩ := range_app h23
  rw [Cd.brl_length] at h2 h3
  rw [Cd.brl_length] at h3
  refine ⟨fun i hi => ?_, fun _ => ⟨b, 0, rfl, fun i hi => ?_⟩⟩
  · split
    · exact hx
    · split
      · exact hy
      · exact hs
  · match i, hi with
    | 0, _ => exact ⟨_, _, by simpa using h1, fun _ => ⟨ka, 0, rfl, fun j hj => by obtain rfl : j = 0 := (by simp [hx1] at hj; omega); exact hka⟩⟩
    | 1, _ => exact ⟨_, _, by simpa using h2, fun _ => ⟨kb, 0, rfl, fun j hj => by obtain rfl : j = 0 := (by simp [hy1] at hj; omega); exact hkb⟩⟩
    | 2, _ => exact ⟨_, _, by simpa using h3, fun _ => ⟨ke, 0, rfl, fun j hj => by obtain rfl : j = 0 := (by simp [hs1] at hj; omega); exact hke⟩⟩
end Go.Proofs.YtjnepkggdkccaaaGreatDoor
