/- Somebody's signature of a sum: Sign. -/
import Derived.Test.YtlddjniofijnnaaDoorOHas
namespace Go.Proofs.YtlddjniofijnnaaDoor
open Go.RowKit

attribute [local go_sem ↓] Go.wp_at_zero Go.wp_at_succ

/-- Whether a number is a party's. -/
def pty (k : Int) : Bool := decide (0 ≤ k) && decide (k < 16)
/-- The signatures behind one more. -/
def sgnS (S : List (Int × List UInt8)) (k : Int) (z : Nat → Int) : List (Int × List UInt8) := if pty k then (if S.contains (k, ub z) then S else S ++ [(k, ub z)]) else S
def sgnE (k : Int) : Int := if pty k then 0 else 33
/-- Lists' blocks stay, or are new. -/
def Grew (w : World) (g g' : Nat → Option Nat) : Prop := ∀ i k, i < 16 → g' i = some k → g i = some k ∨ w.heap.size ≤ k
theorem Grew.refl (w : World) (g : Nat → Option Nat) : Grew w g g := fun _ _ _ h => .inl h

set_option maxHeartbeats 400000 in
theorem isParty_any (k : Int) (w : World) : Calls Tryd.prog 20 #[.int .i64 k] w fun e w' => e = .returned (.bool (pty k)) ∧ w' = w := by
  by_cases h : 0 ≤ k
  · have e : pty k = decide (k < 16) := by simp [pty, h]
    rw [e]
    go_enter Tryd.func20, Tryd.ntmps20
    go_wp2
    go_ret
    exact ⟨rfl, rfl⟩
  · have e : pty k = false := by simp [pty, h]
    rw [e]
    have h' : k < 0 := by omega
    go_enter Tryd.func20, Tryd.ntmps20
    go_wp2
    go_ret
    exact ⟨rfl, rfl⟩

set_option maxHeartbeats 400000 in
theorem sign_out (p : Nat) (k : Int) (z : Nat → Int) (w : World) (hk : pty k = false) :
    Calls Tryd.prog 9 #[.pointer (some ⟨p, 0, none⟩), .int .i64 k, .agg (hv z)] w fun e w' => e = .returned (.iface 55 (.int .i64 33)) ∧ Below w.heap.size w w' := by
  go_enter Tryd.func9, Tryd.ntmps9
  go_wp2_with (first | (refine Go.Great.wpList_boxTo rfl _ _ rfl _ rfl _ rfl (hv z) rfl ?_) | (go_at_call 20; refine (isParty_any _ _).mono ?_; rintro e w1 ⟨rfl, rfl⟩; rw [hk]) | fail)
  go_ret
  exact ⟨rfl, (Below.refl _ _).alloc (Nat.le_refl _) _⟩

set_option maxHeartbeats 800000 in
theorem sign_old (p m B : Nat) (g : Nat → Option Nat) (S : List (Int × List UInt8)) (k : Int) (z : Nat → Int) (w : World) (h : BkAt w B p m g S) (hi : Ib k) (hz : Zb z) (hk : pty k = true) (hc : S.contains (k, ub z) = true) :
    Calls Tryd.prog 9 #[.pointer (some ⟨p, 0, none⟩), .int .i64 k, .agg (hv z)] w fun e w' => e = .returned .nilIface ∧ Below w.heap.size w w' := by
  have hb0 : Below w.heap.size w (w.alloc (.cells (hv z) 32)) := (Below.refl _ w).alloc (Nat.le_refl _) _
  have h1 : Hid (BkAt (w.alloc (.cells (hv z) 32)) B p m g S) := h.below hb0
  have HN := heap_alloc_new w (.cells (hv z) 32)
  go_enter Tryd.func9, Tryd.ntmps9
  go_wp2_with (first | (refine Go.Great.wpList_boxTo rfl _ _ rfl _ rfl _ rfl (hv z) rfl ?_) | (go_at_call 20; refine (isParty_any _ _).mono ?_; rintro e w1 ⟨rfl, rfl⟩; rw [hk]) | (refine wpList_loadH rfl _ rfl w.heap.size rfl z _ _ HN ?_) | (go_at_call 10; refine (has_any p m B g S _ z _ h1.out hi hz).mono ?_; rintro e w1 ⟨rfl, hb1⟩; rw [hc]) | fail)
  go_ret
  exact ⟨rfl, Below.transS hb0 hb1⟩
theorem slice_one (z : Nat → Int) (w : World) : (Instr.buildSlice 47 1 #[(0, .agg (hv z))]).run Tryd.prog w = .ok (.slice (some ⟨w.heap.size, 0, none⟩) 1 1) (w.alloc (.cells (hv z) 32)) := by kernel_rfl
section
variable {ops : Array Oper} {o : Oper} {a : Act} {w : World} {K : Act → World → Prop} {Q : Exit → Act → World → Prop} {E : Prop}
theorem step_slice1 (hgd : o.guard = none) (x : Operand) (ho : o.op = .buildSlice 47 1 #[(0, x)]) (z : Nat → Int) (hx : a.eval x = .agg (hv z))
    (h : K (a.put o.dst (.slice (some ⟨w.heap.size, 0, none⟩) 1 1)) (w.alloc (.cells (hv z) 32))) : if Region.wanted o (yielded ops a.tmps) = true then Oper.wp Tryd.prog o a w K Q else E := by
  have hw : Region.wanted o (yielded ops a.tmps) = true := by simp [Region.wanted, hgd]
  rw [if_pos hw]
  unfold Oper.wp execOp
  simp only [ho, List.map_toArray, List.map_cons, List.map_nil, hx, Sem.run_bind, slice_one, Result.andThen]
  exact h
theorem step_append (hgd : o.guard = none) (s x : Operand) (t : TypeId) (ho : o.op = .call { callee := .builtin .append, args := #[s, x], argTypes := #[t, t] }) {v u v' : Value} {w' : World} (hs : a.eval s = v) (hx : a.eval x = u)
    (hr : (Builtin.append_ #[t, t] o.type #[v, u]).run Tryd.prog w = .ok v' w') (h : K (a.put o.dst v') w') : if Region.wanted o (yielded ops a.tmps) = true then Oper.wp Tryd.prog o a w K Q else E := by
  have hw : Region.wanted o (yielded ops a.tmps) = true := by simp [Region.wanted, hgd]
  rw [if_pos hw]
  unfold Oper.wp execOp
  simp only [ho, resolve, invoke, builtin, Sem.run_bind, Sem.run_pure, Result.andThen_ok, List.map_toArray, List.map_cons, List.map_nil, hs, hx, hr]
  exact h
end
theorem infoH : (Tryd.prog.info? 32).map (fun i => (i.zero, i.size, i.bytes)) = some (some (.agg (hv nz)), 32, 32) := by kernel_rfl
theorem frozen_drew_free {w : World} {p j : Nat} {cs : Array Value} {t : TypeId} (h : w.heap[p]? = some (.cells cs t (0, 0))) : w.frozen? ⟨p, j, none⟩ = false := frozen_of_row w p j _ t h
theorem hv_range {w : World} {b : Nat} {z : Nat → Int} {t : TypeId} {fr : Nat × Nat} (h : w.heap[b]? = some (.cells (hv z) t fr)) : w.rangeAt b 0 (bl z 32) := by
  intro j v hv'
  rw [Nat.zero_add, cell_of_row w _ j _ _ _ h, ← hv']
  simp [hv]

/-- What one more signature leaves. -/
theorem sign_end {w w1 w2 w3 w4 : World} {B p m k n : Nat} {g : Nat → Option Nat} {S : List (Int × List UInt8)} {sg : Int × List UInt8} {sl : Nat → Value} {v' : Value} {xs : List Value} {D : DataW Unit} {o : Obj} {z : Nat → Int} (hk : k < 16)
    (HW1 : Below w.heap.size w w1) (HL : ∀ j, j ∈ fpL p m g → B ≤ j ∧ j < w.heap.size) (HF2 : Frm [m] w1 w2)
    (HC : (∀ i, i < 16 → (sl i).ownBlock = g i ∧ RowAt w1 B (sl i) S.length) ∧ (∀ i, i < 16 → g i ≠ some p ∧ g i ≠ some m) ∧ (∀ i j k, i < 16 → j < 16 → i ≠ j → g i = some k → g j ≠ some k) ∧ B ≤ p ∧ B ≤ m ∧ p ≠ m)
    (HM2 : w2.ownsMap Tryd.prog 52 (unitElem (H := Unit)) m (S.length + 1) D ∧ BkD D (S ++ [sg]))
    (d1 : w2.heap[p]? = some (.cells (bkc m sl) 50 (0, 0))) (e3 : w3 = w2.drew.alloc o) (hn : n ≤ S.length) (h1 : ∀ u ∈ xs, u.oneCell' = true)
    (hown : w4.ownsRow B 32 32 v' (n + 1) (xs ++ bl z 32)) (hgrow : w3.grownBy w4 (sl k).ownBlock) (hloc : v'.ownBlock = (sl k).ownBlock ∨ v'.ownBlock = some w3.heap.size) :
    ∃ g', BkAt (w4.setCell ⟨p, 1 + k, none⟩ v') B p m g' (S ++ [sg]) ∧ Frm (fpL p m g) w (w4.setCell ⟨p, 1 + k, none⟩ v') ∧ Grew w g g' := by
  obtain ⟨c2, c6, c7, c8, c9, c5⟩ := HC
  have gk := (c2 k hk).1
  rw [gk] at hgrow hloc
  have lp := (HL p (mem_fpL.2 (.inl rfl))).2
  have lm := (HL m (mem_fpL.2 (.inr (.inl rfl)))).2
  have lg : ∀ i j, i < 16 → g i = some j → j < w.heap.size := fun i j hi e => (HL j (mem_fpL.2 (.inr (.inr ⟨i, hi, e⟩)))).2
  have s1 := HW1.size
  have s2 := HF2.size
  have F3 : Frm [m] w1 w3 := by rw [e3]; exact HF2.drew.alloc o
  have s3 := F3.size
  have hne : ∀ j, g k = some j → j ∈ fpL p m g := fun j e => mem_fpL.2 (.inr (.inr ⟨k, hk, e⟩))
  have F4 : Frm (fpL p m g) w w4 := (((Frm.ofBelow HW1 : Frm (fpL p m g) w w1)).trans (F3.mono (fun j hj => by simp at hj; subst hj; exact mem_fpL.2 (.inr (.inl rfl))))).grown hgrow hne
  have F5 := F4.setCell ⟨p, 1 + k, none⟩ v' (mem_fpL.2 (.inl rfl))
  have d3 : w3.heap[p]? = some (.cells (bkc m sl) 50 (0, 0)) := by
    rw [e3, Below.heap_alloc _ _ _ (lt_of_block (w := w2.drew) d1)]; exact d1
  have d4 : w4.heap[p]? = some (.cells (bkc m sl) 50 (0, 0)) := by
    rw [hgrow.block p (lt_of_block d3) (fun e => (c6 k hk).1 e.symm)]; exact d3
  have d5 := heap_setCell_same w4 p (1 + k) _ _ v' d4
  rw [bkc_set] at d5
  have keep : ∀ j, j < w1.heap.size → j ≠ m → j ≠ p → g k ≠ some j → (w4.setCell ⟨p, 1 + k, none⟩ v').heap[j]? = w1.heap[j]? := by
    intro j hj hm hp hg
    rw [Below.heap_setCell _ _ _ _ hp, hgrow.block j (by omega) (fun e => hg e.symm)]
    exact F3.block j hj (by simpa using hm)
  have hv : ∀ j, v'.ownBlock = some j → j ≠ p ∧ j ≠ m ∧ (g k = some j ∨ w3.heap.size = j) := by
    intro j e
    rcases hloc with h | h
    · rw [e] at h
      exact ⟨fun e' => (c6 k hk).1 (by rw [← h, e']), fun e' => (c6 k hk).2 (by rw [← h, e']), .inl h.symm⟩
    · rw [e] at h
      have := Option.some.inj h
      exact ⟨by omega, by omega, .inr this.symm⟩
  refine ⟨fun i => if i = k then v'.ownBlock else g i, ⟨⟨_, d5, fun i hi => ?_⟩, ⟨D, ?_, HM2.2⟩, c5, fun i hi => ?_, fun i j q hi hj hij e e' => ?_, c8, c9⟩, F5, fun i j hi e => ?_⟩
  · by_cases e : i = k
    · subst e
      simp only [if_true]
      refine ⟨trivial, n + 1, xs ++ bl z 32, by simp; omega, ?_⟩
      have : RowAt (w4.setCell ⟨p, 1 + i, none⟩ v') B v' (n + 1) := RowAt.keep ⟨n + 1, _, Nat.le_refl _, hown, fun u hu => by
        rcases List.mem_append.1 hu with h | h
        · exact h1 u h
        · exact bl_one z 32 u h⟩ (fun j hj => Below.heap_setCell _ _ _ _ (hv j hj).1)
      obtain ⟨n', xs', hn', ho', h1'⟩ := this
      exact ⟨⟨hown.1, by
        rcases hown.2 with hnil | ⟨q, cap, cur, eq, hb, hg, rest⟩
        · exact .inl hnil
        · exact .inr ⟨q, cap, cur, eq, hb, by rw [Below.heap_setCell _ _ _ _ (hv q (by rw [eq]; rfl)).1]; exact hg, rest⟩⟩, fun u hu => by
        rcases List.mem_append.1 hu with h | h
        · exact h1 u h
        · exact bl_one z 32 u h⟩
    · simp only [if_neg e]
      refine ⟨(c2 i hi).1, ((c2 i hi).2.keep fun j hj => ?_).mono (by simp)⟩
      have hj' : g i = some j := (c2 i hi).1 ▸ hj
      have := lg i j hi hj'
      exact keep j (by omega) (fun e' => (c6 i hi).2 (by rw [hj', e'])) (fun e' => (c6 i hi).1 (by rw [hj', e'])) (c7 i k j hi hk e hj')
  · have : (S ++ [sg]).length = S.length + 1 := by simp
    rw [this]
    refine owns_keep HM2.1 ?_
    rw [Below.heap_setCell _ _ _ _ (Ne.symm c5), hgrow.block m (by omega) (fun e => (c6 k hk).2 e.symm), e3, Below.heap_alloc _ _ _ (by show m < w2.heap.size; omega)]
    rfl
  · by_cases e : i = k
    · simp only [if_pos e]
      exact ⟨fun h => (hv p h).1 rfl, fun h => (hv m h).2.1 rfl⟩
    · simp only [if_neg e]
      exact c6 i hi
  · by_cases ei : i = k
    · have ej : ¬ j = k := fun h => hij (ei.trans h.symm)
      simp only [if_pos ei] at e
      simp only [if_neg ej] at e'
      rcases (hv q e).2.2 with h | h
      · exact c7 k j q hk hj (fun h => ej h.symm) h e'
      · have := lg j q hj e'
        omega
    · simp only [if_neg ei] at e
      by_cases ej : j = k
      · simp only [if_pos ej] at e'
        rcases (hv q e').2.2 with h | h
        · exact c7 i k q hi hk ei e h
        · have := lg i q hi e
          omega
      · simp only [if_neg ej] at e'
        exact c7 i j q hi hj hij e e'
  · by_cases ei : i = k
    · simp only [if_pos ei] at e
      rcases (hv j e).2.2 with h | h
      · exact .inl (by rw [ei]; exact h)
      · exact .inr (by omega)
    · simp only [if_neg ei] at e
      exact .inl e

set_option maxRecDepth 100000 in
set_option maxHeartbeats 3200000 in
theorem sign_new (p m B : Nat) (g : Nat → Option Nat) (S : List (Int × List UInt8)) (k : Nat) (z : Nat → Int) (w : World) (h : BkAt w B p m g S) (hk : k < 16) (hz : Zb z) (hc : S.contains ((k : Int), ub z) = false) (hl : S.length ≤ 100000) (hB : B ≤ w.heap.size) :
    Calls Tryd.prog 9 #[.pointer (some ⟨p, 0, none⟩), .int .i64 k, .agg (hv z)] w fun e w' => e = .returned .nilIface ∧ ∃ g', BkAt w' B p m g' (S ++ [((k : Int), ub z)]) ∧ Frm (fpL p m g) w w' ∧ Grew w g g' := by
  obtain ⟨i0, hi0, hz0, hz1, hz2⟩ := info_parts infoH
  have HI0 : Hid (Tryd.prog.info? 32 = some i0 ∧ i0.zero = some (.agg (hv nz)) ∧ i0.size = 32 ∧ i0.bytes = 32) := ⟨hi0, hz0, hz1, hz2⟩
  clear hi0 hz0 hz1 hz2
  have hi : Ib (k : Int) := by unfold Ib; omega
  have hp : pty (k : Int) = true := by simp [pty]; omega
  have hb0 : Below w.heap.size w (w.alloc (.cells (hv z) 32)) := (Below.refl _ w).alloc (Nat.le_refl _) _
  have h1 : Hid (BkAt (w.alloc (.cells (hv z) 32)) B p m g S) := h.below hb0
  have HN := heap_alloc_new w (.cells (hv z) 32)
  have HB : Hid (Below w.heap.size w (w.alloc (.cells (hv z) 32))) := hb0
  have HL : Hid (∀ j, j ∈ fpL p m g → B ≤ j ∧ j < w.heap.size) := fun j hj => h.lt hj
  clear h hb0
  go_enter Tryd.func9, Tryd.ntmps9
  go_wp2_with (first | (refine Go.Great.wpList_boxTo rfl _ _ rfl _ rfl _ rfl (hv z) rfl ?_) | (go_at_call 20; refine (isParty_any _ _).mono ?_; rintro e w1 ⟨rfl, rfl⟩; rw [hp]) | (refine wpList_loadH rfl _ rfl w.heap.size rfl z _ _ HN ?_) | (go_at_call 10; refine (has_any p m B g S _ z _ h1.out hi hz).mono ?_; rintro e w1 ⟨rfl, hb1⟩; rw [hc]) | fail)
  have HN1 : w1.heap[w.heap.size]? = some (.cells (hv z) 32 (0, 0)) := by rw [hb1.block _ (lt_of_block HN)]; exact HN
  have h2 := h1.out.below hb1
  have HW1 : Hid (Below w.heap.size w w1) := Below.transS HB.out hb1
  clear HB h1 hb1 HN
  obtain ⟨⟨sl, c1, c2⟩, ⟨D, c3, c4⟩, c5, c6, c7, c8, c9⟩ := h2
  have c30 : w1.drew.ownsMap Tryd.prog 52 (unitElem (H := Unit)) m S.length D := c3
  obtain ⟨w2, hrun2, hm2, hg2⟩ := c30.update lawS (t := 46) Tryd.underlying46 (by simp [maxLen]; omega) (keyOfS hi hz) unitElem_mk
  have hD2 := c4.put (c3.tidy lawS) hi hz hc (.agg [])
  have q0 : w1.drew.cell? ⟨p, 0, none⟩ = some (.map (some m)) := by rw [cell_of_row w1.drew p 0 _ _ _ c1]; simp [bkc]
  have q1 : w1.drew.rangeAt w.heap.size 0 (bl z 32) := hv_range (w := w1.drew) HN1
  have lm := (HL.out m (mem_fpL.2 (.inr (.inl rfl)))).2
  have lp := (HL.out p (mem_fpL.2 (.inl rfl))).2
  have hW := HW1.out.size
  have d1 : w2.heap[p]? = some (.cells (bkc m sl) 50 (0, 0)) := by rw [hg2.block p (by show p < w1.heap.size; omega) (by simpa using c5)]; exact c1
  have HN2 : w2.heap[w.heap.size]? = some (.cells (hv z) 32 (0, 0)) := by rw [hg2.block w.heap.size (lt_of_block (w := w1.drew) HN1) (by simp; omega)]; exact HN1
  have q2 : w2.cell? ⟨p, 0, none⟩ = some (.map (some m)) := by rw [cell_of_row w2 p 0 _ _ _ d1]; simp [bkc]
  have q3 : w2.rangeAt w.heap.size 0 (bl z 32) := hv_range HN2
  refine wp_region_noPanic ?_
  refine wp_region_held_drew (S := fun w' => w'.cell? ⟨p, 0, none⟩ = some (.map (some m)) ∧ w'.rangeAt w.heap.size 0 (bl z 32)) (by kernel_rfl) ⟨q0, q1⟩ (fun hHeld => ?_)
  refine wpAnyH_take (i := 0) (oi := { dst := some 19, op := Go.Op.move (Go.Operand.tmp 0), type := 23, pos := "oath.go:34", after := #[], guard := none }) (v := ?_) rfl (by kernel_rfl) (by kernel_rfl) (by kernel_rfl) (fun _ _ _ h => h) (Or.inl ⟨by rfl, ?_⟩) (by assumption) ?_
  rotate_left
  · intro wz hSw; (try dsimp only at hSw); go_simp; (try with_reducible rfl)
  try simp only [Act.put, List.setIfInBounds_toArray, List.set_cons_zero, List.set_cons_succ]
  refine wpAnyH_take (i := 1) (oi := { dst := some 20, op := Go.Op.nilCheck (Go.Operand.tmp 19), type := 0, pos := "oath.go:34", after := #[{ on := 0, ground := Go.Ground.data }], guard := none }) (v := ?_) rfl (by kernel_rfl) (by kernel_rfl) (by kernel_rfl) (fun _ _ _ h => h) (Or.inl ⟨by rfl, ?_⟩) (by assumption) ?_
  rotate_left
  · intro wz hSw; (try dsimp only at hSw); go_simp; (try with_reducible rfl)
  try simp only [Act.put, List.setIfInBounds_toArray, List.set_cons_zero, List.set_cons_succ]
  refine wpAnyH_take (i := 2) (oi := { dst := some 21, op := Go.Op.fieldAddr 50 (Go.Operand.tmp 20) 0, type := 0, pos := "oath.go:34", after := #[{ on := 1, ground := Go.Ground.data }], guard := none }) (v := ?_) rfl (by kernel_rfl) (by kernel_rfl) (by kernel_rfl) (fun _ _ _ h => h) (Or.inl ⟨by rfl, ?_⟩) (by assumption) ?_
  rotate_left
  · intro wz hSw; (try dsimp only at hSw); go_simp; (try with_reducible rfl)
  try simp only [Act.put, List.setIfInBounds_toArray, List.set_cons_zero, List.set_cons_succ]
  refine wpAnyH_take (i := 3) (oi := { dst := some 22, op := Go.Op.load 46 (Go.Operand.tmp 21), type := 46, pos := "oath.go:34", after := #[{ on := 2, ground := Go.Ground.data }], guard := none }) (v := ?_) rfl (by kernel_rfl) (by kernel_rfl) (by kernel_rfl) (fun _ _ _ h => h) (Or.inl ⟨by rfl, ?_⟩) (by assumption) ?_
  rotate_left
  · intro wz hSw; (try dsimp only at hSw); go_simp; (try with_reducible rfl)
  try simp only [Act.put, List.setIfInBounds_toArray, List.set_cons_zero, List.set_cons_succ]
  refine wpAnyH_take (i := 4) (oi := { dst := some 23, op := Go.Op.move (Go.Operand.tmp 1), type := 3, pos := "oath.go:34", after := #[], guard := none }) (v := ?_) rfl (by kernel_rfl) (by kernel_rfl) (by kernel_rfl) (fun _ _ _ h => h) (Or.inl ⟨by rfl, ?_⟩) (by assumption) ?_
  rotate_left
  · intro wz hSw; (try dsimp only at hSw); go_simp; (try with_reducible rfl)
  try simp only [Act.put, List.setIfInBounds_toArray, List.set_cons_zero, List.set_cons_succ]
  refine wpAnyH_take (i := 5) (oi := { dst := some 24, op := Go.Op.load 32 (Go.Operand.tmp 5), type := 32, pos := "oath.go:34", after := #[], guard := none }) rfl (by kernel_rfl) (by kernel_rfl) (by kernel_rfl) (fun _ _ _ h => h) (yieldsIf_load_mid (by rfl) _ _ rfl w.heap.size 0 rfl (bl z 32) _ (fun _ h => h.2) Tryd.underlying32 rfl (bl_size z)) (by assumption) ?_
  try simp only [Act.put, List.setIfInBounds_toArray, List.set_cons_zero, List.set_cons_succ]
  refine wpAnyH_take (i := 6) (oi := { dst := some 25, op := Go.Op.build 52 #[(0, Go.Operand.tmp 23), (1, Go.Operand.tmp 24)], type := 52, pos := "oath.go:34", after := #[{ on := 4, ground := Go.Ground.data }, { on := 5, ground := Go.Ground.data }], guard := none }) (v := .agg (kv k z)) rfl (by kernel_rfl) (by kernel_rfl) (by kernel_rfl) (fun _ _ _ h => h) (Or.inl ⟨by rfl, ?_⟩) (by assumption) ?_
  · intro wz hSw; (try dsimp only at hSw); kernel_rfl
  try simp only [Act.put, List.setIfInBounds_toArray, List.set_cons_zero, List.set_cons_succ]
  refine wpAnyH_take (i := 7) (oi := { dst := some 26, op := Go.Op.build 53 #[], type := 53, pos := "oath.go:34", after := #[], guard := none }) (v := .agg #[]) rfl (by kernel_rfl) (by kernel_rfl) (by kernel_rfl) (fun _ _ _ h => h) (Or.inl ⟨by rfl, ?_⟩) (by assumption) ?_
  · intro wz hSw; (try dsimp only at hSw); kernel_rfl
  try simp only [Act.put, List.setIfInBounds_toArray, List.set_cons_zero, List.set_cons_succ]
  refine wpAnyH_ready (rs := [8]) (by kernel_rfl) (by simp) ?_
  refine (AllReadyH.cons (o := { dst := none, op := Go.Op.mapUpdate 46 (Go.Operand.tmp 22) (Go.Operand.tmp 25) (Go.Operand.tmp 26), type := 0, pos := "oath.go:34", after := #[{ on := 3, ground := Go.Ground.data }, { on := 6, ground := Go.Ground.data }, { on := 7, ground := Go.Ground.data }, { on := 0, ground := Go.Ground.phase }, { on := 1, ground := Go.Ground.phase }, { on := 2, ground := Go.Ground.phase }, { on := 3, ground := Go.Ground.phase }, { on := 4, ground := Go.Ground.phase }, { on := 5, ground := Go.Ground.phase }, { on := 6, ground := Go.Ground.phase }, { on := 7, ground := Go.Ground.phase }], guard := none }) rfl (fun K hK => ?_) AllReadyH.nil)
  go_simp
  refine hK.out _ _ ⟨q2, q3⟩ (fun _ => ?_)
  clear hK K
  try simp only [Act.put, List.setIfInBounds_toArray, List.set_cons_zero, List.set_cons_succ]
  refine wpAnyH_done (by kernel_rfl) (NoPanic.normal ?_) _
  try simp only [Act.put, List.setIfInBounds_toArray, List.set_cons_zero, List.set_cons_succ]
  have HF2 : Hid (Frm [m] w1 w2) := (Frm.refl [m] w1).drew.grown hg2 (fun j hj => by cases hj; simp)
  have HC : Hid ((∀ i, i < 16 → (sl i).ownBlock = g i ∧ RowAt w1 B (sl i) S.length) ∧ (∀ i, i < 16 → g i ≠ some p ∧ g i ≠ some m) ∧ (∀ i j k, i < 16 → j < 16 → i ≠ j → g i = some k → g j ≠ some k) ∧ B ≤ p ∧ B ≤ m ∧ p ≠ m) := ⟨c2, c6, c7, c8, c9, c5⟩
  have HM2 : Hid (w2.ownsMap Tryd.prog 52 (unitElem (H := Unit)) m (S.length + 1) (D.put (kl k z) (.agg [])) ∧ BkD (D.put (kl k z) (.agg [])) (S ++ [((k : Int), ub z)])) := ⟨hm2, hD2⟩
  clear c2 c3 c30 c4 c5 c6 c7 c8 c9 hrun2 hm2 hg2 hD2 q0 q1 q2 q3 c1 HN1 hHeld
  have hown1 : RowAt (w2.drew.alloc (.cells (hv z) 32)) B (sl k) S.length := by
    obtain ⟨c2, c6, -⟩ := HC.out
    refine (c2 k hk).2.keep fun j hj => ?_
    have hj' : g k = some j := (c2 k hk).1 ▸ hj
    have := (HL.out j (mem_fpL.2 (.inr (.inr ⟨k, hk, hj'⟩)))).2
    have s2 := HF2.out.size
    rw [Below.heap_alloc _ _ _ (by show j < w2.heap.size; omega)]
    exact HF2.out.block j (by omega) (by simp; intro e; exact (c6 k hk).2 (by rw [hj', e]))
  obtain ⟨n, xs, hn, ho, hone⟩ := hown1
  have hs2 : B ≤ w2.heap.size := by have := HF2.out.size; omega
  obtain ⟨v', w4, hrunA, hown', hgrow, -, hloc⟩ := run_append_own_at (P := Tryd.prog) (w2.drew.alloc (.cells (hv z) 32)) B 47 47 32 i0 (.agg (hv nz)) 32 32 Tryd.underlying47 HI0.out.1 HI0.out.2.1 HI0.out.2.2.1 HI0.out.2.2.2 (hv_size nz) (by omega) (sl k) n xs ho ⟨w2.heap.size, 0, none⟩ 1 1 (bl z 32) (by simp [bl_length]) (fun j u hj => by rw [Addr.add_lit]; have := hv_range (heap_alloc_new w2.drew (.cells (hv z) 32)) j u hj; simpa using this) (bl_one z 32) (by simp [maxLen]; omega) (by omega) (by simp; omega)
  have HE : Hid (∃ g', BkAt (w4.setCell ⟨p, 1 + k, none⟩ v') B p m g' (S ++ [((k : Int), ub z)]) ∧ Frm (fpL p m g) w (w4.setCell ⟨p, 1 + k, none⟩ v') ∧ Grew w g g') := sign_end hk HW1.out HL.out HF2.out HC.out HM2.out d1 rfl hn hone hown' hgrow hloc
  have p2 : w2.drew.rangeAt w.heap.size 0 (bl z 32) := hv_range (w := w2.drew) HN2
  have p3 : (w2.drew.alloc (.cells (hv z) 32)).rangeAt w.heap.size 0 (bl z 32) := by
    refine hv_range (t := 32) (fr := (0, 0)) ?_
    rw [Below.heap_alloc _ _ _ (lt_of_block (w := w2.drew) HN2)]; exact HN2
  have d3 : (w2.drew.alloc (.cells (hv z) 32)).heap[p]? = some (.cells (bkc m sl) 50 (0, 0)) := by
    rw [Below.heap_alloc _ _ _ (lt_of_block (w := w2.drew) d1)]; exact d1
  have hgk : (sl k).ownBlock = g k := (HC.out.1 k hk).1
  rw [hgk] at hgrow
  have d4 : w4.heap[p]? = some (.cells (bkc m sl) 50 (0, 0)) := by
    rw [hgrow.block p (lt_of_block d3) (fun e => (HC.out.2.1 k hk).1 e.symm)]; exact d3
  have n4 : w4.heap[w.heap.size]? = some (.cells (hv z) 32 (0, 0)) := by
    have hlt := lt_of_block (w := w2.drew) HN2
    rw [hgrow.block w.heap.size (by simp; exact Nat.lt_succ_of_lt hlt) (fun e => by have := (HL.out _ (mem_fpL.2 (.inr (.inr ⟨k, hk, e.symm⟩)))).2; omega), Below.heap_alloc _ _ _ hlt]
    exact HN2
  have p4 : w4.rangeAt w.heap.size 0 (bl z 32) := hv_range n4
  have p5 : (w4.setCell ⟨p, 1 + k, none⟩ v').rangeAt w.heap.size 0 (bl z 32) := by
    refine hv_range (t := 32) (fr := (0, 0)) ?_
    rw [Below.heap_setCell _ _ _ _ (by show w.heap.size ≠ p; omega)]; exact n4
  have f4 : w4.frozen? ⟨p, 1 + k, none⟩ = false := frozen_of_row w4 p _ _ _ d4
  have k4 : w4.cell? ⟨p, 1 + k, none⟩ = some (sl k) := by rw [cell_of_row w4 p _ _ _ _ d4]; exact bkc_at m sl hk
  have k2 : w2.drew.cell? ⟨p, 1 + k, none⟩ = some (sl k) := by rw [cell_of_row w2.drew p _ _ _ _ d1]; exact bkc_at m sl hk
  have k3 : (w2.drew.alloc (.cells (hv z) 32)).cell? ⟨p, 1 + k, none⟩ = some (sl k) := by rw [cell_of_row _ p _ _ _ _ d3]; exact bkc_at m sl hk
  have hk' : (k : Int) < 16 := by omega
  obtain ⟨va, vn, vc, hvv⟩ : ∃ a n c, v' = .slice a n c := by
    rcases hown'.2 with ⟨e, -⟩ | ⟨q, cap, cur, e, -⟩
    · exact ⟨_, _, _, e⟩
    · exact ⟨_, _, _, e⟩
  subst hvv
  clear HC HM2 HF2 hown' hgrow hloc ho hn hone d1 d3 d4 n4 HN2 hgk hs2
  generalize hw3 : w2.drew.alloc (.cells (hv z) 32) = w3 at *
  go_wp2_with fail
  refine wp_region_noPanic ?_
  refine wp_region_held_drew (S := fun w' => w'.rangeAt w.heap.size 0 (bl z 32)) (by kernel_rfl) p2 (fun hHeld => ?_)
  refine wpAnyH_take (i := 0) (oi := { dst := some 27, op := Go.Op.move (Go.Operand.tmp 0), type := 23, pos := "oath.go:35", after := #[], guard := none }) (v := ?_) rfl (by kernel_rfl) (by kernel_rfl) (by kernel_rfl) (fun _ _ _ h => h) (Or.inl ⟨by rfl, ?_⟩) (by assumption) ?_
  rotate_left
  · intro wz hSw; (try dsimp only at hSw); go_simp; (try with_reducible rfl)
  try simp only [Act.put, List.setIfInBounds_toArray, List.set_cons_zero, List.set_cons_succ]
  refine wpAnyH_take (i := 1) (oi := { dst := some 28, op := Go.Op.move (Go.Operand.tmp 1), type := 3, pos := "oath.go:35", after := #[], guard := none }) (v := ?_) rfl (by kernel_rfl) (by kernel_rfl) (by kernel_rfl) (fun _ _ _ h => h) (Or.inl ⟨by rfl, ?_⟩) (by assumption) ?_
  rotate_left
  · intro wz hSw; (try dsimp only at hSw); go_simp; (try with_reducible rfl)
  try simp only [Act.put, List.setIfInBounds_toArray, List.set_cons_zero, List.set_cons_succ]
  refine wpAnyH_take (i := 2) (oi := { dst := some 29, op := Go.Op.move (Go.Operand.tmp 0), type := 23, pos := "oath.go:35", after := #[], guard := none }) (v := ?_) rfl (by kernel_rfl) (by kernel_rfl) (by kernel_rfl) (fun _ _ _ h => h) (Or.inl ⟨by rfl, ?_⟩) (by assumption) ?_
  rotate_left
  · intro wz hSw; (try dsimp only at hSw); go_simp; (try with_reducible rfl)
  try simp only [Act.put, List.setIfInBounds_toArray, List.set_cons_zero, List.set_cons_succ]
  refine wpAnyH_take (i := 3) (oi := { dst := some 30, op := Go.Op.move (Go.Operand.tmp 1), type := 3, pos := "oath.go:35", after := #[], guard := none }) (v := ?_) rfl (by kernel_rfl) (by kernel_rfl) (by kernel_rfl) (fun _ _ _ h => h) (Or.inl ⟨by rfl, ?_⟩) (by assumption) ?_
  rotate_left
  · intro wz hSw; (try dsimp only at hSw); go_simp; (try with_reducible rfl)
  try simp only [Act.put, List.setIfInBounds_toArray, List.set_cons_zero, List.set_cons_succ]
  refine wpAnyH_take (i := 4) (oi := { dst := some 31, op := Go.Op.nilCheck (Go.Operand.tmp 29), type := 0, pos := "oath.go:35", after := #[{ on := 2, ground := Go.Ground.data }], guard := none }) (v := ?_) rfl (by kernel_rfl) (by kernel_rfl) (by kernel_rfl) (fun _ _ _ h => h) (Or.inl ⟨by rfl, ?_⟩) (by assumption) ?_
  rotate_left
  · intro wz hSw; (try dsimp only at hSw); go_simp; (try with_reducible rfl)
  try simp only [Act.put, List.setIfInBounds_toArray, List.set_cons_zero, List.set_cons_succ]
  refine wpAnyH_take (i := 5) (oi := { dst := some 32, op := Go.Op.fieldAddr 50 (Go.Operand.tmp 31) 1, type := 0, pos := "oath.go:35", after := #[{ on := 4, ground := Go.Ground.data }], guard := none }) (v := ?_) rfl (by kernel_rfl) (by kernel_rfl) (by kernel_rfl) (fun _ _ _ h => h) (Or.inl ⟨by rfl, ?_⟩) (by assumption) ?_
  rotate_left
  · intro wz hSw; (try dsimp only at hSw); go_simp; (try with_reducible rfl)
  try simp only [Act.put, List.setIfInBounds_toArray, List.set_cons_zero, List.set_cons_succ]
  refine wpAnyH_take (i := 6) (oi := { dst := some 33, op := Go.Op.indexAddr 48 (Go.Operand.tmp 32) (Go.Operand.tmp 30), type := 0, pos := "oath.go:35", after := #[{ on := 5, ground := Go.Ground.data }, { on := 3, ground := Go.Ground.data }], guard := none }) (v := ?_) rfl (by kernel_rfl) (by kernel_rfl) (by kernel_rfl) (fun _ _ _ h => h) (Or.inl ⟨by rfl, ?_⟩) (by assumption) ?_
  rotate_left
  · intro wz hSw; (try dsimp only at hSw); go_simp; (try with_reducible rfl)
  try simp only [Act.put, List.setIfInBounds_toArray, List.set_cons_zero, List.set_cons_succ]
  refine wpAnyH_take (i := 8) (oi := { dst := some 35, op := Go.Op.load 32 (Go.Operand.tmp 5), type := 32, pos := "oath.go:35", after := #[], guard := none }) rfl (by kernel_rfl) (by kernel_rfl) (by kernel_rfl) (fun _ _ _ h => h) (yieldsIf_load_mid (by rfl) _ _ rfl w.heap.size 0 rfl (bl z 32) _ (fun _ h => h) Tryd.underlying32 rfl (bl_size z)) (by assumption) ?_
  try simp only [Act.put, List.setIfInBounds_toArray, List.set_cons_zero, List.set_cons_succ]
  refine wpAnyH_take (i := 11) (oi := { dst := some 38, op := Go.Op.nilCheck (Go.Operand.tmp 27), type := 0, pos := "oath.go:35", after := #[{ on := 0, ground := Go.Ground.data }], guard := none }) (v := ?_) rfl (by kernel_rfl) (by kernel_rfl) (by kernel_rfl) (fun _ _ _ h => h) (Or.inl ⟨by rfl, ?_⟩) (by assumption) ?_
  rotate_left
  · intro wz hSw; (try dsimp only at hSw); go_simp; (try with_reducible rfl)
  try simp only [Act.put, List.setIfInBounds_toArray, List.set_cons_zero, List.set_cons_succ]
  refine wpAnyH_take (i := 12) (oi := { dst := some 39, op := Go.Op.fieldAddr 50 (Go.Operand.tmp 38) 1, type := 0, pos := "oath.go:35", after := #[{ on := 11, ground := Go.Ground.data }], guard := none }) (v := ?_) rfl (by kernel_rfl) (by kernel_rfl) (by kernel_rfl) (fun _ _ _ h => h) (Or.inl ⟨by rfl, ?_⟩) (by assumption) ?_
  rotate_left
  · intro wz hSw; (try dsimp only at hSw); go_simp; (try with_reducible rfl)
  try simp only [Act.put, List.setIfInBounds_toArray, List.set_cons_zero, List.set_cons_succ]
  refine wpAnyH_ready (rs := [7, 9]) (by kernel_rfl) (by simp) ?_
  refine (AllReadyH.cons (o := { dst := some 34, op := Go.Op.load 47 (Go.Operand.tmp 33), type := 47, pos := "oath.go:35", after := #[{ on := 6, ground := Go.Ground.data }], guard := none }) rfl (fun K hK => ?_) (AllReadyH.cons (o := { dst := some 36, op := Go.Op.buildSlice 47 1 #[(0, Go.Operand.tmp 35)], type := 47, pos := "oath.go:35", after := #[{ on := 8, ground := Go.Ground.data }], guard := none }) rfl (fun K hK => ?_) AllReadyH.nil))
  · go_simp
    refine hK.out _ _ p2 (fun _ => ?_)
    clear hK K
    try simp only [Act.put, List.setIfInBounds_toArray, List.set_cons_zero, List.set_cons_succ]
    refine wpAnyH_ready (rs := [9]) (by kernel_rfl) (by simp) ?_
    refine (AllReadyH.cons (o := { dst := some 36, op := Go.Op.buildSlice 47 1 #[(0, Go.Operand.tmp 35)], type := 47, pos := "oath.go:35", after := #[{ on := 8, ground := Go.Ground.data }], guard := none }) rfl (fun K hK => ?_) AllReadyH.nil)
    refine step_slice1 rfl _ rfl z (by rfl) ?_
    rw [hw3]
    refine hK.out _ _ p3 (fun _ => ?_)
    clear hK K
    try simp only [Act.put, List.setIfInBounds_toArray, List.set_cons_zero, List.set_cons_succ]
    refine wpAnyH_ready (rs := [10]) (by kernel_rfl) (by simp) ?_
    refine (AllReadyH.cons (o := { dst := some 37, op := Go.Op.call { callee := Go.Callee.builtin Go.Builtin.append, args := #[Go.Operand.tmp 34, Go.Operand.tmp 36], argTypes := #[47, 47] }, type := 47, pos := "oath.go:35", after := #[{ on := 7, ground := Go.Ground.data }, { on := 9, ground := Go.Ground.data }], guard := none }) rfl (fun K hK => ?_) AllReadyH.nil)
    refine step_append rfl _ _ _ rfl (by rfl) (by rfl) hrunA ?_
    refine hK.out _ _ p4 (fun _ => ?_)
    clear hK K
    try simp only [Act.put, List.setIfInBounds_toArray, List.set_cons_zero, List.set_cons_succ]
    refine wpAnyH_take (i := 13) (oi := { dst := some 40, op := Go.Op.indexAddr 48 (Go.Operand.tmp 39) (Go.Operand.tmp 28), type := 0, pos := "oath.go:35", after := #[{ on := 12, ground := Go.Ground.data }, { on := 1, ground := Go.Ground.data }, { on := 0, ground := Go.Ground.phase }, { on := 1, ground := Go.Ground.phase }, { on := 2, ground := Go.Ground.phase }, { on := 3, ground := Go.Ground.phase }, { on := 4, ground := Go.Ground.phase }, { on := 5, ground := Go.Ground.phase }, { on := 6, ground := Go.Ground.phase }, { on := 7, ground := Go.Ground.phase }, { on := 8, ground := Go.Ground.phase }, { on := 9, ground := Go.Ground.phase }, { on := 10, ground := Go.Ground.phase }], guard := none }) (v := ?_) rfl (by kernel_rfl) (by kernel_rfl) (by kernel_rfl) (fun _ _ _ h => h) (Or.inl ⟨by rfl, ?_⟩) (by assumption) ?_
    rotate_left
    · intro wz hSw; (try dsimp only at hSw); go_simp; (try with_reducible rfl)
    try simp only [Act.put, List.setIfInBounds_toArray, List.set_cons_zero, List.set_cons_succ]
    refine wpAnyH_ready (rs := [14]) (by kernel_rfl) (by simp) ?_
    refine (AllReadyH.cons (o := { dst := none, op := Go.Op.store 47 (Go.Operand.tmp 40) (Go.Operand.tmp 37), type := 0, pos := "oath.go:35", after := #[{ on := 13, ground := Go.Ground.data }, { on := 10, ground := Go.Ground.data }, { on := 10, ground := Go.Ground.chain }, { on := 0, ground := Go.Ground.phase }, { on := 1, ground := Go.Ground.phase }, { on := 2, ground := Go.Ground.phase }, { on := 3, ground := Go.Ground.phase }, { on := 4, ground := Go.Ground.phase }, { on := 5, ground := Go.Ground.phase }, { on := 6, ground := Go.Ground.phase }, { on := 7, ground := Go.Ground.phase }, { on := 8, ground := Go.Ground.phase }, { on := 9, ground := Go.Ground.phase }, { on := 10, ground := Go.Ground.phase }], guard := none }) rfl (fun K hK => ?_) AllReadyH.nil)
    go_simp
    refine hK.out _ _ p5 (fun _ => ?_)
    clear hK K
    try simp only [Act.put, List.setIfInBounds_toArray, List.set_cons_zero, List.set_cons_succ]
    refine wpAnyH_done (by kernel_rfl) (NoPanic.normal ?_) _
    try simp only [Act.put, List.setIfInBounds_toArray, List.set_cons_zero, List.set_cons_succ]
    go_wp2
    go_ret
    exact ⟨rfl, HE.out⟩
  · refine step_slice1 rfl _ rfl z (by rfl) ?_
    rw [hw3]
    refine hK.out _ _ p3 (fun _ => ?_)
    clear hK K
    try simp only [Act.put, List.setIfInBounds_toArray, List.set_cons_zero, List.set_cons_succ]
    refine wpAnyH_ready (rs := [7]) (by kernel_rfl) (by simp) ?_
    refine (AllReadyH.cons (o := { dst := some 34, op := Go.Op.load 47 (Go.Operand.tmp 33), type := 47, pos := "oath.go:35", after := #[{ on := 6, ground := Go.Ground.data }], guard := none }) rfl (fun K hK => ?_) AllReadyH.nil)
    go_simp
    refine hK.out _ _ p3 (fun _ => ?_)
    clear hK K
    try simp only [Act.put, List.setIfInBounds_toArray, List.set_cons_zero, List.set_cons_succ]
    refine wpAnyH_ready (rs := [10]) (by kernel_rfl) (by simp) ?_
    refine (AllReadyH.cons (o := { dst := some 37, op := Go.Op.call { callee := Go.Callee.builtin Go.Builtin.append, args := #[Go.Operand.tmp 34, Go.Operand.tmp 36], argTypes := #[47, 47] }, type := 47, pos := "oath.go:35", after := #[{ on := 7, ground := Go.Ground.data }, { on := 9, ground := Go.Ground.data }], guard := none }) rfl (fun K hK => ?_) AllReadyH.nil)
    refine step_append rfl _ _ _ rfl (by rfl) (by rfl) hrunA ?_
    refine hK.out _ _ p4 (fun _ => ?_)
    clear hK K
    try simp only [Act.put, List.setIfInBounds_toArray, List.set_cons_zero, List.set_cons_succ]
    refine wpAnyH_take (i := 13) (oi := { dst := some 40, op := Go.Op.indexAddr 48 (Go.Operand.tmp 39) (Go.Operand.tmp 28), type := 0, pos := "oath.go:35", after := #[{ on := 12, ground := Go.Ground.data }, { on := 1, ground := Go.Ground.data }, { on := 0, ground := Go.Ground.phase }, { on := 1, ground := Go.Ground.phase }, { on := 2, ground := Go.Ground.phase }, { on := 3, ground := Go.Ground.phase }, { on := 4, ground := Go.Ground.phase }, { on := 5, ground := Go.Ground.phase }, { on := 6, ground := Go.Ground.phase }, { on := 7, ground := Go.Ground.phase }, { on := 8, ground := Go.Ground.phase }, { on := 9, ground := Go.Ground.phase }, { on := 10, ground := Go.Ground.phase }], guard := none }) (v := ?_) rfl (by kernel_rfl) (by kernel_rfl) (by kernel_rfl) (fun _ _ _ h => h) (Or.inl ⟨by rfl, ?_⟩) (by assumption) ?_
    rotate_left
    · intro wz hSw; (try dsimp only at hSw); go_simp; (try with_reducible rfl)
    try simp only [Act.put, List.setIfInBounds_toArray, List.set_cons_zero, List.set_cons_succ]
    refine wpAnyH_ready (rs := [14]) (by kernel_rfl) (by simp) ?_
    refine (AllReadyH.cons (o := { dst := none, op := Go.Op.store 47 (Go.Operand.tmp 40) (Go.Operand.tmp 37), type := 0, pos := "oath.go:35", after := #[{ on := 13, ground := Go.Ground.data }, { on := 10, ground := Go.Ground.data }, { on := 10, ground := Go.Ground.chain }, { on := 0, ground := Go.Ground.phase }, { on := 1, ground := Go.Ground.phase }, { on := 2, ground := Go.Ground.phase }, { on := 3, ground := Go.Ground.phase }, { on := 4, ground := Go.Ground.phase }, { on := 5, ground := Go.Ground.phase }, { on := 6, ground := Go.Ground.phase }, { on := 7, ground := Go.Ground.phase }, { on := 8, ground := Go.Ground.phase }, { on := 9, ground := Go.Ground.phase }, { on := 10, ground := Go.Ground.phase }], guard := none }) rfl (fun K hK => ?_) AllReadyH.nil)
    go_simp
    refine hK.out _ _ p5 (fun _ => ?_)
    clear hK K
    try simp only [Act.put, List.setIfInBounds_toArray, List.set_cons_zero, List.set_cons_succ]
    refine wpAnyH_done (by kernel_rfl) (NoPanic.normal ?_) _
    try simp only [Act.put, List.setIfInBounds_toArray, List.set_cons_zero, List.set_cons_succ]
    go_wp2
    go_ret
    exact ⟨rfl, HE.out⟩
theorem sign_any (p m B : Nat) (g : Nat → Option Nat) (S : List (Int × List UInt8)) (k : Int) (z : Nat → Int) (w : World) (h : BkAt w B p m g S) (hi : Ib k) (hz : Zb z) (hl : S.length ≤ 100000) (hB : B ≤ w.heap.size) :
    Calls Tryd.prog 9 #[.pointer (some ⟨p, 0, none⟩), .int .i64 k, .agg (hv z)] w fun e w' => e = .returned (errV (sgnE k)) ∧ ∃ g', BkAt w' B p m g' (sgnS S k z) ∧ Frm (fpL p m g) w w' ∧ Grew w g g' := by
  unfold sgnS sgnE
  by_cases hp : pty k = true
  · rw [if_pos hp, if_pos hp]
    by_cases hc : S.contains (k, ub z) = true
    · rw [if_pos hc]
      refine (sign_old p m B g S k z w h hi hz hp hc).mono ?_
      rintro e w' ⟨rfl, hb⟩
      exact ⟨rfl, g, h.below hb, Frm.ofBelow hb, Grew.refl w g⟩
    · rw [if_neg hc]
      obtain ⟨q, rfl⟩ : ∃ q : Nat, k = q := ⟨k.toNat, by simp [pty] at hp; omega⟩
      refine (sign_new p m B g S q z w h (by simp [pty] at hp; omega) hz (by simpa using hc) hl hB).mono ?_
      rintro e w' ⟨rfl, hr⟩
      exact ⟨rfl, hr⟩
  · rw [if_neg hp, if_neg hp]
    refine (sign_out p k z w (by simpa using hp)).mono ?_
    rintro e w' ⟨rfl, hb⟩
    exact ⟨rfl, g, h.below hb, Frm.ofBelow hb, Grew.refl w g⟩
theorem sgnS_len (S : List (Int × List UInt8)) (k : Int) (z : Nat → Int) : (sgnS S k z).length ≤ S.length + 1 := by
  unfold sgnS
  split
  · split <;> simp
  · omega
end Go.Proofs.YtlddjniofijnnaaDoor
