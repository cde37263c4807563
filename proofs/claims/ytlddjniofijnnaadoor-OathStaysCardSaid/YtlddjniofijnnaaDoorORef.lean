/- The document's Add. -/
import Derived.Test.YtlddjniofijnnaaDoorOSg
namespace Go.Proofs.YtlddjniofijnnaaDoor
open Go.RowKit

attribute [local go_sem ↓] Go.wp_at_zero Go.wp_at_succ

/-- The cells of n signatures, one behind the other. -/
def flat (X : Nat → Sg) : Nat → List Value
  | 0 => []
  | n + 1 => flat X n ++ (X n).l
theorem flat_length (X : Nat → Sg) : ∀ n, (flat X n).length = n * 33
  | 0 => rfl
  | n + 1 => by rw [flat, List.length_append, flat_length X n, Sg.l_length]; omega
theorem flat_congr {X Y : Nat → Sg} : ∀ n, (∀ i, i < n → X i = Y i) → flat X n = flat Y n
  | 0, _ => rfl
  | n + 1, h => by rw [flat, flat, flat_congr n (fun i hi => h i (by omega)), h n (by omega)]
theorem flat_at (X : Nat → Sg) : ∀ n i r, i < n → r < 33 → (flat X n)[i * 33 + r]? = (X i).l[r]?
  | 0, _, _, h, _ => by omega
  | n + 1, i, r, h, hr => by
    rw [flat]
    by_cases e : i = n
    · subst e
      rw [List.getElem?_append_right (by rw [flat_length]; omega), flat_length, Nat.add_sub_cancel_left]
    · rw [List.getElem?_append_left (by rw [flat_length]; omega)]
      exact flat_at X n i r (by omega) hr
theorem flat_cells {w : World} {b off n : Nat} {X : Nat → Sg} (h : ∀ i, i < n → w.rangeAt b (off + i * 33) (X i).l) : ∀ j v, (flat X n)[j]? = some v → w.cell? ((⟨b, off, none⟩ : Addr).add j) = some v := by
  intro j v hj
  have hl := (List.getElem?_eq_some_iff.1 hj).1
  rw [flat_length] at hl
  have e : j = j / 33 * 33 + j % 33 := by omega
  rw [e, flat_at X n (j / 33) (j % 33) (by omega) (by omega)] at hj
  have := h (j / 33) (by omega) (j % 33) v hj
  rw [Addr.add_lit]
  rw [show off + j = off + j / 33 * 33 + j % 33 from by omega]
  exact this
theorem flat_lies {w : World} {b n : Nat} {X : Nat → Sg} {rest : List Value} {t : TypeId} {fr : Nat × Nat} (h : w.heap[b]? = some (.cells (flat X n ++ rest).toArray t fr)) : ∀ i, i < n → w.rangeAt b (0 + i * 33) (X i).l := by
  intro i hi j v hv
  have hj : j < 33 := by
    have := (List.getElem?_eq_some_iff.1 hv).1
    rwa [Sg.l_length] at this
  rw [cell_of_row w b _ _ _ _ h, Nat.zero_add]
  simp only [List.getElem?_toArray]
  rw [List.getElem?_append_left (by rw [flat_length]; omega), flat_at X n i j hi hj]
  exact hv
theorem one_sg {k : Int} {z : Nat → Int} : (kv k z).toList = (⟨k, z⟩ : Sg).l := rfl
theorem build_sign (n : Int) (z : Nat → Int) (w : World) : (Instr.build 34 #[(0, .int .i64 n), (1, .agg (hv z))]).run Tryd.prog w = .ok (.agg (kv n z)) w := by kernel_rfl
theorem slice_sg (k : Int) (z : Nat → Int) (w : World) : (Instr.buildSlice 22 1 #[(0, .agg (kv k z))]).run Tryd.prog w = .ok (.slice (some ⟨w.heap.size, 0, none⟩) 1 1) (w.alloc (.cells (kv k z) 34)) := by kernel_rfl
theorem infoS : (Tryd.prog.info? 34).map (fun i => (i.zero, i.size, i.bytes)) = some (some (.agg (kv 0 nz)), 33, 40) := by kernel_rfl
section
variable {ops : Array Oper} {o : Oper} {a : Act} {w : World} {K : Act → World → Prop} {Q : Exit → Act → World → Prop} {E : Prop}
theorem step_slice_sg (hgd : o.guard = none) (x : Operand) (ho : o.op = .buildSlice 22 1 #[(0, x)]) (k : Int) (z : Nat → Int) (hx : a.eval x = .agg (kv k z))
    (h : K (a.put o.dst (.slice (some ⟨w.heap.size, 0, none⟩) 1 1)) (w.alloc (.cells (kv k z) 34))) : if Region.wanted o (yielded ops a.tmps) = true then Oper.wp Tryd.prog o a w K Q else E := by
  have hw : Region.wanted o (yielded ops a.tmps) = true := by simp [Region.wanted, hgd]
  rw [if_pos hw]
  unfold Oper.wp execOp
  simp only [ho, List.map_toArray, List.map_cons, List.map_nil, hx, Sem.run_bind, slice_sg, Result.andThen]
  exact h
end
theorem kv_range {w : World} {b : Nat} {k : Int} {z : Nat → Int} {t : TypeId} {fr : Nat × Nat} (h : w.heap[b]? = some (.cells (kv k z) t fr)) : ∀ j u, (⟨k, z⟩ : Sg).l[j]? = some u → w.cell? ((⟨b, 0, none⟩ : Addr).add j) = some u := by
  intro j u hj
  rw [Addr.add_lit, Nat.zero_add, cell_of_row w _ j _ _ _ h, ← hj]
  simp [kv, Sg.l]

/-- append of one signature, and what lies there then. -/
theorem append_sg {w : World} {ad : Option Addr} {n : Nat} {X : Nat → Sg} {k : Int} {z : Nat → Int} (h : SgAt w ad n X) (hr : (n = 0 ∧ ad = none) ∨ 0 < n) (hk : Ib k) (hz : Zb z) (hn : n ≤ 100000) {w3 : World} (hw3 : w3 = w.alloc (.cells (kv k z) 34)) :
    ∃ (c' : Nat) (w4 : World), (Builtin.append_ #[22, 22] 22 #[.slice ad n n, .slice (some ⟨w.heap.size, 0, none⟩) 1 1]).run Tryd.prog w3 = .ok (.slice (some ⟨w3.heap.size, 0, none⟩) (n + 1) c') w4 ∧ SgAt w4 (some ⟨w3.heap.size, 0, none⟩) (n + 1) (fun i => if i = n then ⟨k, z⟩ else X i) ∧ n + 1 ≤ c' ∧ Below w.heap.size w w4 := by
  obtain ⟨i0, hi0, hz0, hz1, hz2⟩ := info_parts infoS
  have hb3 : Below w.heap.size w w3 := by rw [hw3]; exact (Below.refl _ w).alloc (Nat.le_refl _) _
  have hnew := heap_alloc_new w (.cells (kv k z) 34)
  rw [← hw3] at hnew
  have hok : ∀ i, i < n + 1 → Ib ((fun i => if i = n then (⟨k, z⟩ : Sg) else X i) i).k ∧ Zb ((fun i => if i = n then (⟨k, z⟩ : Sg) else X i) i).z := by
    intro i hi
    by_cases e : i = n
    · simp only [if_pos e]; exact ⟨hk, hz⟩
    · simp only [if_neg e]; exact h.ok i (by omega)
  have hfl : flat (fun i => if i = n then (⟨k, z⟩ : Sg) else X i) (n + 1) = flat X n ++ (⟨k, z⟩ : Sg).l := by
    rw [flat]
    congr 1
    · exact flat_congr n (fun i hi => if_neg (by omega))
    · simp only [if_true]
  have fin : ∀ (cs : Array Value) (rest : List Value), cs.toList = (flat X n ++ (⟨k, z⟩ : Sg).l) ++ rest → SgAt (w3.drew.alloc (.cells cs 34)) (some ⟨w3.heap.size, 0, none⟩) (n + 1) (fun i => if i = n then ⟨k, z⟩ else X i) := by
    intro cs rest e
    refine ⟨hok, fun _ => ⟨w3.heap.size, 0, rfl, ?_⟩⟩
    have hx := heap_alloc_new w3.drew (.cells cs 34)
    have e2 : cs = (flat (fun i => if i = n then (⟨k, z⟩ : Sg) else X i) (n + 1) ++ rest).toArray := by rw [hfl, ← e]
    rw [e2] at hx ⊢
    exact flat_lies hx
  rcases hr with ⟨rfl, rfl⟩ | hpos
  · have hrun := run_append_nil (P := Tryd.prog) w3 22 22 34 i0 (.agg (kv 0 nz)) Tryd.underlying22 hi0 hz0 ⟨w.heap.size, 0, none⟩ 1 1 (⟨k, z⟩ : Sg).l (by rw [Sg.l_length, hz1]) (kv_range hnew) (by omega) (by omega) (by rw [hz2]; omega)
    exact ⟨_, _, hrun, fin _ (Builtin.zeroCells (Value.agg (kv 0 nz)).cells (grownCap w3 1 0 34 - 1)).toList (by simp [flat]), grownCap_ge _ _ _ _, hb3.drew.alloc hb3.size _⟩
  · obtain ⟨b, off, rfl, hc⟩ := h.at_ hpos
    have hrun := run_append_grow (P := Tryd.prog) w3 22 22 34 i0 (.agg (kv 0 nz)) Tryd.underlying22 hi0 hz0 ⟨b, off, none⟩ n n (flat X n) (by rw [flat_length, hz1]) (flat_cells fun i hi => range_below (hc i hi) hb3) ⟨w.heap.size, 0, none⟩ 1 1 (⟨k, z⟩ : Sg).l (by rw [Sg.l_length, hz1]) (kv_range hnew) (by omega) (by omega) (growslice_fits (by omega) (by rw [hz2]; omega))
    exact ⟨_, _, hrun, fin _ (Builtin.zeroCells (Value.agg (kv 0 nz)).cells (grownCap w3 (n + 1) n 34 - (n + 1))).toList (by simp), grownCap_ge _ _ _ _, hb3.drew.alloc hb3.size _⟩

/-- What Add leaves. -/
structure AddR (w w' : World) (ad ad' : Option Addr) (n' cap' : Nat) (X X' : Nat → Sg) (n : Nat) (k : Int) (z : Nat → Int) : Prop where
  at_ : SgAt w' ad' n' X'
  nil : (n' = 0 ∧ ad' = none ∧ cap' = 0) ∨ (0 < n' ∧ n' ≤ cap')
  list : SgL X' n' = sgnS (SgL X n) k z
  len : n' ≤ n + 1
  below : Below w.heap.size w w'
  fresh : ∀ a, ad' = some a → ad' = ad ∨ w.heap.size ≤ a.block
theorem SgL_congr {X Y : Nat → Sg} {n : Nat} (h : ∀ i, i < n → X i = Y i) : SgL X n = SgL Y n := by
  unfold SgL
  apply List.map_congr_left
  intro i hi
  rw [h i (List.mem_range.1 hi)]

set_option maxRecDepth 100000 in
set_option maxHeartbeats 1600000 in
theorem radd_out (ad : Option Addr) (n cap : Nat) (k : Int) (z : Nat → Int) (w : World) (hk : pty k = false) :
    Calls Tryd.prog 17 #[.slice ad n cap, .int .i64 k, .agg (hv z)] w fun e w' => e = .returned (.tuple #[.slice ad n cap, .int .i64 33]) ∧ Below w.heap.size w w' := by
  by_cases h0 : k < 0
  · go_enter Tryd.func17, Tryd.ntmps17
    go_wp2_with (first | (refine Go.Great.wpList_boxTo rfl _ _ rfl _ rfl _ rfl (hv z) rfl ?_) | fail)
    go_ret2
    exact ⟨rfl, (Below.refl _ _).alloc (Nat.le_refl _) _⟩
  · have h1 : 15 < k := by simp [pty] at hk; omega
    have h0' : 0 ≤ k := by omega
    go_enter Tryd.func17, Tryd.ntmps17
    go_wp2_with (first | (refine Go.Great.wpList_boxTo rfl _ _ rfl _ rfl _ rfl (hv z) rfl ?_) | fail)
    go_ret2
    exact ⟨rfl, (Below.refl _ _).alloc (Nat.le_refl _) _⟩
set_option maxRecDepth 100000 in
set_option maxHeartbeats 1600000 in
theorem radd_old (ad : Option Addr) (n cap : Nat) (X : Nat → Sg) (k : Int) (z : Nat → Int) (w : World) (h : SgAt w ad n X) (hz : Zb z) (hn : n ≤ 100000) (hk : pty k = true) (hc : (SgL X n).contains (k, ub z) = true) :
    Calls Tryd.prog 17 #[.slice ad n cap, .int .i64 k, .agg (hv z)] w fun e w' => e = .returned (.tuple #[.slice ad n cap, .int .i64 0]) ∧ Below w.heap.size w w' := by
  have h0 : 0 ≤ k ∧ k < 16 := by simpa [pty] using hk
  obtain ⟨h0a, h0b⟩ := h0
  have h15 : k ≤ 15 := by omega
  have HN := heap_alloc_new w (.cells (hv z) 32)
  have HS : Hid (SgAt (w.alloc (.cells (hv z) 32)) ad n X) := h.below ((Below.refl _ _).alloc (Nat.le_refl _) _)
  clear h
  go_enter Tryd.func17, Tryd.ntmps17
  go_wp2_with (first | (refine Go.Great.wpList_boxTo rfl _ _ rfl _ rfl _ rfl (hv z) rfl ?_) | (refine wpList_loadH rfl _ rfl w.heap.size rfl z _ _ HN ?_) | (go_at_call 21; refine (rhas_any ad n cap X k z _ HS.out hz (by omega)).mono ?_; rintro e w1 ⟨rfl, hb1⟩; rw [hc]) | fail)
  go_ret2
  exact ⟨rfl, Below.transS ((Below.refl _ _).alloc (Nat.le_refl _) _) hb1⟩
set_option maxRecDepth 100000 in
set_option maxHeartbeats 3200000 in
theorem radd_new (ad : Option Addr) (n cap : Nat) (X : Nat → Sg) (k : Int) (z : Nat → Int) (w : World) (h : SgAt w ad n X) (hr : (n = 0 ∧ ad = none ∧ cap = 0) ∨ (0 < n ∧ n ≤ cap)) (hi : Ib k) (hz : Zb z) (hn : n ≤ 100000) (hk : pty k = true) (hc : (SgL X n).contains (k, ub z) = false) :
    Calls Tryd.prog 17 #[.slice ad n cap, .int .i64 k, .agg (hv z)] w fun e w' => ∃ b' c', e = .returned (.tuple #[.slice (some ⟨b', 0, none⟩) (n + 1) c', .int .i64 0]) ∧ SgAt w' (some ⟨b', 0, none⟩) (n + 1) (fun i => if i = n then ⟨k, z⟩ else X i) ∧ n + 1 ≤ c' ∧ Below w.heap.size w w' ∧ w.heap.size ≤ b' := by
  have h0 : 0 ≤ k ∧ k < 16 := by simpa [pty] using hk
  obtain ⟨h0a, h0b⟩ := h0
  have h15 : k ≤ 15 := by omega
  have HN := heap_alloc_new w (.cells (hv z) 32)
  have HB : Hid (Below w.heap.size w (w.alloc (.cells (hv z) 32))) := (Below.refl _ _).alloc (Nat.le_refl _) _
  have HS : Hid (SgAt (w.alloc (.cells (hv z) 32)) ad n X) := h.below HB.out
  clear h
  go_enter Tryd.func17, Tryd.ntmps17
  go_wp2_with (first | (refine Go.Great.wpList_boxTo rfl _ _ rfl _ rfl _ rfl (hv z) rfl ?_) | (refine wpList_loadH rfl _ rfl w.heap.size rfl z _ _ HN ?_) | (go_at_call 21; refine (rhas_any ad n cap X k z _ HS.out hz (by omega)).mono ?_; rintro e w1 ⟨rfl, hb1⟩; rw [hc]) | fail)
  have HN1 : w1.heap[w.heap.size]? = some (.cells (hv z) 32 (0, 0)) := by rw [hb1.block _ (lt_of_block HN)]; exact HN
  have HB1 : Hid (Below w.heap.size w w1.drew) := (Below.transS HB.out hb1).drew
  have HS1 : SgAt w1.drew ad n X := HS.out.below hb1.drew
  generalize hw3 : w1.drew.alloc (.cells (kv k z) 34) = w3
  obtain ⟨c', w4, hrun, hS4, hc4, hb4⟩ := append_sg HS1 (by rcases hr with ⟨h1, h2, _⟩ | ⟨h1, _⟩; exact .inl ⟨h1, h2⟩; exact .inr h1) hi hz hn hw3.symm
  have s1 : w1.drew.rangeAt w.heap.size 0 (bl z 32) := hv_range (w := w1.drew) HN1
  have s3 : w3.rangeAt w.heap.size 0 (bl z 32) := by rw [← hw3]; exact range_below s1 ((Below.refl _ w1.drew).alloc (Nat.le_refl _) _)
  have s4 : w4.rangeAt w.heap.size 0 (bl z 32) := range_below s1 hb4
  have HE : Hid (SgAt w4 (some ⟨w3.heap.size, 0, none⟩) (n + 1) (fun i => if i = n then ⟨k, z⟩ else X i) ∧ n + 1 ≤ c' ∧ Below w.heap.size w w4 ∧ w.heap.size ≤ w3.heap.size) := ⟨hS4, hc4, Below.transS HB1.out hb4, by have := HB1.out.size; rw [← hw3]; simp at this ⊢; omega⟩
  have hnc : n ≤ cap := by rcases hr with ⟨h1, _, _⟩ | ⟨_, h1⟩ <;> omega
  clear hS4 hc4 hb4 HS1 HS HB HN hb1
  refine wp_region_noPanic ?_
  refine wp_region_held_drew (S := fun w' => w'.rangeAt w.heap.size 0 (bl z 32)) (by kernel_rfl) s1 (fun hHeld => ?_)
  refine wpAnyH_take (i := 0) (oi := { dst := some 20, op := Go.Op.move (Go.Operand.tmp 0), type := 22, pos := "ref.go:36", after := #[], guard := none }) (v := ?_) rfl (by kernel_rfl) (by kernel_rfl) (by kernel_rfl) (fun _ _ _ h => h) (Or.inl ⟨by rfl, ?_⟩) (by assumption) ?_
  rotate_left
  · intro wz hSw; (try dsimp only at hSw); go_simp; (try with_reducible rfl)
  try simp only [Act.put, List.setIfInBounds_toArray, List.set_cons_zero, List.set_cons_succ]
  refine wpAnyH_take (i := 1) (oi := { dst := some 21, op := Go.Op.move (Go.Operand.tmp 0), type := 22, pos := "ref.go:36", after := #[], guard := none }) (v := ?_) rfl (by kernel_rfl) (by kernel_rfl) (by kernel_rfl) (fun _ _ _ h => h) (Or.inl ⟨by rfl, ?_⟩) (by assumption) ?_
  rotate_left
  · intro wz hSw; (try dsimp only at hSw); go_simp; (try with_reducible rfl)
  try simp only [Act.put, List.setIfInBounds_toArray, List.set_cons_zero, List.set_cons_succ]
  refine wpAnyH_take (i := 2) (oi := { dst := some 22, op := Go.Op.call { callee := Go.Callee.builtin Go.Builtin.len, args := #[Go.Operand.tmp 21], argTypes := #[22] }, type := 3, pos := "ref.go:36", after := #[{ on := 1, ground := Go.Ground.data }], guard := none }) (v := ?_) rfl (by kernel_rfl) (by kernel_rfl) (by kernel_rfl) (fun _ _ _ h => h) (Or.inl ⟨by rfl, ?_⟩) (by assumption) ?_
  rotate_left
  · intro wz hSw; (try dsimp only at hSw); go_simp; (try with_reducible rfl)
  try simp only [Act.put, List.setIfInBounds_toArray, List.set_cons_zero, List.set_cons_succ]
  refine wpAnyH_take (i := 3) (oi := { dst := some 23, op := Go.Op.move (Go.Operand.tmp 0), type := 22, pos := "ref.go:36", after := #[], guard := none }) (v := ?_) rfl (by kernel_rfl) (by kernel_rfl) (by kernel_rfl) (fun _ _ _ h => h) (Or.inl ⟨by rfl, ?_⟩) (by assumption) ?_
  rotate_left
  · intro wz hSw; (try dsimp only at hSw); go_simp; (try with_reducible rfl)
  try simp only [Act.put, List.setIfInBounds_toArray, List.set_cons_zero, List.set_cons_succ]
  refine wpAnyH_take (i := 4) (oi := { dst := some 24, op := Go.Op.call { callee := Go.Callee.builtin Go.Builtin.len, args := #[Go.Operand.tmp 23], argTypes := #[22] }, type := 3, pos := "ref.go:36", after := #[{ on := 3, ground := Go.Ground.data }], guard := none }) (v := ?_) rfl (by kernel_rfl) (by kernel_rfl) (by kernel_rfl) (fun _ _ _ h => h) (Or.inl ⟨by rfl, ?_⟩) (by assumption) ?_
  rotate_left
  · intro wz hSw; (try dsimp only at hSw); go_simp; (try with_reducible rfl)
  try simp only [Act.put, List.setIfInBounds_toArray, List.set_cons_zero, List.set_cons_succ]
  refine wpAnyH_take (i := 5) (oi := { dst := some 25, op := Go.Op.slice 22 (Go.Operand.tmp 20) none (some (Go.Operand.tmp 22)) (some (Go.Operand.tmp 24)), type := 22, pos := "ref.go:36", after := #[{ on := 0, ground := Go.Ground.data }, { on := 2, ground := Go.Ground.data }, { on := 4, ground := Go.Ground.data }], guard := none }) (v := ?_) rfl (by kernel_rfl) (by kernel_rfl) (by kernel_rfl) (fun _ _ _ h => h) (Or.inl ⟨by rfl, ?_⟩) (by assumption) ?_
  rotate_left
  · intro wz hSw; (try dsimp only at hSw); go_simp; (try with_reducible rfl)
  try simp only [Act.put, List.setIfInBounds_toArray, List.set_cons_zero, List.set_cons_succ]
  refine wpAnyH_take (i := 6) (oi := { dst := some 26, op := Go.Op.move (Go.Operand.tmp 1), type := 3, pos := "ref.go:36", after := #[], guard := none }) (v := ?_) rfl (by kernel_rfl) (by kernel_rfl) (by kernel_rfl) (fun _ _ _ h => h) (Or.inl ⟨by rfl, ?_⟩) (by assumption) ?_
  rotate_left
  · intro wz hSw; (try dsimp only at hSw); go_simp; (try with_reducible rfl)
  try simp only [Act.put, List.setIfInBounds_toArray, List.set_cons_zero, List.set_cons_succ]
  refine wpAnyH_take (i := 7) (oi := { dst := some 27, op := Go.Op.load 32 (Go.Operand.tmp 5), type := 32, pos := "ref.go:36", after := #[], guard := none }) rfl (by kernel_rfl) (by kernel_rfl) (by kernel_rfl) (fun _ _ _ h => h) (yieldsIf_load_mid (by rfl) _ _ rfl w.heap.size 0 rfl (bl z 32) _ (fun _ h => h) Tryd.underlying32 rfl (bl_size z)) (by assumption) ?_
  try simp only [Act.put, List.setIfInBounds_toArray, List.set_cons_zero, List.set_cons_succ]
  refine wpAnyH_take (i := 8) (oi := { dst := some 28, op := Go.Op.build 34 #[(0, Go.Operand.tmp 26), (1, Go.Operand.tmp 27)], type := 34, pos := "ref.go:36", after := #[{ on := 6, ground := Go.Ground.data }, { on := 7, ground := Go.Ground.data }], guard := none }) (v := .agg (kv k z)) rfl (by kernel_rfl) (by kernel_rfl) (by kernel_rfl) (fun _ _ _ h => h) (Or.inl ⟨by rfl, ?_⟩) (by assumption) ?_
  · intro wz hSw; (try dsimp only at hSw); kernel_rfl
  try simp only [Act.put, List.setIfInBounds_toArray, List.set_cons_zero, List.set_cons_succ]
  refine wpAnyH_ready (rs := [9]) (by kernel_rfl) (by simp) ?_
  refine (AllReadyH.cons (o := { dst := some 29, op := Go.Op.buildSlice 22 1 #[(0, Go.Operand.tmp 28)], type := 22, pos := "ref.go:36", after := #[{ on := 8, ground := Go.Ground.data }], guard := none }) rfl (fun K hK => ?_) AllReadyH.nil)
  refine step_slice_sg rfl _ rfl k z (by rfl) ?_
  rw [hw3]
  refine hK.out _ _ s3 (fun _ => ?_)
  clear hK K
  try simp only [Act.put, List.setIfInBounds_toArray, List.set_cons_zero, List.set_cons_succ]
  refine wpAnyH_ready (rs := [10]) (by kernel_rfl) (by simp) ?_
  refine (AllReadyH.cons (o := { dst := some 30, op := Go.Op.call { callee := Go.Callee.builtin Go.Builtin.append, args := #[Go.Operand.tmp 25, Go.Operand.tmp 29], argTypes := #[22, 22] }, type := 22, pos := "ref.go:36", after := #[{ on := 5, ground := Go.Ground.data }, { on := 9, ground := Go.Ground.data }], guard := none }) rfl (fun K hK => ?_) AllReadyH.nil)
  refine step_append rfl _ _ _ rfl (by rfl) (by rfl) hrun ?_
  refine hK.out _ _ s4 (fun _ => ?_)
  clear hK K
  try simp only [Act.put, List.setIfInBounds_toArray, List.set_cons_zero, List.set_cons_succ]
  refine wpAnyH_take (i := 11) (oi := { dst := some 6, op := Go.Op.assign (Go.Operand.tmp 30), type := 22, pos := "ref.go:36", after := #[{ on := 10, ground := Go.Ground.data }, { on := 10, ground := Go.Ground.chain }, { on := 0, ground := Go.Ground.phase }, { on := 1, ground := Go.Ground.phase }, { on := 2, ground := Go.Ground.phase }, { on := 3, ground := Go.Ground.phase }, { on := 4, ground := Go.Ground.phase }, { on := 5, ground := Go.Ground.phase }, { on := 6, ground := Go.Ground.phase }, { on := 7, ground := Go.Ground.phase }, { on := 8, ground := Go.Ground.phase }, { on := 9, ground := Go.Ground.phase }, { on := 10, ground := Go.Ground.phase }], guard := none }) (v := ?_) rfl (by kernel_rfl) (by kernel_rfl) (by kernel_rfl) (fun _ _ _ h => h) (Or.inl ⟨by rfl, ?_⟩) (by assumption) ?_
  rotate_left
  · intro wz hSw; (try dsimp only at hSw); go_simp; (try with_reducible rfl)
  try simp only [Act.put, List.setIfInBounds_toArray, List.set_cons_zero, List.set_cons_succ]
  refine wpAnyH_take (i := 12) (oi := { dst := some 7, op := Go.Op.assign (Go.Operand.const (Go.Value.int Go.IntKind.i64 0)), type := 3, pos := "ref.go:36", after := #[{ on := 11, ground := Go.Ground.chain }, { on := 0, ground := Go.Ground.phase }, { on := 1, ground := Go.Ground.phase }, { on := 2, ground := Go.Ground.phase }, { on := 3, ground := Go.Ground.phase }, { on := 4, ground := Go.Ground.phase }, { on := 5, ground := Go.Ground.phase }, { on := 6, ground := Go.Ground.phase }, { on := 7, ground := Go.Ground.phase }, { on := 8, ground := Go.Ground.phase }, { on := 9, ground := Go.Ground.phase }, { on := 10, ground := Go.Ground.phase }, { on := 11, ground := Go.Ground.phase }], guard := none }) (v := ?_) rfl (by kernel_rfl) (by kernel_rfl) (by kernel_rfl) (fun _ _ _ h => h) (Or.inl ⟨by rfl, ?_⟩) (by assumption) ?_
  rotate_left
  · intro wz hSw; (try dsimp only at hSw); go_simp; (try with_reducible rfl)
  try simp only [Act.put, List.setIfInBounds_toArray, List.set_cons_zero, List.set_cons_succ]
  refine wpAnyH_done (by kernel_rfl) (NoPanic.normal ?_) _
  try simp only [Act.put, List.setIfInBounds_toArray, List.set_cons_zero, List.set_cons_succ]
  go_wp2
  go_ret2
  exact ⟨_, _, rfl, HE.out⟩
theorem radd_any (ad : Option Addr) (n cap : Nat) (X : Nat → Sg) (k : Int) (z : Nat → Int) (w : World) (h : SgAt w ad n X) (hr : (n = 0 ∧ ad = none ∧ cap = 0) ∨ (0 < n ∧ n ≤ cap)) (hi : Ib k) (hz : Zb z) (hn : n ≤ 100000) :
    Calls Tryd.prog 17 #[.slice ad n cap, .int .i64 k, .agg (hv z)] w fun e w' => ∃ ad' n' cap' X', e = .returned (.tuple #[.slice ad' n' cap', .int .i64 (sgnE k)]) ∧ AddR w w' ad ad' n' cap' X X' n k z := by
  by_cases hp : pty k = true
  · have e1 : sgnE k = 0 := by simp [sgnE, hp]
    rw [e1]
    by_cases hc : (SgL X n).contains (k, ub z) = true
    · refine (radd_old ad n cap X k z w h hz hn hp hc).mono ?_
      rintro e w' ⟨rfl, hb⟩
      exact ⟨ad, n, cap, X, rfl, h.below hb, hr, by rw [sgnS, if_pos hp, if_pos hc], by omega, hb, fun _ _ => .inl rfl⟩
    · refine (radd_new ad n cap X k z w h hr hi hz hn hp (by simpa using hc)).mono ?_
      rintro e w' ⟨b', c', rfl, h1, h2, hb, hf⟩
      refine ⟨_, n + 1, c', _, rfl, h1, .inr ⟨by omega, h2⟩, ?_, by omega, hb, fun a e => by cases e; exact .inr hf⟩
      rw [SgL_succ, SgL_congr (Y := X) (fun i hi => if_neg (by omega)), sgnS, if_pos hp, if_neg hc]
      simp [Sg.p]
  · have e1 : sgnE k = 33 := by simp [sgnE, hp]
    rw [e1]
    refine (radd_out ad n cap k z w (by simpa using hp)).mono ?_
    rintro e w' ⟨rfl, hb⟩
    exact ⟨ad, n, cap, X, rfl, h.below hb, hr, by rw [sgnS, if_neg hp], by omega, hb, fun _ _ => .inl rfl⟩
end Go.Proofs.YtlddjniofijnnaaDoor
