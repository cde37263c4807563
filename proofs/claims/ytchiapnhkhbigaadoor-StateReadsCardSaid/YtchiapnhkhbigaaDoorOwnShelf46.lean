/- slices.Delete of one element at []state.Hold, out of a row of one's own. -/
import Derived.Test.YtchiapnhkhbigaaDoorOwnShelf45
import Derived.Deep.AppendSrc
namespace Go.Proofs.YtchiapnhkhbigaaDoor
open Go.RowKit Go.Lib

/-- Without the part at the place i. -/
def delF (f : Nat → List Value) (i : Nat) : Nat → List Value := fun j => if j < i then f j else f (j + 1)
theorem delF_mid (f : Nat → List Value) (i m : Nat) : flatL (delF f i) (i + m) = flatL f i ++ flatL (fun j => f (i + 1 + j)) m := by
  rw [flatL_add]
  congr 1
  · exact flatL_congr i (fun j hj => by simp [delF, hj])
  · exact flatL_congr m (fun j _ => by simp [delF]; rw [show i + j + 1 = i + 1 + j by omega, if_neg (by omega)])
theorem zero_one (c : Array Value) (n : Nat) (hc : 0 < c.size) (h : ∀ u ∈ c, u.oneCell' = true) : ∀ u ∈ (Builtin.zeroCells c n).toList, u.oneCell' = true := by
  intro u hu
  simp only [Builtin.zeroCells, Array.toList_map, List.mem_map] at hu
  obtain ⟨a, _, rfl⟩ := hu
  rw [getElem!_pos c _ (Nat.mod_lt _ hc)]
  exact h _ (Array.getElem_mem _)
theorem wpList_clear_run (w : World) {P : Program} {ops : Array Oper} {rest : List Oper} {o : Oper} {a : Act} {Q : Exit → Act → World → Prop} (hgd : o.guard = none) (x : Operand) (t : TypeId)
    (ho : o.op = .call { callee := .builtin .clear, args := #[x], argTypes := #[t] }) (u : Value) (hx : a.eval x = u) {v' : Value} {w' : World}
    (hr : (Builtin.clear_ #[t] o.type #[u]).run P w = .ok v' w') (h : wpList P ops Q rest (a.put o.dst v') w') : wpList P ops Q (o :: rest) a w :=
  wpList_plain hgd fun _ hK => by
    unfold Oper.wp execOp
    simp only [ho, resolve, invoke, builtin, Sem.run_bind, Sem.run_pure, Result.andThen_ok, List.map_toArray, List.map_cons, List.map_nil, hx, hr]
    exact hK _ _ h
theorem step_append_run {P : Program} {ops : Array Oper} {o : Oper} {a : Act} {w : World} {K : Act → World → Prop} {Q : Exit → Act → World → Prop} {E : Prop}
    (hg : o.guard = none) (d x : Operand) (dT sT : TypeId) (hop : o.op = Op.call { callee := Callee.builtin Builtin.append, args := #[d, x], argTypes := #[dT, sT] })
    (v u : Value) (hd : a.eval d = v) (hx : a.eval x = u) {v' : Value} {w' : World} (hr : (Builtin.append_ #[dT, sT] o.type #[v, u]).run P w = .ok v' w') (hK : K (a.put o.dst v') w') :
    if Region.wanted o (yielded ops a.tmps) = true then Oper.wp P o a w K Q else E := by
  have hw : Region.wanted o (yielded ops a.tmps) = true := by simp [Region.wanted, hg]
  rw [if_pos hw]
  unfold Oper.wp
  simp [execOp, hop, resolve, invoke, builtin, hd, hx, hr, Result.andThen]
  exact hK
theorem pyv_one' (x : Py) : ∀ u ∈ pyv x, u.oneCell' = true := fun u hu => pyl_one x u (by simpa [pyv] using hu)

set_option maxHeartbeats 4000000 in
set_option maxRecDepth 100000 in
theorem delH_run (g n cap i : Nat) (cur : Array Value) (f : Nat → List Value) (w : World) (hg : w.heap[g]? = some (.cells cur 37 (0, 0))) (hcs : cur.size = cap * 3) (htk : cur.toList.take (n * 3) = flatL f n) (hmx : cap ≤ maxLen) (hf : ∀ j, j < n → (f j).length = 3) (hf1 : ∀ u ∈ flatL f n, u.oneCell' = true) (hi : i < n) (hnc : n ≤ cap) (hn : n ≤ 1000000) :
    Calls Tryd.prog 32 #[.slice (some ⟨g, 0, none⟩) n cap, .int .i64 i, .int .i64 ((i : Int) + 1)] w fun e w' => e = .returned (.slice (some ⟨g, 0, none⟩) (n - 1) cap) ∧ w' = (w.drew.setCells g (i * 3) ((flatL f n).drop ((i + 1) * 3))).setCells g ((n - 1) * 3) (Builtin.zeroCells (Value.cells (.agg #[.int .i64 0, .int .i64 0, .slice none 0 0])) 1).toList := by
  obtain ⟨i0, hi0, hz0, hz1, hz2⟩ := info_parts infoH
  have hll : (flatL f n).length = n * 3 := flatL_length n hf
  have hdl : ((flatL f n).drop ((i + 1) * 3)).length = (n - (i + 1)) * 3 := by rw [List.length_drop, hll, Nat.sub_mul]
  have hcell : ∀ j, j < cap * 3 → (w.cell? ⟨g, j, none⟩).isSome = true := fun j hj => by
    rw [cell_of_row _ _ _ _ _ _ hg, Array.getElem?_eq_getElem (by omega)]; rfl
  have hfz : ∀ j, w.frozen? ⟨g, j, none⟩ = false := fun j => frozen_of_row _ _ _ _ _ hg
  have hrow : ∀ j v, (flatL f n)[j]? = some v → w.cell? ⟨g, j, none⟩ = some v := fun j v hv => by
    have hj := (List.getElem?_eq_some_iff.1 hv).1
    rw [← htk, List.getElem?_take, if_pos (by omega), Array.getElem?_toList] at hv
    rw [cell_of_row _ _ _ _ _ _ hg]; exact hv
  obtain ⟨A, hA, hsrc⟩ : ∃ A : Addr, (if cap = i + 1 then some (⟨g, 0, none⟩ : Addr) else some ⟨g, (i + 1) * 3, none⟩) = some A ∧ Hid (∀ t u, ((flatL f n).drop ((i + 1) * 3))[t]? = some u → w.drew.cell? (A.add t) = some u) := by
    by_cases h : cap = i + 1
    · refine ⟨⟨g, 0, none⟩, by simp [h], fun t u hu => ?_⟩
      have h0 : ((flatL f n).drop ((i + 1) * 3)).length = 0 := by rw [hdl]; omega
      rw [List.length_eq_zero_iff.1 h0] at hu
      simp at hu
    · refine ⟨⟨g, (i + 1) * 3, none⟩, by simp [h], fun t u hu => ?_⟩
      rw [Addr.add_lit]
      exact hrow _ u (by rwa [List.getElem?_drop] at hu)
  have hap : ∀ ty sc, (Builtin.append_ #[33, 33] ty #[.slice (some ⟨g, 0, none⟩) i cap, .slice (some A) (n - (i + 1)) sc]).run Tryd.prog w.drew = .ok (.slice (some ⟨g, 0, none⟩) (n - 1) cap) (w.drew.setCells g (i * 3) ((flatL f n).drop ((i + 1) * 3))) := fun ty sc => by
    have h := run_append_room_src (P := Tryd.prog) w.drew 33 33 ty 37 i0 Tryd.underlying33 hi0 g 0 i cap (.slice (some A) (n - (i + 1)) sc) (n - (i + 1)) ((flatL f n).drop ((i + 1) * 3))
      (Src.ofSlice w.drew Tryd.underlying33 A (n - (i + 1)) sc _ (by rw [hz1]; exact hdl) hsrc.out (fun v hv => hf1 v (List.mem_of_mem_drop hv))) (by omega)
      (fun j hj => by rw [hz1, Nat.zero_add]; exact hcell _ (by rw [hdl] at hj; omega)) (fun j hj => hfz _)
    rw [hz1, Nat.zero_add, show i + (n - (i + 1)) = n - 1 by omega] at h
    exact h
  obtain ⟨W1, hW1⟩ : ∃ W1, W1 = w.drew.setCells g (i * 3) ((flatL f n).drop ((i + 1) * 3)) := ⟨_, rfl⟩
  have hsp1 : ∀ k, k < cap * 3 → (W1.cell? ⟨g, k, none⟩).isSome = true := fun k hk => by
    rw [hW1]
    exact isSome_setCells g _ (i * 3) w.drew (fun j hj => hcell _ (by rw [hdl] at hj; omega)) _ (hcell k hk)
  have hzl : (Builtin.zeroCells (Value.cells (.agg #[.int .i64 0, .int .i64 0, .slice none 0 0])) 1).toList.length = 3 := by rw [Array.length_toList, zeroCells_size]; exact (Nat.one_mul _).trans rfl
  have hcl : ∀ ty sc, (Builtin.clear_ #[33] ty #[.slice (some ⟨g, (n - 1) * 3, none⟩) 1 sc]).run Tryd.prog W1 = .ok (.tuple #[]) (W1.setCells g ((n - 1) * 3) (Builtin.zeroCells (Value.cells (.agg #[.int .i64 0, .int .i64 0, .slice none 0 0])) 1).toList) := fun ty sc => by
    have hst := run_storeCells_cells (P := Tryd.prog) g ((n - 1) * 3) (Builtin.zeroCells (Value.cells (.agg #[.int .i64 0, .int .i64 0, .slice none 0 0])) 1).toList 0 W1 (fun j hj => by rw [hzl] at hj; exact hsp1 _ (by omega)) (fun j _ => by rw [hW1, World.frozen?_setCells]; exact hfz _) (zero_one _ 1 (by rw [show (Value.cells (.agg #[.int .i64 0, .int .i64 0, .slice none 0 0])).size = 3 from rfl]; omega) (by decide))
    rw [Nat.add_zero] at hst
    simp [Builtin.clear_, run_underlying Tryd.underlying33, zeroValue, typeInfo, hi0, hz0, hst]
  rw [← hW1] at hap
  have mixed : Tryd.prog.follows .mixedOrders = true := by kernel_rfl
  have hii : ((i : Int) == (i : Int) + 1) = false := by simp; omega
  have hii2 : ¬ ((i : Int) = (i : Int) + 1) := by omega
  have htn : ((i : Int) + 1).toNat = i + 1 := by omega
  have hb1 : (i : Int) + 1 ≤ (n : Int) := by omega
  have hb2 : (i : Int) ≤ (cap : Int) := by omega
  have hb3 : (i : Int) + 1 ≤ (cap : Int) := by omega
  have hb0 : (0 : Int) ≤ (i : Int) + 1 := by omega
  have hnc' : (n : Int) ≤ (cap : Int) := by omega
  have hn1 : ((n - 1 : Nat) : Int) ≤ (n : Int) := by omega
  have hn2 : ¬ (cap = n - 1) := by omega
  have hn3 : n - (n - 1) = 1 := by omega
  have hc63 : cap ≤ 9223372036854775807 := by unfold maxLen at hmx; omega
  have HW1 : Hid (W1 = w.drew.setCells g (i * 3) ((flatL f n).drop ((i + 1) * 3))) := hW1
  clear hi0 hz0 hz1 hz2 hll hdl hcell hfz hrow hsp1 hf hf1 hg hcs htk hzl hW1 hsrc
  go_enter Tryd.func32, Tryd.ntmps32
  go_wp2_with fail
  refine wp_region_noPanic ?_
  refine wp_region_held_drew (S := fun _ => True) (by kernel_rfl) trivial (fun hHeld => ?_)
  refine wpAnyH_take (i := 0) (oi := { dst := some 20, op := Go.Op.move (Go.Operand.tmp 0), type := 33, pos := "slices.go:232", after := #[], guard := none }) (v := ?_) rfl (by kernel_rfl) (by kernel_rfl) (by kernel_rfl) (fun _ _ _ h => h) (Or.inl ⟨by rfl, ?_⟩) (by assumption) ?_
  rotate_left
  · intro wz hSw; (try dsimp only at hSw); go_simp; (try with_reducible rfl)
  try simp only [Act.put, List.setIfInBounds_toArray, List.set_cons_zero, List.set_cons_succ]
  refine wpAnyH_take (i := 1) (oi := { dst := some 21, op := Go.Op.move (Go.Operand.tmp 1), type := 3, pos := "slices.go:232", after := #[], guard := none }) (v := ?_) rfl (by kernel_rfl) (by kernel_rfl) (by kernel_rfl) (fun _ _ _ h => h) (Or.inl ⟨by rfl, ?_⟩) (by assumption) ?_
  rotate_left
  · intro wz hSw; (try dsimp only at hSw); go_simp; (try with_reducible rfl)
  try simp only [Act.put, List.setIfInBounds_toArray, List.set_cons_zero, List.set_cons_succ]
  refine wpAnyH_take (i := 2) (oi := { dst := some 22, op := Go.Op.slice 33 (Go.Operand.tmp 20) none (some (Go.Operand.tmp 21)) none, type := 33, pos := "slices.go:232", after := #[{ on := 0, ground := Go.Ground.data }, { on := 1, ground := Go.Ground.data }], guard := none }) (v := ?_) rfl (by kernel_rfl) (by kernel_rfl) (by kernel_rfl) (fun _ _ _ h => h) (Or.inl ⟨by rfl, ?_⟩) (by assumption) ?_
  rotate_left
  · intro wz hSw; (try dsimp only at hSw); go_simp; (try with_reducible rfl)
  try simp only [Act.put, List.setIfInBounds_toArray, List.set_cons_zero, List.set_cons_succ]
  refine wpAnyH_take (i := 3) (oi := { dst := some 23, op := Go.Op.move (Go.Operand.tmp 0), type := 33, pos := "slices.go:232", after := #[], guard := none }) (v := ?_) rfl (by kernel_rfl) (by kernel_rfl) (by kernel_rfl) (fun _ _ _ h => h) (Or.inl ⟨by rfl, ?_⟩) (by assumption) ?_
  rotate_left
  · intro wz hSw; (try dsimp only at hSw); go_simp; (try with_reducible rfl)
  try simp only [Act.put, List.setIfInBounds_toArray, List.set_cons_zero, List.set_cons_succ]
  refine wpAnyH_take (i := 4) (oi := { dst := some 24, op := Go.Op.move (Go.Operand.tmp 2), type := 3, pos := "slices.go:232", after := #[], guard := none }) (v := ?_) rfl (by kernel_rfl) (by kernel_rfl) (by kernel_rfl) (fun _ _ _ h => h) (Or.inl ⟨by rfl, ?_⟩) (by assumption) ?_
  rotate_left
  · intro wz hSw; (try dsimp only at hSw); go_simp; (try with_reducible rfl)
  try simp only [Act.put, List.setIfInBounds_toArray, List.set_cons_zero, List.set_cons_succ]
  refine wpAnyH_take (i := 5) (oi := { dst := some 25, op := Go.Op.slice 33 (Go.Operand.tmp 23) (some (Go.Operand.tmp 24)) none none, type := 33, pos := "slices.go:232", after := #[{ on := 3, ground := Go.Ground.data }, { on := 4, ground := Go.Ground.data }], guard := none }) (v := .slice (some A) (n - (i + 1)) (cap - (i + 1))) rfl (by kernel_rfl) (by kernel_rfl) (by kernel_rfl) (fun _ _ _ h => h) (Or.inl ⟨by rfl, ?_⟩) (by assumption) ?_
  · intro wz hSw; (try dsimp only at hSw); go_simp; try (rw [hA]); try rfl
  try simp only [Act.put, List.setIfInBounds_toArray, List.set_cons_zero, List.set_cons_succ]
  refine wpAnyH_ready (rs := [6]) (by kernel_rfl) (by simp) ?_
  refine (AllReadyH.cons (o := { dst := some 26, op := Go.Op.call { callee := Go.Callee.builtin Go.Builtin.append, args := #[Go.Operand.tmp 22, Go.Operand.tmp 25], argTypes := #[33, 33] }, type := 33, pos := "slices.go:232", after := #[{ on := 2, ground := Go.Ground.data }, { on := 5, ground := Go.Ground.data }], guard := none }) rfl (fun K hK => ?_) AllReadyH.nil)
  refine step_append_run rfl (.tmp 22) (.tmp 25) 33 33 rfl (.slice (some ⟨g, 0, none⟩) i cap) (.slice (some A) (n - (i + 1)) (cap - (i + 1))) (by rfl) (by rfl) (hap _ _) ?_
  refine hK.out _ _ trivial (fun _ => ?_)
  clear hK K
  refine wpAnyH_take (i := 7) (oi := { dst := some 0, op := Go.Op.assign (Go.Operand.tmp 26), type := 33, pos := "slices.go:232", after := #[{ on := 6, ground := Go.Ground.data }, { on := 6, ground := Go.Ground.chain }, { on := 0, ground := Go.Ground.phase }, { on := 1, ground := Go.Ground.phase }, { on := 2, ground := Go.Ground.phase }, { on := 3, ground := Go.Ground.phase }, { on := 4, ground := Go.Ground.phase }, { on := 5, ground := Go.Ground.phase }, { on := 6, ground := Go.Ground.phase }], guard := none }) (v := ?_) rfl (by kernel_rfl) (by kernel_rfl) (by kernel_rfl) (fun _ _ _ h => h) (Or.inl ⟨by rfl, ?_⟩) (by assumption) ?_
  rotate_left
  · intro wz hSw; (try dsimp only at hSw); go_simp; (try with_reducible rfl)
  try simp only [Act.put, List.setIfInBounds_toArray, List.set_cons_zero, List.set_cons_succ]
  refine wpAnyH_done (by kernel_rfl) (NoPanic.normal ?_) _
  try simp only [Act.put, List.setIfInBounds_toArray, List.set_cons_zero, List.set_cons_succ]
  clear hHeld hap hA
  go_wp2_with (first | (at_builtin; refine wpList_clear_run _ rfl _ 33 rfl _ rfl (hcl _ _) ?_) | fail)
  go_ret
  exact ⟨rfl, by rw [HW1.out]; rfl⟩
/-- What a Delete answers. -/
theorem delH_any (B : Nat) (ad : Option Addr) (n cap i : Nat) (f : Nat → List Value) (w : World) (hown : w.ownsRow B 37 3 (.slice ad n cap) n (flatL f n)) (hi : i < n) (hf : ∀ j, j < n → (f j).length = 3) (hf1 : ∀ u ∈ flatL f n, u.oneCell' = true) (hn : n ≤ 1000000) :
    Calls Tryd.prog 32 #[.slice ad n cap, .int .i64 i, .int .i64 ((i : Int) + 1)] w fun e w' => e = .returned (.slice ad (n - 1) cap) ∧ w'.ownsRow B 37 3 (.slice ad (n - 1) cap) (n - 1) (flatL (delF f i) (n - 1)) ∧ w.grownBy w' (Value.slice ad n cap).ownBlock := by
  obtain ⟨m, rfl⟩ : ∃ m, n = i + 1 + m := ⟨n - i - 1, by omega⟩
  have lX : (flatL f i).length = i * 3 := flatL_length i (fun j hj => hf j (by omega))
  have lM : (f i).length = 3 := hf i hi
  have lY : (flatL (fun j => f (i + 1 + j)) m).length = m * 3 := flatL_length m (fun j hj => hf _ (by omega))
  have eXY : flatL f (i + 1 + m) = flatL f i ++ (f i ++ flatL (fun j => f (i + 1 + j)) m) := by
    rw [flatL_add, flatL, List.append_assoc]
  have eD : (flatL f (i + 1 + m)).drop ((i + 1) * 3) = flatL (fun j => f (i + 1 + j)) m := by
    rw [eXY, ← List.append_assoc, List.drop_append_of_le_length (by simp only [List.length_append, lX, lM]; omega), List.drop_of_length_le (by simp only [List.length_append, lX, lM]; omega), List.nil_append]
  rcases hown.2 with ⟨_, h0⟩ | ⟨g, cap', cur, e1, hBg, hg, hnc, hmx, hcs, htk⟩
  · omega
  · cases e1
    refine (delH_run g (i + 1 + m) cap i cur f w hg hcs htk hmx hf hf1 hi hnc hn).mono ?_
    rintro e w' ⟨rfl, rfl⟩
    rw [eD]
    have e2 : i + 1 + m - 1 = i + m := by omega
    rw [e2]
    have ec : cur.toList = flatL f i ++ (f i ++ (flatL (fun j => f (i + 1 + j)) m ++ cur.toList.drop ((i + 1 + m) * 3))) := by
      have := List.take_append_drop ((i + 1 + m) * 3) cur.toList
      rw [htk, eXY] at this
      simpa using this.symm
    have lZ : (cur.toList.drop ((i + 1 + m) * 3)).length = (cap - (i + 1 + m)) * 3 := by rw [List.length_drop, Array.length_toList, hcs, Nat.sub_mul]
    obtain ⟨Z, hZ⟩ : ∃ Z, cur.toList.drop ((i + 1 + m) * 3) = Z := ⟨_, rfl⟩
    rw [hZ] at ec lZ
    have hzl : (Builtin.zeroCells (Value.cells (.agg #[.int .i64 0, .int .i64 0, .slice none 0 0])) 1).toList.length = 3 := by rw [Array.length_toList, zeroCells_size]; exact (Nat.one_mul _).trans rfl
    obtain ⟨Q, hQ⟩ : ∃ Q, (Builtin.zeroCells (Value.cells (.agg #[.int .i64 0, .int .i64 0, .slice none 0 0])) 1).toList = Q := ⟨_, rfl⟩
    rw [hQ] at hzl ⊢
    have hg0 : w.drew.heap[g]? = some (.cells (flatL f i ++ (f i ++ (flatL (fun j => f (i + 1 + j)) m ++ Z))).toArray 37 (0, 0)) := by
      rw [← ec]
      show w.heap[g]? = _
      simpa using hg
    have s1 := setCells_at g (flatL (fun j => f (i + 1 + j)) m) (i * 3) w.drew _ _ 37 hg0 lX (by simp only [List.length_append, lM, lY, lZ]; omega)
    have s2 := setCells_at g Q ((i + m) * 3) _ _ _ 37 s1 (by simp only [List.length_append, lX, lY]; omega) (by simp only [List.length_drop, List.length_append, lM, lY, lZ, hzl]; omega)
    refine ⟨rfl, ⟨?_, .inr ⟨g, cap, _, rfl, hBg, s2, by omega, hmx, ?_, ?_⟩⟩, ?_⟩
    · rw [delF_mid]
      simp only [List.length_append, lX, lY]
      omega
    · simp only [List.size_toArray, List.length_append, List.length_drop, lX, lM, lY, lZ, hzl]
      omega
    · rw [delF_mid]
      dsimp only
      rw [List.append_assoc, List.take_append_of_le_length (by simp only [List.length_append, lX, lY]; omega), List.take_of_length_le (by simp only [List.length_append, lX, lY]; omega)]
    · have f1 := setCells_frm g (flatL (fun j => f (i + 1 + j)) m) (i * 3) w.drew
      have f2 := setCells_frm g Q ((i + m) * 3) (w.drew.setCells g (i * 3) (flatL (fun j => f (i + 1 + j)) m))
      have f3 := f1.trans f2
      exact ⟨f3.os, f3.tape, f3.output, f3.size, fun k hk hne => f3.block k hk (fun h => hne (by rw [List.mem_singleton.1 h]; rfl))⟩
end Go.Proofs.YtchiapnhkhbigaaDoor
