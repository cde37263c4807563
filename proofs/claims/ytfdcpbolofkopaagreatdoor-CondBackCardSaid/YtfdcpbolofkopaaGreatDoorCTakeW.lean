/- cond.take: the walk. -/
import Derived.Test.YtfdcpbolofkopaaGreatDoorCTake
namespace Go.Proofs.YtfdcpbolofkopaaGreatDoor
open Go.RowKit

/-- What take leaves. -/
def TakePost (w : World) (rb : Nat) (st : Option (Bv × List Int)) (e : Ending) (w' : World) : Prop :=
  ∃ (L : List Int) (lk : Nat → Int) (af ol : Int) (va : Option Addr) (vc : Nat), e = .returned (.agg (bv ⟨L.length, fi L, lk, af, ol⟩ va vc)) ∧ L.length ≤ 16 ∧ w'.ownsRow (w.heap.size + 2) 3 1 (.slice va L.length vc) L.length (iC L) ∧ Frm [rb] w w' ∧ Cur4 st L lk af ol w' rb
theorem run_allocB2 (w : World) : (w.alloc (.cells (bv b0 none 0) 55)).heap[w.heap.size]? = some (.cells (bv b0 none 0) 55 (0, 0)) := heap_alloc_new w _

theorem bv_setK (x : Bv) (ka ka' : Option Addr) (kc kc' n' : Nat) (z' : Nat → Int) {w : World} {g : Nat} {t : TypeId} (h : w.heap[g]? = some (.cells (bv x ka kc) t (0, 0))) : (w.setCell ⟨g, 0, none⟩ (.slice ka' n' kc')).heap[g]? = some (.cells (bv { x with n := n', z := z' } ka' kc') t (0, 0)) := by
  rw [heap_setCell_same w g 0 _ t _ h]
  congr 2
theorem own_lt {w : World} {B n : Nat} {v : Value} {xs : List Value} (h : w.ownsRow B 3 1 v n xs) : ∀ k, v.ownBlock = some k → B ≤ k := fun k e => (h.lt k e).1
theorem TkR.push {w ws w6 : World} {rb : Nat} {va va' : Option Addr} {vc vc' : Nat} {L : List Int} {q : Int} (h : TkR w ws rb va vc (kb L) L) (hown : w6.ownsRow (w.heap.size + 2) 3 1 (.slice va' (L ++ [q]).length vc') (L ++ [q]).length (iC (L ++ [q]))) (hg : ws.grownBy w6 (Value.slice va L.length vc).ownBlock) (hrb : rb < w.heap.size) :
    (w6.cell? ⟨w.heap.size + 1, 0, none⟩ = some (.slice va L.length vc) ∧ w6.frozen? ⟨w.heap.size + 1, 0, none⟩ = false) ∧ TkR w (w6.setCell ⟨w.heap.size + 1, 0, none⟩ (.slice va' (L ++ [q]).length vc')) rb va' vc' (kb (L ++ [q])) (L ++ [q]) ∧ ∃ S, Frm S ws (w6.setCell ⟨w.heap.size + 1, 0, none⟩ (.slice va' (L ++ [q]).length vc')) ∧ ∀ k, k ∈ S → rb < k := by
  have hlo := own_lt h.own
  have hA := lt_of_block h.res
  have hB := lt_of_block h.box
  have b6 : w6.heap[w.heap.size + 1]? = some (.cells (bv (kb L) va vc) 55 (0, 0)) := by
    rw [hg.block _ hB (fun e => by have := hlo _ e.symm; omega)]; exact h.box
  have a6 : w6.heap[w.heap.size]? = some (.cells (bv b0 none 0) 55 (0, 0)) := by
    rw [hg.block _ hA (fun e => by have := hlo _ e.symm; omega)]; exact h.res
  have hF : Frm ((w.heap.size + 1) :: (Value.slice va L.length vc).ownBlock.toList) ws (w6.setCell ⟨w.heap.size + 1, 0, none⟩ (.slice va' (L ++ [q]).length vc')) :=
    (((Frm.refl _ ws).grown hg (fun k e => by simp [e]))).setCell _ _ (by simp)
  refine ⟨⟨(bbox_of b6).c0, frozen_of_row w6 _ 0 _ _ b6⟩, ⟨?_, ?_, ?_, ⟨hown.1, ?_⟩, rfl⟩, _, hF, fun k hk => ?_⟩
  · refine ((h.frm.mono (T := rb :: (w.heap.size + 1) :: (Value.slice va L.length vc).ownBlock.toList) (fun k hk => by simp at hk; simp [hk])).trans (hF.mono (fun k hk => List.mem_cons_of_mem _ hk))).old (fun k hk hlt => ?_)
    rcases List.mem_cons.1 hk with rfl | hk
    · simp
    · rcases List.mem_cons.1 hk with rfl | hk
      · omega
      · have : (Value.slice va L.length vc).ownBlock = some k := by simpa using hk
        have := hlo k this
        omega
  · rw [Below.heap_setCell _ _ _ _ (by show w.heap.size ≠ w.heap.size + 1; omega)]; exact a6
  · exact bv_setK _ _ _ _ _ _ _ b6
  · rcases hown.2 with hn | ⟨g, cap, cur, e, hbs, hgc, rest⟩
    · exact .inl hn
    · exact .inr ⟨g, cap, cur, e, hbs, by rw [Below.heap_setCell _ _ _ _ (by show g ≠ w.heap.size + 1; omega)]; exact hgc, rest⟩
  · rcases List.mem_cons.1 hk with rfl | hk
    · omega
    · have : (Value.slice va L.length vc).ownBlock = some k := by simpa using hk
      have := hlo k this
      omega

/-- A store into the variable's own block. -/
theorem TkR.store {w ws w' : World} {rb : Nat} {va : Option Addr} {vc : Nat} {y y' : Bv} {L : List Int} (h : TkR w ws rb va vc y L) (hf : Frm [w.heap.size + 1] ws w') (hb : w'.heap[w.heap.size + 1]? = some (.cells (bv y' va vc) 55 (0, 0))) (hn : y'.n = L.length) : TkR w w' rb va vc y' L := by
  refine ⟨?_, hf.heap h.res (by simp), hb, ⟨h.own.1, ?_⟩, hn⟩
  · refine ((h.frm.mono (T := [rb, w.heap.size + 1]) (fun k hk => by simp at hk; simp [hk])).trans (hf.mono (fun k hk => by simp at hk; simp [hk]))).old (fun k hk hlt => ?_)
    simp at hk ⊢
    omega
  · rcases h.own.2 with hn | ⟨g, cap, cur, e, hbs, hg, rest⟩
    · exact .inl hn
    · exact .inr ⟨g, cap, cur, e, hbs, hf.heap hg (by simp; omega), rest⟩
theorem wpList_storeLk {ops : Array Oper} {rest : List Oper} {o : Oper} {a : Act} {w : World} {Q : Exit → Act → World → Prop} (hgd : o.guard = none) (x y : Operand) (ho : o.op = .store 47 x y) (g : Nat) (hx : a.eval x = .pointer (some ⟨g, 1, none⟩)) (z : Nat → Int) (hy : a.eval y = .agg (hv z)) (v : Bv) (ka : Option Addr) (kc : Nat) (t : TypeId) (hg : w.heap[g]? = some (.cells (bv v ka kc) t (0, 0)))
    (h : ∀ w', w'.heap[g]? = some (.cells (bv { v with lk := z } ka kc) t (0, 0)) → Frm [g] w w' → wpList Tryz.prog ops Q rest (a.put o.dst undef) w') : wpList Tryz.prog ops Q (o :: rest) a w := by
  refine wpList_store_mid hgd 47 x y ho g 1 (hv z) hx hy ?_ (hszv z) (hv_one z) (h _ (bv_setLock v ka kc z hg) (setCells_frm g _ 1 w))
  intro j hj
  rw [hv_size] at hj
  refine ⟨?_, frozen_of_row w g _ _ t hg⟩
  rw [cell_of_row w g _ _ t _ hg]
  simp [bv_size]
  omega
theorem TkR.lock {w ws : World} {rb : Nat} {va : Option Addr} {vc : Nat} {y : Bv} {L : List Int} {st : Option (Bv × List Int)} {l0 : Nat → Int} (h : TkR w ws rb va vc y L) (lk : Nat → Int) (hrb : rb < w.heap.size) (hC : Cur2 st L l0 ws rb) : TkR w (ws.setCells (w.heap.size + 1) 1 (hv lk).toList) rb va vc { y with lk := lk } L ∧ Cur2 st L l0 (ws.setCells (w.heap.size + 1) 1 (hv lk).toList) rb :=
  ⟨h.store (setCells_frm _ _ _ _) (bv_setLock y va vc lk h.box) h.n, hC.frm (setCells_frm (w.heap.size + 1) _ _ _) (fun k hk => by simp at hk; omega)⟩
theorem TkR.after {w ws : World} {rb : Nat} {va : Option Addr} {vc : Nat} {y : Bv} {L : List Int} {st : Option (Bv × List Int)} {lk : Nat → Int} {a0 : Int} (h : TkR w ws rb va vc y L) (a : Int) (hrb : rb < w.heap.size) (hC : Cur3 st L lk a0 ws rb) : TkR w (ws.setCell ⟨w.heap.size + 1, 33, none⟩ (.int .i64 a)) rb va vc { y with af := a } L ∧ Cur3 st L lk a0 (ws.setCell ⟨w.heap.size + 1, 33, none⟩ (.int .i64 a)) rb :=
  ⟨h.store ((Frm.refl _ ws).setCell _ _ (by simp)) (bv_set33 y va vc a h.box) h.n, hC.frm (S := [w.heap.size + 1]) ((Frm.refl _ ws).setCell _ _ (by simp)) (fun k hk => by simp at hk; omega)⟩
theorem TkR.older {w ws : World} {rb : Nat} {va : Option Addr} {vc : Nat} {y : Bv} {L : List Int} {st : Option (Bv × List Int)} {lk : Nat → Int} {a0 o0 : Int} (h : TkR w ws rb va vc y L) (a : Int) (hrb : rb < w.heap.size) (hC : Cur4 st L lk a0 o0 ws rb) : TkR w (ws.setCell ⟨w.heap.size + 1, 34, none⟩ (.int .i64 a)) rb va vc { y with ol := a } L ∧ Cur4 st L lk a0 o0 (ws.setCell ⟨w.heap.size + 1, 34, none⟩ (.int .i64 a)) rb :=
  ⟨h.store ((Frm.refl _ ws).setCell _ _ (by simp)) (bv_set34 y va vc a h.box) h.n, hC.frm (S := [w.heap.size + 1]) ((Frm.refl _ ws).setCell _ _ (by simp)) (fun k hk => by simp at hk; omega)⟩

set_option maxRecDepth 100000 in
set_option maxHeartbeats 3200000 in
theorem take_any (rb : Nat) (st : Option (Bv × List Int)) (w : World) (hrb : rb < w.heap.size) (hn : ∀ x l, st = some (x, l) → x.n ≤ 1000000) (h : RS w rb (bytesOf st)) :
    Calls Tryz.prog 21 #[.pointer (some ⟨rb, 0, none⟩)] w (TakePost w rb st) := by
  have hT0 : TkR w ((w.alloc (.cells (bv b0 none 0) 55)).alloc (.cells (bv b0 none 0) 55)) rb none 0 b0 [] := by
    refine ⟨((Frm.refl [rb] w).alloc _).alloc _, ?_, ?_, World.ownsRow_nil _ _ _ _, rfl⟩
    · rw [Below.heap_alloc _ _ _ (by simp)]; exact heap_alloc_new w _
    · have := heap_alloc_new (w.alloc (.cells (bv b0 none 0) 55)) (.cells (bv b0 none 0) 55)
      simpa using this
  have hR0 := h.keep (((Below.refl _ w).alloc (Nat.le_refl _) (.cells (bv b0 none 0) 55)).alloc (by simp) (.cells (bv b0 none 0) 55))
  have hs0 : w.heap.size + 2 = ((w.alloc (.cells (bv b0 none 0) 55)).alloc (.cells (bv b0 none 0) 55)).heap.size := by simp
  clear h
  go_enter Tryz.func21, Tryz.ntmps21
  go_wp2_with (first | (refine wpList_allocB rfl rfl ?_) | fail)
  generalize (w.alloc (.cells (bv b0 none 0) 55)).alloc (.cells (bv b0 none 0) 55) = W0 at *
  refine (cur_count rb st W0 hn hR0).mono ?_
  rintro e w1 ⟨m, rfl, hm, hF1, hC1⟩
  have hT1 : TkR w w1 rb none 0 (kb []) [] := hT0.keep hF1 hrb
  have hsz1 : w.heap.size + 2 ≤ w1.heap.size := by have := hF1.size; omega
  clear hT0 hR0
  go_wp2
  go_loopw [6] (fun jv wr => ∃ (j : Nat) (va : Option Addr) (vc : Nat) (L : List Int), j ≤ m ∧ jv = .int .i64 j ∧ L.length = j ∧ TkR w wr rb va vc (kb L) L ∧ Cur st m j L wr rb ∧ w.heap.size + 2 ≤ wr.heap.size) (fun jv _ => m + 1 - (intOf jv).toNat)
  case atStart => exact ⟨0, none, 0, [], by omega, rfl, rfl, hT1, hC1, hsz1⟩
  case round =>
    clear hT1 hC1
    obtain ⟨j, va, vc, L, hj, rfl, hLj, hT, hC, hsz⟩ := hrel
    have hLj1 := Nat.le_of_eq hLj
    have hLj2 := Nat.le_of_eq hLj.symm
    clear hLj
    have HT : Hid (TkR w wr rb va vc (kb L) L ∧ Cur st m j L wr rb) := ⟨hT, hC⟩
    clear hT hC
    by_cases hlt : j < m
    · have hlt' : (j : Int) < m := by omega
      go_wp2_with fail
      have c0 := (bbox_of HT.out.1.box).c0
      have hTd : TkR w wr.drew rb va vc (kb L) L := HT.out.1.keep ((Frm.refl _ wr).drew) hrb
      have hCd : Cur st m j L wr.drew rb := HT.out.2.frm (S := []) ((Frm.refl _ wr).drew) (by simp)
      have cd : wr.drew.cell? ⟨w.heap.size + 1, 0, none⟩ = some (.slice va L.length vc) := (bbox_of hTd.box).c0
      have HTd : Hid (TkR w wr.drew rb va vc (kb L) L ∧ Cur st m j L wr.drew rb) := ⟨hTd, hCd⟩
      have hszd : w.heap.size + 2 ≤ wr.drew.heap.size := hsz
      clear hTd hCd HT c0
      refine wp_region_noPanic ?_
      refine wp_region_held_drew (S := fun _ => True) (by kernel_rfl) trivial (fun hHeld => ?_)
      refine wpAnyH_take (i := 0) (oi := { dst := some 8, op := Go.Op.fieldAddr 55 (Go.Operand.tmp 3) 0, type := 0, pos := "cond.go:149", after := #[], guard := none }) (v := ?_) rfl (by kernel_rfl) (by kernel_rfl) (by kernel_rfl) (fun _ _ _ h => h) (Or.inl ⟨by rfl, ?_⟩) (by assumption) ?_
      rotate_left
      · intro wz hSw; (try dsimp only at hSw); go_simp; (try with_reducible rfl)
      try simp only [Act.put, List.setIfInBounds_toArray, List.set_cons_zero, List.set_cons_succ]
      refine wpAnyH_take (i := 2) (oi := { dst := some 10, op := Go.Op.move (Go.Operand.tmp 0), type := 56, pos := "cond.go:149", after := #[], guard := none }) (v := ?_) rfl (by kernel_rfl) (by kernel_rfl) (by kernel_rfl) (fun _ _ _ h => h) (Or.inl ⟨by rfl, ?_⟩) (by assumption) ?_
      rotate_left
      · intro wz hSw; (try dsimp only at hSw); go_simp; (try with_reducible rfl)
      try simp only [Act.put, List.setIfInBounds_toArray, List.set_cons_zero, List.set_cons_succ]
      refine wpAnyH_ready (rs := [1, 3]) (by kernel_rfl) (by simp) ?_
      refine (AllReadyH.cons (o := { dst := some 9, op := Go.Op.load 45 (Go.Operand.tmp 8), type := 45, pos := "cond.go:149", after := #[{ on := 0, ground := Go.Ground.data }], guard := none }) rfl (fun K hK => ?_) (AllReadyH.cons (o := { dst := some 11, op := Go.Op.call { callee := Go.Callee.value (Go.Operand.func 50), args := #[Go.Operand.tmp 10, Go.Operand.const (Go.Value.int Go.IntKind.u64 16)], argTypes := #[56, 71] }, type := 71, pos := "cond.go:149", after := #[{ on := 2, ground := Go.Ground.data }], guard := none }) rfl (fun K hK => ?_) AllReadyH.nil))
      ·
        go_simp
        refine hK.out _ _ trivial (fun _ => ?_)
        clear hK K
        try simp only [Act.put, List.setIfInBounds_toArray, List.set_cons_zero, List.set_cons_succ]
        refine wpAnyH_ready (rs := [3]) (by kernel_rfl) (by simp) ?_
        refine (AllReadyH.cons (o := { dst := some 11, op := Go.Op.call { callee := Go.Callee.value (Go.Operand.func 50), args := #[Go.Operand.tmp 10, Go.Operand.const (Go.Value.int Go.IntKind.u64 16)], argTypes := #[56, 71] }, type := 71, pos := "cond.go:149", after := #[{ on := 2, ground := Go.Ground.data }], guard := none }) rfl (fun K hK => ?_) AllReadyH.nil)
        go_simp
        refine (cur_uint rb st m j L _ hlt HTd.out.2).mono ?_
        rintro e w3 ⟨q, rfl, hq, hF3, hC3⟩
        have hT3 := HTd.out.1.keep hF3 hrb
        have hs3 : w.heap.size + 2 ≤ w3.heap.size := by have := hF3.size; omega
        refine hK.out _ _ trivial (fun _ => ?_)
        clear hK K
        try simp only [Act.put, List.setIfInBounds_toArray, List.set_cons_zero, List.set_cons_succ]
        have hwq : IntKind.i64.wrap q = q := by rw [IntKind.wrap_i64]; omega
        refine wpAnyH_take (i := 4) (oi := { dst := some 12, op := Go.Op.convert 71 3 (Go.Operand.tmp 11), type := 3, pos := "cond.go:149", after := #[{ on := 3, ground := Go.Ground.data }], guard := none }) (v := .int .i64 q) rfl (by kernel_rfl) (by kernel_rfl) (by kernel_rfl) (fun _ _ _ h => h) (Or.inl ⟨by rfl, ?_⟩) (by assumption) ?_
        · intro wz hSw; (try dsimp only at hSw); go_simp; try (rw [hwq]); try rfl
        try simp only [Act.put, List.setIfInBounds_toArray, List.set_cons_zero, List.set_cons_succ]
        refine wpAnyH_ready (rs := [5]) (by kernel_rfl) (by simp) ?_
        refine (AllReadyH.cons (o := { dst := some 13, op := Go.Op.buildSlice 45 1 #[(0, Go.Operand.tmp 12)], type := 45, pos := "cond.go:149", after := #[{ on := 4, ground := Go.Ground.data }], guard := none }) rfl (fun K hK => ?_) AllReadyH.nil)
        refine step_sliceI rfl (.tmp 12) rfl q (by rfl) ?_
        have hb5 : Below w3.heap.size w3 (w3.alloc (.cells #[.int .i64 q] 3)) := (Below.refl _ _).alloc (Nat.le_refl _) _
        have hT5 := hT3.keep (Frm.ofBelow hb5) hrb
        have hC5 := hC3.frm (S := []) (Frm.ofBelow hb5) (by simp)
        have hs5 : w.heap.size + 2 ≤ (w3.alloc (.cells #[.int .i64 q] 3)).heap.size := by simp; omega
        refine hK.out _ _ trivial (fun _ => ?_)
        clear hK K
        try simp only [Act.put, List.setIfInBounds_toArray, List.set_cons_zero, List.set_cons_succ]
        refine wpAnyH_ready (rs := [6]) (by kernel_rfl) (by simp) ?_
        refine (AllReadyH.cons (o := { dst := some 14, op := Go.Op.call { callee := Go.Callee.builtin Go.Builtin.append, args := #[Go.Operand.tmp 9, Go.Operand.tmp 13], argTypes := #[45, 45] }, type := 45, pos := "cond.go:149", after := #[{ on := 1, ground := Go.Ground.data }, { on := 5, ground := Go.Ground.data }, { on := 3, ground := Go.Ground.chain }], guard := none }) rfl (fun K hK => ?_) AllReadyH.nil)
        refine step_append_O rfl (.tmp 9) (.tmp 13) rfl (w.heap.size + 2) _ _ L [q] (by rfl) (by rfl) hT5.own hs5 (one_srcI w3 q) (by simp; omega) ?_
        intro v' w6 hown' hgrow _
        obtain ⟨va', vc', rfl⟩ : ∃ va' vc', v' = .slice va' (L ++ [q]).length vc' := by
          rcases hown'.2 with ⟨_, e⟩ | ⟨g, c, cur, e, _⟩
          · simp at e
          · exact ⟨_, _, e⟩
        obtain ⟨⟨c6, f6⟩, hT6, S6, hS6, hS7⟩ := hT5.push hown' hgrow hrb
        have HN : Hid (TkR w (w6.setCell ⟨w.heap.size + 1, 0, none⟩ (.slice va' (L ++ [q]).length vc')) rb va' vc' (kb (L ++ [q])) (L ++ [q]) ∧ Cur st m (j + 1) (L ++ [q]) (w6.setCell ⟨w.heap.size + 1, 0, none⟩ (.slice va' (L ++ [q]).length vc')) rb ∧ w.heap.size + 2 ≤ (w6.setCell ⟨w.heap.size + 1, 0, none⟩ (.slice va' (L ++ [q]).length vc')).heap.size) := ⟨hT6, hC5.frm hS6 hS7, by have := hS6.size; have : w.heap.size + 2 ≤ (w3.alloc (.cells #[.int .i64 q] 3)).heap.size := hs5; omega⟩
        clear hown' hgrow hT6 hS6 hS7
        refine hK.out _ _ trivial (fun _ => ?_)
        clear hK K
        try simp only [Act.put, List.setIfInBounds_toArray, List.set_cons_zero, List.set_cons_succ]
        refine wpAnyH_take (i := 7) (oi := { dst := some 15, op := Go.Op.fieldAddr 55 (Go.Operand.tmp 3) 0, type := 0, pos := "cond.go:149", after := #[{ on := 0, ground := Go.Ground.phase }, { on := 1, ground := Go.Ground.phase }, { on := 2, ground := Go.Ground.phase }, { on := 3, ground := Go.Ground.phase }, { on := 4, ground := Go.Ground.phase }, { on := 5, ground := Go.Ground.phase }, { on := 6, ground := Go.Ground.phase }], guard := none }) (v := ?_) rfl (by kernel_rfl) (by kernel_rfl) (by kernel_rfl) (fun _ _ _ h => h) (Or.inl ⟨by rfl, ?_⟩) (by assumption) ?_
        rotate_left
        · intro wz hSw; (try dsimp only at hSw); go_simp; (try with_reducible rfl)
        try simp only [Act.put, List.setIfInBounds_toArray, List.set_cons_zero, List.set_cons_succ]
        refine wpAnyH_ready (rs := [8]) (by kernel_rfl) (by simp) ?_
        refine (AllReadyH.cons (o := { dst := none, op := Go.Op.store 45 (Go.Operand.tmp 15) (Go.Operand.tmp 14), type := 0, pos := "cond.go:149", after := #[{ on := 7, ground := Go.Ground.data }, { on := 6, ground := Go.Ground.data }, { on := 6, ground := Go.Ground.chain }, { on := 0, ground := Go.Ground.phase }, { on := 1, ground := Go.Ground.phase }, { on := 2, ground := Go.Ground.phase }, { on := 3, ground := Go.Ground.phase }, { on := 4, ground := Go.Ground.phase }, { on := 5, ground := Go.Ground.phase }, { on := 6, ground := Go.Ground.phase }], guard := none }) rfl (fun K hK => ?_) AllReadyH.nil)
        go_simp
        refine hK.out _ _ trivial (fun _ => ?_)
        clear hK K
        try simp only [Act.put, List.setIfInBounds_toArray, List.set_cons_zero, List.set_cons_succ]
        refine wpAnyH_done (by kernel_rfl) (NoPanic.normal ?_) _
        try simp only [Act.put, List.setIfInBounds_toArray, List.set_cons_zero, List.set_cons_succ]
        clear hHeld c6 f6
        go_wp2
        go_roundw
        case rel =>
          have h7 := HN.out
          rw [show (L ++ [q]).length = L.length + 1 from by simp] at h7
          exact ⟨j + 1, va', vc', L ++ [q], by omega, by go_num, (by simp; omega), h7⟩
        case measure => simp [intOf]; omega
      ·
        go_simp
        refine (cur_uint rb st m j L _ hlt HTd.out.2).mono ?_
        rintro e w3 ⟨q, rfl, hq, hF3, hC3⟩
        have hT3 := HTd.out.1.keep hF3 hrb
        have hs3 : w.heap.size + 2 ≤ w3.heap.size := by have := hF3.size; omega
        have c3 := (bbox_of hT3.box).c0
        have c3' : w3.cell? ⟨w.heap.size + 1, 0, none⟩ = some (.slice va L.length vc) := c3
        have hb5 : Below w3.heap.size w3 (w3.alloc (.cells #[.int .i64 q] 3)) := (Below.refl _ _).alloc (Nat.le_refl _) _
        have hT5 := hT3.keep (Frm.ofBelow hb5) hrb
        have hC5 := hC3.frm (S := []) (Frm.ofBelow hb5) (by simp)
        have hs5 : w.heap.size + 2 ≤ (w3.alloc (.cells #[.int .i64 q] 3)).heap.size := by simp; omega
        have c5 : (w3.alloc (.cells #[.int .i64 q] 3)).cell? ⟨w.heap.size + 1, 0, none⟩ = some (.slice va L.length vc) := (bbox_of hT5.box).c0
        refine hK.out _ _ trivial (fun _ => ?_)
        clear hK K c3
        try simp only [Act.put, List.setIfInBounds_toArray, List.set_cons_zero, List.set_cons_succ]
        have hwq : IntKind.i64.wrap q = q := by rw [IntKind.wrap_i64]; omega
        refine wpAnyH_take (i := 4) (oi := { dst := some 12, op := Go.Op.convert 71 3 (Go.Operand.tmp 11), type := 3, pos := "cond.go:149", after := #[{ on := 3, ground := Go.Ground.data }], guard := none }) (v := .int .i64 q) rfl (by kernel_rfl) (by kernel_rfl) (by kernel_rfl) (fun _ _ _ h => h) (Or.inl ⟨by rfl, ?_⟩) (by assumption) ?_
        · intro wz hSw; (try dsimp only at hSw); go_simp; try (rw [hwq]); try rfl
        try simp only [Act.put, List.setIfInBounds_toArray, List.set_cons_zero, List.set_cons_succ]
        refine wpAnyH_ready (rs := [1, 5]) (by kernel_rfl) (by simp) ?_
        refine (AllReadyH.cons (o := { dst := some 9, op := Go.Op.load 45 (Go.Operand.tmp 8), type := 45, pos := "cond.go:149", after := #[{ on := 0, ground := Go.Ground.data }], guard := none }) rfl (fun K hK => ?_) (AllReadyH.cons (o := { dst := some 13, op := Go.Op.buildSlice 45 1 #[(0, Go.Operand.tmp 12)], type := 45, pos := "cond.go:149", after := #[{ on := 4, ground := Go.Ground.data }], guard := none }) rfl (fun K hK => ?_) AllReadyH.nil))
        ·
          go_simp
          refine hK.out _ _ trivial (fun _ => ?_)
          clear hK K
          try simp only [Act.put, List.setIfInBounds_toArray, List.set_cons_zero, List.set_cons_succ]
          refine wpAnyH_ready (rs := [5]) (by kernel_rfl) (by simp) ?_
          refine (AllReadyH.cons (o := { dst := some 13, op := Go.Op.buildSlice 45 1 #[(0, Go.Operand.tmp 12)], type := 45, pos := "cond.go:149", after := #[{ on := 4, ground := Go.Ground.data }], guard := none }) rfl (fun K hK => ?_) AllReadyH.nil)
          refine step_sliceI rfl (.tmp 12) rfl q (by rfl) ?_
          refine hK.out _ _ trivial (fun _ => ?_)
          clear hK K
          try simp only [Act.put, List.setIfInBounds_toArray, List.set_cons_zero, List.set_cons_succ]
          refine wpAnyH_ready (rs := [6]) (by kernel_rfl) (by simp) ?_
          refine (AllReadyH.cons (o := { dst := some 14, op := Go.Op.call { callee := Go.Callee.builtin Go.Builtin.append, args := #[Go.Operand.tmp 9, Go.Operand.tmp 13], argTypes := #[45, 45] }, type := 45, pos := "cond.go:149", after := #[{ on := 1, ground := Go.Ground.data }, { on := 5, ground := Go.Ground.data }, { on := 3, ground := Go.Ground.chain }], guard := none }) rfl (fun K hK => ?_) AllReadyH.nil)
          refine step_append_O rfl (.tmp 9) (.tmp 13) rfl (w.heap.size + 2) _ _ L [q] (by rfl) (by rfl) hT5.own hs5 (one_srcI w3 q) (by simp; omega) ?_
          intro v' w6 hown' hgrow _
          obtain ⟨va', vc', rfl⟩ : ∃ va' vc', v' = .slice va' (L ++ [q]).length vc' := by
            rcases hown'.2 with ⟨_, e⟩ | ⟨g, c, cur, e, _⟩
            · simp at e
            · exact ⟨_, _, e⟩
          obtain ⟨⟨c6, f6⟩, hT6, S6, hS6, hS7⟩ := hT5.push hown' hgrow hrb
          have HN : Hid (TkR w (w6.setCell ⟨w.heap.size + 1, 0, none⟩ (.slice va' (L ++ [q]).length vc')) rb va' vc' (kb (L ++ [q])) (L ++ [q]) ∧ Cur st m (j + 1) (L ++ [q]) (w6.setCell ⟨w.heap.size + 1, 0, none⟩ (.slice va' (L ++ [q]).length vc')) rb ∧ w.heap.size + 2 ≤ (w6.setCell ⟨w.heap.size + 1, 0, none⟩ (.slice va' (L ++ [q]).length vc')).heap.size) := ⟨hT6, hC5.frm hS6 hS7, by have := hS6.size; have : w.heap.size + 2 ≤ (w3.alloc (.cells #[.int .i64 q] 3)).heap.size := hs5; omega⟩
          clear hown' hgrow hT6 hS6 hS7
          refine hK.out _ _ trivial (fun _ => ?_)
          clear hK K
          try simp only [Act.put, List.setIfInBounds_toArray, List.set_cons_zero, List.set_cons_succ]
          refine wpAnyH_take (i := 7) (oi := { dst := some 15, op := Go.Op.fieldAddr 55 (Go.Operand.tmp 3) 0, type := 0, pos := "cond.go:149", after := #[{ on := 0, ground := Go.Ground.phase }, { on := 1, ground := Go.Ground.phase }, { on := 2, ground := Go.Ground.phase }, { on := 3, ground := Go.Ground.phase }, { on := 4, ground := Go.Ground.phase }, { on := 5, ground := Go.Ground.phase }, { on := 6, ground := Go.Ground.phase }], guard := none }) (v := ?_) rfl (by kernel_rfl) (by kernel_rfl) (by kernel_rfl) (fun _ _ _ h => h) (Or.inl ⟨by rfl, ?_⟩) (by assumption) ?_
          rotate_left
          · intro wz hSw; (try dsimp only at hSw); go_simp; (try with_reducible rfl)
          try simp only [Act.put, List.setIfInBounds_toArray, List.set_cons_zero, List.set_cons_succ]
          refine wpAnyH_ready (rs := [8]) (by kernel_rfl) (by simp) ?_
          refine (AllReadyH.cons (o := { dst := none, op := Go.Op.store 45 (Go.Operand.tmp 15) (Go.Operand.tmp 14), type := 0, pos := "cond.go:149", after := #[{ on := 7, ground := Go.Ground.data }, { on := 6, ground := Go.Ground.data }, { on := 6, ground := Go.Ground.chain }, { on := 0, ground := Go.Ground.phase }, { on := 1, ground := Go.Ground.phase }, { on := 2, ground := Go.Ground.phase }, { on := 3, ground := Go.Ground.phase }, { on := 4, ground := Go.Ground.phase }, { on := 5, ground := Go.Ground.phase }, { on := 6, ground := Go.Ground.phase }], guard := none }) rfl (fun K hK => ?_) AllReadyH.nil)
          go_simp
          refine hK.out _ _ trivial (fun _ => ?_)
          clear hK K
          try simp only [Act.put, List.setIfInBounds_toArray, List.set_cons_zero, List.set_cons_succ]
          refine wpAnyH_done (by kernel_rfl) (NoPanic.normal ?_) _
          try simp only [Act.put, List.setIfInBounds_toArray, List.set_cons_zero, List.set_cons_succ]
          clear hHeld c6 f6
          go_wp2
          go_roundw
          case rel =>
            have h7 := HN.out
            rw [show (L ++ [q]).length = L.length + 1 from by simp] at h7
            exact ⟨j + 1, va', vc', L ++ [q], by omega, by go_num, (by simp; omega), h7⟩
          case measure => simp [intOf]; omega
        ·
          refine step_sliceI rfl (.tmp 12) rfl q (by rfl) ?_
          refine hK.out _ _ trivial (fun _ => ?_)
          clear hK K
          try simp only [Act.put, List.setIfInBounds_toArray, List.set_cons_zero, List.set_cons_succ]
          refine wpAnyH_ready (rs := [1]) (by kernel_rfl) (by simp) ?_
          refine (AllReadyH.cons (o := { dst := some 9, op := Go.Op.load 45 (Go.Operand.tmp 8), type := 45, pos := "cond.go:149", after := #[{ on := 0, ground := Go.Ground.data }], guard := none }) rfl (fun K hK => ?_) AllReadyH.nil)
          go_simp
          refine hK.out _ _ trivial (fun _ => ?_)
          clear hK K
          try simp only [Act.put, List.setIfInBounds_toArray, List.set_cons_zero, List.set_cons_succ]
          refine wpAnyH_ready (rs := [6]) (by kernel_rfl) (by simp) ?_
          refine (AllReadyH.cons (o := { dst := some 14, op := Go.Op.call { callee := Go.Callee.builtin Go.Builtin.append, args := #[Go.Operand.tmp 9, Go.Operand.tmp 13], argTypes := #[45, 45] }, type := 45, pos := "cond.go:149", after := #[{ on := 1, ground := Go.Ground.data }, { on := 5, ground := Go.Ground.data }, { on := 3, ground := Go.Ground.chain }], guard := none }) rfl (fun K hK => ?_) AllReadyH.nil)
          refine step_append_O rfl (.tmp 9) (.tmp 13) rfl (w.heap.size + 2) _ _ L [q] (by rfl) (by rfl) hT5.own hs5 (one_srcI w3 q) (by simp; omega) ?_
          intro v' w6 hown' hgrow _
          obtain ⟨va', vc', rfl⟩ : ∃ va' vc', v' = .slice va' (L ++ [q]).length vc' := by
            rcases hown'.2 with ⟨_, e⟩ | ⟨g, c, cur, e, _⟩
            · simp at e
            · exact ⟨_, _, e⟩
          obtain ⟨⟨c6, f6⟩, hT6, S6, hS6, hS7⟩ := hT5.push hown' hgrow hrb
          have HN : Hid (TkR w (w6.setCell ⟨w.heap.size + 1, 0, none⟩ (.slice va' (L ++ [q]).length vc')) rb va' vc' (kb (L ++ [q])) (L ++ [q]) ∧ Cur st m (j + 1) (L ++ [q]) (w6.setCell ⟨w.heap.size + 1, 0, none⟩ (.slice va' (L ++ [q]).length vc')) rb ∧ w.heap.size + 2 ≤ (w6.setCell ⟨w.heap.size + 1, 0, none⟩ (.slice va' (L ++ [q]).length vc')).heap.size) := ⟨hT6, hC5.frm hS6 hS7, by have := hS6.size; have : w.heap.size + 2 ≤ (w3.alloc (.cells #[.int .i64 q] 3)).heap.size := hs5; omega⟩
          clear hown' hgrow hT6 hS6 hS7
          refine hK.out _ _ trivial (fun _ => ?_)
          clear hK K
          try simp only [Act.put, List.setIfInBounds_toArray, List.set_cons_zero, List.set_cons_succ]
          refine wpAnyH_take (i := 7) (oi := { dst := some 15, op := Go.Op.fieldAddr 55 (Go.Operand.tmp 3) 0, type := 0, pos := "cond.go:149", after := #[{ on := 0, ground := Go.Ground.phase }, { on := 1, ground := Go.Ground.phase }, { on := 2, ground := Go.Ground.phase }, { on := 3, ground := Go.Ground.phase }, { on := 4, ground := Go.Ground.phase }, { on := 5, ground := Go.Ground.phase }, { on := 6, ground := Go.Ground.phase }], guard := none }) (v := ?_) rfl (by kernel_rfl) (by kernel_rfl) (by kernel_rfl) (fun _ _ _ h => h) (Or.inl ⟨by rfl, ?_⟩) (by assumption) ?_
          rotate_left
          · intro wz hSw; (try dsimp only at hSw); go_simp; (try with_reducible rfl)
          try simp only [Act.put, List.setIfInBounds_toArray, List.set_cons_zero, List.set_cons_succ]
          refine wpAnyH_ready (rs := [8]) (by kernel_rfl) (by simp) ?_
          refine (AllReadyH.cons (o := { dst := none, op := Go.Op.store 45 (Go.Operand.tmp 15) (Go.Operand.tmp 14), type := 0, pos := "cond.go:149", after := #[{ on := 7, ground := Go.Ground.data }, { on := 6, ground := Go.Ground.data }, { on := 6, ground := Go.Ground.chain }, { on := 0, ground := Go.Ground.phase }, { on := 1, ground := Go.Ground.phase }, { on := 2, ground := Go.Ground.phase }, { on := 3, ground := Go.Ground.phase }, { on := 4, ground := Go.Ground.phase }, { on := 5, ground := Go.Ground.phase }, { on := 6, ground := Go.Ground.phase }], guard := none }) rfl (fun K hK => ?_) AllReadyH.nil)
          go_simp
          refine hK.out _ _ trivial (fun _ => ?_)
          clear hK K
          try simp only [Act.put, List.setIfInBounds_toArray, List.set_cons_zero, List.set_cons_succ]
          refine wpAnyH_done (by kernel_rfl) (NoPanic.normal ?_) _
          try simp only [Act.put, List.setIfInBounds_toArray, List.set_cons_zero, List.set_cons_succ]
          clear hHeld c6 f6
          go_wp2
          go_roundw
          case rel =>
            have h7 := HN.out
            rw [show (L ++ [q]).length = L.length + 1 from by simp] at h7
            exact ⟨j + 1, va', vc', L ++ [q], by omega, by go_num, (by simp; omega), h7⟩
          case measure => simp [intOf]; omega
    · obtain rfl : j = m := by omega
      have hnn : ¬ ((j : Int) < j) := by omega
      go_wp2_with fail
      refine (cur_hash rb st j L wr HT.out.2).mono ?_
      rintro e w2 ⟨lk, rfl, hF2, hC2⟩
      have hT2 := HT.out.1.keep hF2 hrb
      have HT2 : Hid (TkR w w2 rb va vc (kb L) L ∧ Cur2 st L lk w2 rb) := ⟨hT2, hC2⟩
      clear hT2 hC2 HT
      go_wp2_with (first | (refine wpList_storeLk rfl _ _ rfl (w.heap.size + 1) rfl lk rfl (kb L) va vc _ HT2.out.1.box ?_; intro w3 hg3 hf3; have HT3 : Hid (TkR w w3 rb va vc { kb L with lk := lk } L ∧ Cur2 st L lk w3 rb) := ⟨HT2.out.1.store hf3 hg3 rfl, HT2.out.2.frm hf3 (fun k hk => by simp at hk; omega)⟩; clear hg3 hf3) | fail)
      refine (cur_af rb st L lk w3 HT3.out.2).mono ?_
      rintro e w4 ⟨af, rfl, haf, hF4, hC4⟩
      have hT4 := HT3.out.1.keep hF4 hrb
      have hwa : IntKind.i64.wrap af = af := by rw [IntKind.wrap_i64]; omega
      have ca := (bbox_of hT4.box).c33
      have fa := frozen_of_row w4 _ 33 _ _ hT4.box
      obtain ⟨hT5, hC5⟩ := hT4.after af hrb hC4
      have HT5 : Hid (TkR w (w4.setCell ⟨w.heap.size + 1, 33, none⟩ (.int .i64 af)) rb va vc { { kb L with lk := lk } with af := af } L ∧ Cur3 st L lk af (w4.setCell ⟨w.heap.size + 1, 33, none⟩ (.int .i64 af)) rb) := ⟨hT5, hC5⟩
      clear hT4 hC4 hT5 hC5 HT3
      go_wp2_with fail
      generalize w4.setCell ⟨w.heap.size + 1, 33, none⟩ (.int .i64 af) = w5 at *
      refine (cur_ol rb st L lk af w5 HT5.out.2).mono ?_
      rintro e w6 ⟨ol, rfl, hol, hF6, hC6⟩
      have hT6 := HT5.out.1.keep hF6 hrb
      have hwo : IntKind.i64.wrap ol = ol := by rw [IntKind.wrap_i64]; omega
      have co := (bbox_of hT6.box).c34
      have fo := frozen_of_row w6 _ 34 _ _ hT6.box
      obtain ⟨hT7, hC7⟩ := hT6.older ol hrb hC6
      have HT7 : Hid (TkR w (w6.setCell ⟨w.heap.size + 1, 34, none⟩ (.int .i64 ol)) rb va vc ⟨L.length, fi L, lk, af, ol⟩ L ∧ Cur4 st L lk af ol (w6.setCell ⟨w.heap.size + 1, 34, none⟩ (.int .i64 ol)) rb) := ⟨hT7, hC7⟩
      clear hT6 hC6 hT7 hC7 HT5 ca fa
      go_wp2_with (first | (refine wpList_load_row rfl 55 _ rfl (w.heap.size + 1) rfl _ (bv ⟨L.length, fi L, lk, af, ol⟩ va vc) _ _ HT7.out.1.box Tryz.underlying55 rfl (szBv _ _ _) ?_) | (refine wpList_storeR _ szB rfl _ _ rfl w.heap.size rfl ⟨L.length, fi L, lk, af, ol⟩ b0 va none vc 0 55 rfl HT7.out.1.res ?_; intro w8 hg8 hf8) | fail)
      have HE : Hid (w8.ownsRow (w.heap.size + 2) 3 1 (.slice va L.length vc) L.length (iC L) ∧ Frm [rb] w w8 ∧ Cur4 st L lk af ol w8 rb) := by
        refine ⟨⟨HT7.out.1.own.1, ?_⟩, ?_, HT7.out.2.frm hf8 (fun k hk => by simp at hk; omega)⟩
        · rcases HT7.out.1.own.2 with hn | ⟨g, cap, cur, e, hbs, hg, rest⟩
          · exact .inl hn
          · exact .inr ⟨g, cap, cur, e, hbs, hf8.heap hg (by simp; omega), rest⟩
        · refine ((HT7.out.1.frm.mono (T := [rb, w.heap.size]) (fun k hk => by simp at hk; simp [hk])).trans (hf8.mono (fun k hk => by simp at hk; simp [hk]))).old (fun k hk hlt => ?_)
          simp at hk ⊢
          omega
      exact bodyPost_ret (results_cell_row Tryz.results21 _ _ w.heap.size 55 (bv ⟨L.length, fi L, lk, af, ol⟩ va vc) (0, 0) _ rfl hg8 Tryz.underlying55 rfl (szBv _ _ _)) rfl ⟨L, lk, af, ol, va, vc, rfl, by omega, HE.out⟩
end Go.Proofs.YtfdcpbolofkopaaGreatDoor
