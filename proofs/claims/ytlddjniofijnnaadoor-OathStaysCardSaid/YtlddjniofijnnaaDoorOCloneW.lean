/- The book's Clone: the walk. -/
import Derived.Test.YtlddjniofijnnaaDoorOKeyInv
namespace Go.Proofs.YtlddjniofijnnaaDoor
open Go.RowKit Go.Maps

attribute [local go_sem ↓] Go.wp_at_zero Go.wp_at_succ

theorem ranges_keep {w w' : World} {b r n : Nat} {D : DataW Unit} {left : Lit → Bool} {cnt : Nat} (h : w.ranges Tryd.prog 52 (unitElem (H := Unit)) b r n D left cnt) (h1 : w'.heap[b]? = w.heap[b]?) (h2 : w'.heap[r]? = w.heap[r]?) : w'.ranges Tryd.prog 52 (unitElem (H := Unit)) b r n D left cnt := by
  obtain ⟨es, clock, since, seen, c0, hb, F, hs, hD, hr, rest⟩ := h
  exact ⟨es, clock, since, seen, c0, h1.trans hb, F, hs, hD, h2.trans hr, rest⟩
/-- While the map is copied: the new book's lists are nil. -/
structure ClR (w wr : World) : Prop where
  below : Below w.heap.size w wr
  book : wr.heap[w.heap.size + 1]? = some (.cells (bkc w.heap.size fun _ => .slice none 0 0) 50 (0, 0))
  size : w.heap.size + 2 ≤ wr.heap.size
theorem ClR.frm {w wr w' : World} {T : List Nat} (h : ClR w wr) (hf : Frm T wr w') (hT : ∀ k, k ∈ T → w.heap.size ≤ k ∧ k ≠ w.heap.size + 1) : ClR w w' := by
  refine ⟨h.below.trans (hf.below h.below.size (fun k hk => (hT k hk).1)), ?_, Nat.le_trans h.size hf.size⟩
  rw [hf.block _ (lt_of_block h.book) (fun hm => (hT _ hm).2 rfl)]
  exact h.book
theorem Frm.ofGrown {a b : World} {row : Nat} (h : a.grownBy b (some row)) : Frm [row] a b := (Frm.refl [row] a).grown h (fun j hj => by cases hj; simp)
theorem sl_range {w : World} {p m : Nat} {sl : Nat → Value} {t : TypeId} {fr : Nat × Nat} (h : w.heap[p]? = some (.cells (bkc m sl) t fr)) : w.rangeAt p 1 ((List.range 16).map sl) := by
  intro j v hv
  rw [cell_of_row w p _ _ _ _ h]
  rw [Nat.add_comm]
  simpa [bkc] using hv
theorem kv_rangeAt {w : World} {b : Nat} {k : Int} {z : Nat → Int} {t : TypeId} {fr : Nat × Nat} (h : w.heap[b]? = some (.cells (kv k z) t fr)) : w.rangeAt b 0 (⟨k, z⟩ : Sg).l := by
  intro j u hj
  rw [Nat.zero_add, cell_of_row w _ j _ _ _ h, ← hj]
  simp [kv, Sg.l]
theorem sg_size (x : Sg) : (Tryd.prog.info? 52).map (·.size) = some x.l.length := by rw [Sg.l_length]; exact ksz
theorem arr_size (sl : Nat → Value) : (Tryd.prog.info? 48).map (·.size) = some ((List.range 16).map sl).length := by rw [List.length_map, List.length_range]; kernel_rfl

theorem index_run (sl : Nat → Value) (w : World) : ∀ i : Nat, i < 16 → (Instr.index 48 (.agg ((List.range 16).map sl).toArray) (.int .i64 (i : Int))).run Tryd.prog w = .ok (sl i) w
  | 0, _ => by kernel_rfl
  | 1, _ => by kernel_rfl
  | 2, _ => by kernel_rfl
  | 3, _ => by kernel_rfl
  | 4, _ => by kernel_rfl
  | 5, _ => by kernel_rfl
  | 6, _ => by kernel_rfl
  | 7, _ => by kernel_rfl
  | 8, _ => by kernel_rfl
  | 9, _ => by kernel_rfl
  | 10, _ => by kernel_rfl
  | 11, _ => by kernel_rfl
  | 12, _ => by kernel_rfl
  | 13, _ => by kernel_rfl
  | 14, _ => by kernel_rfl
  | 15, _ => by kernel_rfl
  | i + 16, h => by omega
theorem wpList_indexA {ops : Array Oper} {rest : List Oper} {o : Oper} {a : Act} {w : World} {Q : Exit → Act → World → Prop} (hgd : o.guard = none) (x y : Operand) (ho : o.op = .index 48 x y) (sl : Nat → Value) (i : Nat) (hi : i < 16) (hx : a.eval x = .agg ((List.range 16).map sl).toArray) (hy : a.eval y = .int .i64 (i : Int))
    (h : wpList Tryd.prog ops Q rest (a.put o.dst (sl i)) w) : wpList Tryd.prog ops Q (o :: rest) a w := by
  refine wpList_plain hgd fun K hK => ?_
  unfold Oper.wp execOp
  simp only [ho, hx, hy, Sem.run_bind, index_run sl w i hi, Result.andThen]
  exact hK _ _ h

set_option maxRecDepth 100000 in
set_option maxHeartbeats 6400000 in
theorem clone_any (p m B : Nat) (g : Nat → Option Nat) (S : List (Int × List UInt8)) (w : World) (h : BkAt w B p m g S) (hl : S.length ≤ 100000) :
    Calls Tryd.prog 7 #[.pointer (some ⟨p, 0, none⟩)] w fun e w' => ∃ pc mc gc, e = .returned (.pointer (some ⟨pc, 0, none⟩)) ∧ BkAt w' w.heap.size pc mc gc S ∧ Below w.heap.size w w' := by
  have HH : Hid (BkAt w B p m g S) := h
  have lm := (h.lt (mem_fpL.2 (.inr (.inl rfl)))).2
  obtain ⟨D0, hm0, hD0⟩ := h.map
  have HD : Hid (w.ownsMap Tryd.prog 52 (unitElem (H := Unit)) m S.length D0 ∧ BkD D0 S) := ⟨hm0, hD0⟩
  clear h hm0 hD0
  go_enter Tryd.func7, Tryd.ntmps7
  go_wp2_with fail
  refine (new_run w).mono ?_
  rintro e w1 ⟨rfl, hw1⟩
  have hs1 : w1.heap.size = w.heap.size + 2 := by rw [hw1]; simp
  have hR1 : ClR w w1 := by
    refine ⟨by rw [hw1]; exact ((Below.refl _ w).alloc (Nat.le_refl _) _).alloc (by simp) _, ?_, by omega⟩
    have := heap_alloc_new (w.alloc (.map #[] 0)) (.cells (bkc w.heap.size fun _ => .slice none 0 0) 50)
    rw [← hw1] at this
    simpa using this
  have hout1 : w1.ownsMap Tryd.prog 52 (unitElem (H := Unit)) w.heap.size 0 (.map []) := by rw [hw1]; exact (World.ownsMap_made w _ _ _).alloc _
  have h0 := (HH.out.below hR1.below).cell0
  have hown : w1.ownsMap Tryd.prog 52 (unitElem (H := Unit)) m S.length D0 := owns_keep HD.out.1 (hR1.below.block m lm)
  clear hw1
  go_wp2_with (first | (at_range; refine wpList_range_own _ rfl _ 46 rfl 52 53 lawS Tryd.underlying46 _ m S.length D0 rfl hown ?_; intro w2 hrg0 hg0 hs0) | fail)
  go_frame
  rw [hs1] at hrg0 hs0 ⊢
  have hR2 : ClR w w2 := hR1.frm (T := []) ⟨hg0.os, hg0.tape, hg0.output, hg0.size, fun k hk _ => hg0.block k hk (by simp)⟩ (fun _ h => by cases h)
  have hout2 : w2.ownsMap Tryd.prog 52 (unitElem (H := Unit)) w.heap.size 0 (.map []) := owns_keep hout1 (hg0.block _ (by omega) (by simp))
  clear hown hout1 hg0 hR1 h0
  go_loopw [4] (fun _ wr => ∃ (left : Lit → Bool) (cnt : Nat) (Dout : DataW Unit), wr.ranges Tryd.prog 52 (unitElem (H := Unit)) m (w.heap.size + 2) S.length D0 left cnt ∧ cnt ≤ Maps.size D0 ∧ wr.ownsMap Tryd.prog 52 (unitElem (H := Unit)) w.heap.size (Maps.size D0 - cnt) Dout ∧ Agree Dout D0 left ∧ ClR w wr) (fun _ wr => wr.rangeLeft m (w.heap.size + 2))
  case atStart => exact ⟨_, _, .map [], hrg0, Nat.le_refl _, hout2.mono (Nat.zero_le _), agree_start D0, hR2⟩
  case round =>
    clear hrg0 hout2 hR2 hs0
    obtain ⟨left, cnt, Dout, hrg, hcs, hout, hA, hR⟩ := hrel
    have HA : Hid (Agree Dout D0 left) := hA
    have HR : Hid (ClR w wr) := hR
    have HO : Hid (wr.ownsMap Tryd.prog 52 (unitElem (H := Unit)) w.heap.size (Maps.size D0 - cnt) Dout) := hout
    have hsD : Maps.size D0 = S.length := HD.out.2.size
    clear hA hR hout
    go_wp2_with (first | (at_next; refine wpList_next_ranges _ rfl _ rfl 52 lawS (unitElem (H := Unit)) (fun x : Sg => Value.agg (kv x.k x.z)) (fun _ : Unit => Value.agg #[]) sigkey_inv unit_inv m (w.heap.size + 2) S.length D0 left cnt rfl hrg ?_ ?_) | fail)
    · intro hc0 hl0
      have hBk : BkAt wr w.heap.size (w.heap.size + 1) w.heap.size (fun _ => none) S := by
        have e := agree_end HA.out hl0 (HO.out.canon lawS) (HD.out.1.canon lawS)
        have ho := HO.out
        rw [e, hc0, Nat.sub_zero, hsD] at ho
        exact ⟨⟨_, HR.out.book, fun i _ => ⟨rfl, 0, [], by omega, World.ownsRow_nil _ _ _ _, fun _ h => by cases h⟩⟩, ⟨D0, ho, HD.out.2⟩, by omega, fun _ _ => ⟨by simp, by simp⟩, (fun _ _ _ _ _ _ h => by cases h), by omega, Nat.le_refl _⟩
      have HB0 : Hid (BkAt wr w.heap.size (w.heap.size + 1) w.heap.size (fun _ => none) S ∧ Below w.heap.size w wr) := ⟨hBk, HR.out.below⟩
      obtain ⟨sl, hsl, hrows⟩ := HH.out.cells
      have hsl1 : wr.rangeAt p 1 ((List.range 16).map sl) := sl_range (by rw [HR.out.below.block p (HH.out.lt (mem_fpL.2 (.inl rfl))).2]; exact hsl)
      have HRW : Hid (∀ i, i < 16 → RowAt w B (sl i) S.length) := fun i hi => (hrows i hi).2
      clear hBk hrows hsl HA HO HR hrg hcs hc0 hl0 hsD
      generalize w.heap.size + 1 = pc at *
      go_wp2_with (first | (refine wpList_load_mid rfl 48 _ rfl p 1 rfl ((List.range 16).map sl) _ hsl1 Tryd.underlying48 rfl (arr_size sl) ?_) | fail)
      go_loopw [30] (fun iv wq => ∃ (i : Nat) (gc : Nat → Option Nat), i ≤ 16 ∧ iv = .int .i64 i ∧ BkAt wq w.heap.size pc w.heap.size gc S ∧ Below w.heap.size w wq) (fun iv _ => 17 - (intOf iv).toNat)
      case atStart => exact ⟨0, _, by omega, rfl, HB0.out.1, HB0.out.2⟩
      case round =>
        clear HB0 hsl1
        obtain ⟨i, gc, hi, rfl, hBq, hbq⟩ := hrel
        have HQ : Hid (BkAt wr w.heap.size pc w.heap.size gc S) := hBq
        clear hBq
        by_cases hlt : i < 16
        · have hlt' : (i : Int) < 16 := by omega
          have HQd : Hid (BkAt wr.drew w.heap.size pc w.heap.size gc S) := HQ.out.below (Below.refl _ _).drew
          have hrow : RowAt wr.drew B (sl i) S.length := (HRW.out i hlt).keep (fun k hk => hbq.drew.block k ((HRW.out i hlt).lt hk).2)
          have HRo : Hid (RowAt wr.drew B (sl i) S.length) := hrow
          clear hrow
          go_wp2_with (first | (refine wpList_indexA rfl _ _ rfl sl i hlt rfl rfl ?_) | fail)
          refine wp_region_noPanic ?_
          refine wp_region_held_drew (S := fun _ => True) (by kernel_rfl) trivial (fun hHeld => ?_)
          refine wpAnyH_take (i := 0) (oi := { dst := some 34, op := Go.Op.move (Go.Operand.tmp 3), type := 23, pos := "oath.go:96", after := #[], guard := none }) (v := ?_) rfl (by kernel_rfl) (by kernel_rfl) (by kernel_rfl) (fun _ _ _ h => h) (Or.inl ⟨by rfl, ?_⟩) (by assumption) ?_
          rotate_left
          · intro wz hSw; (try dsimp only at hSw); go_simp; (try with_reducible rfl)
          try simp only [Act.put, List.setIfInBounds_toArray, List.set_cons_zero, List.set_cons_succ]
          refine wpAnyH_take (i := 1) (oi := { dst := some 35, op := Go.Op.move (Go.Operand.tmp 5), type := 3, pos := "oath.go:96", after := #[], guard := none }) (v := ?_) rfl (by kernel_rfl) (by kernel_rfl) (by kernel_rfl) (fun _ _ _ h => h) (Or.inl ⟨by rfl, ?_⟩) (by assumption) ?_
          rotate_left
          · intro wz hSw; (try dsimp only at hSw); go_simp; (try with_reducible rfl)
          try simp only [Act.put, List.setIfInBounds_toArray, List.set_cons_zero, List.set_cons_succ]
          refine wpAnyH_take (i := 2) (oi := { dst := some 36, op := Go.Op.move (Go.Operand.tmp 6), type := 47, pos := "oath.go:96", after := #[], guard := none }) (v := ?_) rfl (by kernel_rfl) (by kernel_rfl) (by kernel_rfl) (fun _ _ _ h => h) (Or.inl ⟨by rfl, ?_⟩) (by assumption) ?_
          rotate_left
          · intro wz hSw; (try dsimp only at hSw); go_simp; (try with_reducible rfl)
          try simp only [Act.put, List.setIfInBounds_toArray, List.set_cons_zero, List.set_cons_succ]
          refine wpAnyH_take (i := 4) (oi := { dst := some 38, op := Go.Op.nilCheck (Go.Operand.tmp 34), type := 0, pos := "oath.go:96", after := #[{ on := 0, ground := Go.Ground.data }], guard := none }) (v := ?_) rfl (by kernel_rfl) (by kernel_rfl) (by kernel_rfl) (fun _ _ _ h => h) (Or.inl ⟨by rfl, ?_⟩) (by assumption) ?_
          rotate_left
          · intro wz hSw; (try dsimp only at hSw); go_simp; (try with_reducible rfl)
          try simp only [Act.put, List.setIfInBounds_toArray, List.set_cons_zero, List.set_cons_succ]
          refine wpAnyH_take (i := 5) (oi := { dst := some 39, op := Go.Op.fieldAddr 50 (Go.Operand.tmp 38) 1, type := 0, pos := "oath.go:96", after := #[{ on := 4, ground := Go.Ground.data }], guard := none }) (v := ?_) rfl (by kernel_rfl) (by kernel_rfl) (by kernel_rfl) (fun _ _ _ h => h) (Or.inl ⟨by rfl, ?_⟩) (by assumption) ?_
          rotate_left
          · intro wz hSw; (try dsimp only at hSw); go_simp; (try with_reducible rfl)
          try simp only [Act.put, List.setIfInBounds_toArray, List.set_cons_zero, List.set_cons_succ]
          refine wpAnyH_ready (rs := [3]) (by kernel_rfl) (by simp) ?_
          refine (AllReadyH.cons (o := { dst := some 37, op := Go.Op.call { callee := Go.Callee.value (Go.Operand.func 19), args := #[Go.Operand.tmp 36], argTypes := #[47] }, type := 47, pos := "oath.go:96", after := #[{ on := 2, ground := Go.Ground.data }], guard := none }) rfl (fun K hK => ?_) AllReadyH.nil)
          go_simp
          refine (hclone_any (sl i) B S.length _ HRo.out hl).mono ?_
          rintro e w5 ⟨v', rfl, hr5, hb5, va, vn, vc, hvv⟩
          subst hvv
          have hQ5 : BkAt w5 w.heap.size pc w.heap.size gc S := HQd.out.below hb5
          have hsz := HQd.out.lt (mem_fpL.2 (.inl rfl))
          have hws : w.heap.size ≤ wr.heap.size := hbq.size
          obtain ⟨hQ6, hF6⟩ := hQ5.setRow hlt (hr5.base hws) (fun j hj hm => by have h1 := (hr5.lt hj).1; have h2 := (HQd.out.lt hm).2; simp at h1 h2; omega)
          have HE : Hid ((∃ gc', BkAt (w5.setCell ⟨pc, 1 + i, none⟩ (.slice va vn vc)) w.heap.size pc w.heap.size gc' S) ∧ Below w.heap.size w (w5.setCell ⟨pc, 1 + i, none⟩ (.slice va vn vc))) := ⟨⟨_, hQ6⟩, ((hbq.drew.trans (hb5.mono hws)).trans (hF6.below (Nat.le_trans hws hb5.size) (fun k hk => by simp at hk; subst hk; exact hsz.1)))⟩
          obtain ⟨sl5, d5, -⟩ := hQ5.cells
          have f5 : w5.frozen? ⟨pc, 1 + i, none⟩ = false := frozen_of_row w5 pc _ _ _ d5
          have k5 : w5.cell? ⟨pc, 1 + i, none⟩ = some (sl5 i) := by rw [cell_of_row w5 pc _ _ _ _ d5]; exact bkc_at _ sl5 hlt
          clear hQ6 hF6 hQ5 d5 hr5
          refine hK.out _ _ trivial (fun _ => ?_)
          clear hK K
          try simp only [Act.put, List.setIfInBounds_toArray, List.set_cons_zero, List.set_cons_succ]
          refine wpAnyH_take (i := 6) (oi := { dst := some 40, op := Go.Op.indexAddr 48 (Go.Operand.tmp 39) (Go.Operand.tmp 35), type := 0, pos := "oath.go:96", after := #[{ on := 5, ground := Go.Ground.data }, { on := 1, ground := Go.Ground.data }, { on := 0, ground := Go.Ground.phase }, { on := 1, ground := Go.Ground.phase }, { on := 2, ground := Go.Ground.phase }, { on := 3, ground := Go.Ground.phase }], guard := none }) (v := ?_) rfl (by kernel_rfl) (by kernel_rfl) (by kernel_rfl) (fun _ _ _ h => h) (Or.inl ⟨by rfl, ?_⟩) (by assumption) ?_
          rotate_left
          · intro wz hSw; (try dsimp only at hSw); go_simp; (try with_reducible rfl)
          try simp only [Act.put, List.setIfInBounds_toArray, List.set_cons_zero, List.set_cons_succ]
          refine wpAnyH_ready (rs := [7]) (by kernel_rfl) (by simp) ?_
          refine (AllReadyH.cons (o := { dst := none, op := Go.Op.store 47 (Go.Operand.tmp 40) (Go.Operand.tmp 37), type := 0, pos := "oath.go:96", after := #[{ on := 6, ground := Go.Ground.data }, { on := 3, ground := Go.Ground.data }, { on := 3, ground := Go.Ground.chain }, { on := 0, ground := Go.Ground.phase }, { on := 1, ground := Go.Ground.phase }, { on := 2, ground := Go.Ground.phase }, { on := 3, ground := Go.Ground.phase }], guard := none }) rfl (fun K hK => ?_) AllReadyH.nil)
          go_simp
          refine hK.out _ _ trivial (fun _ => ?_)
          clear hK K
          try simp only [Act.put, List.setIfInBounds_toArray, List.set_cons_zero, List.set_cons_succ]
          refine wpAnyH_done (by kernel_rfl) (NoPanic.normal ?_) _
          try simp only [Act.put, List.setIfInBounds_toArray, List.set_cons_zero, List.set_cons_succ]
          obtain ⟨⟨gc', hE1⟩, hE2⟩ := HE.out
          clear HE hb5
          go_wp2
          go_roundw
          case rel => exact ⟨i + 1, gc', by omega, by go_num, hE1, hE2⟩
          case measure => simp [intOf]; omega
        · obtain rfl : i = 16 := by omega
          have hQ := HQ.out
          clear HQ
          go_wp2
          go_ret
          exact ⟨_, _, _, rfl, hQ, hbq⟩
    · intro x kl' yd yp w3 cnt3 hkey hlk hv hat hrg3 hlt hg3 hs3 hen
      obtain ⟨hxk, hxz, rfl⟩ := key_bd hkey
      have hy1 : yd = .agg [] := by have := (unitElem_inv hv).2; simp at this; exact this.1
      have lO := HO.out.lt
      have hR3 : ClR w w3 := HR.out.frm (Frm.ofGrown hg3) (fun k hk => by simp at hk; omega)
      have hout3 : w3.ownsMap Tryd.prog 52 (unitElem (H := Unit)) w.heap.size (Maps.size D0 - cnt) Dout := owns_keep HO.out (hg3.block _ lO (by simp))
      have HR3 : Hid (ClR w w3 ∧ w3.ownsMap Tryd.prog 52 (unitElem (H := Unit)) w.heap.size (Maps.size D0 - cnt) Dout ∧ w3.ranges Tryd.prog 52 (unitElem (H := Unit)) m (w.heap.size + 2) S.length D0 (fun z => left z && !z.sameKey (kl x.k x.z)) cnt3) := ⟨hR3, hout3, hrg3⟩
      clear hg3 hR3 hout3 hrg3 HO
      go_wp2_with (first | (refine wpList_allocK rfl rfl ?_) | (refine wpList_storeK rfl _ _ rfl w3.heap.size rfl x.k x.z 0 nz _ rfl (heap_alloc_new w3 _) ?_; intro w4 hx4 hF4) | fail)
      have hF4' : Frm [w3.heap.size] w3 w4 := ((Frm.refl [w3.heap.size] w3).alloc _).trans hF4
      have s3 := HR3.out.1.size
      have hR4 : ClR w w4 := HR3.out.1.frm hF4' (fun k hk => by simp at hk; omega)
      have hout4 : w4.ownsMap Tryd.prog 52 (unitElem (H := Unit)) w.heap.size (Maps.size D0 - cnt) Dout := owns_keep HR3.out.2.1 (hF4'.block _ (by omega) (by simp; try omega))
      have lr := HR3.out.2.2.lt
      have hrg4 : w4.ranges Tryd.prog 52 (unitElem (H := Unit)) m (w.heap.size + 2) S.length D0 (fun z => left z && !z.sameKey (kl x.k x.z)) cnt3 := ranges_keep HR3.out.2.2 (hF4'.block _ (by omega) (by simp; try omega)) (hF4'.block _ lr (by simp; try omega))
      have houtd : w4.drew.ownsMap Tryd.prog 52 (unitElem (H := Unit)) w.heap.size (Maps.size D0 - cnt) Dout := hout4
      obtain ⟨w5, hrun5, hm5, hg5⟩ := houtd.update lawS (t := 46) Tryd.underlying46 (by simp [maxLen]; omega) (keyOfS hxk hxz) unitElem_mk
      have hR5 : ClR w w5 := (hR4.frm (T := []) (Frm.refl [] w4).drew (fun _ h => by cases h)).frm (Frm.ofGrown hg5) (fun k hk => by simp at hk; omega)
      have lx := lt_of_block hx4
      have hx5 : w5.heap[w3.heap.size]? = some (.cells (kv x.k x.z) 52 (0, 0)) := by rw [hg5.block _ lx (by simp; try omega)]; exact hx4
      have hrg5 : w5.ranges Tryd.prog 52 (unitElem (H := Unit)) m (w.heap.size + 2) S.length D0 (fun z => left z && !z.sameKey (kl x.k x.z)) cnt3 := ranges_keep hrg4 (hg5.block _ (by have := hrg4.owns.lt; exact this) (by simp; try omega)) (hg5.block _ (by have := hrg4.lt; exact this) (by simp; try omega))
      have c4 : w4.drew.cell? ⟨w.heap.size + 1, 0, none⟩ = some (.map (some w.heap.size)) := by rw [cell_of_row w4.drew _ 0 _ _ _ hR4.book]; simp [bkc]
      have c5 : w5.cell? ⟨w.heap.size + 1, 0, none⟩ = some (.map (some w.heap.size)) := by rw [cell_of_row w5 _ 0 _ _ _ hR5.book]; simp [bkc]
      have S4 : w4.drew.cell? ⟨w.heap.size + 1, 0, none⟩ = some (.map (some w.heap.size)) ∧ w4.drew.rangeAt w3.heap.size 0 x.l := ⟨c4, kv_rangeAt (w := w4.drew) hx4⟩
      have S5 : w5.cell? ⟨w.heap.size + 1, 0, none⟩ = some (.map (some w.heap.size)) ∧ w5.rangeAt w3.heap.size 0 x.l := ⟨c5, kv_rangeAt hx5⟩
      have HE : Hid (∃ (left' : Lit → Bool) (cnt' : Nat) (Dout' : DataW Unit), w5.ranges Tryd.prog 52 (unitElem (H := Unit)) m (w.heap.size + 2) S.length D0 left' cnt' ∧ cnt' ≤ Maps.size D0 ∧ w5.ownsMap Tryd.prog 52 (unitElem (H := Unit)) w.heap.size (Maps.size D0 - cnt') Dout' ∧ Agree Dout' D0 left' ∧ ClR w w5) := by
        refine ⟨_, cnt3, _, hrg5, by omega, hm5.mono (by omega), agree_step HA.out HR3.out.2.1.isMap (kl_key _ _) (fun zd => by rw [hat zd, hy1]), hR5⟩
      have HM : Hid (w5.rangeLeft m (w.heap.size + 2) < wr.rangeLeft m (w.heap.size + 2)) := by show _ < _; rw [hrg5.left_eq, hrg.left_eq]; exact hlt
      have hrun6 : (Instr.mapUpdate 46 (.map (some w.heap.size)) (.agg x.l.toArray) (.agg #[])).run Tryd.prog w4.drew = .ok () w5 := hrun5
      clear hrg5 hm5 hR5 hx5 c4 c5 hg5 hrg4 hout4 houtd hR4 hF4 hF4' hx4 HR3 hat hv hy1 hen hrg HA HR
      go_wp2_with fail
      refine wp_region_noPanic ?_
      refine wp_region_held_drew (S := fun w' => w'.cell? ⟨w.heap.size + 1, 0, none⟩ = some (.map (some w.heap.size)) ∧ w'.rangeAt w3.heap.size 0 x.l) (by kernel_rfl) S4 (fun hHeld => ?_)
      refine wpAnyH_take (i := 0) (oi := { dst := some 20, op := Go.Op.move (Go.Operand.tmp 3), type := 23, pos := "oath.go:93", after := #[], guard := none }) (v := ?_) rfl (by kernel_rfl) (by kernel_rfl) (by kernel_rfl) (fun _ _ _ h => h) (Or.inl ⟨by rfl, ?_⟩) (by assumption) ?_
      rotate_left
      · intro wz hSw; (try dsimp only at hSw); go_simp; (try with_reducible rfl)
      try simp only [Act.put, List.setIfInBounds_toArray, List.set_cons_zero, List.set_cons_succ]
      refine wpAnyH_take (i := 1) (oi := { dst := some 21, op := Go.Op.nilCheck (Go.Operand.tmp 20), type := 0, pos := "oath.go:93", after := #[{ on := 0, ground := Go.Ground.data }], guard := none }) (v := ?_) rfl (by kernel_rfl) (by kernel_rfl) (by kernel_rfl) (fun _ _ _ h => h) (Or.inl ⟨by rfl, ?_⟩) (by assumption) ?_
      rotate_left
      · intro wz hSw; (try dsimp only at hSw); go_simp; (try with_reducible rfl)
      try simp only [Act.put, List.setIfInBounds_toArray, List.set_cons_zero, List.set_cons_succ]
      refine wpAnyH_take (i := 2) (oi := { dst := some 22, op := Go.Op.fieldAddr 50 (Go.Operand.tmp 21) 0, type := 0, pos := "oath.go:93", after := #[{ on := 1, ground := Go.Ground.data }], guard := none }) (v := ?_) rfl (by kernel_rfl) (by kernel_rfl) (by kernel_rfl) (fun _ _ _ h => h) (Or.inl ⟨by rfl, ?_⟩) (by assumption) ?_
      rotate_left
      · intro wz hSw; (try dsimp only at hSw); go_simp; (try with_reducible rfl)
      try simp only [Act.put, List.setIfInBounds_toArray, List.set_cons_zero, List.set_cons_succ]
      refine wpAnyH_take (i := 3) (oi := { dst := some 23, op := Go.Op.load 46 (Go.Operand.tmp 22), type := 46, pos := "oath.go:93", after := #[{ on := 2, ground := Go.Ground.data }], guard := none }) (v := ?_) rfl (by kernel_rfl) (by kernel_rfl) (by kernel_rfl) (fun _ _ _ h => h) (Or.inl ⟨by rfl, ?_⟩) (by assumption) ?_
      rotate_left
      · intro wz hSw; (try dsimp only at hSw); go_simp; (try with_reducible rfl)
      try simp only [Act.put, List.setIfInBounds_toArray, List.set_cons_zero, List.set_cons_succ]
      refine wpAnyH_take (i := 4) (oi := { dst := some 24, op := Go.Op.load 52 (Go.Operand.tmp 4), type := 52, pos := "oath.go:93", after := #[], guard := none }) rfl (by kernel_rfl) (by kernel_rfl) (by kernel_rfl) (fun _ _ _ h => h) (yieldsIf_load_mid (by rfl) _ _ rfl w3.heap.size 0 rfl x.l _ (fun _ h => h.2) Tryd.underlying52 rfl (sg_size x)) (by assumption) ?_
      try simp only [Act.put, List.setIfInBounds_toArray, List.set_cons_zero, List.set_cons_succ]
      refine wpAnyH_take (i := 5) (oi := { dst := some 25, op := Go.Op.build 53 #[], type := 53, pos := "oath.go:93", after := #[], guard := none }) (v := .agg #[]) rfl (by kernel_rfl) (by kernel_rfl) (by kernel_rfl) (fun _ _ _ h => h) (Or.inl ⟨by rfl, ?_⟩) (by assumption) ?_
      · intro wz hSw; (try dsimp only at hSw); kernel_rfl
      try simp only [Act.put, List.setIfInBounds_toArray, List.set_cons_zero, List.set_cons_succ]
      refine wpAnyH_ready (rs := [6]) (by kernel_rfl) (by simp) ?_
      refine (AllReadyH.cons (o := { dst := none, op := Go.Op.mapUpdate 46 (Go.Operand.tmp 23) (Go.Operand.tmp 24) (Go.Operand.tmp 25), type := 0, pos := "oath.go:93", after := #[{ on := 3, ground := Go.Ground.data }, { on := 4, ground := Go.Ground.data }, { on := 5, ground := Go.Ground.data }, { on := 0, ground := Go.Ground.phase }, { on := 1, ground := Go.Ground.phase }, { on := 2, ground := Go.Ground.phase }, { on := 3, ground := Go.Ground.phase }, { on := 4, ground := Go.Ground.phase }, { on := 5, ground := Go.Ground.phase }], guard := none }) rfl (fun K hK => ?_) AllReadyH.nil)
      go_simp
      refine hK.out _ _ S5 (fun _ => ?_)
      clear hK K
      try simp only [Act.put, List.setIfInBounds_toArray, List.set_cons_zero, List.set_cons_succ]
      refine wpAnyH_done (by kernel_rfl) (NoPanic.normal ?_) _
      try simp only [Act.put, List.setIfInBounds_toArray, List.set_cons_zero, List.set_cons_succ]
      clear S4 S5 hHeld hrun5 hrun6
      go_wp2
      go_roundw
      case rel => exact HE.out
      case measure => exact HM.out
end Go.Proofs.YtlddjniofijnnaaDoor
