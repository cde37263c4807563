/- A queue's Events. -/
import Derived.Test.YthnobkiiaflelaaDoorOwnShelf45
import Derived.Test.YthnobkiiaflelaaDoorOwnShelf10
namespace Go.Proofs.YthnobkiiaflelaaDoor
open Go.RowKit Go.Maps Go.Sort

attribute [local go_sem ↓] Go.wp_at_zero Go.wp_at_succ

section
variable {ops : Array Oper} {o : Oper} {a : Act} {w : World} {K : Act → World → Prop} {Q : Exit → Act → World → Prop} {E : Prop}
theorem step_append_Er (hgd : o.guard = none) (s x : Operand) (ho : o.op = .call { callee := .builtin .append, args := #[s, x], argTypes := #[34, 34] })
    (B : Nat) (v : Value) (L : List Ev) (r c : Nat) (y : Ev) (hs : a.eval s = v) (hx : a.eval x = .slice (some ⟨r, 0, none⟩) 1 c) (hown : w.ownsRow B 58 3 v L.length (flatE L)) (hr : EvAt w (some ⟨r, 0, none⟩) [y]) (hn : L.length ≤ 100000) (hB : B ≤ w.heap.size)
    (hk : ∀ v' w1, w1.ownsRow B 58 3 v' (L ++ [y]).length (flatE (L ++ [y])) → w.grownBy w1 v.ownBlock → K (a.put o.dst v') w1) : if Region.wanted o (yielded ops a.tmps) = true then Oper.wp Tryd.prog o a w K Q else E := by
  have hw : Region.wanted o (yielded ops a.tmps) = true := by simp [Region.wanted, hgd]
  rw [if_pos hw]
  obtain ⟨i0, hi0, hz0, hz1, hz2⟩ := info_parts infoEw
  obtain ⟨v', w1, hrun, h2, h3, _, h5⟩ := run_append_own_at (P := Tryd.prog) w B 34 o.type 58 i0 (.agg #[.int .i64 0, .int .i64 0, .string ⟨#[]⟩]) 3 32 Tryd.underlying34 hi0 hz0 hz1 hz2 rfl (by decide) v L.length (flatE L) hown ⟨r, 0, none⟩ 1 c (evL y) rfl
    (fun j u hj => by
      obtain ⟨b, off, e, hc⟩ := hr (by simp)
      cases e
      obtain ⟨c0, c1, c2⟩ := hc 0 y rfl
      have hj3 : j < 3 := by have := (List.getElem?_eq_some_iff.1 hj).1; simpa [evL] using this
      rw [Addr.add_lit]
      rcases j with _ | _ | _ | j
      · cases hj; exact c0
      · cases hj; exact c1
      · cases hj; exact c2
      · omega) (fun u hu => by simp [evL] at hu; rcases hu with rfl | rfl | rfl <;> rfl) (by unfold maxLen; omega) (by omega) hB
  unfold Oper.wp execOp
  simp only [ho, resolve, invoke, builtin, Sem.run_bind, Sem.run_pure, Result.andThen_ok, List.map_toArray, List.map_cons, List.map_nil, hs, hx, hrun]
  refine hk v' w1 ?_ h3
  rw [flatE_append, List.length_append]
  exact h2
end
/-- While the events are laid down: the variable's box, its row. -/
structure EvI (w wr : World) (lv : Value) (M : List Ev) : Prop where
  box : wr.heap[w.heap.size]? = some (.cells #[lv] 34 (0, 0))
  row : wr.ownsRow (w.heap.size + 1) 58 3 lv M.length (flatE M)
  below : Below w.heap.size w wr
theorem EvI.far {w wr : World} {lv : Value} {M : List Ev} (h : EvI w wr lv M) : ∀ k, lv.ownBlock = some k → w.heap.size < k := fun k e => by
  have := (h.row.lt k e).1; omega
theorem EvI.c0 {w wr : World} {lv : Value} {M : List Ev} (h : EvI w wr lv M) : wr.cell? ⟨w.heap.size, 0, none⟩ = some lv ∧ wr.frozen? ⟨w.heap.size, 0, none⟩ = false := ⟨by rw [cell_of_row _ _ 0 _ _ _ h.box]; rfl, by simp [World.frozen?, h.box]⟩
theorem TotE.of {n : Nat} {a : Nat → Ev} (h : (rowA n a).Pairwise fun x y => x.id ≠ y.id) : TotE n a := by
  have e : segA 0 n a = rowA n a := by
    unfold segA rowA
    rw [Nat.sub_zero]
    exact List.map_congr_left fun k _ => by rw [Nat.zero_add]
  unfold TotE
  rw [e]
  refine h.imp fun {x y} hne => ?_
  by_cases hl : ltE x y = true
  · exact .inl hl
  · right
    have := ltE_not.1 (by simpa using hl : ltE x y = false)
    rw [ltE_iff]
    omega
theorem sort_unique {n : Nat} {d : Nat → Ev} {L : List Ev} (hp : (rowA n d).Perm L) (hs : SortR 0 n d) (ht : TotE n d) (hu : UpE L) : rowA n d = L := by
  refine UpE.ext ?_ hu hp
  unfold UpE rowA
  rw [List.pairwise_map, List.pairwise_iff_getElem]
  intro i j hi hj hij
  simp only [List.length_range] at hi hj
  simp only [List.getElem_range]
  rcases ht.at hij hj with h | h
  · exact h
  · rw [hs i j (Nat.zero_le _) hij hj] at h; cases h
end Go.Proofs.YthnobkiiaflelaaDoor
/- A queue's Events: the walk (made by tools/mkevs.py). -/
namespace Go.Proofs.YthnobkiiaflelaaDoor
open Go.RowKit Go.Maps Go.Sort

attribute [local go_sem ↓] Go.wp_at_zero Go.wp_at_succ

set_option maxHeartbeats 800000 in
theorem nEvents_any (w : World) : Calls Tryd.prog 13 #[.pointer none] w fun e w' => e = .returned (.slice none 0 0) ∧ w' = w := by
  go_enter Tryd.func13, Tryd.ntmps13
  go_wp2
  go_ret
  exact ⟨rfl, rfl⟩
structure EvR (A : Nat → Prop) (p : Nat) (L : List Ev) (last : Int) (w : World) (e : Ending) (w' : World) : Prop where
  mk :: (out : ∃ A' ad cap, e = .returned (.slice ad L.length cap) ∧ Qr Qs A p L last w w' A' ∧ EvAt w' ad L ∧ (∀ a, ad = some a → ¬ A' a.block ∧ w.heap.size ≤ a.block) ∧ L.length ≤ cap)
set_option maxRecDepth 100000 in
set_option maxHeartbeats 3200000 in
theorem events_run {w : World} {A : Nat → Prop} {p : Nat} {L : List Ev} {last : Int} {m : Nat} {β : Int → Nat} {R : Nat → Prop} {n : Nat} {a : Nat → Ev} {D : DataW Unit} (h : QP w A p L last m β R n a D) (hl : last ≤ 1000) :
    Calls Tryd.prog 13 #[.pointer (some ⟨p, 0, none⟩)] w (EvR A p L last w) := by
  have HH : Hid (QP w A p L last m β R n a D) := h
  have hnL := h.len
  have hle := h.ok.le
  have hn : n ≤ 1000 := by omega
  obtain ⟨v, hq, ad, cap, rfl⟩ := h.cell
  have c1 : w.cell? ⟨p, 1, none⟩ = some (.slice ad n cap) := by rw [cell_of_row _ _ 1 _ _ _ hq]; rfl
  have hpl := lt_of_block hq
  obtain ⟨W0, hW0⟩ : ∃ W0, w.alloc (.cells #[.slice none 0 0] 34) = W0 := ⟨_, rfl⟩
  have hb0 : Below w.heap.size w W0 := by rw [← hW0]; exact (Below.refl _ w).alloc (Nat.le_refl _) _
  have H0 : Hid (EvI w W0 (.slice none 0 0) (rowA 0 a)) := ⟨by rw [← hW0]; exact heap_alloc_new w _, World.ownsRow_nil _ _ _ _, hb0⟩
  have c1' : W0.cell? ⟨p, 1, none⟩ = some (.slice ad n cap) := by rw [hb0.cell (p := ⟨p, 1, none⟩) hpl]; exact c1
  have HC1 : Hid (w.cell? ⟨p, 1, none⟩ = some (.slice ad n cap)) := c1
  have HN : Hid (n = L.length ∧ (L.length : Int) ≤ last) := ⟨hnL, hle⟩
  clear h hq hb0 hpl c1 hnL hle
  go_enter Tryd.func13, Tryd.ntmps13
  go_wp2_with fail
  go_loopw [5, 13] (fun _ iv wr => ∃ (i : Nat) (lv : Value), i ≤ n ∧ iv = .int .i64 i ∧ EvI w wr lv (rowA i a)) (fun _ iv _ => n - (intOf iv).toNat)
  case atStart => exact ⟨0, _, Nat.zero_le _, rfl, H0.out⟩
  case round =>
    clear H0
    obtain ⟨i, lv, hi, rfl, hI⟩ := hrel
    by_cases hlt : i < n
    · have hlt' : (i : Int) < n := by omega
      obtain ⟨g, cap', e, hRg, hgl, hc, hcap', -, -⟩ := HH.out.wt.row HC1.out (by omega)
      cases e
      have ci : wr.cell? ⟨g, i, none⟩ = some (.pointer (some ⟨β (a i).id, 0, none⟩)) := by rw [hI.below.cell (p := ⟨g, i, none⟩) hgl]; exact hc i hlt
      obtain ⟨y0, y1, y2, -, -⟩ := HH.out.wt.item hlt
      have hbl := lt_of_block (HH.out.wt.pl i hlt).2
      have hrl : (rowA i a).length = i := rowA_length i a
      obtain ⟨la, lc, hlv, -, -⟩ := row_form hI.row
      rw [hrl] at hlv
      subst hlv
      obtain ⟨be, hbe⟩ : ∃ z, β (a i).id = z := ⟨_, rfl⟩
      obtain ⟨xi, hxi⟩ : ∃ z, (a i).id = z := ⟨_, rfl⟩
      obtain ⟨xd, hxd⟩ : ∃ z, (a i).due = z := ⟨_, rfl⟩
      obtain ⟨xn, hxn⟩ : ∃ z, (a i).nm = z := ⟨_, rfl⟩
      have hx : a i = ⟨xi, xd, xn⟩ := by rw [← hxi, ← hxd, ← hxn]
      rw [hbe] at ci y0 y1 y2 hbl
      rw [hxi] at y0
      rw [hxd] at y1
      rw [hxn] at y2
      have HS : Hid (∀ W : World, Below w.heap.size w W → W.cell? ⟨be, 0, none⟩ = some (.int .i64 xi) ∧ W.cell? ⟨be, 1, none⟩ = some (.int .i64 xd) ∧ W.cell? ⟨be, 2, none⟩ = some (encStr xn)) := fun W hb =>
        ⟨by rw [hb.cell (p := ⟨be, 0, none⟩) hbl]; exact y0, by rw [hb.cell (p := ⟨be, 1, none⟩) hbl]; exact y1, by rw [hb.cell (p := ⟨be, 2, none⟩) hbl]; exact y2⟩
      have HI : Hid (EvI w wr (.slice la i lc) (rowA i a)) := hI
      have HX : Hid (a i = ⟨xi, xd, xn⟩ ∧ rowA (i + 1) a = rowA i a ++ [⟨xi, xd, xn⟩]) := ⟨hx, by rw [rowA_succ, hx]⟩
      clear hc y0 y1 y2 hbl hI hx hbe hxi hxd hxn hRg hgl
      go_upto_region 7 with fail
      obtain ⟨wd, hwd⟩ : ∃ wd, wr.drew = wd := ⟨_, rfl⟩
      have HD : Hid (EvI w wd (.slice la i lc) (rowA i a)) := by rw [← hwd]; exact ⟨HI.out.box, HI.out.row, HI.out.below.drew⟩
      refine wp_region_noPanic ?_
      refine wp_region_K (S := fun w' => w'.cell? ⟨w.heap.size, 0, none⟩ = some (.slice la i lc) ∧ w'.cell? ⟨be, 0, none⟩ = some (.int .i64 xi) ∧ w'.cell? ⟨be, 1, none⟩ = some (.int .i64 xd) ∧ w'.cell? ⟨be, 2, none⟩ = some (encStr xn)) 7 (by kernel_rfl) (by rw [hwd]; exact ⟨HD.out.c0.1, HS.out _ HD.out.below⟩) (fun hHeld => ?_)
      rw [hwd] at hHeld ⊢
      clear hwd ci HI
      refine wpAnyK_take (by kernel_rfl) (i := 0) (oi := { dst := some 17, op := Go.Op.load 34 (Go.Operand.tmp 3), type := 34, pos := "timer.go:91", after := #[], guard := none }) (v := .slice la i lc) rfl (by kernel_rfl) (by kernel_rfl) (by kernel_rfl) (fun _ _ _ h => h) (Or.inl ⟨by rfl, ?_⟩) (by assumption) ?_
      · intro wz hSw; (try dsimp only at hSw); have h1 := hSw.1; go_simp; try rfl
      try simp only [Act.put, List.setIfInBounds_toArray, List.set_cons_zero, List.set_cons_succ]
      refine wpAnyK_take (by kernel_rfl) (i := 1) (oi := { dst := some 18, op := Go.Op.move (Go.Operand.tmp 5), type := 66, pos := "timer.go:91", after := #[], guard := none }) (v := ?_) rfl (by kernel_rfl) (by kernel_rfl) (by kernel_rfl) (fun _ _ _ h => h) (Or.inl ⟨by rfl, ?_⟩) (by assumption) ?_
      rotate_left
      · intro wz hSw; (try dsimp only at hSw); go_simp; (try with_reducible rfl)
      try simp only [Act.put, List.setIfInBounds_toArray, List.set_cons_zero, List.set_cons_succ]
      refine wpAnyK_take (by kernel_rfl) (i := 2) (oi := { dst := some 19, op := Go.Op.nilCheck (Go.Operand.tmp 18), type := 0, pos := "timer.go:91", after := #[{ on := 1, ground := Go.Ground.data }], guard := none }) (v := ?_) rfl (by kernel_rfl) (by kernel_rfl) (by kernel_rfl) (fun _ _ _ h => h) (Or.inl ⟨by rfl, ?_⟩) (by assumption) ?_
      rotate_left
      · intro wz hSw; (try dsimp only at hSw); go_simp; (try with_reducible rfl)
      try simp only [Act.put, List.setIfInBounds_toArray, List.set_cons_zero, List.set_cons_succ]
      refine wpAnyK_take (by kernel_rfl) (i := 3) (oi := { dst := some 20, op := Go.Op.fieldAddr 69 (Go.Operand.tmp 19) 0, type := 0, pos := "timer.go:91", after := #[{ on := 2, ground := Go.Ground.data }], guard := none }) (v := ?_) rfl (by kernel_rfl) (by kernel_rfl) (by kernel_rfl) (fun _ _ _ h => h) (Or.inl ⟨by rfl, ?_⟩) (by assumption) ?_
      rotate_left
      · intro wz hSw; (try dsimp only at hSw); go_simp; (try with_reducible rfl)
      try simp only [Act.put, List.setIfInBounds_toArray, List.set_cons_zero, List.set_cons_succ]
      refine wpAnyK_take (by kernel_rfl) (i := 4) (oi := { dst := some 21, op := Go.Op.load 58 (Go.Operand.tmp 20), type := 58, pos := "timer.go:91", after := #[{ on := 3, ground := Go.Ground.data }], guard := none }) (v := .agg #[.int .i64 xi, .int .i64 xd, encStr xn]) rfl (by kernel_rfl) (by kernel_rfl) (by kernel_rfl) (fun _ _ _ h => h) (Or.inl ⟨by rfl, ?_⟩) (by assumption) ?_
      · intro wz hSw; (try dsimp only at hSw); obtain ⟨-, h1, h2, h3⟩ := hSw; go_simp; try rfl
      try simp only [Act.put, List.setIfInBounds_toArray, List.set_cons_zero, List.set_cons_succ]
      refine wpAnyK_ready (rs := [5]) (by kernel_rfl) (by simp) ?_
      refine (AllReadyK.cons (o := { dst := some 22, op := Go.Op.buildSlice 34 1 #[(0, Go.Operand.tmp 21)], type := 34, pos := "timer.go:91", after := #[{ on := 4, ground := Go.Ground.data }], guard := none }) rfl (fun K hK => ?_) AllReadyK.nil)
      refine step_sliceEw rfl (.tmp 21) rfl xi xd xn (by rfl) ?_
      obtain ⟨w2, hw2⟩ : ∃ w2, wd.alloc (.cells #[.int .i64 xi, .int .i64 xd, encStr xn] 58) = w2 := ⟨_, rfl⟩
      have hb2 : Below wd.heap.size wd w2 := by rw [← hw2]; exact (Below.refl _ wd).alloc (Nat.le_refl _) _
      have hone : EvAt w2 (some ⟨wd.heap.size, 0, none⟩) [⟨xi, xd, xn⟩] := by rw [← hw2]; exact EvAt.oneW ⟨xi, xd, xn⟩ wd
      have hI2 : EvI w w2 (.slice la i lc) (rowA i a) := ⟨(hb2.block _ (lt_of_block HD.out.box)).trans HD.out.box, owns_row_keep HD.out.row fun k e => hb2.block k (HD.out.row.lt k e).2, Below.transS HD.out.below hb2⟩
      rw [hw2]
      refine hK.out _ _ (fun _ => ⟨hI2.c0.1, HS.out _ hI2.below⟩) (fun _ => ?_)
      clear hK K
      try simp only [Act.put, List.setIfInBounds_toArray, List.set_cons_zero, List.set_cons_succ]
      refine wpAnyK_ready (rs := [6]) (by kernel_rfl) (by simp) ?_
      refine (AllReadyK.cons (o := { dst := some 23, op := Go.Op.call { callee := Go.Callee.builtin Go.Builtin.append, args := #[Go.Operand.tmp 17, Go.Operand.tmp 22], argTypes := #[34, 34] }, type := 34, pos := "timer.go:91", after := #[{ on := 0, ground := Go.Ground.data }, { on := 5, ground := Go.Ground.data }], guard := none }) rfl (fun K hK => ?_) AllReadyK.nil)
      refine step_append_Er rfl (.tmp 17) (.tmp 22) rfl (w.heap.size + 1) (.slice la i lc) (rowA i a) wd.heap.size 1 ⟨xi, xd, xn⟩ (by rfl) (by rfl) hI2.row hone (by rw [rowA_length]; omega) (by have := lt_of_block hI2.box; omega) ?_
      intro v3 w3 hr3 hg3
      have hne3 : ∀ k, k ≤ w.heap.size → some k ≠ (Value.slice la i lc).ownBlock := fun k hk e => by have := hI2.far k e.symm; omega
      have hb3 : Below w.heap.size w w3 := hI2.below.trans ⟨hg3.os, hg3.tape, hg3.output, hg3.size, fun k hk => hg3.block k (Nat.lt_of_lt_of_le hk hI2.below.size) (hne3 k (by omega))⟩
      have hx3 : w3.heap[w.heap.size]? = some (.cells #[.slice la i lc] 34 (0, 0)) := (hg3.block _ (lt_of_block hI2.box) (hne3 _ (Nat.le_refl _))).trans hI2.box
      have s3 : w3.cell? ⟨w.heap.size, 0, none⟩ = some (.slice la i lc) := by rw [cell_of_row _ _ 0 _ _ _ hx3]; rfl
      have f3 : w3.frozen? ⟨w.heap.size, 0, none⟩ = false := by simp [World.frozen?, hx3]
      refine hK.out _ _ (fun _ => ⟨s3, HS.out _ hb3⟩) (fun _ => ?_)
      clear hK K
      try simp only [Act.put, List.setIfInBounds_toArray, List.set_cons_zero, List.set_cons_succ]
      obtain ⟨ga, gc, hv3, -, hgf⟩ := row_form hr3
      have hl3 : (rowA i a ++ [(⟨xi, xd, xn⟩ : Ev)]).length = i + 1 := by rw [List.length_append, rowA_length]; rfl
      rw [hl3] at hv3
      subst hv3
      have HN3 : Hid (EvI w (w3.setCell ⟨w.heap.size, 0, none⟩ (.slice ga (i + 1) gc)) (.slice ga (i + 1) gc) (rowA (i + 1) a)) := by
        refine ⟨by rw [heap_setCell_same _ _ 0 _ _ _ hx3]; rfl, ?_, hb3.setCell (Nat.le_refl w.heap.size) _⟩
        rw [HX.out.2]
        exact owns_row_keep hr3 fun k e => setc _ _ _ _ (fun e2 => by have := (hr3.lt k e).1; omega)
      clear hr3 hg3 hne3 hb3 hx3 hgf hl3 hI2 hone hb2 HD HS hw2 hrl
      refine wpAnyK_ready (rs := [7]) (by kernel_rfl) (by simp) ?_
      refine (AllReadyK.cons (o := { dst := none, op := Go.Op.store 34 (Go.Operand.tmp 3) (Go.Operand.tmp 23), type := 0, pos := "timer.go:91", after := #[{ on := 6, ground := Go.Ground.data }, { on := 6, ground := Go.Ground.chain }, { on := 0, ground := Go.Ground.phase }, { on := 1, ground := Go.Ground.phase }, { on := 2, ground := Go.Ground.phase }, { on := 3, ground := Go.Ground.phase }, { on := 4, ground := Go.Ground.phase }, { on := 5, ground := Go.Ground.phase }, { on := 6, ground := Go.Ground.phase }], guard := none }) rfl (fun K hK => ?_) AllReadyK.nil)
      go_simp
      refine hK.out _ _ (fun e => absurd rfl e) (fun _ => ?_)
      clear hK K
      try simp only [Act.put, List.setIfInBounds_toArray, List.set_cons_zero, List.set_cons_succ]
      refine wpAnyK_done (by kernel_rfl) (NoPanic.normal ?_) _
      try simp only [Act.put, List.setIfInBounds_toArray, List.set_cons_zero, List.set_cons_succ]
      clear hHeld s3 f3
      generalize w3.setCell ⟨w.heap.size, 0, none⟩ (.slice ga (i + 1) gc) = w4 at *
      go_wp2
      exact ⟨⟨i + 1, _, by omega, by go_num, HN3.out⟩, by simp [intOf]; omega⟩
    · obtain rfl : i = n := by omega
      have hlt' : ¬ ((i : Int) < i) := by omega
      have hrl : (rowA i a).length = i := rowA_length i a
      obtain ⟨la, lc, hlv, hlc, hlf⟩ := row_form hI.row
      rw [hrl] at hlv hlc
      subst hlv
      have HI : Hid (EvI w wr (.slice la i lc) (rowA i a)) := hI
      have s0 := hI.c0.1
      have HL : Hid (i = L.length) := HN.out.1
      have HFIN : Hid (∀ (w5 : World) (d' : Nat → Ev), Below w.heap.size w w5 → EvAt w5 la (rowA i d') → (rowA i d').Perm (rowA i a) → SortR 0 i d' → TotE i d' → EvR A p L last w (.returned (.slice la i lc)) w5) := fun w5 d' hb hev hpm hs ht => by
        have e := sort_unique (hpm.trans HH.out.perm) hs ht HH.out.ok.up
        rw [e] at hev
        refine ⟨A, la, lc, by rw [HL.out], HH.out.same hb, hev, fun b e => ⟨fun hA => ?_, ?_⟩, by rw [← HL.out]; exact hlc⟩
        · have := HH.out.low _ hA
          have := (hlf b e).2
          omega
        · have := (hlf b e).2
          omega
      have HT : Hid (TotE i a) := TotE.of HH.out.wt.ids
      by_cases h2 : 2 ≤ i
      · obtain ⟨gb, rfl, hgb⟩ : ∃ gb, la = some ⟨gb, 0, none⟩ ∧ w.heap.size < gb := by
          have hrow := hI.row.2
          rw [hrl] at hrow
          rcases hrow with ⟨e, e2⟩ | ⟨gb, cp, cur, e, hB, _⟩
          · omega
          · cases e; exact ⟨gb, rfl, by omega⟩
        have hes : EvS gb w.heap.size i lc wr a := by
          refine ⟨?_, hI.box⟩
          have hrow := hI.row.2
          rw [hrl] at hrow
          rcases hrow with ⟨e, e2⟩ | ⟨g', cp, cur, e, hB, hg, hcp, hm, hsz, ht⟩
          · omega
          · cases e
            refine ⟨cur, hg, by omega, fun k hk => ?_⟩
            have hx : (rowA i a)[k]? = some (a k) := by simp [rowA, List.getElem?_map, List.getElem?_range hk]
            have hf := flatE_get (rowA i a) k (a k) hx
            have hget : ∀ j, j < i * 3 → cur[j]? = (flatE (rowA i a))[j]? := fun j hj => by rw [← ht, List.getElem?_take_of_lt hj, Array.getElem?_toList]
            exact ⟨by rw [hget _ (by omega)]; exact hf.1, by rw [hget _ (by omega)]; exact hf.2.1, by rw [hget _ (by omega)]; exact hf.2.2⟩
        have hc := sortS_any wr a hes (by omega) hlc (by omega) HT.out h2
        have HG : Hid (w.heap.size < gb) := hgb
        clear hI hes hlf hgb
        go_wp2_with fail
        refine hc.mono ?_
        rintro e w5 ⟨rfl, d', hs5, hp5, ho5, hf5⟩
        have s5 : w5.cell? ⟨w.heap.size, 0, none⟩ = some (.slice (some ⟨gb, 0, none⟩) i lc) := by rw [cell_of_row _ _ 0 _ _ _ hs5.box]; rfl
        have HE : Hid (EvR A p L last w (.returned (.slice (some ⟨gb, 0, none⟩) i lc)) w5) := by
          have hseg : ∀ f : Nat → Ev, segA 0 i f = rowA i f := fun f => by
            unfold segA rowA
            rw [Nat.sub_zero]
            exact List.map_congr_left fun k _ => by rw [Nat.zero_add]
          have hpm := hp5.perm
          rw [hseg, hseg] at hpm
          refine HFIN.out w5 d' (HI.out.below.trans (hf5.below HI.out.below.size (fun k e => by have := HG.out; omega))) (fun _ => ⟨gb, 0, rfl, fun j x hx => ?_⟩) hpm ho5 (HT.out.perm hp5 (Nat.zero_le _) (Nat.le_refl _))
          have hj : j < i := by have := (List.getElem?_eq_some_iff.1 hx).1; rwa [rowA_length] at this
          have hxx : x = d' j := by simp [rowA, List.getElem?_map, List.getElem?_range hj] at hx; exact hx.symm
          obtain ⟨k1, k2, k3, _⟩ := hs5.cells hj
          rw [hxx]
          simp only [Nat.zero_add]
          exact ⟨k1, k2, k3⟩
        clear hc hs5 hp5 ho5 hf5 HFIN HI
        go_wp2
        go_ret
        exact HE.out
      · have hc := sortS_tiny (ad := la) (bs := w.heap.size) (n := i) (cap := lc) wr (by omega)
        clear hI hlf
        go_wp2_with fail
        refine hc.mono ?_
        rintro e w5 ⟨rfl, hb5⟩
        have s5 : w5.cell? ⟨w.heap.size, 0, none⟩ = some (.slice la i lc) := by rw [hb5.cell (p := ⟨w.heap.size, 0, none⟩) (lt_of_block HI.out.box)]; exact HI.out.c0.1
        have HE : Hid (EvR A p L last w (.returned (.slice la i lc)) w5) := by
          have hrow := HI.out.row
          rw [hrl] at hrow
          refine HFIN.out w5 a (Below.transS HI.out.below hb5) (EvAt.below ?_ hb5) (List.Perm.refl _) (sort_short a (by omega)) HT.out
          exact row_at HI.out.row
        clear hc hb5 HFIN HI
        go_wp2
        go_ret
        exact HE.out
end Go.Proofs.YthnobkiiaflelaaDoor
