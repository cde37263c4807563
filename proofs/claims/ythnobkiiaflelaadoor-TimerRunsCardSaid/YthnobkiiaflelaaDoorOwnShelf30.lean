/- A queue's Add: the walk. -/
import Derived.Test.YthnobkiiaflelaaDoorOwnShelf29
namespace Go.Proofs.YthnobkiiaflelaaDoor
open Go.RowKit Go.Maps Go.Sort Go.ChangeMaps Go.MapKept

attribute [local go_sem ↓] Go.wp_at_zero Go.wp_at_succ

theorem qLast {W : World} {p m : Nat} {last : Int} {u : Value} (h : W.heap[p]? = some (.cells #[.int .i64 last, u, .map (some m)] 65 (0, 0))) (l : Int) : (W.setCell ⟨p, 0, none⟩ (.int .i64 l)).heap[p]? = some (.cells #[.int .i64 l, u, .map (some m)] 65 (0, 0)) := by
  rw [heap_setCell_same _ _ 0 _ _ _ h]; rfl
theorem qCells {W : World} {p m : Nat} {last : Int} {u : Value} (h : W.heap[p]? = some (.cells #[.int .i64 last, u, .map (some m)] 65 (0, 0))) : W.cell? ⟨p, 0, none⟩ = some (.int .i64 last) ∧ W.cell? ⟨p, 1, none⟩ = some u ∧ W.cell? ⟨p, 2, none⟩ = some (.map (some m)) ∧ ∀ o, W.frozen? ⟨p, o, none⟩ = false :=
  ⟨by rw [cell_of_row _ _ 0 _ _ _ h]; rfl, by rw [cell_of_row _ _ 1 _ _ _ h]; rfl, by rw [cell_of_row _ _ 2 _ _ _ h]; rfl, fun o => by simp [World.frozen?, h]⟩
set_option maxRecDepth 100000 in
set_option maxHeartbeats 3200000 in
theorem add_run {w : World} {A : Nat → Prop} {p : Nat} {L : List Ev} {last : Int} {m : Nat} {β : Int → Nat} {R : Nat → Prop} {n : Nat} {a : Nat → Ev} {D : DataW Unit} (h : QP w A p L last m β R n a D) (due : Int) (nm : List UInt8) (hl : last < 1000) :
    Calls Tryd.prog 6 #[.pointer (some ⟨p, 0, none⟩), .int .i64 due, encStr nm] w fun e w' => ∃ A', e = .returned (.tuple #[.int .i64 (addI last due nm), errV (addE due nm)]) ∧ Qr Qs A p (addL last due nm L) (addN last due nm) w w' A' := by
  have hs := h.same (Below.refl _ w)
  by_cases hE : addE due nm = 0
  · have hd : 0 ≤ due ∧ due ≤ 1099511627776 ∧ nm.length ≤ 64 := by
      unfold addE at hE
      split at hE
      · cases hE
      · split at hE
        · cases hE
        · omega
    obtain ⟨hd0, hd1, hn6⟩ := hd
    have e1 : addI last due nm = last + 1 := by simp [addI, hE]
    have e2 : addN last due nm = last + 1 := by simp [addN, hE]
    have e3 : addL last due nm L = insE ⟨last + 1, due, nm⟩ L := by simp [addL, hE]
    rw [e1, e2, e3, hE]
    clear e1 e2 e3 hE hs
    have hnn := h.ok.nn
    obtain ⟨v, hq, ad, cap, hv⟩ := h.cell
    obtain ⟨p0, p1, p2, pf⟩ := qCells hq
    have f0 := pf 0
    obtain ⟨w1, hw1⟩ : ∃ w1, w.setCell ⟨p, 0, none⟩ (.int .i64 (last + 1)) = w1 := ⟨_, rfl⟩
    have hq1 : w1.heap[p]? = some (.cells #[.int .i64 (last + 1), v, .map (some m)] 65 (0, 0)) := by rw [← hw1]; exact qLast hq _
    have HH : Hid (QP w A p L last m β R n a D) := h
    have hFr1 : ∀ k, k ≠ p → w1.heap[k]? = w.heap[k]? := fun k hk => by rw [← hw1, setc _ _ _ _ hk]
    have hsz1 : w1.heap.size = w.heap.size := by rw [← hw1]; simp [World.setCell]
    have hos1 : w1.os = w.os ∧ w1.tape = w.tape ∧ w1.output = w.output := by rw [← hw1]; exact ⟨rfl, rfl, rfl⟩
    have H1 : Hid (w1.heap[p]? = some (.cells #[.int .i64 (last + 1), v, .map (some m)] 65 (0, 0)) ∧ (∀ k, k ≠ p → w1.heap[k]? = w.heap[k]?) ∧ w1.heap.size = w.heap.size ∧ w1.os = w.os ∧ w1.tape = w.tape ∧ w1.output = w.output ∧ v = .slice ad n cap ∧ w.cell? ⟨p, 1, none⟩ = some v) := ⟨hq1, hFr1, hsz1, hos1.1, hos1.2.1, hos1.2.2, hv, p1⟩
    have hnl : ¬ ((nm.length : Int) > 64) := by omega
    have hcl := cloneS_any nm w1.drew (by omega)
    have HP1 : Hid (w1.cell? ⟨p, 0, none⟩ = some (.int .i64 (last + 1))) := (qCells hq1).1
    clear h hq hq1 hFr1 hsz1 hos1 hv p1 p2 pf
    go_enter Tryd.func6, Tryd.ntmps6
    go_upto_region 8 with fail
    refine wp_region_noPanic ?_
    refine wp_region_held_drew (S := fun W => W.cell? ⟨p, 0, none⟩ = some (.int .i64 (last + 1))) (by kernel_rfl) HP1.out (fun hHeld => ?_)
    refine wpAnyH_take (i := 0) (oi := { dst := some 33, op := Go.Op.move (Go.Operand.tmp 0), type := 23, pos := "timer.go:45", after := #[], guard := none }) (v := ?_) rfl (by kernel_rfl) (by kernel_rfl) (by kernel_rfl) (fun _ _ _ h => h) (Or.inl ⟨by rfl, ?_⟩) (by assumption) ?_
    rotate_left
    · intro wz hSw; (try dsimp only at hSw); go_simp; (try with_reducible rfl)
    try simp only [Act.put, List.setIfInBounds_toArray, List.set_cons_zero, List.set_cons_succ]
    refine wpAnyH_take (i := 1) (oi := { dst := some 34, op := Go.Op.nilCheck (Go.Operand.tmp 33), type := 0, pos := "timer.go:45", after := #[{ on := 0, ground := Go.Ground.data }], guard := none }) (v := ?_) rfl (by kernel_rfl) (by kernel_rfl) (by kernel_rfl) (fun _ _ _ h => h) (Or.inl ⟨by rfl, ?_⟩) (by assumption) ?_
    rotate_left
    · intro wz hSw; (try dsimp only at hSw); go_simp; (try with_reducible rfl)
    try simp only [Act.put, List.setIfInBounds_toArray, List.set_cons_zero, List.set_cons_succ]
    refine wpAnyH_take (i := 2) (oi := { dst := some 35, op := Go.Op.fieldAddr 65 (Go.Operand.tmp 34) 0, type := 0, pos := "timer.go:45", after := #[{ on := 1, ground := Go.Ground.data }], guard := none }) (v := ?_) rfl (by kernel_rfl) (by kernel_rfl) (by kernel_rfl) (fun _ _ _ h => h) (Or.inl ⟨by rfl, ?_⟩) (by assumption) ?_
    rotate_left
    · intro wz hSw; (try dsimp only at hSw); go_simp; (try with_reducible rfl)
    try simp only [Act.put, List.setIfInBounds_toArray, List.set_cons_zero, List.set_cons_succ]
    refine wpAnyH_take (i := 3) (oi := { dst := some 36, op := Go.Op.load 3 (Go.Operand.tmp 35), type := 3, pos := "timer.go:45", after := #[{ on := 2, ground := Go.Ground.data }], guard := none }) (v := .int .i64 (last + 1)) rfl (by kernel_rfl) (by kernel_rfl) (by kernel_rfl) (fun _ _ _ h => h) (Or.inl ⟨by rfl, ?_⟩) (by assumption) ?_
    · intro wz hSw; (try dsimp only at hSw); go_simp; try rfl
    try simp only [Act.put, List.setIfInBounds_toArray, List.set_cons_zero, List.set_cons_succ]
    refine wpAnyH_take (i := 4) (oi := { dst := some 37, op := Go.Op.move (Go.Operand.tmp 1), type := 3, pos := "timer.go:45", after := #[], guard := none }) (v := ?_) rfl (by kernel_rfl) (by kernel_rfl) (by kernel_rfl) (fun _ _ _ h => h) (Or.inl ⟨by rfl, ?_⟩) (by assumption) ?_
    rotate_left
    · intro wz hSw; (try dsimp only at hSw); go_simp; (try with_reducible rfl)
    try simp only [Act.put, List.setIfInBounds_toArray, List.set_cons_zero, List.set_cons_succ]
    refine wpAnyH_take (i := 5) (oi := { dst := some 38, op := Go.Op.move (Go.Operand.tmp 2), type := 9, pos := "timer.go:45", after := #[], guard := none }) (v := ?_) rfl (by kernel_rfl) (by kernel_rfl) (by kernel_rfl) (fun _ _ _ h => h) (Or.inl ⟨by rfl, ?_⟩) (by assumption) ?_
    rotate_left
    · intro wz hSw; (try dsimp only at hSw); go_simp; (try with_reducible rfl)
    try simp only [Act.put, List.setIfInBounds_toArray, List.set_cons_zero, List.set_cons_succ]
    refine wpAnyH_ready (rs := [6]) (by kernel_rfl) (by simp) ?_
    refine (AllReadyH.cons (o := { dst := some 39, op := Go.Op.call { callee := Go.Callee.value (Go.Operand.func 19), args := #[Go.Operand.tmp 38], argTypes := #[9] }, type := 9, pos := "timer.go:45", after := #[{ on := 5, ground := Go.Ground.data }], guard := none }) rfl (fun K hK => ?_) AllReadyH.nil)
    go_simp
    refine hcl.mono ?_
    rintro e w2 ⟨rfl, hb2⟩
    have H2 : Hid (Below w1.heap.size w1 w2) := ⟨hb2.os, hb2.tape, hb2.output, hb2.size, hb2.block⟩
    have hq2 : w2.heap[p]? = some (.cells #[.int .i64 (last + 1), v, .map (some m)] 65 (0, 0)) := (H2.out.block p (lt_of_block H1.out.1)).trans H1.out.1
    have s2 := (qCells hq2).1
    refine hK.out _ _ s2 (fun _ => ?_)
    clear hK K
    try simp only [Act.put, List.setIfInBounds_toArray, List.set_cons_zero, List.set_cons_succ]
    refine wpAnyH_take (i := 7) (oi := { dst := some 40, op := Go.Op.build 58 #[(0, Go.Operand.tmp 36), (1, Go.Operand.tmp 37), (2, Go.Operand.tmp 39)], type := 58, pos := "timer.go:45", after := #[{ on := 3, ground := Go.Ground.data }, { on := 4, ground := Go.Ground.data }, { on := 6, ground := Go.Ground.data }], guard := none }) (v := .agg #[.int .i64 (last + 1), .int .i64 due, encStr nm]) rfl (by kernel_rfl) (by kernel_rfl) (by kernel_rfl) (fun _ _ _ h => h) (Or.inl ⟨by rfl, ?_⟩) (by assumption) ?_
    · intro wz hSw; (try dsimp only at hSw); kernel_rfl
    try simp only [Act.put, List.setIfInBounds_toArray, List.set_cons_zero, List.set_cons_succ]
    refine wpAnyH_take (i := 8) (oi := { dst := some 41, op := Go.Op.build 69 #[(0, Go.Operand.tmp 40)], type := 69, pos := "timer.go:45", after := #[{ on := 7, ground := Go.Ground.data }], guard := none }) (v := .agg #[.int .i64 (last + 1), .int .i64 due, encStr nm, .int .i64 0]) rfl (by kernel_rfl) (by kernel_rfl) (by kernel_rfl) (fun _ _ _ h => h) (Or.inl ⟨by rfl, ?_⟩) (by assumption) ?_
    · intro wz hSw; (try dsimp only at hSw); kernel_rfl
    try simp only [Act.put, List.setIfInBounds_toArray, List.set_cons_zero, List.set_cons_succ]
    refine wpAnyH_ready (rs := [9]) (by kernel_rfl) (by simp) ?_
    refine (AllReadyH.cons (o := { dst := some 42, op := Go.Op.box 69 (Go.Operand.tmp 41), type := 66, pos := "timer.go:45", after := #[{ on := 8, ground := Go.Ground.data }], guard := none }) rfl (fun K hK => ?_) AllReadyH.nil)
    go_simp
    obtain ⟨w3, hw3⟩ : ∃ w3, w2.alloc (.cells #[.int .i64 (last + 1), .int .i64 due, encStr nm, .int .i64 0] 69) = w3 := ⟨_, rfl⟩
    have hb3 : Below w2.heap.size w2 w3 := by rw [← hw3]; exact (Below.refl _ w2).alloc (Nat.le_refl _) _
    have hq3 := (hb3.block p (lt_of_block hq2)).trans hq2
    have s3 := (qCells hq3).1
    have hit3 : w3.heap[w2.heap.size]? = some (.cells (itC ⟨last + 1, due, nm⟩ 0) 69 (0, 0)) := by rw [← hw3]; exact heap_alloc_new w2 _
    have H3 : Hid (Below w1.heap.size w1 w3 ∧ w3.heap[p]? = some (.cells #[.int .i64 (last + 1), v, .map (some m)] 65 (0, 0)) ∧ w3.heap[w2.heap.size]? = some (.cells (itC ⟨last + 1, due, nm⟩ 0) 69 (0, 0)) ∧ w.heap.size ≤ w2.heap.size) := ⟨Below.transS H2.out hb3, hq3, hit3, by have := H2.out.size; have := H1.out.2.2.1; omega⟩
    rw [hw3]
    refine hK.out _ _ s3 (fun _ => ?_)
    clear hK K hw3 hb3 hq3 hit3 s3 s2 hq2 hb2 hHeld hcl H2
    try simp only [Act.put, List.setIfInBounds_toArray, List.set_cons_zero, List.set_cons_succ]
    generalize w2.heap.size = it at *
    refine wpAnyH_take (i := 10) (oi := { dst := some 8, op := Go.Op.assign (Go.Operand.tmp 42), type := 66, pos := "timer.go:45", after := #[{ on := 9, ground := Go.Ground.data }, { on := 6, ground := Go.Ground.chain }, { on := 0, ground := Go.Ground.phase }, { on := 1, ground := Go.Ground.phase }, { on := 2, ground := Go.Ground.phase }, { on := 3, ground := Go.Ground.phase }, { on := 4, ground := Go.Ground.phase }, { on := 5, ground := Go.Ground.phase }, { on := 6, ground := Go.Ground.phase }, { on := 7, ground := Go.Ground.phase }, { on := 8, ground := Go.Ground.phase }, { on := 9, ground := Go.Ground.phase }], guard := none }) (v := ?_) rfl (by kernel_rfl) (by kernel_rfl) (by kernel_rfl) (fun _ _ _ h => h) (Or.inl ⟨by rfl, ?_⟩) (by assumption) ?_
    rotate_left
    · intro wz hSw; (try dsimp only at hSw); go_simp; (try with_reducible rfl)
    try simp only [Act.put, List.setIfInBounds_toArray, List.set_cons_zero, List.set_cons_succ]
    refine wpAnyH_done (by kernel_rfl) (NoPanic.normal ?_) _
    try simp only [Act.put, List.setIfInBounds_toArray, List.set_cons_zero, List.set_cons_succ]
    obtain ⟨q0, -, q2, -⟩ := qCells H3.out.2.1
    have hm3 : w3.drew.ownsMap Tryd.prog 3 ptR m last.toNat D := map_keep (w' := w3) HH.out.map (by
      have hmA := HH.out.sub m (.inl rfl)
      have hml := HH.out.low m hmA
      rw [H3.out.1.block m (by have := H1.out.2.2.1; omega), H1.out.2.1 m HH.out.far.1])
    obtain ⟨w4, hst, hm4, ht4⟩ := World.ownsMap.store (w := w3.drew) hm3 intK Tryd.underlying63 (by unfold maxLen; omega) (key_int (x := last + 1) (by omega)) (ptR_mk it)
    have hoth : ∀ k, k ≠ m → w4.heap[k]? = w3.heap[k]? := fun k hk => by
      obtain ⟨es, cl, es', cl', hb, rfl⟩ := ht4
      exact heap_setBlock_other hb _ hk
    have hs4 : w4.heap.size = w3.heap.size := by
      obtain ⟨es, cl, es', cl', hb, rfl⟩ := ht4
      simp [setBlock]
    have ho4 : w4.os = w3.os ∧ w4.tape = w3.tape ∧ w4.output = w3.output := by
      obtain ⟨es, cl, es', cl', hb, rfl⟩ := ht4
      exact ⟨rfl, rfl, rfl⟩
    have hit4 : w4.heap[it]? = some (.cells (itC ⟨last + 1, due, nm⟩ 0) 69 (0, 0)) := (hoth it (fun e => by have := HH.out.low m (HH.out.sub m (.inl rfl)); have := H3.out.2.2.2; omega)).trans H3.out.2.2.1
    have hq4 : w4.heap[p]? = some (.cells #[.int .i64 (last + 1), v, .map (some m)] 65 (0, 0)) := (hoth p (Ne.symm HH.out.far.1)).trans H3.out.2.1
    have hk4 : ∀ k, k < w.heap.size → k ≠ p → k ≠ m → w4.heap[k]? = w.heap[k]? := fun k h1 h2 h3 => by
      rw [hoth k h3, H3.out.1.block k (by have := H1.out.2.2.1; omega), H1.out.2.1 k h2]
    have hwt := HH.out.wt4 (w4 := w4) ⟨last + 1, due, nm⟩ rfl H1.out.2.2.2.2.2.2.2 hq4 hk4 H3.out.2.2.2 hit4
    have hnL := HH.out.len
    have hle := HH.out.ok.le
    have hpu := push_wt w4 n a ⟨last + 1, due, nm⟩ hwt (List.mem_cons_self ..) (by omega) (fun k hk e => by
      have hx := (HH.out.wt.pl k hk).1
      have h1 := (HH.out.ok.id _ hx).2
      rw [putB_same, putB_other _ _ (by omega)] at e
      have := (HH.out.bA hx).2
      have := H3.out.2.2.2
      omega) (fun k hk => .inr hk)
    have hps := heapPush (wtH p m (last + 1) (putB β (last + 1) it) (fun x => x ∈ (⟨last + 1, due, nm⟩ : Ev) :: L) (fun k => R k ∨ w4.heap.size ≤ k)) n a ⟨last + 1, due, nm⟩ (.iface 66 (.pointer (some ⟨it, 0, none⟩))) w4 (by omega) HH.out.heap (by
      rw [putB_same] at hpu; exact hpu)
    have HE : Hid (∀ w5 a', Wt p m (last + 1) (putB β (last + 1) it) (fun x => x ∈ (⟨last + 1, due, nm⟩ : Ev) :: L) (fun k => R k ∨ w4.heap.size ≤ k) w5 (n + 1) a' → HeapN ltE (n + 1) a' → (rowA (n + 1) a').Perm (⟨last + 1, due, nm⟩ :: rowA n a) → Fr (wtM p (putB β (last + 1) it) (fun x => x ∈ (⟨last + 1, due, nm⟩ : Ev) :: L) (fun k => R k ∨ w4.heap.size ≤ k)) w4 w5 → ∃ A', Qr Qs A p (insE ⟨last + 1, due, nm⟩ L) (last + 1) w w5 A') := fun w5 a' h1 h2 h3 h4 =>
      HH.out.add_end ⟨last + 1, due, nm⟩ rfl ⟨hd0, hd1⟩ hn6 H3.out.2.2.2 (lt_of_block hit4) hm4 hk4 ⟨by rw [ho4.1, H3.out.1.os, H1.out.2.2.2.1], by rw [ho4.2.1, H3.out.1.tape, H1.out.2.2.2.2.1], by rw [ho4.2.2, H3.out.1.output, H1.out.2.2.2.2.2.1]⟩ h1 h2 h3 h4
    clear hm3 hm4 ht4 hoth hs4 ho4 hit4 hq4 hk4 hwt hpu H3 H1 HH hnL hle HP1 p0 f0
    go_upto_region 9 with fail
    refine region_seq (c := 9) (f := 60) (ts := [(0, 0), (0, 1), (0, 2), (1, 3), (0, 4), (0, 5), (0, 6), (1, 7), (0, 8), (2, 9)]) (by kernel_rfl) (by kernel_rfl) ?_
    refine seq_W (o := { dst := some 43, op := Go.Op.move (Go.Operand.tmp 0), type := 23, pos := "timer.go:46", after := #[], guard := none }) (v := ?_) rfl rfl (fun wz => ?_) ?_
    rotate_left
    · go_simp; (try with_reducible rfl)
    try simp only [Act.put, List.setIfInBounds_toArray, List.set_cons_zero, List.set_cons_succ]
    refine seq_W (o := { dst := some 44, op := Go.Op.nilCheck (Go.Operand.tmp 43), type := 0, pos := "timer.go:46", after := #[{ on := 0, ground := Go.Ground.data }], guard := none }) (v := ?_) rfl rfl (fun wz => ?_) ?_
    rotate_left
    · go_simp; (try with_reducible rfl)
    try simp only [Act.put, List.setIfInBounds_toArray, List.set_cons_zero, List.set_cons_succ]
    refine seq_W (o := { dst := some 45, op := Go.Op.fieldAddr 65 (Go.Operand.tmp 44) 2, type := 0, pos := "timer.go:46", after := #[{ on := 1, ground := Go.Ground.data }], guard := none }) (v := ?_) rfl rfl (fun wz => ?_) ?_
    rotate_left
    · go_simp; (try with_reducible rfl)
    try simp only [Act.put, List.setIfInBounds_toArray, List.set_cons_zero, List.set_cons_succ]
    refine seq_R (o := { dst := some 46, op := Go.Op.load 63 (Go.Operand.tmp 45), type := 63, pos := "timer.go:46", after := #[{ on := 2, ground := Go.Ground.data }], guard := none }) (v := ?_) rfl rfl ?_ ?_
    rotate_left
    · go_simp; (try with_reducible rfl)
    try simp only [Act.put, List.setIfInBounds_toArray, List.set_cons_zero, List.set_cons_succ]
    refine seq_W (o := { dst := some 47, op := Go.Op.move (Go.Operand.tmp 0), type := 23, pos := "timer.go:46", after := #[], guard := none }) (v := ?_) rfl rfl (fun wz => ?_) ?_
    rotate_left
    · go_simp; (try with_reducible rfl)
    try simp only [Act.put, List.setIfInBounds_toArray, List.set_cons_zero, List.set_cons_succ]
    refine seq_W (o := { dst := some 48, op := Go.Op.nilCheck (Go.Operand.tmp 47), type := 0, pos := "timer.go:46", after := #[{ on := 4, ground := Go.Ground.data }], guard := none }) (v := ?_) rfl rfl (fun wz => ?_) ?_
    rotate_left
    · go_simp; (try with_reducible rfl)
    try simp only [Act.put, List.setIfInBounds_toArray, List.set_cons_zero, List.set_cons_succ]
    refine seq_W (o := { dst := some 49, op := Go.Op.fieldAddr 65 (Go.Operand.tmp 48) 0, type := 0, pos := "timer.go:46", after := #[{ on := 5, ground := Go.Ground.data }], guard := none }) (v := ?_) rfl rfl (fun wz => ?_) ?_
    rotate_left
    · go_simp; (try with_reducible rfl)
    try simp only [Act.put, List.setIfInBounds_toArray, List.set_cons_zero, List.set_cons_succ]
    refine seq_R (o := { dst := some 50, op := Go.Op.load 3 (Go.Operand.tmp 49), type := 3, pos := "timer.go:46", after := #[{ on := 6, ground := Go.Ground.data }], guard := none }) (v := ?_) rfl rfl ?_ ?_
    rotate_left
    · go_simp; (try with_reducible rfl)
    try simp only [Act.put, List.setIfInBounds_toArray, List.set_cons_zero, List.set_cons_succ]
    refine seq_W (o := { dst := some 51, op := Go.Op.move (Go.Operand.tmp 8), type := 66, pos := "timer.go:46", after := #[], guard := none }) (v := ?_) rfl rfl (fun wz => ?_) ?_
    rotate_left
    · go_simp; (try with_reducible rfl)
    try simp only [Act.put, List.setIfInBounds_toArray, List.set_cons_zero, List.set_cons_succ]
    refine seq_A (o := { dst := none, op := Go.Op.mapUpdate 63 (Go.Operand.tmp 46) (Go.Operand.tmp 50) (Go.Operand.tmp 51), type := 0, pos := "timer.go:46", after := #[{ on := 3, ground := Go.Ground.data }, { on := 7, ground := Go.Ground.data }, { on := 8, ground := Go.Ground.data }, { on := 0, ground := Go.Ground.phase }, { on := 1, ground := Go.Ground.phase }, { on := 2, ground := Go.Ground.phase }, { on := 3, ground := Go.Ground.phase }, { on := 4, ground := Go.Ground.phase }, { on := 5, ground := Go.Ground.phase }, { on := 6, ground := Go.Ground.phase }, { on := 7, ground := Go.Ground.phase }, { on := 8, ground := Go.Ground.phase }], guard := none }) rfl rfl (fun K hK => ?_)
    go_simp
    refine hK _ _ ?_
    clear hK K
    try simp only [Act.put, List.setIfInBounds_toArray, List.set_cons_zero, List.set_cons_succ]
    refine seq_nil (NoPanic.normal ?_)
    try simp only [Act.put, List.setIfInBounds_toArray, List.set_cons_zero, List.set_cons_succ]
    clear hst q0 q2
    go_wp2_with fail
    refine hps.mono ?_
    rintro e w5 ⟨he, a', hA5, hH5, hP5, hR5⟩
    subst he
    have h5 : Wt p m (last + 1) (putB β (last + 1) it) (fun x => x ∈ (⟨last + 1, due, nm⟩ : Ev) :: L) (fun k => R k ∨ w4.heap.size ≤ k) w5 (n + 1) a' := hA5
    obtain ⟨A', hQ⟩ := HE.out w5 a' h5 hH5 hP5 hR5
    have HQ : Hid (Qr Qs A p (insE ⟨last + 1, due, nm⟩ L) (last + 1) w w5 A') := hQ
    obtain ⟨v5, hq5, -, -⟩ := h5.q
    have z0 := (qCells hq5).1
    clear hA5 hH5 hP5 hR5 h5 hQ hq5 hps HE
    go_wp2
    go_ret2
    first | exact ⟨A', rfl, HQ.out⟩ | exact ⟨rfl, A', HQ.out⟩
  · have e1 : addI last due nm = 0 := by simp [addI, hE]
    have e2 : addN last due nm = last := by simp [addN, hE]
    have e3 : addL last due nm L = L := by simp [addL, hE]
    rw [e1, e2, e3]
    clear e1 e2 e3
    have HE : Hid (Qr Qs A p L last w w A) := hs
    clear hs h
    by_cases hd : due < 0
    · have h4 : addE due nm = 4 := by simp [addE, hd]
      rw [h4]
      clear hE h4
      go_enter Tryd.func6, Tryd.ntmps6
      go_wp2
      go_ret2
      first | exact ⟨A, rfl, HE.out⟩ | exact ⟨rfl, A, HE.out⟩
    · by_cases hd2 : due > 1099511627776
      · have h4 : addE due nm = 4 := by simp [addE, hd2]
        rw [h4]
        clear hE h4
        go_enter Tryd.func6, Tryd.ntmps6
        go_wp2
        go_ret2
        first | exact ⟨A, rfl, HE.out⟩ | exact ⟨rfl, A, HE.out⟩
      · have hn : nm.length > 64 := by
          apply Classical.byContradiction
          intro hn
          exact hE (by simp [addE, hd, hd2, hn])
        have h4 : addE due nm = 2 := by simp [addE, hd, hd2, hn]
        rw [h4]
        have hn' : (64 : Int) < nm.length := by omega
        have hd3 : due ≤ 1099511627776 := by omega
        clear hE h4
        go_enter Tryd.func6, Tryd.ntmps6
        go_wp2
        go_ret2
        first | exact ⟨A, rfl, HE.out⟩ | exact ⟨rfl, A, HE.out⟩
end Go.Proofs.YthnobkiiaflelaaDoor
