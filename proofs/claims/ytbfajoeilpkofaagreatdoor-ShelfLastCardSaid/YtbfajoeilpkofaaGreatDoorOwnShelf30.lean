/- Open. -/
import Derived.Test.YtbfajoeilpkofaaGreatDoorOwnShelf24
import Derived.Test.YtbfajoeilpkofaaGreatDoorOwnShelf29
namespace Go.Proofs.YtbfajoeilpkofaaGreatDoor
open Go.RowKit Go.Maps Go.Sort

attribute [local go_sem ↓] Go.wp_at_zero Go.wp_at_succ

/-- The leaves at some places, taken up one behind the other. -/
def takeL (rd : Int → List Int) : List Int → List Lf → Option (List Lf)
  | [], M => some M
  | x :: r, M => if leafOk M (rd x) = true then takeL rd r (putK Lf.k ⟨leafK (rd x), x.toNat, leafV (rd x)⟩ M) else none
/-- What an area of n pages from fr on holds. -/
def openR (c : Ct) (fr n : Nat) : Option (List Lf) := (rootR ((n - 1 : Nat) : Int) (c.last (fr : Int))).bind fun ps => takeL (fun x => c.last ((fr + x.toNat : Nat) : Int)) ps []
theorem riseI_above : ∀ (ps : List Int) (b : Int), riseI b ps = true → List.Pairwise (· < ·) (b :: ps)
  | [], b, _ => by simp
  | x :: r, b, h => by
    unfold riseI at h
    split at h
    · cases h
    · rename_i hx
      have ih := riseI_above r x h
      rw [List.pairwise_cons] at ih ⊢
      refine ⟨fun y hy => ?_, List.pairwise_cons.2 ih⟩
      rcases List.mem_cons.1 hy with rfl | hy
      · omega
      · have := ih.1 y hy; omega
theorem CtAt.last_bd {w : World} {G : Nat → Prop} {p : Nat} {c : Ct} (h : CtAt w G p c) (pg : Int) : ∀ y, y ∈ c.last pg → 0 ≤ y ∧ y ≤ 255 := by
  obtain ⟨S, ⟨q, lo, F, h0, _⟩, rfl⟩ := h
  rw [← ct_last]
  exact (lastB_in h0).1.bd
theorem rootR_ok {last : Int} {b ps : List Int} (h0 : 0 ≤ last) (hb : ∀ y, y ∈ b → 0 ≤ y ∧ y ≤ 255) (h : rootR last b = some ps) : List.Pairwise (· < ·) ps ∧ (∀ x ∈ ps, 1 ≤ x ∧ x ≤ last) ∧ (ps.length : Int) ≤ last := by
  unfold rootR at h
  split at h
  · cases h; exact ⟨List.Pairwise.nil, (fun x hx => by cases hx), by simpa using h0⟩
  · split at h
    · rename_i h1
      cases h
      have h2 := riseI_above _ _ h1.2
      rw [List.pairwise_cons] at h2
      have hq : QBd ((countR last b).map Prod.snd) := fun l hl => by
        cases hc : countR last b with
        | none => rw [hc] at hl; cases hl
        | some x => rw [hc] at hl; cases hl; exact (countR_bd h0 hb hc).2.2
      refine ⟨h2.2, fun x hx => ⟨by have := h2.1 x hx; omega, ?_⟩, ?_⟩
      · obtain ⟨i, _, rfl⟩ := List.mem_map.1 hx
        exact (vlN_bd h0 hq i).2
      · rw [vals_length]
        cases hc : countR last b with
        | none => simpa using h0
        | some x => have := countR_bd h0 hb hc; simp; omega
    · cases h
/-- What Open answers on a store. -/
def OpR (w : World) (p fr n : Nat) (r : Option (List Lf)) (e : Ending) (w' : World) : Prop :=
  ((r = none ∧ e = .returned (.tuple #[.pointer none, .iface 72 (.int .i64 14)])) ∨ ∃ L sh m, r = some L ∧ e = .returned (.tuple #[.pointer (some ⟨sh, 0, none⟩), .nilIface]) ∧ ShAt w' sh m p fr n L 0 ∧ w.heap.size ≤ sh ∧ w.heap.size ≤ m) ∧ Below w.heap.size w w'
/-- While leaves are taken up. -/
structure OpI (w wr : World) (sh m p fr n i : Nat) (ad : Option Addr) (ps : List Int) (rd : Int → List Int) (R : Option (List Lf)) (M : List Lf) : Prop where
  at_ : ShAt wr sh m p fr n M 0
  row : IsL wr ad ps
  from_ : ∀ x ∈ M, ∃ y ∈ ps.take i, x.p = y.toNat
  rest : takeL rd (ps.drop i) M = R
  below : Below w.heap.size w wr
set_option maxRecDepth 100000 in
set_option maxHeartbeats 1600000 in
theorem open_nil (f n : Int) (w : World) : Calls Tryz.prog 11 #[.pointer none, .agg #[.int .i64 f, .int .i64 n]] w fun e w' => e = .returned (.tuple #[.pointer none, .iface 72 (.int .i64 1)]) ∧ Below w.heap.size w w' := by
  have HB : Hid (Below w.heap.size w (w.alloc (.cells #[.int .i64 f, .int .i64 n] 35)).drew) := ((Below.refl _ w).alloc (Nat.le_refl _) _).drew
  go_enter Tryz.func11, Tryz.ntmps11
  go_upto_region 1 with fail
  refine wp_region_noPanic ?_
  refine wp_region_held_drew (S := fun _ => True) (by kernel_rfl) trivial (fun hHeld => ?_)
  refine wpAnyH_take (i := 0) (oi := { dst := some 12, op := Go.Op.move (Go.Operand.tmp 0), type := 24, pos := "shelf.go:46", after := #[], guard := none }) (v := ?_) rfl (by kernel_rfl) (by kernel_rfl) (by kernel_rfl) (fun _ _ _ h => h) (Or.inl ⟨by rfl, ?_⟩) (by assumption) ?_
  rotate_left
  · intro wz hSw; (try dsimp only at hSw); go_simp; (try with_reducible rfl)
  try simp only [Act.put, List.setIfInBounds_toArray, List.set_cons_zero, List.set_cons_succ]
  refine wpAnyH_take (i := 1) (oi := { dst := some 13, op := Go.Op.binOp Go.BinOp.eql 24 (Go.Operand.tmp 12) (Go.Operand.const (Go.Value.pointer none)) 24, type := 4, pos := "shelf.go:46", after := #[{ on := 0, ground := Go.Ground.data }], guard := none }) (v := ?_) rfl (by kernel_rfl) (by kernel_rfl) (by kernel_rfl) (fun _ _ _ h => h) (Or.inl ⟨by rfl, ?_⟩) (by assumption) ?_
  rotate_left
  · intro wz hSw; (try dsimp only at hSw); go_simp; (try with_reducible rfl)
  try simp only [Act.put, List.setIfInBounds_toArray, List.set_cons_zero, List.set_cons_succ]
  refine wpAnyH_take (i := 2) (oi := { dst := some 14, op := Go.Op.move (Go.Operand.tmp 13), type := 4, pos := "shelf.go:46", after := #[{ on := 1, ground := Go.Ground.data }], guard := none }) (v := ?_) rfl (by kernel_rfl) (by kernel_rfl) (by kernel_rfl) (fun _ _ _ h => h) (Or.inl ⟨by rfl, ?_⟩) (by assumption) ?_
  rotate_left
  · intro wz hSw; (try dsimp only at hSw); go_simp; (try with_reducible rfl)
  try simp only [Act.put, List.setIfInBounds_toArray, List.set_cons_zero, List.set_cons_succ]
  refine wpAnyH_take (i := 3) (oi := { dst := some 15, op := Go.Op.load 35 (Go.Operand.tmp 3), type := 35, pos := "shelf.go:46", after := #[{ on := 2, ground := Go.Ground.guard }], guard := some (2, false) }) (v := undef) rfl (by kernel_rfl) (by kernel_rfl) (by kernel_rfl) (fun _ _ _ h => h) (Or.inr ⟨by rfl, rfl⟩) (by assumption) ?_
  try simp only [Act.put, List.setIfInBounds_toArray, List.set_cons_zero, List.set_cons_succ]
  refine wpAnyH_take (i := 4) (oi := { dst := some 16, op := Go.Op.move (Go.Operand.tmp 0), type := 24, pos := "shelf.go:46", after := #[{ on := 2, ground := Go.Ground.guard }], guard := some (2, false) }) (v := undef) rfl (by kernel_rfl) (by kernel_rfl) (by kernel_rfl) (fun _ _ _ h => h) (Or.inr ⟨by rfl, rfl⟩) (by assumption) ?_
  try simp only [Act.put, List.setIfInBounds_toArray, List.set_cons_zero, List.set_cons_succ]
  refine wpAnyH_take (i := 5) (oi := { dst := some 17, op := Go.Op.call { callee := Go.Callee.value (Go.Operand.func 34), args := #[Go.Operand.tmp 16], argTypes := #[24] }, type := 3, pos := "shelf.go:46", after := #[{ on := 4, ground := Go.Ground.data }, { on := 2, ground := Go.Ground.chain }, { on := 2, ground := Go.Ground.guard }], guard := some (2, false) }) (v := undef) rfl (by kernel_rfl) (by kernel_rfl) (by kernel_rfl) (fun _ _ _ h => h) (Or.inr ⟨by rfl, rfl⟩) (by assumption) ?_
  try simp only [Act.put, List.setIfInBounds_toArray, List.set_cons_zero, List.set_cons_succ]
  refine wpAnyH_take (i := 6) (oi := { dst := some 18, op := Go.Op.call { callee := Go.Callee.value (Go.Operand.func 33), args := #[Go.Operand.tmp 15, Go.Operand.tmp 17], argTypes := #[35, 3] }, type := 4, pos := "shelf.go:46", after := #[{ on := 3, ground := Go.Ground.data }, { on := 5, ground := Go.Ground.data }, { on := 5, ground := Go.Ground.chain }, { on := 2, ground := Go.Ground.guard }], guard := some (2, false) }) (v := undef) rfl (by kernel_rfl) (by kernel_rfl) (by kernel_rfl) (fun _ _ _ h => h) (Or.inr ⟨by rfl, rfl⟩) (by assumption) ?_
  try simp only [Act.put, List.setIfInBounds_toArray, List.set_cons_zero, List.set_cons_succ]
  refine wpAnyH_take (i := 7) (oi := { dst := some 19, op := Go.Op.unOp Go.UnOp.not 4 (Go.Operand.tmp 18), type := 4, pos := "shelf.go:46", after := #[{ on := 6, ground := Go.Ground.data }, { on := 2, ground := Go.Ground.guard }], guard := some (2, false) }) (v := undef) rfl (by kernel_rfl) (by kernel_rfl) (by kernel_rfl) (fun _ _ _ h => h) (Or.inr ⟨by rfl, rfl⟩) (by assumption) ?_
  try simp only [Act.put, List.setIfInBounds_toArray, List.set_cons_zero, List.set_cons_succ]
  refine wpAnyH_take (i := 8) (oi := { dst := some 20, op := Go.Op.pick (Go.Operand.tmp 14) (Go.Operand.const (Go.Value.bool true)) (Go.Operand.tmp 19), type := 4, pos := "shelf.go:46", after := #[{ on := 2, ground := Go.Ground.data }, { on := 7, ground := Go.Ground.data }], guard := none }) (v := ?_) rfl (by kernel_rfl) (by kernel_rfl) (by kernel_rfl) (fun _ _ _ h => h) (Or.inl ⟨by rfl, ?_⟩) (by assumption) ?_
  rotate_left
  · intro wz hSw; (try dsimp only at hSw); go_simp; (try with_reducible rfl)
  try simp only [Act.put, List.setIfInBounds_toArray, List.set_cons_zero, List.set_cons_succ]
  refine wpAnyH_done (by kernel_rfl) (NoPanic.normal ?_) _
  try simp only [Act.put, List.setIfInBounds_toArray, List.set_cons_zero, List.set_cons_succ]
  go_wp2
  go_ret2
  exact ⟨rfl, HB.out⟩
set_option maxRecDepth 100000 in
set_option maxHeartbeats 1600000 in
theorem open_arg (G : Nat → Prop) (p : Nat) (c : Ct) (N : Nat) (f n : Int) (w : World) (hc : CtAt w G p c) (hlen : c.safe.length = N) (hl : liesB f n (N : Int) = false) : Calls Tryz.prog 11 #[.pointer (some ⟨p, 0, none⟩), .agg #[.int .i64 f, .int .i64 n]] w fun e w' => e = .returned (.tuple #[.pointer none, .iface 72 (.int .i64 1)]) ∧ Below w.heap.size w w' := by
  have hsm := hc.small
  obtain ⟨w1, hw1⟩ : ∃ w1, w.alloc (.cells #[.int .i64 f, .int .i64 n] 35) = w1 := ⟨_, rfl⟩
  have hb1 : Below w.heap.size w w1 := by rw [← hw1]; exact (Below.refl _ w).alloc (Nat.le_refl _) _
  have k0 : w1.drew.cell? ⟨w.heap.size, 0, none⟩ = some (.int .i64 f) := by
    have h1 : w1.drew.cell? ⟨w.heap.size, 0, none⟩ = w1.cell? ⟨w.heap.size, 0, none⟩ := World.cell?_of_block (a := ⟨w.heap.size, 0, none⟩) rfl
    rw [h1, ← hw1]; simp
  have k1 : w1.drew.cell? ⟨w.heap.size, 1, none⟩ = some (.int .i64 n) := by
    have h1 : w1.drew.cell? ⟨w.heap.size, 1, none⟩ = w1.cell? ⟨w.heap.size, 1, none⟩ := World.cell?_of_block (a := ⟨w.heap.size, 1, none⟩) rfl
    rw [h1, ← hw1]; simp
  have hpg := pages_ct G p c N w1.drew (hc.below hb1.drew) hlen
  have hli := lies_any f n (N : Int) (by omega) w1.drew
  rw [hl] at hli
  have HB1 : Hid (Below w.heap.size w w1.drew) := hb1.drew
  clear hc hsm hb1
  go_enter Tryz.func11, Tryz.ntmps11
  go_upto_region 1 with fail
  clear hw1
  refine wp_region_noPanic ?_
  refine wp_region_held_drew (S := fun w' => w'.cell? ⟨w.heap.size, 0, none⟩ = some (.int .i64 f) ∧ w'.cell? ⟨w.heap.size, 1, none⟩ = some (.int .i64 n)) (by kernel_rfl) ⟨k0, k1⟩ (fun hHeld => ?_)
  refine wpAnyH_take (i := 0) (oi := { dst := some 12, op := Go.Op.move (Go.Operand.tmp 0), type := 24, pos := "shelf.go:46", after := #[], guard := none }) (v := ?_) rfl (by kernel_rfl) (by kernel_rfl) (by kernel_rfl) (fun _ _ _ h => h) (Or.inl ⟨by rfl, ?_⟩) (by assumption) ?_
  rotate_left
  · intro wz hSw; (try dsimp only at hSw); go_simp; (try with_reducible rfl)
  try simp only [Act.put, List.setIfInBounds_toArray, List.set_cons_zero, List.set_cons_succ]
  refine wpAnyH_take (i := 1) (oi := { dst := some 13, op := Go.Op.binOp Go.BinOp.eql 24 (Go.Operand.tmp 12) (Go.Operand.const (Go.Value.pointer none)) 24, type := 4, pos := "shelf.go:46", after := #[{ on := 0, ground := Go.Ground.data }], guard := none }) (v := ?_) rfl (by kernel_rfl) (by kernel_rfl) (by kernel_rfl) (fun _ _ _ h => h) (Or.inl ⟨by rfl, ?_⟩) (by assumption) ?_
  rotate_left
  · intro wz hSw; (try dsimp only at hSw); go_simp; (try with_reducible rfl)
  try simp only [Act.put, List.setIfInBounds_toArray, List.set_cons_zero, List.set_cons_succ]
  refine wpAnyH_take (i := 2) (oi := { dst := some 14, op := Go.Op.move (Go.Operand.tmp 13), type := 4, pos := "shelf.go:46", after := #[{ on := 1, ground := Go.Ground.data }], guard := none }) (v := ?_) rfl (by kernel_rfl) (by kernel_rfl) (by kernel_rfl) (fun _ _ _ h => h) (Or.inl ⟨by rfl, ?_⟩) (by assumption) ?_
  rotate_left
  · intro wz hSw; (try dsimp only at hSw); go_simp; (try with_reducible rfl)
  try simp only [Act.put, List.setIfInBounds_toArray, List.set_cons_zero, List.set_cons_succ]
  refine wpAnyH_take (i := 3) (oi := { dst := some 15, op := Go.Op.load 35 (Go.Operand.tmp 3), type := 35, pos := "shelf.go:46", after := #[{ on := 2, ground := Go.Ground.guard }], guard := some (2, false) }) (v := .agg #[.int .i64 f, .int .i64 n]) rfl (by kernel_rfl) (by kernel_rfl) (by kernel_rfl) (fun _ _ _ h => h) (Or.inl ⟨by rfl, ?_⟩) (by assumption) ?_
  · intro wz hSw; (try dsimp only at hSw); have h1 := hSw.1; have h2 := hSw.2; go_simp; try rfl
  try simp only [Act.put, List.setIfInBounds_toArray, List.set_cons_zero, List.set_cons_succ]
  refine wpAnyH_take (i := 4) (oi := { dst := some 16, op := Go.Op.move (Go.Operand.tmp 0), type := 24, pos := "shelf.go:46", after := #[{ on := 2, ground := Go.Ground.guard }], guard := some (2, false) }) (v := ?_) rfl (by kernel_rfl) (by kernel_rfl) (by kernel_rfl) (fun _ _ _ h => h) (Or.inl ⟨by rfl, ?_⟩) (by assumption) ?_
  rotate_left
  · intro wz hSw; (try dsimp only at hSw); go_simp; (try with_reducible rfl)
  try simp only [Act.put, List.setIfInBounds_toArray, List.set_cons_zero, List.set_cons_succ]
  refine wpAnyH_ready (rs := [5]) (by kernel_rfl) (by simp) ?_
  refine (AllReadyH.cons (o := { dst := some 17, op := Go.Op.call { callee := Go.Callee.value (Go.Operand.func 34), args := #[Go.Operand.tmp 16], argTypes := #[24] }, type := 3, pos := "shelf.go:46", after := #[{ on := 4, ground := Go.Ground.data }, { on := 2, ground := Go.Ground.chain }, { on := 2, ground := Go.Ground.guard }], guard := some (2, false) }) rfl (fun K hK => ?_) AllReadyH.nil)
  go_simp
  refine hpg.mono ?_
  rintro e w2 ⟨rfl, hw2⟩
  rw [hw2]
  refine hK.out _ _ ⟨k0, k1⟩ (fun _ => ?_)
  clear hK K hw2 w2
  try simp only [Act.put, List.setIfInBounds_toArray, List.set_cons_zero, List.set_cons_succ]
  refine wpAnyH_ready (rs := [6]) (by kernel_rfl) (by simp) ?_
  refine (AllReadyH.cons (o := { dst := some 18, op := Go.Op.call { callee := Go.Callee.value (Go.Operand.func 33), args := #[Go.Operand.tmp 15, Go.Operand.tmp 17], argTypes := #[35, 3] }, type := 4, pos := "shelf.go:46", after := #[{ on := 3, ground := Go.Ground.data }, { on := 5, ground := Go.Ground.data }, { on := 5, ground := Go.Ground.chain }, { on := 2, ground := Go.Ground.guard }], guard := some (2, false) }) rfl (fun K hK => ?_) AllReadyH.nil)
  go_simp
  refine hli.mono ?_
  rintro e w2 ⟨rfl, hb2⟩
  have HB2 : Hid (Below w.heap.size w w2) := Below.transS HB1.out hb2
  refine hK.out _ _ ⟨by rw [hb2.cell (p := ⟨w.heap.size, 0, none⟩) (World.block_lt_of_cell? _ _ k0)]; exact k0, by rw [hb2.cell (p := ⟨w.heap.size, 1, none⟩) (World.block_lt_of_cell? _ _ k1)]; exact k1⟩ (fun _ => ?_)
  clear hK K
  try simp only [Act.put, List.setIfInBounds_toArray, List.set_cons_zero, List.set_cons_succ]
  refine wpAnyH_take (i := 7) (oi := { dst := some 19, op := Go.Op.unOp Go.UnOp.not 4 (Go.Operand.tmp 18), type := 4, pos := "shelf.go:46", after := #[{ on := 6, ground := Go.Ground.data }, { on := 2, ground := Go.Ground.guard }], guard := some (2, false) }) (v := ?_) rfl (by kernel_rfl) (by kernel_rfl) (by kernel_rfl) (fun _ _ _ h => h) (Or.inl ⟨by rfl, ?_⟩) (by assumption) ?_
  rotate_left
  · intro wz hSw; (try dsimp only at hSw); go_simp; (try with_reducible rfl)
  try simp only [Act.put, List.setIfInBounds_toArray, List.set_cons_zero, List.set_cons_succ]
  refine wpAnyH_take (i := 8) (oi := { dst := some 20, op := Go.Op.pick (Go.Operand.tmp 14) (Go.Operand.const (Go.Value.bool true)) (Go.Operand.tmp 19), type := 4, pos := "shelf.go:46", after := #[{ on := 2, ground := Go.Ground.data }, { on := 7, ground := Go.Ground.data }], guard := none }) (v := ?_) rfl (by kernel_rfl) (by kernel_rfl) (by kernel_rfl) (fun _ _ _ h => h) (Or.inl ⟨by rfl, ?_⟩) (by assumption) ?_
  rotate_left
  · intro wz hSw; (try dsimp only at hSw); go_simp; (try with_reducible rfl)
  try simp only [Act.put, List.setIfInBounds_toArray, List.set_cons_zero, List.set_cons_succ]
  refine wpAnyH_done (by kernel_rfl) (NoPanic.normal ?_) _
  try simp only [Act.put, List.setIfInBounds_toArray, List.set_cons_zero, List.set_cons_succ]
  clear hpg hli hb2 k0 k1
  go_wp2
  go_ret2
  exact ⟨rfl, HB2.out⟩
set_option maxRecDepth 100000 in
set_option maxHeartbeats 3200000 in
theorem open_any (G : Nat → Prop) (p fr n N : Nat) (c : Ct) (w : World) (hc : CtAt w G p c) (ho : c.Ok N) (hN : fr + n ≤ N) (hn : 2 ≤ n ∧ n ≤ 1024) : Calls Tryz.prog 11 #[.pointer (some ⟨p, 0, none⟩), .agg #[.int .i64 (fr : Int), .int .i64 (n : Int)]] w (OpR w p fr n (openR c fr n)) := by
  have hsm := hc.small
  rw [ho.len] at hsm
  have hl : liesB (fr : Int) (n : Int) (N : Int) = true := by unfold liesB; rw [decide_eq_true_iff]; omega
  obtain ⟨w1, hw1⟩ : ∃ w1, w.alloc (.cells #[.int .i64 (fr : Int), .int .i64 (n : Int)] 35) = w1 := ⟨_, rfl⟩
  have hb1 : Below w.heap.size w w1 := by rw [← hw1]; exact (Below.refl _ w).alloc (Nat.le_refl _) _
  have k0 : w1.drew.cell? ⟨w.heap.size, 0, none⟩ = some (.int .i64 (fr : Int)) := by
    have h1 : w1.drew.cell? ⟨w.heap.size, 0, none⟩ = w1.cell? ⟨w.heap.size, 0, none⟩ := World.cell?_of_block (a := ⟨w.heap.size, 0, none⟩) rfl
    rw [h1, ← hw1]; simp
  have k1 : w1.drew.cell? ⟨w.heap.size, 1, none⟩ = some (.int .i64 (n : Int)) := by
    have h1 : w1.drew.cell? ⟨w.heap.size, 1, none⟩ = w1.cell? ⟨w.heap.size, 1, none⟩ := World.cell?_of_block (a := ⟨w.heap.size, 1, none⟩) rfl
    rw [h1, ← hw1]; simp
  have hpg := pages_ct G p c N w1.drew (hc.below hb1.drew) ho.len
  have hli := lies_any (fr : Int) (n : Int) (N : Int) (by omega) w1.drew
  rw [hl] at hli
  have HB1 : Hid (Below w.heap.size w w1.drew) := hb1.drew
  have HC : Hid (CtAt w G p c) := hc
  have HO : Hid (c.Ok N) := ho
  clear hc ho hl hb1
  go_enter Tryz.func11, Tryz.ntmps11
  go_upto_region 1 with fail
  clear hw1
  refine wp_region_noPanic ?_
  refine wp_region_held_drew (S := fun w' => w'.cell? ⟨w.heap.size, 0, none⟩ = some (.int .i64 (fr : Int)) ∧ w'.cell? ⟨w.heap.size, 1, none⟩ = some (.int .i64 (n : Int))) (by kernel_rfl) ⟨k0, k1⟩ (fun hHeld => ?_)
  refine wpAnyH_take (i := 0) (oi := { dst := some 12, op := Go.Op.move (Go.Operand.tmp 0), type := 24, pos := "shelf.go:46", after := #[], guard := none }) (v := ?_) rfl (by kernel_rfl) (by kernel_rfl) (by kernel_rfl) (fun _ _ _ h => h) (Or.inl ⟨by rfl, ?_⟩) (by assumption) ?_
  rotate_left
  · intro wz hSw; (try dsimp only at hSw); go_simp; (try with_reducible rfl)
  try simp only [Act.put, List.setIfInBounds_toArray, List.set_cons_zero, List.set_cons_succ]
  refine wpAnyH_take (i := 1) (oi := { dst := some 13, op := Go.Op.binOp Go.BinOp.eql 24 (Go.Operand.tmp 12) (Go.Operand.const (Go.Value.pointer none)) 24, type := 4, pos := "shelf.go:46", after := #[{ on := 0, ground := Go.Ground.data }], guard := none }) (v := ?_) rfl (by kernel_rfl) (by kernel_rfl) (by kernel_rfl) (fun _ _ _ h => h) (Or.inl ⟨by rfl, ?_⟩) (by assumption) ?_
  rotate_left
  · intro wz hSw; (try dsimp only at hSw); go_simp; (try with_reducible rfl)
  try simp only [Act.put, List.setIfInBounds_toArray, List.set_cons_zero, List.set_cons_succ]
  refine wpAnyH_take (i := 2) (oi := { dst := some 14, op := Go.Op.move (Go.Operand.tmp 13), type := 4, pos := "shelf.go:46", after := #[{ on := 1, ground := Go.Ground.data }], guard := none }) (v := ?_) rfl (by kernel_rfl) (by kernel_rfl) (by kernel_rfl) (fun _ _ _ h => h) (Or.inl ⟨by rfl, ?_⟩) (by assumption) ?_
  rotate_left
  · intro wz hSw; (try dsimp only at hSw); go_simp; (try with_reducible rfl)
  try simp only [Act.put, List.setIfInBounds_toArray, List.set_cons_zero, List.set_cons_succ]
  refine wpAnyH_take (i := 3) (oi := { dst := some 15, op := Go.Op.load 35 (Go.Operand.tmp 3), type := 35, pos := "shelf.go:46", after := #[{ on := 2, ground := Go.Ground.guard }], guard := some (2, false) }) (v := .agg #[.int .i64 (fr : Int), .int .i64 (n : Int)]) rfl (by kernel_rfl) (by kernel_rfl) (by kernel_rfl) (fun _ _ _ h => h) (Or.inl ⟨by rfl, ?_⟩) (by assumption) ?_
  · intro wz hSw; (try dsimp only at hSw); have h1 := hSw.1; have h2 := hSw.2; go_simp; try rfl
  try simp only [Act.put, List.setIfInBounds_toArray, List.set_cons_zero, List.set_cons_succ]
  refine wpAnyH_take (i := 4) (oi := { dst := some 16, op := Go.Op.move (Go.Operand.tmp 0), type := 24, pos := "shelf.go:46", after := #[{ on := 2, ground := Go.Ground.guard }], guard := some (2, false) }) (v := ?_) rfl (by kernel_rfl) (by kernel_rfl) (by kernel_rfl) (fun _ _ _ h => h) (Or.inl ⟨by rfl, ?_⟩) (by assumption) ?_
  rotate_left
  · intro wz hSw; (try dsimp only at hSw); go_simp; (try with_reducible rfl)
  try simp only [Act.put, List.setIfInBounds_toArray, List.set_cons_zero, List.set_cons_succ]
  refine wpAnyH_ready (rs := [5]) (by kernel_rfl) (by simp) ?_
  refine (AllReadyH.cons (o := { dst := some 17, op := Go.Op.call { callee := Go.Callee.value (Go.Operand.func 34), args := #[Go.Operand.tmp 16], argTypes := #[24] }, type := 3, pos := "shelf.go:46", after := #[{ on := 4, ground := Go.Ground.data }, { on := 2, ground := Go.Ground.chain }, { on := 2, ground := Go.Ground.guard }], guard := some (2, false) }) rfl (fun K hK => ?_) AllReadyH.nil)
  go_simp
  refine hpg.mono ?_
  rintro e w2 ⟨rfl, hw2⟩
  rw [hw2]
  refine hK.out _ _ ⟨k0, k1⟩ (fun _ => ?_)
  clear hK K hw2 w2
  try simp only [Act.put, List.setIfInBounds_toArray, List.set_cons_zero, List.set_cons_succ]
  refine wpAnyH_ready (rs := [6]) (by kernel_rfl) (by simp) ?_
  refine (AllReadyH.cons (o := { dst := some 18, op := Go.Op.call { callee := Go.Callee.value (Go.Operand.func 33), args := #[Go.Operand.tmp 15, Go.Operand.tmp 17], argTypes := #[35, 3] }, type := 4, pos := "shelf.go:46", after := #[{ on := 3, ground := Go.Ground.data }, { on := 5, ground := Go.Ground.data }, { on := 5, ground := Go.Ground.chain }, { on := 2, ground := Go.Ground.guard }], guard := some (2, false) }) rfl (fun K hK => ?_) AllReadyH.nil)
  go_simp
  refine hli.mono ?_
  rintro e w2 ⟨rfl, hb2⟩
  have HB2 : Hid (Below w.heap.size w w2) := Below.transS HB1.out hb2
  have l0 : w2.cell? ⟨w.heap.size, 0, none⟩ = some (.int .i64 (fr : Int)) := by rw [hb2.cell (p := ⟨w.heap.size, 0, none⟩) (World.block_lt_of_cell? _ _ k0)]; exact k0
  have l1 : w2.cell? ⟨w.heap.size, 1, none⟩ = some (.int .i64 (n : Int)) := by rw [hb2.cell (p := ⟨w.heap.size, 1, none⟩) (World.block_lt_of_cell? _ _ k1)]; exact k1
  refine hK.out _ _ ⟨l0, l1⟩ (fun _ => ?_)
  clear hK K
  try simp only [Act.put, List.setIfInBounds_toArray, List.set_cons_zero, List.set_cons_succ]
  refine wpAnyH_take (i := 7) (oi := { dst := some 19, op := Go.Op.unOp Go.UnOp.not 4 (Go.Operand.tmp 18), type := 4, pos := "shelf.go:46", after := #[{ on := 6, ground := Go.Ground.data }, { on := 2, ground := Go.Ground.guard }], guard := some (2, false) }) (v := ?_) rfl (by kernel_rfl) (by kernel_rfl) (by kernel_rfl) (fun _ _ _ h => h) (Or.inl ⟨by rfl, ?_⟩) (by assumption) ?_
  rotate_left
  · intro wz hSw; (try dsimp only at hSw); go_simp; (try with_reducible rfl)
  try simp only [Act.put, List.setIfInBounds_toArray, List.set_cons_zero, List.set_cons_succ]
  refine wpAnyH_take (i := 8) (oi := { dst := some 20, op := Go.Op.pick (Go.Operand.tmp 14) (Go.Operand.const (Go.Value.bool true)) (Go.Operand.tmp 19), type := 4, pos := "shelf.go:46", after := #[{ on := 2, ground := Go.Ground.data }, { on := 7, ground := Go.Ground.data }], guard := none }) (v := ?_) rfl (by kernel_rfl) (by kernel_rfl) (by kernel_rfl) (fun _ _ _ h => h) (Or.inl ⟨by rfl, ?_⟩) (by assumption) ?_
  rotate_left
  · intro wz hSw; (try dsimp only at hSw); go_simp; (try with_reducible rfl)
  try simp only [Act.put, List.setIfInBounds_toArray, List.set_cons_zero, List.set_cons_succ]
  refine wpAnyH_done (by kernel_rfl) (NoPanic.normal ?_) _
  try simp only [Act.put, List.setIfInBounds_toArray, List.set_cons_zero, List.set_cons_succ]
  clear hpg hli hb2 k0 k1 hHeld HB1
  have hmk := @run_makeMap Tryz.prog
  obtain ⟨w3, hw3⟩ : ∃ w3, (w2.alloc (.map #[] 0)).alloc (.cells #[.pointer (some ⟨p, 0, none⟩), .int .i64 (fr : Int), .int .i64 (n : Int), .map (some w2.heap.size), .nilIface] 83) = w3 := ⟨_, rfl⟩
  have hS3 : ShAt w3 (w2.heap.size + 1) w2.heap.size p fr n [] 0 := by
    rw [← hw3]
    refine ⟨by have := heap_alloc_new (w2.alloc (.map #[] 0)) (.cells #[.pointer (some ⟨p, 0, none⟩), .int .i64 (fr : Int), .int .i64 (n : Int), .map (some w2.heap.size), .nilIface] 83); rw [World.size_alloc] at this; exact this, ?_, LOk.nil n, hn, by omega⟩
    have := World.ownsMap_made w2 Tryz.prog 9 lfR
    exact lfM.of (World.ownsMap.alloc this _)
  have hb3 : Below w.heap.size w w3 := by rw [← hw3]; exact (HB2.out.alloc HB2.out.size _).alloc (by have := HB2.out.size; simp; omega) _
  have hrr := readRoot_any (w2.heap.size + 1) w2.heap.size p fr n N [] 0 G c w3 hS3 (HC.out.below hb3) HO.out hN
  have HS3 : Hid (ShAt w3 (w2.heap.size + 1) w2.heap.size p fr n [] 0) := hS3
  have HB3 : Hid (Below w.heap.size w w3) := hb3
  have hsz := HB2.out.size
  clear hS3 hb3
  go_wp2_with fail
  clear hw3 hmk l0 l1
  refine hrr.mono ?_
  rintro e w4 ⟨⟨hr4, rfl⟩ | ⟨ps, ad, cap, hr4, rfl, hL4⟩, hb4⟩
  · have HE : Hid (OpR w p fr n (openR c fr n) (.returned (.tuple #[.pointer none, .iface 72 (.int .i64 14)])) w4) := ⟨.inl ⟨by unfold openR; rw [hr4]; rfl, rfl⟩, Below.transS HB3.out hb4⟩
    clear hrr hr4 hb4
    go_wp2
    go_ret2
    exact HE.out
  · have hpsk := rootR_ok (by omega) (HC.out.last_bd (fr : Int)) hr4
    have hR0 : openR c fr n = takeL (fun x => c.last ((fr + x.toNat : Nat) : Int)) ps [] := by unfold openR; rw [hr4]; rfl
    obtain ⟨R, hR⟩ : ∃ R, openR c fr n = R := ⟨_, rfl⟩
    rw [hR] at hR0
    have HRR : Hid (openR c fr n = R) := hR
    have hI0 : OpI w w4 (w2.heap.size + 1) w2.heap.size p fr n 0 ad ps (fun x => c.last ((fr + x.toNat : Nat) : Int)) R [] := ⟨HS3.out.below hb4, hL4, (fun x hx => by cases hx), hR0.symm, Below.transS HB3.out hb4⟩
    have HP : Hid (List.Pairwise (· < ·) ps ∧ (∀ x ∈ ps, 1 ≤ x ∧ x ≤ ((n - 1 : Nat) : Int)) ∧ (ps.length : Int) ≤ ((n - 1 : Nat) : Int)) := hpsk
    have hpl : ps.length ≤ 1024 := by have := hpsk.2.2; omega
    obtain ⟨sh, hsh⟩ : ∃ sh, w2.heap.size + 1 = sh := ⟨_, rfl⟩
    obtain ⟨m, hm⟩ : ∃ m, w2.heap.size = m := ⟨_, rfl⟩
    rw [hm] at hsh hI0 hsz
    rw [hsh] at hI0
    have HI0 : Hid (OpI w w4 sh m p fr n 0 ad ps (fun x => c.last ((fr + x.toNat : Nat) : Int)) R []) := hI0
    have hsz' : w.heap.size ≤ sh := by omega
    clear hrr hr4 hb4 hR0 hR hpsk hL4 hI0 HS3
    simp only [hm, hsh]
    clear hm hsh
    go_wp2
    go_loopw [37] (fun iv wr => ∃ (i : Nat) (M : List Lf), i ≤ ps.length ∧ iv = .int .i64 i ∧ OpI w wr sh m p fr n i ad ps (fun x => c.last ((fr + x.toNat : Nat) : Int)) R M) (fun iv _ => ps.length - (intOf iv).toNat)
    case atStart => exact ⟨0, [], Nat.zero_le _, rfl, HI0.out⟩
    case round =>
      clear HI0
      obtain ⟨i, M, hi, rfl, hI⟩ := hrel
      have HI : Hid (OpI w wr sh m p fr n i ad ps (fun x => c.last ((fr + x.toNat : Nat) : Int)) R M) := hI
      clear hI
      by_cases hlt : i < ps.length
      · have hlt' : (i : Int) < ps.length := by omega
        have hx : ps[i]? = some ps[i] := List.getElem?_eq_getElem hlt
        have hxm : ps[i] ∈ ps := List.getElem_mem hlt
        have htk : ps.take (i + 1) = ps.take i ++ [ps[i]] := (List.take_append_getElem hlt).symm
        have hdr : ps.drop i = ps[i] :: ps.drop (i + 1) := List.drop_eq_getElem_cons hlt
        obtain ⟨b, off, rfl, hcz⟩ := HI.out.row (by omega)
        have hcx := hcz i _ hx
        have hxb := HP.out.2.1 _ hxm
        have hap : ∀ y ∈ ps.take i, y < ps[i] := fun y hy => by
          obtain ⟨j, hj, e⟩ := List.mem_take_iff_getElem.1 hy
          rw [← e]
          exact List.pairwise_iff_getElem.1 HP.out.1 j i (by omega) hlt (by omega)
        have hrest := HI.out.rest
        rw [hdr, takeL] at hrest
        generalize ps[i] = x at *
        obtain ⟨pl, rfl⟩ : ∃ pl : Nat, x = (pl : Int) := ⟨x.toNat, by omega⟩
        have hbm : b ≠ m := fun e => by
          obtain ⟨es, cl, hb, _⟩ := HI.out.at_.map
          rw [← e] at hb
          unfold World.cell? at hcx
          simp [hb] at hcx
        have hrl := readLeaf_any sh m p fr n N pl M G c wr HI.out.at_ (HC.out.below HI.out.below) HO.out hN (by omega) (fun y hy => by
          obtain ⟨z, hz, e⟩ := HI.out.from_ y hy
          have := hap z hz
          have := HP.out.2.1 z (List.mem_of_mem_take hz)
          omega)
        simp only [Int.toNat_natCast] at hrest
        have HN : Hid (∀ w', ShAt w' sh m p fr n (putK Lf.k ⟨leafK (c.last ((fr + pl : Nat) : Int)), pl, leafV (c.last ((fr + pl : Nat) : Int))⟩ M) 0 → Frm [m] wr w' → leafOk M (c.last ((fr + pl : Nat) : Int)) = true → OpI w w' sh m p fr n (i + 1) (some ⟨b, off, none⟩) ps (fun x => c.last ((fr + x.toNat : Nat) : Int)) R (putK Lf.k ⟨leafK (c.last ((fr + pl : Nat) : Int)), pl, leafV (c.last ((fr + pl : Nat) : Int))⟩ M)) := fun w' h1 h2 h3 => by
          refine ⟨h1, HI.out.row.keep fun a e _ => ?_, fun y hy => ?_, ?_, HI.out.below.trans (h2.below HI.out.below.size (by simpa using hsz))⟩
          · cases e
            exact h2.block b (World.block_lt_of_cell? _ _ hcx) (by simpa using hbm)
          · rw [htk]
            rcases (mem_putK Lf.k).1 hy with rfl | h
            · exact ⟨(pl : Int), by simp, by simp⟩
            · obtain ⟨z, hz, e⟩ := HI.out.from_ y h.1
              exact ⟨z, by simp [hz], e⟩
          · rw [if_pos h3] at hrest
            exact hrest
        have HRN : Hid (leafOk M (c.last ((fr + pl : Nat) : Int)) = false → R = none) := fun h => by rw [h] at hrest; simpa using hrest.symm
        clear hrest hcz hx hxm htk hdr hap hxb
        go_wp2_with fail
        refine hrl.mono ?_
        rintro e w5 (⟨h5, rfl, hb5⟩ | ⟨h5, rfl, hS5, hF5⟩)
        · have HE : Hid (OpR w p fr n (openR c fr n) (.returned (.tuple #[.pointer none, .iface 72 (.int .i64 14)])) w5) := ⟨.inl ⟨HRR.out.trans (HRN.out h5), rfl⟩, Below.transS HI.out.below hb5⟩
          clear hrl h5 hb5
          go_wp2
          go_ret2
          exact HE.out
        · have HN5 : Hid (OpI w w5 sh m p fr n (i + 1) (some ⟨b, off, none⟩) ps (fun x => c.last ((fr + x.toNat : Nat) : Int)) R (putK Lf.k ⟨leafK (c.last ((fr + pl : Nat) : Int)), pl, leafV (c.last ((fr + pl : Nat) : Int))⟩ M)) := HN.out w5 hS5 hF5 h5
          clear hrl h5 hS5 hF5
          go_wp2
          exact ⟨⟨i + 1, _, by omega, by go_num, HN5.out⟩, by simp [intOf]; omega⟩
      · obtain rfl : i = ps.length := by omega
        have hlt' : ¬ ((ps.length : Int) < ps.length) := by omega
        have hrest := HI.out.rest
        rw [List.drop_length, takeL] at hrest
        have HE : Hid (OpR w p fr n (openR c fr n) (.returned (.tuple #[.pointer (some ⟨sh, 0, none⟩), .nilIface])) wr) := ⟨.inr ⟨M, sh, m, HRR.out.trans hrest.symm, rfl, HI.out.at_, hsz', hsz⟩, HI.out.below⟩
        clear hrest
        go_wp2
        go_ret2
        exact HE.out
end Go.Proofs.YtbfajoeilpkofaaGreatDoor
