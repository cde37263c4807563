/- OathOrder: the walk. -/
import Derived.Test.YtlddjniofijnnaaDoorOOrdM
namespace Go.Proofs.YtlddjniofijnnaaDoor
open Go.RowKit

attribute [local go_sem ↓] Go.wp_at_zero Go.wp_at_succ

theorem in_cell {W w' : World} {b o : Nat} {v : Value} (h : W.cell? ⟨b, o, none⟩ = some v) (hb : Below W.heap.size W w') : w'.cell? ⟨b, o, none⟩ = some v := by
  have hl : b < W.heap.size := World.block_lt_of_cell? W ⟨b, o, none⟩ h
  rw [hb.cell (p := ⟨b, o, none⟩) hl]; exact h

theorem who_list (p m B : Nat) (g : Nat → Option Nat) (S : List (Int × List UInt8)) (z : Nat → Int) (w : World) (L : List Nat) (h : BkAt w B p m g S) (hz : Zb z) (hL : whoL S z 16 = L) :
    Calls Tryd.prog 16 #[.pointer (some ⟨p, 0, none⟩), .agg (hv z)] w fun e w' => ∃ ad cap, e = .returned (.slice ad L.length cap) ∧ IsAt w' ad L.length (gt L) ∧ Below w.heap.size w w' ∧ (∀ a, ad = some a → w.heap.size ≤ a.block) := by
  subst hL
  exact who_any p m B g S z w h hz
theorem len_nat (p m B : Nat) (g : Nat → Option Nat) (S : List (Int × List UInt8)) (w : World) (n : Nat) (h : BkAt w B p m g S) (hn : S.length = n) :
    Calls Tryd.prog 8 #[.pointer (some ⟨p, 0, none⟩)] w fun e w' => e = .returned (.int .i64 n) ∧ w' = w := by
  subst hn
  exact len_any p m B g S w h

set_option maxRecDepth 100000 in
set_option maxHeartbeats 6400000 in
theorem order_any (ad : Option Addr) (len cap : Nat) (y z : Nat → Int) (W : World) (hg : Glob W) (hI : IsAt W ad len y) (hy : ∀ j, j < len → Ib (y j)) (hz : Zb z) (hlen : len ≤ 9223372036854775807) :
    Calls Tryd.prog 5 #[.slice ad len cap, .agg (hv z)] W fun e w' => e = .returned (.bool true) ∧ Below W.heap.size W w' := by
  have HG : Hid (Glob W) := hg
  have HI : Hid (IsAt W ad len y) := hI
  have HY : Hid (∀ j, j < len → Ib (y j)) := hy
  clear hg hI hy
  go_enter Tryd.func5, Tryd.ntmps5
  go_wp2_with (first | (refine Go.Great.wpList_boxTo rfl _ _ rfl _ rfl _ rfl (hv z) rfl ?_) | fail)
  generalize hw0 : W.alloc (.cells (hv z) 32) = w0
  have hs0 : W.heap.size + 1 = w0.heap.size := by rw [← hw0]; simp
  refine (new_any w0 (W.heap.size + 1) (by omega)).mono ?_
  rintro e w1 ⟨rfl, hk1, hb1, hs1⟩
  have HK1 : Hid (BkAt w1 (W.heap.size + 1) (w0.heap.size + 1) w0.heap.size (fun _ => none) [] ∧ Below w0.heap.size w0 w1) := ⟨hk1, hb1⟩
  clear hk1 hb1
  go_wp2_with fail
  refine (new_any w1 (W.heap.size + 1) (by omega)).mono ?_
  rintro e w2 ⟨rfl, hk2, hb2, -⟩
  have h0 := TwoB.begin W w0 w1 w2 z hw0.symm HK1.out.1 HK1.out.2 hs1 hk2 hb2
  clear HK1 hk2 hb2
  generalize hpa : w0.heap.size + 1 = pa at *
  generalize hma : w0.heap.size = ma at *
  generalize hpb : w1.heap.size + 1 = pb at *
  generalize hmb : w1.heap.size = mb at *
  clear hpa hma hpb hmb hs0 hs1 hw0
  go_upto_region 4 with fail
  go_cut [7] (fun v wc => ∃ n : Nat, n ≤ len ∧ n ≤ 40 ∧ v = .int .i64 n ∧ w2 = wc)
  case first =>
    go_wp2_with fail
    all_goals go_meet
    exact ⟨min len 40, by omega, by omega, by congr 1; omega, rfl⟩
  case rest =>
  obtain ⟨n, hn1, hn2, rfl, rfl⟩ := hcut
  go_wp2_with fail
  go_loopw [8] (fun iv wr => ∃ (i : Nat) (ga gb : Nat → Option Nat), i ≤ n ∧ iv = .int .i64 i ∧ TwoB W wr z pa ma pb mb ga gb (sa y z i) (sb y z n i)) (fun iv _ => n + 1 - (intOf iv).toNat)
  case atStart => exact ⟨0, _, _, by omega, rfl, h0⟩
  case round =>
    clear h0
    obtain ⟨i, ga, gb, hin, rfl, hT⟩ := hrel
    have HT : Hid (TwoB W wr z pa ma pb mb ga gb (sa y z i) (sb y z n i)) := hT
    clear hT
    have hla := sa_len y z i
    have hlb := sb_len y z n i
    by_cases hlt : i < n
    · have hlt' : (i : Int) < n := by omega
      have hl1 : (i : Int) < len := by omega
      obtain ⟨b, off, rfl, hc⟩ := HI.out (by omega)
      have y1 := HY.out i (by omega)
      have y2 := HY.out (n - 1 - i) (by omega)
      have HC1 : Hid (W.cell? ⟨b, off + i, none⟩ = some (.int .i64 (y i))) := hc i (by omega)
      have HC2 : Hid (W.cell? ⟨b, off + (n - 1 - i), none⟩ = some (.int .i64 (y (n - 1 - i)))) := hc (n - 1 - i) (by omega)
      clear hc
      have hd1 := HT.out.keep (Below.refl wr.heap.size wr).drew
      have hw1 : IntKind.i64.wrap ((n : Int) - 1) = ((n - 1 : Nat) : Int) := by simp [IntKind.wrap, IntKind.bits, IntKind.signed]; omega
      have hw2 : IntKind.i64.wrap (((n - 1 : Nat) : Int) - i) = ((n - 1 - i : Nat) : Int) := by simp [IntKind.wrap, IntKind.bits, IntKind.signed]; omega
      have hnl : ((n - 1 - i : Nat) : Int) < len := by omega
      have S1 : wr.drew.cell? ⟨b, off + i, none⟩ = some (.int .i64 (y i)) ∧ wr.drew.rangeAt W.heap.size 0 (bl z 32) := ⟨in_cell HC1.out hd1.below, hv_range hd1.box⟩
      go_wp2_with fail
      refine wp_region_noPanic ?_
      refine wp_region_held_drew (S := fun w' => w'.cell? ⟨b, off + i, none⟩ = some (.int .i64 (y i)) ∧ w'.rangeAt W.heap.size 0 (bl z 32)) (by kernel_rfl) S1 (fun hHeld => ?_)
      refine wpAnyH_take (i := 0) (oi := { dst := some 25, op := Go.Op.move (Go.Operand.tmp 5), type := 23, pos := "law.go:141", after := #[], guard := none }) (v := ?_) rfl (by kernel_rfl) (by kernel_rfl) (by kernel_rfl) (fun _ _ _ h => h) (Or.inl ⟨by rfl, ?_⟩) (by assumption) ?_
      rotate_left
      · intro wz hSw; (try dsimp only at hSw); go_simp; (try with_reducible rfl)
      try simp only [Act.put, List.setIfInBounds_toArray, List.set_cons_zero, List.set_cons_succ]
      refine wpAnyH_take (i := 1) (oi := { dst := some 26, op := Go.Op.move (Go.Operand.tmp 0), type := 38, pos := "law.go:141", after := #[], guard := none }) (v := ?_) rfl (by kernel_rfl) (by kernel_rfl) (by kernel_rfl) (fun _ _ _ h => h) (Or.inl ⟨by rfl, ?_⟩) (by assumption) ?_
      rotate_left
      · intro wz hSw; (try dsimp only at hSw); go_simp; (try with_reducible rfl)
      try simp only [Act.put, List.setIfInBounds_toArray, List.set_cons_zero, List.set_cons_succ]
      refine wpAnyH_take (i := 2) (oi := { dst := some 27, op := Go.Op.move (Go.Operand.tmp 8), type := 3, pos := "law.go:141", after := #[], guard := none }) (v := ?_) rfl (by kernel_rfl) (by kernel_rfl) (by kernel_rfl) (fun _ _ _ h => h) (Or.inl ⟨by rfl, ?_⟩) (by assumption) ?_
      rotate_left
      · intro wz hSw; (try dsimp only at hSw); go_simp; (try with_reducible rfl)
      try simp only [Act.put, List.setIfInBounds_toArray, List.set_cons_zero, List.set_cons_succ]
      refine wpAnyH_take (i := 3) (oi := { dst := some 28, op := Go.Op.indexAddr 38 (Go.Operand.tmp 26) (Go.Operand.tmp 27), type := 0, pos := "law.go:141", after := #[{ on := 1, ground := Go.Ground.data }, { on := 2, ground := Go.Ground.data }], guard := none }) (v := ?_) rfl (by kernel_rfl) (by kernel_rfl) (by kernel_rfl) (fun _ _ _ h => h) (Or.inl ⟨by rfl, ?_⟩) (by assumption) ?_
      rotate_left
      · intro wz hSw; (try dsimp only at hSw); go_simp; (try with_reducible rfl)
      try simp only [Act.put, List.setIfInBounds_toArray, List.set_cons_zero, List.set_cons_succ]
      refine wpAnyH_take (i := 4) (oi := { dst := some 29, op := Go.Op.load 3 (Go.Operand.tmp 28), type := 3, pos := "law.go:141", after := #[{ on := 3, ground := Go.Ground.data }], guard := none }) (v := ?_) rfl (by kernel_rfl) (by kernel_rfl) (by kernel_rfl) (fun _ _ _ h => h) (Or.inl ⟨by rfl, ?_⟩) (by assumption) ?_
      rotate_left
      · intro wz hSw; (try dsimp only at hSw); go_simp; (try with_reducible rfl)
      try simp only [Act.put, List.setIfInBounds_toArray, List.set_cons_zero, List.set_cons_succ]
      refine wpAnyH_take (i := 5) (oi := { dst := some 30, op := Go.Op.load 32 (Go.Operand.tmp 3), type := 32, pos := "law.go:141", after := #[], guard := none }) rfl (by kernel_rfl) (by kernel_rfl) (by kernel_rfl) (fun _ _ _ h => h) (yieldsIf_load_mid (by rfl) _ _ rfl W.heap.size 0 rfl (bl z 32) _ (fun _ h => h.2) Tryd.underlying32 rfl (bl_size z)) (by assumption) ?_
      try simp only [Act.put, List.setIfInBounds_toArray, List.set_cons_zero, List.set_cons_succ]
      refine wpAnyH_ready (rs := [6]) (by kernel_rfl) (by simp) ?_
      refine (AllReadyH.cons (o := { dst := some 31, op := Go.Op.call { callee := Go.Callee.value (Go.Operand.func 9), args := #[Go.Operand.tmp 25, Go.Operand.tmp 29, Go.Operand.tmp 30], argTypes := #[23, 3, 32] }, type := 29, pos := "law.go:141", after := #[{ on := 0, ground := Go.Ground.data }, { on := 4, ground := Go.Ground.data }, { on := 5, ground := Go.Ground.data }], guard := none }) rfl (fun K hK => ?_) AllReadyH.nil)
      go_simp
      refine (sign_any pa ma _ ga _ (y i) z _ hd1.a y1 hz (by omega) (by have := hd1.below.size; have := lt_of_block hd1.box; omega)).mono ?_
      rintro e w3 ⟨rfl, ga', q1, q2, q3⟩
      have hT3 := hd1.sign q1 q2 q3
      have S2 : w3.cell? ⟨b, off + i, none⟩ = some (.int .i64 (y i)) ∧ w3.rangeAt W.heap.size 0 (bl z 32) := ⟨in_cell HC1.out hT3.below, hv_range hT3.box⟩
      refine hK.out _ _ S2 (fun _ => ?_)
      clear hK K
      try simp only [Act.put, List.setIfInBounds_toArray, List.set_cons_zero, List.set_cons_succ]
      refine wpAnyH_done (by kernel_rfl) (NoPanic.normal ?_) _
      try simp only [Act.put, List.setIfInBounds_toArray, List.set_cons_zero, List.set_cons_succ]
      have hd3 := hT3.keep (Below.refl w3.heap.size w3).drew
      have HD3 : Hid (TwoB W w3.drew z pa ma pb mb ga' gb (sa y z (i + 1)) (sb y z n i)) := hd3
      have S3 : w3.drew.cell? ⟨b, off + (n - 1 - i), none⟩ = some (.int .i64 (y (n - 1 - i))) ∧ w3.drew.rangeAt W.heap.size 0 (bl z 32) := ⟨in_cell HC2.out hd3.below, hv_range hd3.box⟩
      clear hd1 S1 S2 hHeld q1 q2 q3 hT3 hd3 HT
      go_wp2_with fail
      refine wp_region_noPanic ?_
      refine wp_region_held_drew (S := fun w' => w'.cell? ⟨b, off + (n - 1 - i), none⟩ = some (.int .i64 (y (n - 1 - i))) ∧ w'.rangeAt W.heap.size 0 (bl z 32)) (by kernel_rfl) S3 (fun hHeld => ?_)
      refine wpAnyH_take (i := 0) (oi := { dst := some 32, op := Go.Op.move (Go.Operand.tmp 6), type := 23, pos := "law.go:142", after := #[], guard := none }) (v := ?_) rfl (by kernel_rfl) (by kernel_rfl) (by kernel_rfl) (fun _ _ _ h => h) (Or.inl ⟨by rfl, ?_⟩) (by assumption) ?_
      rotate_left
      · intro wz hSw; (try dsimp only at hSw); go_simp; (try with_reducible rfl)
      try simp only [Act.put, List.setIfInBounds_toArray, List.set_cons_zero, List.set_cons_succ]
      refine wpAnyH_take (i := 1) (oi := { dst := some 33, op := Go.Op.move (Go.Operand.tmp 0), type := 38, pos := "law.go:142", after := #[], guard := none }) (v := ?_) rfl (by kernel_rfl) (by kernel_rfl) (by kernel_rfl) (fun _ _ _ h => h) (Or.inl ⟨by rfl, ?_⟩) (by assumption) ?_
      rotate_left
      · intro wz hSw; (try dsimp only at hSw); go_simp; (try with_reducible rfl)
      try simp only [Act.put, List.setIfInBounds_toArray, List.set_cons_zero, List.set_cons_succ]
      refine wpAnyH_take (i := 2) (oi := { dst := some 34, op := Go.Op.move (Go.Operand.tmp 7), type := 3, pos := "law.go:142", after := #[], guard := none }) (v := ?_) rfl (by kernel_rfl) (by kernel_rfl) (by kernel_rfl) (fun _ _ _ h => h) (Or.inl ⟨by rfl, ?_⟩) (by assumption) ?_
      rotate_left
      · intro wz hSw; (try dsimp only at hSw); go_simp; (try with_reducible rfl)
      try simp only [Act.put, List.setIfInBounds_toArray, List.set_cons_zero, List.set_cons_succ]
      refine wpAnyH_take (i := 3) (oi := { dst := some 35, op := Go.Op.binOp Go.BinOp.sub 3 (Go.Operand.tmp 34) (Go.Operand.const (Go.Value.int Go.IntKind.i64 1)) 3, type := 3, pos := "law.go:142", after := #[{ on := 2, ground := Go.Ground.data }], guard := none }) (v := .int .i64 ((n - 1 : Nat) : Int)) rfl (by kernel_rfl) (by kernel_rfl) (by kernel_rfl) (fun _ _ _ h => h) (Or.inl ⟨by rfl, ?_⟩) (by assumption) ?_
      · intro wz hSw; (try dsimp only at hSw); go_simp; try (rw [hw1]); try rfl
      try simp only [Act.put, List.setIfInBounds_toArray, List.set_cons_zero, List.set_cons_succ]
      refine wpAnyH_take (i := 4) (oi := { dst := some 36, op := Go.Op.move (Go.Operand.tmp 8), type := 3, pos := "law.go:142", after := #[], guard := none }) (v := ?_) rfl (by kernel_rfl) (by kernel_rfl) (by kernel_rfl) (fun _ _ _ h => h) (Or.inl ⟨by rfl, ?_⟩) (by assumption) ?_
      rotate_left
      · intro wz hSw; (try dsimp only at hSw); go_simp; (try with_reducible rfl)
      try simp only [Act.put, List.setIfInBounds_toArray, List.set_cons_zero, List.set_cons_succ]
      refine wpAnyH_take (i := 5) (oi := { dst := some 37, op := Go.Op.binOp Go.BinOp.sub 3 (Go.Operand.tmp 35) (Go.Operand.tmp 36) 3, type := 3, pos := "law.go:142", after := #[{ on := 3, ground := Go.Ground.data }, { on := 4, ground := Go.Ground.data }], guard := none }) (v := .int .i64 ((n - 1 - i : Nat) : Int)) rfl (by kernel_rfl) (by kernel_rfl) (by kernel_rfl) (fun _ _ _ h => h) (Or.inl ⟨by rfl, ?_⟩) (by assumption) ?_
      · intro wz hSw; (try dsimp only at hSw); go_simp; try (rw [hw2]); try rfl
      try simp only [Act.put, List.setIfInBounds_toArray, List.set_cons_zero, List.set_cons_succ]
      refine wpAnyH_take (i := 6) (oi := { dst := some 38, op := Go.Op.indexAddr 38 (Go.Operand.tmp 33) (Go.Operand.tmp 37), type := 0, pos := "law.go:142", after := #[{ on := 1, ground := Go.Ground.data }, { on := 5, ground := Go.Ground.data }], guard := none }) (v := ?_) rfl (by kernel_rfl) (by kernel_rfl) (by kernel_rfl) (fun _ _ _ h => h) (Or.inl ⟨by rfl, ?_⟩) (by assumption) ?_
      rotate_left
      · intro wz hSw; (try dsimp only at hSw); go_simp; (try with_reducible rfl)
      try simp only [Act.put, List.setIfInBounds_toArray, List.set_cons_zero, List.set_cons_succ]
      refine wpAnyH_take (i := 7) (oi := { dst := some 39, op := Go.Op.load 3 (Go.Operand.tmp 38), type := 3, pos := "law.go:142", after := #[{ on := 6, ground := Go.Ground.data }], guard := none }) (v := ?_) rfl (by kernel_rfl) (by kernel_rfl) (by kernel_rfl) (fun _ _ _ h => h) (Or.inl ⟨by rfl, ?_⟩) (by assumption) ?_
      rotate_left
      · intro wz hSw; (try dsimp only at hSw); go_simp; (try with_reducible rfl)
      try simp only [Act.put, List.setIfInBounds_toArray, List.set_cons_zero, List.set_cons_succ]
      refine wpAnyH_take (i := 8) (oi := { dst := some 40, op := Go.Op.load 32 (Go.Operand.tmp 3), type := 32, pos := "law.go:142", after := #[], guard := none }) rfl (by kernel_rfl) (by kernel_rfl) (by kernel_rfl) (fun _ _ _ h => h) (yieldsIf_load_mid (by rfl) _ _ rfl W.heap.size 0 rfl (bl z 32) _ (fun _ h => h.2) Tryd.underlying32 rfl (bl_size z)) (by assumption) ?_
      try simp only [Act.put, List.setIfInBounds_toArray, List.set_cons_zero, List.set_cons_succ]
      refine wpAnyH_ready (rs := [9]) (by kernel_rfl) (by simp) ?_
      refine (AllReadyH.cons (o := { dst := some 41, op := Go.Op.call { callee := Go.Callee.value (Go.Operand.func 9), args := #[Go.Operand.tmp 32, Go.Operand.tmp 39, Go.Operand.tmp 40], argTypes := #[23, 3, 32] }, type := 29, pos := "law.go:142", after := #[{ on := 0, ground := Go.Ground.data }, { on := 7, ground := Go.Ground.data }, { on := 8, ground := Go.Ground.data }], guard := none }) rfl (fun K hK => ?_) AllReadyH.nil)
      go_simp
      refine (sign_any pb mb _ gb _ (y (n - 1 - i)) z _ HD3.out.b y2 hz (by omega) (by have := HD3.out.below.size; have := lt_of_block HD3.out.box; omega)).mono ?_
      rintro e w4 ⟨rfl, gb', q1, q2, q3⟩
      have hT4 := (HD3.out.swap.sign q1 q2 q3).swap
      have S4 : w4.cell? ⟨b, off + (n - 1 - i), none⟩ = some (.int .i64 (y (n - 1 - i))) ∧ w4.rangeAt W.heap.size 0 (bl z 32) := ⟨in_cell HC2.out hT4.below, hv_range hT4.box⟩
      refine hK.out _ _ S4 (fun _ => ?_)
      clear hK K
      try simp only [Act.put, List.setIfInBounds_toArray, List.set_cons_zero, List.set_cons_succ]
      refine wpAnyH_done (by kernel_rfl) (NoPanic.normal ?_) _
      try simp only [Act.put, List.setIfInBounds_toArray, List.set_cons_zero, List.set_cons_succ]
      have hd4 := hT4.keep (Below.refl w4.heap.size w4).drew
      have HD4 : Hid (TwoB W w4.drew z pa ma pb mb ga' gb' (sa y z (i + 1)) (sgnS (sb y z n i) (y (n - 1 - i)) z)) := hd4
      have S5 : w4.drew.cell? ⟨b, off + (n - 1 - i), none⟩ = some (.int .i64 (y (n - 1 - i))) ∧ w4.drew.rangeAt W.heap.size 0 (bl z 32) := ⟨in_cell HC2.out hd4.below, hv_range hd4.box⟩
      have hl4 := sgnS_len (sb y z n i) (y (n - 1 - i)) z
      clear S3 S4 hHeld q1 q2 q3 hT4 hd4 HD3
      go_wp2_with fail
      refine wp_region_noPanic ?_
      refine wp_region_held_drew (S := fun w' => w'.cell? ⟨b, off + (n - 1 - i), none⟩ = some (.int .i64 (y (n - 1 - i))) ∧ w'.rangeAt W.heap.size 0 (bl z 32)) (by kernel_rfl) S5 (fun hHeld => ?_)
      refine wpAnyH_take (i := 0) (oi := { dst := some 42, op := Go.Op.move (Go.Operand.tmp 6), type := 23, pos := "law.go:143", after := #[], guard := none }) (v := ?_) rfl (by kernel_rfl) (by kernel_rfl) (by kernel_rfl) (fun _ _ _ h => h) (Or.inl ⟨by rfl, ?_⟩) (by assumption) ?_
      rotate_left
      · intro wz hSw; (try dsimp only at hSw); go_simp; (try with_reducible rfl)
      try simp only [Act.put, List.setIfInBounds_toArray, List.set_cons_zero, List.set_cons_succ]
      refine wpAnyH_take (i := 1) (oi := { dst := some 43, op := Go.Op.move (Go.Operand.tmp 0), type := 38, pos := "law.go:143", after := #[], guard := none }) (v := ?_) rfl (by kernel_rfl) (by kernel_rfl) (by kernel_rfl) (fun _ _ _ h => h) (Or.inl ⟨by rfl, ?_⟩) (by assumption) ?_
      rotate_left
      · intro wz hSw; (try dsimp only at hSw); go_simp; (try with_reducible rfl)
      try simp only [Act.put, List.setIfInBounds_toArray, List.set_cons_zero, List.set_cons_succ]
      refine wpAnyH_take (i := 2) (oi := { dst := some 44, op := Go.Op.move (Go.Operand.tmp 7), type := 3, pos := "law.go:143", after := #[], guard := none }) (v := ?_) rfl (by kernel_rfl) (by kernel_rfl) (by kernel_rfl) (fun _ _ _ h => h) (Or.inl ⟨by rfl, ?_⟩) (by assumption) ?_
      rotate_left
      · intro wz hSw; (try dsimp only at hSw); go_simp; (try with_reducible rfl)
      try simp only [Act.put, List.setIfInBounds_toArray, List.set_cons_zero, List.set_cons_succ]
      refine wpAnyH_take (i := 3) (oi := { dst := some 45, op := Go.Op.binOp Go.BinOp.sub 3 (Go.Operand.tmp 44) (Go.Operand.const (Go.Value.int Go.IntKind.i64 1)) 3, type := 3, pos := "law.go:143", after := #[{ on := 2, ground := Go.Ground.data }], guard := none }) (v := .int .i64 ((n - 1 : Nat) : Int)) rfl (by kernel_rfl) (by kernel_rfl) (by kernel_rfl) (fun _ _ _ h => h) (Or.inl ⟨by rfl, ?_⟩) (by assumption) ?_
      · intro wz hSw; (try dsimp only at hSw); go_simp; try (rw [hw1]); try rfl
      try simp only [Act.put, List.setIfInBounds_toArray, List.set_cons_zero, List.set_cons_succ]
      refine wpAnyH_take (i := 4) (oi := { dst := some 46, op := Go.Op.move (Go.Operand.tmp 8), type := 3, pos := "law.go:143", after := #[], guard := none }) (v := ?_) rfl (by kernel_rfl) (by kernel_rfl) (by kernel_rfl) (fun _ _ _ h => h) (Or.inl ⟨by rfl, ?_⟩) (by assumption) ?_
      rotate_left
      · intro wz hSw; (try dsimp only at hSw); go_simp; (try with_reducible rfl)
      try simp only [Act.put, List.setIfInBounds_toArray, List.set_cons_zero, List.set_cons_succ]
      refine wpAnyH_take (i := 5) (oi := { dst := some 47, op := Go.Op.binOp Go.BinOp.sub 3 (Go.Operand.tmp 45) (Go.Operand.tmp 46) 3, type := 3, pos := "law.go:143", after := #[{ on := 3, ground := Go.Ground.data }, { on := 4, ground := Go.Ground.data }], guard := none }) (v := .int .i64 ((n - 1 - i : Nat) : Int)) rfl (by kernel_rfl) (by kernel_rfl) (by kernel_rfl) (fun _ _ _ h => h) (Or.inl ⟨by rfl, ?_⟩) (by assumption) ?_
      · intro wz hSw; (try dsimp only at hSw); go_simp; try (rw [hw2]); try rfl
      try simp only [Act.put, List.setIfInBounds_toArray, List.set_cons_zero, List.set_cons_succ]
      refine wpAnyH_take (i := 6) (oi := { dst := some 48, op := Go.Op.indexAddr 38 (Go.Operand.tmp 43) (Go.Operand.tmp 47), type := 0, pos := "law.go:143", after := #[{ on := 1, ground := Go.Ground.data }, { on := 5, ground := Go.Ground.data }], guard := none }) (v := ?_) rfl (by kernel_rfl) (by kernel_rfl) (by kernel_rfl) (fun _ _ _ h => h) (Or.inl ⟨by rfl, ?_⟩) (by assumption) ?_
      rotate_left
      · intro wz hSw; (try dsimp only at hSw); go_simp; (try with_reducible rfl)
      try simp only [Act.put, List.setIfInBounds_toArray, List.set_cons_zero, List.set_cons_succ]
      refine wpAnyH_take (i := 7) (oi := { dst := some 49, op := Go.Op.load 3 (Go.Operand.tmp 48), type := 3, pos := "law.go:143", after := #[{ on := 6, ground := Go.Ground.data }], guard := none }) (v := ?_) rfl (by kernel_rfl) (by kernel_rfl) (by kernel_rfl) (fun _ _ _ h => h) (Or.inl ⟨by rfl, ?_⟩) (by assumption) ?_
      rotate_left
      · intro wz hSw; (try dsimp only at hSw); go_simp; (try with_reducible rfl)
      try simp only [Act.put, List.setIfInBounds_toArray, List.set_cons_zero, List.set_cons_succ]
      refine wpAnyH_take (i := 8) (oi := { dst := some 50, op := Go.Op.load 32 (Go.Operand.tmp 3), type := 32, pos := "law.go:143", after := #[], guard := none }) rfl (by kernel_rfl) (by kernel_rfl) (by kernel_rfl) (fun _ _ _ h => h) (yieldsIf_load_mid (by rfl) _ _ rfl W.heap.size 0 rfl (bl z 32) _ (fun _ h => h.2) Tryd.underlying32 rfl (bl_size z)) (by assumption) ?_
      try simp only [Act.put, List.setIfInBounds_toArray, List.set_cons_zero, List.set_cons_succ]
      refine wpAnyH_ready (rs := [9]) (by kernel_rfl) (by simp) ?_
      refine (AllReadyH.cons (o := { dst := some 51, op := Go.Op.call { callee := Go.Callee.value (Go.Operand.func 9), args := #[Go.Operand.tmp 42, Go.Operand.tmp 49, Go.Operand.tmp 50], argTypes := #[23, 3, 32] }, type := 29, pos := "law.go:143", after := #[{ on := 0, ground := Go.Ground.data }, { on := 7, ground := Go.Ground.data }, { on := 8, ground := Go.Ground.data }], guard := none }) rfl (fun K hK => ?_) AllReadyH.nil)
      go_simp
      refine (sign_any pb mb _ gb' _ (y (n - 1 - i)) z _ HD4.out.b y2 hz (by omega) (by have := HD4.out.below.size; have := lt_of_block HD4.out.box; omega)).mono ?_
      rintro e w5 ⟨rfl, gb2, q1, q2, q3⟩
      have hT5 := (HD4.out.swap.sign q1 q2 q3).swap
      have S6 : w5.cell? ⟨b, off + (n - 1 - i), none⟩ = some (.int .i64 (y (n - 1 - i))) ∧ w5.rangeAt W.heap.size 0 (bl z 32) := ⟨in_cell HC2.out hT5.below, hv_range hT5.box⟩
      have HT5 : Hid (TwoB W w5 z pa ma pb mb ga' gb2 (sa y z (i + 1)) (sb y z n (i + 1))) := hT5
      refine hK.out _ _ S6 (fun _ => ?_)
      clear hK K
      try simp only [Act.put, List.setIfInBounds_toArray, List.set_cons_zero, List.set_cons_succ]
      refine wpAnyH_done (by kernel_rfl) (NoPanic.normal ?_) _
      try simp only [Act.put, List.setIfInBounds_toArray, List.set_cons_zero, List.set_cons_succ]
      clear S5 S6 hHeld q1 q2 q3 hT5 HD4
      go_wp2
      go_roundw
      case rel => exact ⟨i + 1, ga', gb2, by omega, by go_num, HT5.out⟩
      case measure => simp [intOf]; omega
    · obtain rfl : i = n := by omega
      clear HI HY hla hlb
      have hA := one_len (sa_one y z i)
      have hB := one_len (sb_one y z i i)
      have hw := ab_who y z i 16
      have h16 := whoL_len (sa y z i) z 16
      rw [hw] at hB
      generalize hSa : sa y z i = Sa at *
      generalize hSb : sb y z i i = Sb at *
      clear hSa hSb
      generalize hL : whoL Sa z 16 = L at *
      have HW : Hid (whoL Sa z 16 = L ∧ whoL Sb z 16 = L ∧ Sa.length = L.length ∧ Sb.length = L.length) := ⟨hL, hw, hA.symm, hB.symm⟩
      clear hw hL hA hB
      have hd := HT.out.keep (Below.refl wr.heap.size wr).drew
      have S1 : wr.drew.rangeAt W.heap.size 0 (bl z 32) := hv_range hd.box
      have HD : Hid (TwoB W wr.drew z pa ma pb mb ga gb Sa Sb) := hd
      have hpos := HG.out.pos
      clear HT hd
      go_wp2_with fail
      refine wp_region_noPanic ?_
      refine wp_region_held_drew (S := fun w' => w'.rangeAt W.heap.size 0 (bl z 32)) (by kernel_rfl) S1 (fun hHeld => ?_)
      refine wpAnyH_take (i := 0) (oi := { dst := some 52, op := Go.Op.move (Go.Operand.tmp 5), type := 23, pos := "law.go:145", after := #[], guard := none }) (v := ?_) rfl (by kernel_rfl) (by kernel_rfl) (by kernel_rfl) (fun _ _ _ h => h) (Or.inl ⟨by rfl, ?_⟩) (by assumption) ?_
      rotate_left
      · intro wz hSw; (try dsimp only at hSw); go_simp; (try with_reducible rfl)
      try simp only [Act.put, List.setIfInBounds_toArray, List.set_cons_zero, List.set_cons_succ]
      refine wpAnyH_take (i := 3) (oi := { dst := some 55, op := Go.Op.move (Go.Operand.tmp 6), type := 23, pos := "law.go:145", after := #[], guard := none }) (v := ?_) rfl (by kernel_rfl) (by kernel_rfl) (by kernel_rfl) (fun _ _ _ h => h) (Or.inl ⟨by rfl, ?_⟩) (by assumption) ?_
      rotate_left
      · intro wz hSw; (try dsimp only at hSw); go_simp; (try with_reducible rfl)
      try simp only [Act.put, List.setIfInBounds_toArray, List.set_cons_zero, List.set_cons_succ]
      refine wpAnyH_take (i := 1) (oi := { dst := some 53, op := Go.Op.load 32 (Go.Operand.tmp 3), type := 32, pos := "law.go:145", after := #[], guard := none }) rfl (by kernel_rfl) (by kernel_rfl) (by kernel_rfl) (fun _ _ _ h => h) (yieldsIf_load_mid (by rfl) _ _ rfl W.heap.size 0 rfl (bl z 32) _ (fun _ h => h) Tryd.underlying32 rfl (bl_size z)) (by assumption) ?_
      try simp only [Act.put, List.setIfInBounds_toArray, List.set_cons_zero, List.set_cons_succ]
      refine wpAnyH_take (i := 4) (oi := { dst := some 56, op := Go.Op.load 32 (Go.Operand.tmp 3), type := 32, pos := "law.go:145", after := #[], guard := none }) rfl (by kernel_rfl) (by kernel_rfl) (by kernel_rfl) (fun _ _ _ h => h) (yieldsIf_load_mid (by rfl) _ _ rfl W.heap.size 0 rfl (bl z 32) _ (fun _ h => h) Tryd.underlying32 rfl (bl_size z)) (by assumption) ?_
      try simp only [Act.put, List.setIfInBounds_toArray, List.set_cons_zero, List.set_cons_succ]
      refine wpAnyH_ready (rs := [2]) (by kernel_rfl) (by simp) ?_
      refine (AllReadyH.cons (o := { dst := some 54, op := Go.Op.call { callee := Go.Callee.value (Go.Operand.func 16), args := #[Go.Operand.tmp 52, Go.Operand.tmp 53], argTypes := #[23, 32] }, type := 38, pos := "law.go:145", after := #[{ on := 0, ground := Go.Ground.data }, { on := 1, ground := Go.Ground.data }], guard := none }) rfl (fun K hK => ?_) AllReadyH.nil)
      go_simp
      refine (who_list pa ma _ ga Sa z _ L HD.out.a hz HW.out.1).mono ?_
      rintro e w3 ⟨ad1, cap1, rfl, k1, b3, -⟩
      have HD3 : Hid (TwoB W w3 z pa ma pb mb ga gb Sa Sb) := HD.out.keep b3
      have HK1 : Hid (IsAt w3 ad1 L.length (gt L)) := k1
      clear k1 b3 HD
      refine hK.out _ _ (hv_range HD3.out.box) (fun _ => ?_)
      clear hK K
      try simp only [Act.put, List.setIfInBounds_toArray, List.set_cons_zero, List.set_cons_succ]
      refine wpAnyH_ready (rs := [5]) (by kernel_rfl) (by simp) ?_
      refine (AllReadyH.cons (o := { dst := some 57, op := Go.Op.call { callee := Go.Callee.value (Go.Operand.func 16), args := #[Go.Operand.tmp 55, Go.Operand.tmp 56], argTypes := #[23, 32] }, type := 38, pos := "law.go:145", after := #[{ on := 3, ground := Go.Ground.data }, { on := 4, ground := Go.Ground.data }, { on := 2, ground := Go.Ground.chain }], guard := none }) rfl (fun K hK => ?_) AllReadyH.nil)
      go_simp
      refine (who_list pb mb _ gb Sb z _ L HD3.out.b hz HW.out.2.1).mono ?_
      rintro e w4 ⟨ad2, cap2, rfl, k2, b4, -⟩
      have HD4 : Hid (TwoB W w4 z pa ma pb mb ga gb Sa Sb) := HD3.out.keep b4
      have HK2 : Hid (IsAt w4 ad1 L.length (gt L) ∧ IsAt w4 ad2 L.length (gt L)) := ⟨IsAt.below HK1.out b4, k2⟩
      clear k2 b4 HD3 HK1
      refine hK.out _ _ (hv_range HD4.out.box) (fun _ => ?_)
      clear hK K
      try simp only [Act.put, List.setIfInBounds_toArray, List.set_cons_zero, List.set_cons_succ]
      refine wpAnyH_ready (rs := [6]) (by kernel_rfl) (by simp) ?_
      refine (AllReadyH.cons (o := { dst := some 58, op := Go.Op.call { callee := Go.Callee.value (Go.Operand.func 15), args := #[Go.Operand.tmp 54, Go.Operand.tmp 57], argTypes := #[38, 38] }, type := 4, pos := "law.go:145", after := #[{ on := 2, ground := Go.Ground.data }, { on := 5, ground := Go.Ground.data }, { on := 5, ground := Go.Ground.chain }], guard := none }) rfl (fun K hK => ?_) AllReadyH.nil)
      go_simp
      refine (ints_same ad1 ad2 _ cap1 cap2 _ _ HK2.out.1 HK2.out.2 (by omega)).mono ?_
      rintro e w5 ⟨rfl, b5⟩
      have HD5 : Hid (TwoB W w5 z pa ma pb mb ga gb Sa Sb) := HD4.out.keep b5
      clear b5 HD4 HK2
      refine hK.out _ _ (hv_range HD5.out.box) (fun _ => ?_)
      clear hK K
      try simp only [Act.put, List.setIfInBounds_toArray, List.set_cons_zero, List.set_cons_succ]
      refine wpAnyH_take (i := 7) (oi := { dst := some 59, op := Go.Op.move (Go.Operand.tmp 58), type := 4, pos := "law.go:145", after := #[{ on := 6, ground := Go.Ground.data }, { on := 6, ground := Go.Ground.chain }], guard := none }) (v := ?_) rfl (by kernel_rfl) (by kernel_rfl) (by kernel_rfl) (fun _ _ _ h => h) (Or.inl ⟨by rfl, ?_⟩) (by assumption) ?_
      rotate_left
      · intro wz hSw; (try dsimp only at hSw); go_simp; (try with_reducible rfl)
      try simp only [Act.put, List.setIfInBounds_toArray, List.set_cons_zero, List.set_cons_succ]
      refine wpAnyH_take (i := 8) (oi := { dst := some 60, op := Go.Op.move (Go.Operand.tmp 5), type := 23, pos := "law.go:145", after := #[{ on := 7, ground := Go.Ground.guard }], guard := some (7, true) }) (v := ?_) rfl (by kernel_rfl) (by kernel_rfl) (by kernel_rfl) (fun _ _ _ h => h) (Or.inl ⟨by rfl, ?_⟩) (by assumption) ?_
      rotate_left
      · intro wz hSw; (try dsimp only at hSw); go_simp; (try with_reducible rfl)
      try simp only [Act.put, List.setIfInBounds_toArray, List.set_cons_zero, List.set_cons_succ]
      refine wpAnyH_take (i := 10) (oi := { dst := some 62, op := Go.Op.move (Go.Operand.tmp 6), type := 23, pos := "law.go:145", after := #[{ on := 7, ground := Go.Ground.guard }], guard := some (7, true) }) (v := ?_) rfl (by kernel_rfl) (by kernel_rfl) (by kernel_rfl) (fun _ _ _ h => h) (Or.inl ⟨by rfl, ?_⟩) (by assumption) ?_
      rotate_left
      · intro wz hSw; (try dsimp only at hSw); go_simp; (try with_reducible rfl)
      try simp only [Act.put, List.setIfInBounds_toArray, List.set_cons_zero, List.set_cons_succ]
      refine wpAnyH_ready (rs := [9]) (by kernel_rfl) (by simp) ?_
      refine (AllReadyH.cons (o := { dst := some 61, op := Go.Op.call { callee := Go.Callee.value (Go.Operand.func 8), args := #[Go.Operand.tmp 60], argTypes := #[23] }, type := 3, pos := "law.go:145", after := #[{ on := 8, ground := Go.Ground.data }, { on := 7, ground := Go.Ground.chain }, { on := 7, ground := Go.Ground.guard }], guard := some (7, true) }) rfl (fun K hK => ?_) AllReadyH.nil)
      go_simp
      refine (len_nat pa ma _ ga Sa _ L.length HD5.out.a HW.out.2.2.1).mono ?_
      rintro e v5 ⟨rfl, rfl⟩
      refine hK.out _ _ (hv_range HD5.out.box) (fun _ => ?_)
      clear hK K
      try simp only [Act.put, List.setIfInBounds_toArray, List.set_cons_zero, List.set_cons_succ]
      refine wpAnyH_ready (rs := [11]) (by kernel_rfl) (by simp) ?_
      refine (AllReadyH.cons (o := { dst := some 63, op := Go.Op.call { callee := Go.Callee.value (Go.Operand.func 8), args := #[Go.Operand.tmp 62], argTypes := #[23] }, type := 3, pos := "law.go:145", after := #[{ on := 10, ground := Go.Ground.data }, { on := 9, ground := Go.Ground.chain }, { on := 7, ground := Go.Ground.guard }], guard := some (7, true) }) rfl (fun K hK => ?_) AllReadyH.nil)
      go_simp
      refine (len_nat pb mb _ gb Sb _ L.length HD5.out.b HW.out.2.2.2).mono ?_
      rintro e v6 ⟨rfl, rfl⟩
      refine hK.out _ _ (hv_range HD5.out.box) (fun _ => ?_)
      clear hK K
      try simp only [Act.put, List.setIfInBounds_toArray, List.set_cons_zero, List.set_cons_succ]
      refine wpAnyH_take (i := 12) (oi := { dst := some 64, op := Go.Op.binOp Go.BinOp.eql 3 (Go.Operand.tmp 61) (Go.Operand.tmp 63) 3, type := 4, pos := "law.go:145", after := #[{ on := 9, ground := Go.Ground.data }, { on := 11, ground := Go.Ground.data }, { on := 7, ground := Go.Ground.guard }], guard := some (7, true) }) (v := ?_) rfl (by kernel_rfl) (by kernel_rfl) (by kernel_rfl) (fun _ _ _ h => h) (Or.inl ⟨by rfl, ?_⟩) (by assumption) ?_
      rotate_left
      · intro wz hSw; (try dsimp only at hSw); go_simp; (try with_reducible rfl)
      try simp only [Act.put, List.setIfInBounds_toArray, List.set_cons_zero, List.set_cons_succ]
      refine wpAnyH_take (i := 13) (oi := { dst := some 65, op := Go.Op.pick (Go.Operand.tmp 59) (Go.Operand.tmp 64) (Go.Operand.const (Go.Value.bool false)), type := 4, pos := "law.go:145", after := #[{ on := 7, ground := Go.Ground.data }, { on := 12, ground := Go.Ground.data }], guard := none }) (v := ?_) rfl (by kernel_rfl) (by kernel_rfl) (by kernel_rfl) (fun _ _ _ h => h) (Or.inl ⟨by rfl, ?_⟩) (by assumption) ?_
      rotate_left
      · intro wz hSw; (try dsimp only at hSw); go_simp; (try with_reducible rfl)
      try simp only [Act.put, List.setIfInBounds_toArray, List.set_cons_zero, List.set_cons_succ]
      refine wpAnyH_take (i := 14) (oi := { dst := some 66, op := Go.Op.move (Go.Operand.tmp 65), type := 4, pos := "law.go:145", after := #[{ on := 13, ground := Go.Ground.data }, { on := 11, ground := Go.Ground.chain }], guard := none }) (v := ?_) rfl (by kernel_rfl) (by kernel_rfl) (by kernel_rfl) (fun _ _ _ h => h) (Or.inl ⟨by rfl, ?_⟩) (by assumption) ?_
      rotate_left
      · intro wz hSw; (try dsimp only at hSw); go_simp; (try with_reducible rfl)
      try simp only [Act.put, List.setIfInBounds_toArray, List.set_cons_zero, List.set_cons_succ]
      refine wpAnyH_take (i := 15) (oi := { dst := some 67, op := Go.Op.move (Go.Operand.tmp 5), type := 23, pos := "law.go:145", after := #[{ on := 14, ground := Go.Ground.guard }], guard := some (14, true) }) (v := ?_) rfl (by kernel_rfl) (by kernel_rfl) (by kernel_rfl) (fun _ _ _ h => h) (Or.inl ⟨by rfl, ?_⟩) (by assumption) ?_
      rotate_left
      · intro wz hSw; (try dsimp only at hSw); go_simp; (try with_reducible rfl)
      try simp only [Act.put, List.setIfInBounds_toArray, List.set_cons_zero, List.set_cons_succ]
      refine wpAnyH_take (i := 17) (oi := { dst := some 69, op := Go.Op.move (Go.Operand.tmp 5), type := 23, pos := "law.go:145", after := #[{ on := 14, ground := Go.Ground.guard }], guard := some (14, true) }) (v := ?_) rfl (by kernel_rfl) (by kernel_rfl) (by kernel_rfl) (fun _ _ _ h => h) (Or.inl ⟨by rfl, ?_⟩) (by assumption) ?_
      rotate_left
      · intro wz hSw; (try dsimp only at hSw); go_simp; (try with_reducible rfl)
      try simp only [Act.put, List.setIfInBounds_toArray, List.set_cons_zero, List.set_cons_succ]
      refine wpAnyH_take (i := 18) (oi := { dst := some 70, op := Go.Op.load 32 (Go.Operand.tmp 3), type := 32, pos := "law.go:145", after := #[{ on := 14, ground := Go.Ground.guard }], guard := some (14, true) }) rfl (by kernel_rfl) (by kernel_rfl) (by kernel_rfl) (fun _ _ _ h => h) (yieldsIf_load_mid (by rfl) _ _ rfl W.heap.size 0 rfl (bl z 32) _ (fun _ h => h) Tryd.underlying32 rfl (bl_size z)) (by assumption) ?_
      try simp only [Act.put, List.setIfInBounds_toArray, List.set_cons_zero, List.set_cons_succ]
      refine wpAnyH_ready (rs := [16]) (by kernel_rfl) (by simp) ?_
      refine (AllReadyH.cons (o := { dst := some 68, op := Go.Op.call { callee := Go.Callee.value (Go.Operand.func 8), args := #[Go.Operand.tmp 67], argTypes := #[23] }, type := 3, pos := "law.go:145", after := #[{ on := 15, ground := Go.Ground.data }, { on := 14, ground := Go.Ground.chain }, { on := 14, ground := Go.Ground.guard }], guard := some (14, true) }) rfl (fun K hK => ?_) AllReadyH.nil)
      go_simp
      refine (len_nat pa ma _ ga Sa _ L.length HD5.out.a HW.out.2.2.1).mono ?_
      rintro e v7 ⟨rfl, rfl⟩
      refine hK.out _ _ (hv_range HD5.out.box) (fun _ => ?_)
      clear hK K
      try simp only [Act.put, List.setIfInBounds_toArray, List.set_cons_zero, List.set_cons_succ]
      refine wpAnyH_ready (rs := [19]) (by kernel_rfl) (by simp) ?_
      refine (AllReadyH.cons (o := { dst := some 71, op := Go.Op.call { callee := Go.Callee.value (Go.Operand.func 16), args := #[Go.Operand.tmp 69, Go.Operand.tmp 70], argTypes := #[23, 32] }, type := 38, pos := "law.go:145", after := #[{ on := 17, ground := Go.Ground.data }, { on := 18, ground := Go.Ground.data }, { on := 16, ground := Go.Ground.chain }, { on := 14, ground := Go.Ground.guard }], guard := some (14, true) }) rfl (fun K hK => ?_) AllReadyH.nil)
      go_simp
      refine (who_list pa ma _ ga Sa z _ L HD5.out.a hz HW.out.1).mono ?_
      rintro e w6 ⟨ad3, cap3, rfl, -, b6, -⟩
      have HD6 : Hid (TwoB W w6 z pa ma pb mb ga gb Sa Sb) := HD5.out.keep b6
      clear b6 HD5
      refine hK.out _ _ (hv_range HD6.out.box) (fun _ => ?_)
      clear hK K
      try simp only [Act.put, List.setIfInBounds_toArray, List.set_cons_zero, List.set_cons_succ]
      refine wpAnyH_take (i := 20) (oi := { dst := some 72, op := Go.Op.call { callee := Go.Callee.builtin Go.Builtin.len, args := #[Go.Operand.tmp 71], argTypes := #[38] }, type := 3, pos := "law.go:145", after := #[{ on := 19, ground := Go.Ground.data }, { on := 14, ground := Go.Ground.guard }], guard := some (14, true) }) (v := ?_) rfl (by kernel_rfl) (by kernel_rfl) (by kernel_rfl) (fun _ _ _ h => h) (Or.inl ⟨by rfl, ?_⟩) (by assumption) ?_
      rotate_left
      · intro wz hSw; (try dsimp only at hSw); go_simp; (try with_reducible rfl)
      try simp only [Act.put, List.setIfInBounds_toArray, List.set_cons_zero, List.set_cons_succ]
      refine wpAnyH_take (i := 21) (oi := { dst := some 73, op := Go.Op.binOp Go.BinOp.eql 3 (Go.Operand.tmp 68) (Go.Operand.tmp 72) 3, type := 4, pos := "law.go:145", after := #[{ on := 16, ground := Go.Ground.data }, { on := 20, ground := Go.Ground.data }, { on := 14, ground := Go.Ground.guard }], guard := some (14, true) }) (v := ?_) rfl (by kernel_rfl) (by kernel_rfl) (by kernel_rfl) (fun _ _ _ h => h) (Or.inl ⟨by rfl, ?_⟩) (by assumption) ?_
      rotate_left
      · intro wz hSw; (try dsimp only at hSw); go_simp; (try with_reducible rfl)
      try simp only [Act.put, List.setIfInBounds_toArray, List.set_cons_zero, List.set_cons_succ]
      refine wpAnyH_take (i := 22) (oi := { dst := some 74, op := Go.Op.pick (Go.Operand.tmp 66) (Go.Operand.tmp 73) (Go.Operand.const (Go.Value.bool false)), type := 4, pos := "law.go:145", after := #[{ on := 14, ground := Go.Ground.data }, { on := 21, ground := Go.Ground.data }], guard := none }) (v := ?_) rfl (by kernel_rfl) (by kernel_rfl) (by kernel_rfl) (fun _ _ _ h => h) (Or.inl ⟨by rfl, ?_⟩) (by assumption) ?_
      rotate_left
      · intro wz hSw; (try dsimp only at hSw); go_simp; (try with_reducible rfl)
      try simp only [Act.put, List.setIfInBounds_toArray, List.set_cons_zero, List.set_cons_succ]
      refine wpAnyH_take (i := 23) (oi := { dst := some 75, op := Go.Op.move (Go.Operand.tmp 74), type := 4, pos := "law.go:145", after := #[{ on := 22, ground := Go.Ground.data }, { on := 19, ground := Go.Ground.chain }], guard := none }) (v := ?_) rfl (by kernel_rfl) (by kernel_rfl) (by kernel_rfl) (fun _ _ _ h => h) (Or.inl ⟨by rfl, ?_⟩) (by assumption) ?_
      rotate_left
      · intro wz hSw; (try dsimp only at hSw); go_simp; (try with_reducible rfl)
      try simp only [Act.put, List.setIfInBounds_toArray, List.set_cons_zero, List.set_cons_succ]
      refine wpAnyH_ready (rs := [24]) (by kernel_rfl) (by simp) ?_
      refine (AllReadyH.cons (o := { dst := some 76, op := Go.Op.call { callee := Go.Callee.value (Go.Operand.func 11), args := #[], argTypes := #[] }, type := 4, pos := "law.go:145", after := #[{ on := 23, ground := Go.Ground.chain }, { on := 23, ground := Go.Ground.guard }], guard := some (23, true) }) rfl (fun K hK => ?_) AllReadyH.nil)
      go_simp
      refine (sure_any _ (HG.out.below HD6.out.below hpos)).mono ?_
      rintro e w7 ⟨rfl, b7⟩
      have HD7 : Hid (TwoB W w7 z pa ma pb mb ga gb Sa Sb) := HD6.out.keep b7
      clear b7 HD6
      refine hK.out _ _ (hv_range HD7.out.box) (fun _ => ?_)
      clear hK K
      try simp only [Act.put, List.setIfInBounds_toArray, List.set_cons_zero, List.set_cons_succ]
      refine wpAnyH_take (i := 25) (oi := { dst := some 77, op := Go.Op.pick (Go.Operand.tmp 75) (Go.Operand.tmp 76) (Go.Operand.const (Go.Value.bool false)), type := 4, pos := "law.go:145", after := #[{ on := 23, ground := Go.Ground.data }, { on := 24, ground := Go.Ground.data }], guard := none }) (v := ?_) rfl (by kernel_rfl) (by kernel_rfl) (by kernel_rfl) (fun _ _ _ h => h) (Or.inl ⟨by rfl, ?_⟩) (by assumption) ?_
      rotate_left
      · intro wz hSw; (try dsimp only at hSw); go_simp; (try with_reducible rfl)
      try simp only [Act.put, List.setIfInBounds_toArray, List.set_cons_zero, List.set_cons_succ]
      refine wpAnyH_take (i := 26) (oi := { dst := some 4, op := Go.Op.assign (Go.Operand.tmp 77), type := 4, pos := "law.go:145", after := #[{ on := 25, ground := Go.Ground.data }, { on := 24, ground := Go.Ground.chain }, { on := 0, ground := Go.Ground.phase }, { on := 1, ground := Go.Ground.phase }, { on := 2, ground := Go.Ground.phase }, { on := 3, ground := Go.Ground.phase }, { on := 4, ground := Go.Ground.phase }, { on := 5, ground := Go.Ground.phase }, { on := 6, ground := Go.Ground.phase }, { on := 7, ground := Go.Ground.phase }, { on := 8, ground := Go.Ground.phase }, { on := 9, ground := Go.Ground.phase }, { on := 10, ground := Go.Ground.phase }, { on := 11, ground := Go.Ground.phase }, { on := 12, ground := Go.Ground.phase }, { on := 13, ground := Go.Ground.phase }, { on := 14, ground := Go.Ground.phase }, { on := 15, ground := Go.Ground.phase }, { on := 16, ground := Go.Ground.phase }, { on := 17, ground := Go.Ground.phase }, { on := 18, ground := Go.Ground.phase }, { on := 19, ground := Go.Ground.phase }, { on := 20, ground := Go.Ground.phase }, { on := 21, ground := Go.Ground.phase }, { on := 22, ground := Go.Ground.phase }, { on := 23, ground := Go.Ground.phase }, { on := 24, ground := Go.Ground.phase }, { on := 25, ground := Go.Ground.phase }], guard := none }) (v := ?_) rfl (by kernel_rfl) (by kernel_rfl) (by kernel_rfl) (fun _ _ _ h => h) (Or.inl ⟨by rfl, ?_⟩) (by assumption) ?_
      rotate_left
      · intro wz hSw; (try dsimp only at hSw); go_simp; (try with_reducible rfl)
      try simp only [Act.put, List.setIfInBounds_toArray, List.set_cons_zero, List.set_cons_succ]
      refine wpAnyH_done (by kernel_rfl) (NoPanic.normal ?_) _
      try simp only [Act.put, List.setIfInBounds_toArray, List.set_cons_zero, List.set_cons_succ]
      have hbE := HD7.out.below
      clear HD7 S1 hHeld
      go_wp2
      go_ret
      exact ⟨rfl, hbE⟩
end Go.Proofs.YtlddjniofijnnaaDoor
