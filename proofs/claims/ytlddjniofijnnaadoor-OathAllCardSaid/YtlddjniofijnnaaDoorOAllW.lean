/- OathAll: the walk. -/
import Derived.Test.YtlddjniofijnnaaDoorOAll
namespace Go.Proofs.YtlddjniofijnnaaDoor
open Go.RowKit

attribute [local go_sem ↓] Go.wp_at_zero Go.wp_at_succ

theorem allB_list {Y : Nat → Sg} {rn : Nat} {S : List (Int × List UInt8)} (h : SgL Y rn = S) (y z : Nat → Int) (n : Nat) : allB (SgL Y rn) y z n = allB S y z n := by rw [h]

set_option maxRecDepth 100000 in
set_option maxHeartbeats 6400000 in
theorem oall_any (ad : Option Addr) (len cap : Nat) (X : Nat → Sg) (bd : Option Addr) (len2 cap2 : Nat) (y z : Nat → Int) (W : World) (hg : Glob W) (hX : SgAt W ad len X) (hlen : len ≤ 9223372036854775807) (hI : IsAt W bd len2 y) (hy : ∀ j, j < len2 → Ib (y j)) (hlen2 : len2 ≤ 9223372036854775807) (hz : Zb z) :
    Calls Tryd.prog 4 #[.slice ad len cap, .slice bd len2 cap2, .agg (hv z)] W fun e w' => e = .returned (.bool true) ∧ Below W.heap.size W w' := by
  have HG : Hid (Glob W) := hg
  have hpos := hg.pos
  have HI : Hid (IsAt W bd len2 y) := hI
  have HY : Hid (∀ j, j < len2 → Ib (y j)) := hy
  have hb0 : Below W.heap.size W (W.alloc (.cells (hv z) 32)) := (Below.refl _ W).alloc (Nat.le_refl _) _
  have hbx := heap_alloc_new W (.cells (hv z) 32)
  have HX : Hid (SgAt (W.alloc (.cells (hv z) 32)) ad len X) := hX.below hb0
  clear hg hI hy hX
  go_enter Tryd.func4, Tryd.ntmps4
  go_wp2_with (first | (refine Go.Great.wpList_boxTo rfl _ _ rfl _ rfl _ rfl (hv z) rfl ?_) | fail)
  generalize W.alloc (.cells (hv z) 32) = w0 at *
  refine (laid_any ad len cap X w0 (HG.out.below hb0 hpos) HX.out hlen).mono ?_
  rintro e w1 ⟨p, m, g, ra, rn, rc, Y, rfl, hL⟩
  have hrl : rn ≤ 60 := by have h1 := congrArg List.length hL.list; rw [SgL_length] at h1; have h2 := ldS_len X (min len 60); omega
  have HL : Hid (LdR w0 w1 p m g ra rn rc Y (ldS X (min len 60))) := hL
  have HB1 : Hid (Below W.heap.size W w1 ∧ w1.heap[W.heap.size]? = some (.cells (hv z) 32 (0, 0))) := ⟨hb0.trans (hL.below.mono hb0.size), by rw [hL.below.block _ (lt_of_block hbx)]; exact hbx⟩
  generalize ldS X (min len 60) = S at *
  clear hL hb0 hbx HX
  by_cases h100 : len2 ≤ 100
  · have h100' : (len2 : Int) ≤ 100 := by omega
    have HLd : Hid (LdR w0 w1.drew p m g ra rn rc Y S) := HL.out.keep (Below.refl _ _).drew
    have S1 : w1.drew.rangeAt W.heap.size 0 (bl z 32) := hv_range (w := w1.drew) HB1.out.2
    go_wp2_with fail
    refine wp_region_noPanic ?_
    refine wp_region_held_drew (S := fun w' => w'.rangeAt W.heap.size 0 (bl z 32)) (by kernel_rfl) S1 (fun hHeld => ?_)
    refine wpAnyH_take (i := 0) (oi := { dst := some 27, op := Go.Op.move (Go.Operand.tmp 7), type := 23, pos := "law.go:130", after := #[], guard := none }) (v := ?_) rfl (by kernel_rfl) (by kernel_rfl) (by kernel_rfl) (fun _ _ _ h => h) (Or.inl ⟨by rfl, ?_⟩) (by assumption) ?_
    rotate_left
    · intro wz hSw; (try dsimp only at hSw); go_simp; (try with_reducible rfl)
    try simp only [Act.put, List.setIfInBounds_toArray, List.set_cons_zero, List.set_cons_succ]
    refine wpAnyH_take (i := 1) (oi := { dst := some 28, op := Go.Op.move (Go.Operand.tmp 1), type := 38, pos := "law.go:130", after := #[], guard := none }) (v := ?_) rfl (by kernel_rfl) (by kernel_rfl) (by kernel_rfl) (fun _ _ _ h => h) (Or.inl ⟨by rfl, ?_⟩) (by assumption) ?_
    rotate_left
    · intro wz hSw; (try dsimp only at hSw); go_simp; (try with_reducible rfl)
    try simp only [Act.put, List.setIfInBounds_toArray, List.set_cons_zero, List.set_cons_succ]
    refine wpAnyH_take (i := 4) (oi := { dst := some 31, op := Go.Op.move (Go.Operand.tmp 8), type := 22, pos := "law.go:130", after := #[], guard := none }) (v := ?_) rfl (by kernel_rfl) (by kernel_rfl) (by kernel_rfl) (fun _ _ _ h => h) (Or.inl ⟨by rfl, ?_⟩) (by assumption) ?_
    rotate_left
    · intro wz hSw; (try dsimp only at hSw); go_simp; (try with_reducible rfl)
    try simp only [Act.put, List.setIfInBounds_toArray, List.set_cons_zero, List.set_cons_succ]
    refine wpAnyH_take (i := 5) (oi := { dst := some 32, op := Go.Op.move (Go.Operand.tmp 1), type := 38, pos := "law.go:130", after := #[], guard := none }) (v := ?_) rfl (by kernel_rfl) (by kernel_rfl) (by kernel_rfl) (fun _ _ _ h => h) (Or.inl ⟨by rfl, ?_⟩) (by assumption) ?_
    rotate_left
    · intro wz hSw; (try dsimp only at hSw); go_simp; (try with_reducible rfl)
    try simp only [Act.put, List.setIfInBounds_toArray, List.set_cons_zero, List.set_cons_succ]
    refine wpAnyH_take (i := 2) (oi := { dst := some 29, op := Go.Op.load 32 (Go.Operand.tmp 5), type := 32, pos := "law.go:130", after := #[], guard := none }) rfl (by kernel_rfl) (by kernel_rfl) (by kernel_rfl) (fun _ _ _ h => h) (yieldsIf_load_mid (by rfl) _ _ rfl W.heap.size 0 rfl (bl z 32) _ (fun _ h => h) Tryd.underlying32 rfl (bl_size z)) (by assumption) ?_
    try simp only [Act.put, List.setIfInBounds_toArray, List.set_cons_zero, List.set_cons_succ]
    refine wpAnyH_take (i := 6) (oi := { dst := some 33, op := Go.Op.load 32 (Go.Operand.tmp 5), type := 32, pos := "law.go:130", after := #[], guard := none }) rfl (by kernel_rfl) (by kernel_rfl) (by kernel_rfl) (fun _ _ _ h => h) (yieldsIf_load_mid (by rfl) _ _ rfl W.heap.size 0 rfl (bl z 32) _ (fun _ h => h) Tryd.underlying32 rfl (bl_size z)) (by assumption) ?_
    try simp only [Act.put, List.setIfInBounds_toArray, List.set_cons_zero, List.set_cons_succ]
    refine wpAnyH_ready (rs := [3]) (by kernel_rfl) (by simp) ?_
    refine (AllReadyH.cons (o := { dst := some 30, op := Go.Op.call { callee := Go.Callee.value (Go.Operand.func 12), args := #[Go.Operand.tmp 27, Go.Operand.tmp 28, Go.Operand.tmp 29], argTypes := #[23, 38, 32] }, type := 4, pos := "law.go:130", after := #[{ on := 0, ground := Go.Ground.data }, { on := 1, ground := Go.Ground.data }, { on := 2, ground := Go.Ground.data }], guard := none }) rfl (fun K hK => ?_) AllReadyH.nil)
    go_simp
    refine (all_any p m _ g S bd len2 cap2 y z _ HLd.out.bk (IsAt.below HI.out HB1.out.1.drew) HY.out hz (by omega)).mono ?_
    rintro e w2 ⟨rfl, hb2⟩
    have HB2 : Hid (Below W.heap.size W w2 ∧ w2.rangeAt W.heap.size 0 (bl z 32)) := ⟨Below.transS HB1.out.1.drew hb2, range_below S1 hb2⟩
    have HL2 : Hid (LdR w0 w2 p m g ra rn rc Y S) := HLd.out.keep hb2
    clear hb2 HLd
    refine hK.out _ _ HB2.out.2 (fun _ => ?_)
    clear hK K
    try simp only [Act.put, List.setIfInBounds_toArray, List.set_cons_zero, List.set_cons_succ]
    refine wpAnyH_ready (rs := [7]) (by kernel_rfl) (by simp) ?_
    refine (AllReadyH.cons (o := { dst := some 34, op := Go.Op.call { callee := Go.Callee.value (Go.Operand.func 13), args := #[Go.Operand.tmp 31, Go.Operand.tmp 32, Go.Operand.tmp 33], argTypes := #[22, 38, 32] }, type := 4, pos := "law.go:130", after := #[{ on := 4, ground := Go.Ground.data }, { on := 5, ground := Go.Ground.data }, { on := 6, ground := Go.Ground.data }, { on := 3, ground := Go.Ground.chain }], guard := none }) rfl (fun K hK => ?_) AllReadyH.nil)
    go_simp
    refine (rall_any ra rn rc Y bd len2 cap2 y z _ HL2.out.sg (by omega) (IsAt.below HI.out HB2.out.1) hz (by omega)).mono ?_
    rintro e w3 ⟨rfl, hb3⟩
    rw [allB_list HL2.out.list y z len2]
    have HB3 : Hid (Below W.heap.size W w3 ∧ w3.rangeAt W.heap.size 0 (bl z 32)) := ⟨Below.transS HB2.out.1 hb3, range_below HB2.out.2 hb3⟩
    have HL3 : Hid (LdR w0 w3 p m g ra rn rc Y S) := HL2.out.keep hb3
    clear hb3 HL2
    refine hK.out _ _ HB3.out.2 (fun _ => ?_)
    clear hK K
    try simp only [Act.put, List.setIfInBounds_toArray, List.set_cons_zero, List.set_cons_succ]
    refine wpAnyH_take (i := 8) (oi := { dst := some 35, op := Go.Op.binOp Go.BinOp.eql 4 (Go.Operand.tmp 30) (Go.Operand.tmp 34) 4, type := 4, pos := "law.go:130", after := #[{ on := 3, ground := Go.Ground.data }, { on := 7, ground := Go.Ground.data }], guard := none }) (v := ?_) rfl (by kernel_rfl) (by kernel_rfl) (by kernel_rfl) (fun _ _ _ h => h) (Or.inl ⟨by rfl, ?_⟩) (by assumption) ?_
    rotate_left
    · intro wz hSw; (try dsimp only at hSw); go_simp; (try with_reducible rfl)
    try simp only [Act.put, List.setIfInBounds_toArray, List.set_cons_zero, List.set_cons_succ]
    refine wpAnyH_take (i := 9) (oi := { dst := some 36, op := Go.Op.move (Go.Operand.tmp 35), type := 4, pos := "law.go:130", after := #[{ on := 8, ground := Go.Ground.data }, { on := 7, ground := Go.Ground.chain }], guard := none }) (v := ?_) rfl (by kernel_rfl) (by kernel_rfl) (by kernel_rfl) (fun _ _ _ h => h) (Or.inl ⟨by rfl, ?_⟩) (by assumption) ?_
    rotate_left
    · intro wz hSw; (try dsimp only at hSw); go_simp; (try with_reducible rfl)
    try simp only [Act.put, List.setIfInBounds_toArray, List.set_cons_zero, List.set_cons_succ]
    refine wpAnyH_take (i := 10) (oi := { dst := some 37, op := Go.Op.move (Go.Operand.tmp 7), type := 23, pos := "law.go:130", after := #[{ on := 9, ground := Go.Ground.guard }], guard := some (9, true) }) (v := ?_) rfl (by kernel_rfl) (by kernel_rfl) (by kernel_rfl) (fun _ _ _ h => h) (Or.inl ⟨by rfl, ?_⟩) (by assumption) ?_
    rotate_left
    · intro wz hSw; (try dsimp only at hSw); go_simp; (try with_reducible rfl)
    try simp only [Act.put, List.setIfInBounds_toArray, List.set_cons_zero, List.set_cons_succ]
    refine wpAnyH_take (i := 11) (oi := { dst := some 38, op := Go.Op.load 32 (Go.Operand.tmp 5), type := 32, pos := "law.go:130", after := #[{ on := 9, ground := Go.Ground.guard }], guard := some (9, true) }) rfl (by kernel_rfl) (by kernel_rfl) (by kernel_rfl) (fun _ _ _ h => h) (yieldsIf_load_mid (by rfl) _ _ rfl W.heap.size 0 rfl (bl z 32) _ (fun _ h => h) Tryd.underlying32 rfl (bl_size z)) (by assumption) ?_
    try simp only [Act.put, List.setIfInBounds_toArray, List.set_cons_zero, List.set_cons_succ]
    refine wpAnyH_ready (rs := [12]) (by kernel_rfl) (by simp) ?_
    refine (AllReadyH.cons (o := { dst := some 39, op := Go.Op.call { callee := Go.Callee.value (Go.Operand.func 12), args := #[Go.Operand.tmp 37, Go.Operand.const (Go.Value.slice none 0 0), Go.Operand.tmp 38], argTypes := #[23, 38, 32] }, type := 4, pos := "law.go:130", after := #[{ on := 10, ground := Go.Ground.data }, { on := 11, ground := Go.Ground.data }, { on := 9, ground := Go.Ground.chain }, { on := 9, ground := Go.Ground.guard }], guard := some (9, true) }) rfl (fun K hK => ?_) AllReadyH.nil)
    go_simp
    refine (all_any p m _ g S none 0 0 y z _ HL3.out.bk (fun h => by omega) (fun j hj => by omega) hz (by omega)).mono ?_
    rintro e w4 ⟨rfl, hb4⟩
    have e4 : allB S y z 0 = true := rfl
    rw [e4]
    have HB4 : Hid (Below W.heap.size W w4 ∧ w4.rangeAt W.heap.size 0 (bl z 32)) := ⟨Below.transS HB3.out.1 hb4, range_below HB3.out.2 hb4⟩
    clear hb4 HL3
    refine hK.out _ _ HB4.out.2 (fun _ => ?_)
    clear hK K
    try simp only [Act.put, List.setIfInBounds_toArray, List.set_cons_zero, List.set_cons_succ]
    refine wpAnyH_take (i := 13) (oi := { dst := some 40, op := Go.Op.pick (Go.Operand.tmp 36) (Go.Operand.tmp 39) (Go.Operand.const (Go.Value.bool false)), type := 4, pos := "law.go:130", after := #[{ on := 9, ground := Go.Ground.data }, { on := 12, ground := Go.Ground.data }], guard := none }) (v := ?_) rfl (by kernel_rfl) (by kernel_rfl) (by kernel_rfl) (fun _ _ _ h => h) (Or.inl ⟨by rfl, ?_⟩) (by assumption) ?_
    rotate_left
    · intro wz hSw; (try dsimp only at hSw); go_simp; (try with_reducible rfl)
    try simp only [Act.put, List.setIfInBounds_toArray, List.set_cons_zero, List.set_cons_succ]
    refine wpAnyH_take (i := 14) (oi := { dst := some 41, op := Go.Op.move (Go.Operand.tmp 40), type := 4, pos := "law.go:130", after := #[{ on := 13, ground := Go.Ground.data }, { on := 12, ground := Go.Ground.chain }], guard := none }) (v := ?_) rfl (by kernel_rfl) (by kernel_rfl) (by kernel_rfl) (fun _ _ _ h => h) (Or.inl ⟨by rfl, ?_⟩) (by assumption) ?_
    rotate_left
    · intro wz hSw; (try dsimp only at hSw); go_simp; (try with_reducible rfl)
    try simp only [Act.put, List.setIfInBounds_toArray, List.set_cons_zero, List.set_cons_succ]
    refine wpAnyH_ready (rs := [15]) (by kernel_rfl) (by simp) ?_
    refine (AllReadyH.cons (o := { dst := some 42, op := Go.Op.call { callee := Go.Callee.value (Go.Operand.func 11), args := #[], argTypes := #[] }, type := 4, pos := "law.go:130", after := #[{ on := 14, ground := Go.Ground.chain }, { on := 14, ground := Go.Ground.guard }], guard := some (14, true) }) rfl (fun K hK => ?_) AllReadyH.nil)
    go_simp
    refine (sure_any _ (HG.out.below HB4.out.1 hpos)).mono ?_
    rintro e w5 ⟨rfl, hb5⟩
    have HB5 : Hid (Below W.heap.size W w5 ∧ w5.rangeAt W.heap.size 0 (bl z 32)) := ⟨Below.transS HB4.out.1 hb5, range_below HB4.out.2 hb5⟩
    clear hb5
    refine hK.out _ _ HB5.out.2 (fun _ => ?_)
    clear hK K
    try simp only [Act.put, List.setIfInBounds_toArray, List.set_cons_zero, List.set_cons_succ]
    refine wpAnyH_take (i := 16) (oi := { dst := some 43, op := Go.Op.pick (Go.Operand.tmp 41) (Go.Operand.tmp 42) (Go.Operand.const (Go.Value.bool false)), type := 4, pos := "law.go:130", after := #[{ on := 14, ground := Go.Ground.data }, { on := 15, ground := Go.Ground.data }], guard := none }) (v := ?_) rfl (by kernel_rfl) (by kernel_rfl) (by kernel_rfl) (fun _ _ _ h => h) (Or.inl ⟨by rfl, ?_⟩) (by assumption) ?_
    rotate_left
    · intro wz hSw; (try dsimp only at hSw); go_simp; (try with_reducible rfl)
    try simp only [Act.put, List.setIfInBounds_toArray, List.set_cons_zero, List.set_cons_succ]
    refine wpAnyH_take (i := 17) (oi := { dst := some 6, op := Go.Op.assign (Go.Operand.tmp 43), type := 4, pos := "law.go:130", after := #[{ on := 16, ground := Go.Ground.data }, { on := 15, ground := Go.Ground.chain }, { on := 0, ground := Go.Ground.phase }, { on := 1, ground := Go.Ground.phase }, { on := 2, ground := Go.Ground.phase }, { on := 3, ground := Go.Ground.phase }, { on := 4, ground := Go.Ground.phase }, { on := 5, ground := Go.Ground.phase }, { on := 6, ground := Go.Ground.phase }, { on := 7, ground := Go.Ground.phase }, { on := 8, ground := Go.Ground.phase }, { on := 9, ground := Go.Ground.phase }, { on := 10, ground := Go.Ground.phase }, { on := 11, ground := Go.Ground.phase }, { on := 12, ground := Go.Ground.phase }, { on := 13, ground := Go.Ground.phase }, { on := 14, ground := Go.Ground.phase }, { on := 15, ground := Go.Ground.phase }, { on := 16, ground := Go.Ground.phase }], guard := none }) (v := ?_) rfl (by kernel_rfl) (by kernel_rfl) (by kernel_rfl) (fun _ _ _ h => h) (Or.inl ⟨by rfl, ?_⟩) (by assumption) ?_
    rotate_left
    · intro wz hSw; (try dsimp only at hSw); go_simp; (try with_reducible rfl)
    try simp only [Act.put, List.setIfInBounds_toArray, List.set_cons_zero, List.set_cons_succ]
    refine wpAnyH_done (by kernel_rfl) (NoPanic.normal ?_) _
    try simp only [Act.put, List.setIfInBounds_toArray, List.set_cons_zero, List.set_cons_succ]
    have hbE := HB5.out.1
    clear S1 hHeld
    go_wp2
    go_ret
    exact ⟨rfl, hbE⟩
  · have h100' : (100 : Int) < len2 := by omega
    go_wp2_with fail
    refine (sure_any _ (HG.out.below HB1.out.1 hpos)).mono ?_
    rintro e w5 ⟨rfl, hb5⟩
    have hbE := Below.transS HB1.out.1 hb5
    clear hb5
    go_wp2
    go_ret
    exact ⟨rfl, hbE⟩
end Go.Proofs.YtlddjniofijnnaaDoor
