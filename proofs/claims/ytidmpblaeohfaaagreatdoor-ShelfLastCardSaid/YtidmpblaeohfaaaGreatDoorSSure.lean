/- sure: the chapter's example. -/
import Derived.Test.YtidmpblaeohfaaaGreatDoorSIdle
import Derived.Test.YtidmpblaeohfaaaGreatDoorSNum
namespace Go.Proofs.YtidmpblaeohfaaaGreatDoor
open Go.RowKit Go.Maps Go.Sort

attribute [local go_sem ↓] Go.wp_at_zero Go.wp_at_succ

/-- A shelf within sure, and the area's block, which stays. -/
structure SuI (w w2 W : World) (a : Nat) (A : Nat → Prop) (sh p : Nat) (L : List Lf) (c : Ct) : Prop where
  sh_ : ShU A W sh p 2 4 9 L c
  below : Below w.heap.size w W
  size : w2.heap.size ≤ W.heap.size
  area : W.heap[a]? = w2.heap[a]?
  lt : a < w2.heap.size
theorem SuI.next {w w2 W W' : World} {a : Nat} {A : Nat → Prop} {sh p : Nat} {L : List Lf} {c : Ct} (h : SuI w w2 W a A sh p L c) (hb : Below W.heap.size W W') : SuI w w2 W' a A sh p L c :=
  ⟨h.sh_.below hb, Below.transS h.below hb, Nat.le_trans h.size hb.size, (hb.block a (Nat.lt_of_lt_of_le h.lt h.size)).trans h.area, h.lt⟩
set_option maxRecDepth 100000 in
set_option maxHeartbeats 3200000 in
theorem sure_any (w : World) (hg : Glob w) : Calls Tryz.prog 8 #[] w fun e w' => e = .returned (.bool true) ∧ Below w.heap.size w w' := by
  have HG : Hid (Glob w) := hg
  have hpos := hg.pos
  have hnew := newU 9 (by omega) (by omega) w
  clear hg
  go_enter Tryz.func8, Tryz.ntmps8
  go_wp2_with fail
  refine hnew.mono ?_
  rintro e w1 ⟨p, rfl, hS1, hb1⟩
  obtain ⟨w2, hw2⟩ : ∃ w2, w1.alloc (.cells #[.int .i64 2, .int .i64 4] 35) = w2 := ⟨_, rfl⟩
  have hb2 : Below w1.heap.size w1 w2 := by rw [← hw2]; exact (Below.refl _ w1).alloc (Nat.le_refl _) _
  have hz2 : w2.heap.size = w1.heap.size + 1 := by rw [← hw2]; simp
  have hz1 := hb1.size
  have hsa : w1.heap.size < w2.heap.size := by omega
  have ka0 : w2.cell? ⟨w1.heap.size, 0, none⟩ = some (.int .i64 2) := by rw [← hw2]; simp
  have ka1 : w2.cell? ⟨w1.heap.size, 1, none⟩ = some (.int .i64 4) := by rw [← hw2]; simp
  obtain ⟨A, hA⟩ : ∃ A : Nat → Prop, A = fun k => w.heap.size ≤ k ∧ k ≠ w1.heap.size := ⟨_, rfl⟩
  have HA : Hid (∀ W : World, w2.heap.size ≤ W.heap.size → ∀ k, W.heap.size ≤ k → A k) := fun W hW k hk => by rw [hA]; exact ⟨by omega, by omega⟩
  have HAB : Hid (∀ W W' : World, w2.heap.size ≤ W.heap.size → Fr A W W' → Below w.heap.size W W') := fun W W' hW h => h.below (by omega) fun k hk => by rw [hA] at hk; exact hk.1
  have HAK : Hid (∀ W W' : World, w2.heap.size ≤ W.heap.size → Fr A W W' → W'.heap[w1.heap.size]? = W.heap[w1.heap.size]?) := fun W W' hW h => h.block _ (by omega) fun hk => by rw [hA] at hk; exact hk.2 rfl
  have hS2 : StU A w2 p 9 (newC 9) := (hS1.mono (A' := A) fun k hk h => by rw [hA]; exact ⟨h, by omega⟩).below hb2
  have hop := openU_some A p 2 4 9 (newC 9) [] w2 hS2 (HA.out w2 (Nat.le_refl _)) (by omega) (by omega) sure1
  have HB2 : Hid (Below w.heap.size w w2) := Below.transS hb1 hb2
  clear hnew hS1 hb1 hS2 hb2 hA hz2
  go_wp2_with fail
  clear hw2
  refine hop.mono ?_
  rintro e w3 ⟨sh, rfl, hS3, hb3⟩
  have HI3 : Hid (SuI w w2 w3 w1.heap.size A sh p [] (newC 9)) := ⟨hS3, Below.transS HB2.out hb3, hb3.size, hb3.block _ hsa, hsa⟩
  clear hop hS3 hb3
  obtain ⟨w4, hw4⟩ : ∃ w4, w3.alloc (.cells #[.string ⟨#[97]⟩, .string ⟨#[49]⟩, .bool false, .string ⟨#[98]⟩, .string ⟨#[]⟩, .bool false] 70) = w4 := ⟨_, rfl⟩
  have hb4 : Below w3.heap.size w3 w4 := by rw [← hw4]; exact (Below.refl _ w3).alloc (Nat.le_refl _) _
  have hc4 : CgAt w4 (some ⟨w3.heap.size, 0, none⟩) [cgA1, cgB1] := by rw [← hw4]; exact CgAt.new [cgA1, cgB1] w3 _ _
  have HI4 : Hid (SuI w w2 w4 w1.heap.size A sh p [] (newC 9)) := HI3.out.next hb4
  have hs4 := setU A sh p 2 4 9 [] (newC 9) (some ⟨w3.heap.size, 0, none⟩) 2 [cgA1, cgB1] w4 HI4.out.sh_ (HA.out _ HI4.out.size) hc4 (by unfold COk; decide)
  rw [sure2] at hs4
  dsimp only at hs4
  have e0 : errV 0 = .nilIface := rfl
  rw [e0] at hs4
  clear hb4 hc4 e0 HI3
  go_wp2_with fail
  clear hw4
  refine hs4.mono ?_
  rintro e w5 ⟨rfl, hS5, hF5⟩
  have HI5 : Hid (SuI w w2 w5 w1.heap.size A sh p lfs1 ct1) := ⟨hS5, HI4.out.below.trans (HAB.out _ _ HI4.out.size hF5), Nat.le_trans HI4.out.size hF5.size, (HAK.out _ _ HI4.out.size hF5).trans HI4.out.area, hsa⟩
  clear hs4 hS5 hF5 HI4
  have hf5 := freeU A sh p 2 4 9 lfs1 ct1 w5 HI5.out.sh_
  rw [sure5] at hf5
  go_wp2_with fail
  refine hf5.mono ?_
  rintro e w6 ⟨rfl, hb6⟩
  have HI6 : Hid (SuI w w2 w6 w1.heap.size A sh p lfs1 ct1) := HI5.out.next hb6
  clear hf5 hb6 HI5
  obtain ⟨w7, hw7⟩ : ∃ w7, w6.alloc (.cells #[.string ⟨#[97]⟩, .string ⟨#[]⟩, .bool false, .string ⟨#[98]⟩, .string ⟨#[50]⟩, .bool false] 70) = w7 := ⟨_, rfl⟩
  have hb7 : Below w6.heap.size w6 w7 := by rw [← hw7]; exact (Below.refl _ w6).alloc (Nat.le_refl _) _
  have hc7 : CgAt w7 (some ⟨w6.heap.size, 0, none⟩) [cgC1, cgD1] := by rw [← hw7]; exact CgAt.new [cgC1, cgD1] w6 _ _
  have HI7 : Hid (SuI w w2 w7 w1.heap.size A sh p lfs1 ct1) := HI6.out.next hb7
  have hs7 := setU A sh p 2 4 9 lfs1 ct1 (some ⟨w6.heap.size, 0, none⟩) 2 [cgC1, cgD1] w7 HI7.out.sh_ (HA.out _ HI7.out.size) hc7 (by unfold COk; decide)
  rw [sure3] at hs7
  dsimp only at hs7
  rw [errV_ne (by decide)] at hs7
  clear hb7 hc7 HI6
  go_wp2_with fail
  clear hw7
  refine hs7.mono ?_
  rintro e w8 ⟨rfl, hS8, hF8⟩
  have HI8 : Hid (SuI w w2 w8 w1.heap.size A sh p lfs1 ct1) := ⟨hS8, HI7.out.below.trans (HAB.out _ _ HI7.out.size hF8), Nat.le_trans HI7.out.size hF8.size, (HAK.out _ _ HI7.out.size hF8).trans HI7.out.area, hsa⟩
  clear hs7 hS8 hF8 HI7
  have k80 : w8.cell? ⟨w1.heap.size, 0, none⟩ = some (.int .i64 2) := by rw [World.cell?_of_block (a := ⟨w1.heap.size, 0, none⟩) HI8.out.area]; exact ka0
  have k81 : w8.cell? ⟨w1.heap.size, 1, none⟩ = some (.int .i64 4) := by rw [World.cell?_of_block (a := ⟨w1.heap.size, 1, none⟩) HI8.out.area]; exact ka1
  have ho8 := openU_some A p 2 4 9 ct1 lfs1 w8 HI8.out.sh_.store (HA.out _ HI8.out.size) (by omega) (by omega) sure4
  clear ka0 ka1
  go_wp2_with fail
  refine ho8.mono ?_
  rintro e w9 ⟨t, rfl, hS9, hb9⟩
  have HI9 : Hid (SuI w w2 w9 w1.heap.size A t p lfs1 ct1) := ⟨hS9, Below.transS HI8.out.below hb9, Nat.le_trans HI8.out.size hb9.size, (hb9.block _ (Nat.lt_of_lt_of_le hsa HI8.out.size)).trans HI8.out.area, hsa⟩
  clear ho8 hS9 hb9 HI8 k80 k81
  have hg9 := getU A t p 2 4 9 lfs1 ct1 [97] w9 HI9.out.sh_ (by decide)
  rw [sure6.1, sure6.2] at hg9
  go_wp2_with fail
  refine hg9.mono ?_
  rintro e w10 ⟨rfl, hb10⟩
  have HI10 : Hid (SuI w w2 w10 w1.heap.size A t p lfs1 ct1) := HI9.out.next hb10
  have hn10 := num_hit 10 w10 (HG.out.below HI10.out.below hpos)
  clear hg9 hb10 HI9
  go_wp2_with fail
  refine hn10.mono ?_
  rintro e w11 ⟨rfl, hb11⟩
  have HI11 : Hid (SuI w w2 w11 w1.heap.size A t p lfs1 ct1) := HI10.out.next hb11
  have hk11 := keysN A t p 2 4 9 lfs1 ct1 w11 HI11.out.sh_
  have e2 : lfs1.length = 2 := rfl
  rw [e2] at hk11
  have heq : (binOp .eql 9 (encStr [49]) (.string ⟨#[49]⟩)).run Tryz.prog w11 = .ok (.bool true) w11 := eq_str [49] [49] w11
  clear hn10 hb11 HI10 e2
  go_wp2_with fail
  refine hk11.mono ?_
  rintro e w12 ⟨ad, cap, rfl, hb12⟩
  have HE : Hid (Below w.heap.size w w12) := Below.transS HI11.out.below hb12
  clear hk11 heq HI11 hb12
  go_wp2
  go_ret
  exact ⟨rfl, HE.out⟩
end Go.Proofs.YtidmpblaeohfaaaGreatDoor
