/- slices.Concat of two rows of bytes. -/
import Derived.Test.YtfdcpbolofkopaaGreatDoorERefHash
import Derived.Test.YtfdcpbolofkopaaGreatDoorCShelf
namespace Go.Proofs.YtfdcpbolofkopaaGreatDoor
open Go.RowKit Go.Shelf

/-- Room made for n bytes behind nothing. -/
theorem grow_nil (n : Nat) (w : World) (hn : n ≤ 140737488355328) :
    Calls Tryz.prog 59 #[.slice none 0 0, .int .i64 n] w fun e w' => ∃ v, e = .returned v ∧ Ow w w' v [] := by
  rcases Nat.eq_zero_or_pos n with h0 | hp
  · subst h0
    have hcon := Any8.slices_Grow_room Tryz.lGrow none 0 0 0 w (Nat.le_refl _) (by omega) (by omega) (by omega)
    change Calls Tryz.prog 59 _ _ _ at hcon
    refine hcon.mono ?_
    rintro e w' ⟨rfl, rfl⟩
    exact ⟨_, rfl, Ow.nil _⟩
  · obtain ⟨i0, hi0, hz0, hz1, hz2⟩ := info_parts Tryz.infoB
    have hcon := Any8.slices_Grow_grow Tryz.lGrow i0 (.int .u8 0) hi0 hz0 (by omega) none 0 0 n [] w (Nat.le_refl _) (by omega) (by rw [hz2]; omega) (by omega) (by simp) (fun _ => rfl) (fun a h => by cases h)
    change Calls Tryz.prog 59 _ _ _ at hcon
    refine hcon.mono ?_
    rintro e w' ⟨rfl, rfl⟩
    refine ⟨_, rfl, ⟨⟨by simp, .inr ⟨w.heap.size, _, _, rfl, Nat.le_refl _, heap_alloc_new w.drew _, Nat.zero_le _, ?_, ?_, by simp⟩⟩, ((Below.refl _ w).drew).alloc (Nat.le_refl _) _, fun x h => by cases h⟩⟩
    · exact grownCap_le_maxLen _ _ _ _ (by unfold maxLen; omega)
    · have := grownCap_ge w n 0 (Tryz.lGrow_ren.t 25)
      simp [size_zeroCells, Value.cells]
      omega

theorem bd_of {w : World} {ad : Option Addr} {l : List Int} (h : SlAt w ad l.length (fn l)) : ∀ y, y ∈ l → 0 ≤ y ∧ y ≤ 255 := by
  intro y hy
  obtain ⟨j, hj, rfl⟩ := List.mem_iff_getElem.1 hy
  have := h.1 j hj
  rwa [fn_get l j hj] at this
/-- Two slices of bytes, as they lie in a row of two. -/
structure TwoAt (w : World) (q : Nat) (v1 v2 : Value) : Prop where
  c0 : w.cell? ⟨q, 0, none⟩ = some v1
  c1 : w.cell? ⟨q, 1, none⟩ = some v2

set_option maxRecDepth 100000 in
set_option maxHeartbeats 3200000 in
theorem concat_two (q : Nat) (ad1 : Option Addr) (l1 : List Int) (c1 : Nat) (ad2 : Option Addr) (l2 : List Int) (c2 : Nat) (w : World) (hT : TwoAt w q (.slice ad1 l1.length c1) (.slice ad2 l2.length c2)) (hs1 : SlAt w ad1 l1.length (fn l1)) (hn1 : ad1 = none → l1.length = 0 ∧ c1 = 0) (hs2 : SlAt w ad2 l2.length (fn l2)) (hn2 : ad2 = none → l2.length = 0 ∧ c2 = 0) (hl : l1.length + l2.length ≤ 140737488355328) :
    Calls Tryz.prog 33 #[.slice (some ⟨q, 0, none⟩) 2 2] w fun e w' => ∃ v, e = .returned v ∧ Ow w w' v (l1 ++ l2) := by
  obtain ⟨h0, h1⟩ := hT
  have HS : Hid ((SlAt w ad1 l1.length (fn l1) ∧ (ad1 = none → l1.length = 0 ∧ c1 = 0)) ∧ (SlAt w ad2 l2.length (fn l2) ∧ (ad2 = none → l2.length = 0 ∧ c2 = 0))) := ⟨⟨hs1, hn1⟩, hs2, hn2⟩
  clear hs1 hn1 hs2 hn2
  have hb0 := Below.refl w.heap.size w
  have hq := World.block_lt_of_cell? w ⟨q, 0, none⟩ h0
  have e1 : wrap64 ((l1.length : Int) + l2.length) = ((l1.length + l2.length : Nat) : Int) := by unfold wrap64; omega
  have e2 : ¬ (l1.length : Int) < 0 := by omega
  go_enter Tryz.func33, Tryz.ntmps33
  go_wp2
  refine wp_loop_rounds 3 ?_
  rw [rounds_succ]
  go_wp2
  rw [rounds_succ]
  go_wp2
  rw [rounds_succ]
  go_wp2_with fail
  have hgr := grow_nil (l1.length + l2.length) w hl
  rw [Int.natCast_add] at hgr
  refine hgr.mono ?_
  rintro e w1 ⟨v, rfl, hO1⟩
  have d0 : w1.cell? ⟨q, 0, none⟩ = some (.slice ad1 l1.length c1) := by rw [hO1.below.cell (p := ⟨q, 0, none⟩) hq]; exact h0
  have HO1 : Hid (Ow w w1 v [] ∧ BSrc w1 (.slice ad1 l1.length c1) l1) := ⟨hO1, SlAt.src (HS.out.1.1.below hO1.below) HS.out.1.2⟩
  have HD : Hid (∀ w' v' L, Ow w w' v' L → w'.cell? ⟨q, 1, none⟩ = some (.slice ad2 l2.length c2) ∧ BSrc w' (.slice ad2 l2.length c2) l2) := fun w' v' L h => ⟨by rw [h.below.cell (p := ⟨q, 1, none⟩) hq]; exact h1, SlAt.src (HS.out.2.1.below h.below) HS.out.2.2⟩
  have HY : Hid ((∀ y, y ∈ l1 → 0 ≤ y ∧ y ≤ 255) ∧ (∀ y, y ∈ l2 → 0 ≤ y ∧ y ≤ 255)) := ⟨bd_of HS.out.1.1, bd_of HS.out.2.1⟩
  clear hgr hO1 h0 h1 hb0
  go_wp2
  refine wp_loop_rounds 3 ?_
  rw [rounds_succ]
  go_wp2_with (at_builtin; refine wpList_append_B rfl _ _ rfl w _ _ [] l1 rfl rfl HO1.out.1 HO1.out.2 HY.out.1 (by simp; omega) ?_; intro v2 w2 hO2; obtain ⟨d1, hs2⟩ := HD.out w2 v2 _ hO2; have HO2 : Hid (Ow w w2 v2 l1 ∧ BSrc w2 (.slice ad2 l2.length c2) l2) := ⟨by simpa using hO2, hs2⟩; clear hO2 hs2)
  rw [rounds_succ]
  go_wp2_with (at_builtin; refine wpList_append_B rfl _ _ rfl w _ _ l1 l2 rfl rfl HO2.out.1 HO2.out.2 HY.out.2 (by omega) ?_; intro v3 w3 hO3)
  rw [rounds_succ]
  go_wp2
  go_ret
  exact ⟨_, rfl, hO3⟩
end Go.Proofs.YtfdcpbolofkopaaGreatDoor
