/- sure: what must come whatever the input is. -/
import Derived.Test.YtecahnafcljljaaDoorCOpensW
import Derived.Test.YtecahnafcljljaaDoorCInts
namespace Go.Proofs.YtecahnafcljljaaDoor
open Go.RowKit Go.Shelf Go.Sort

def z21 : Nat → Int := fun j => if j = 0 then 2 else 1
def z12 : Nat → Int := fun j => if j = 0 then 1 else 2
theorem k21 : Lib.compact (srt (keysL z21 2)) = [1, 2] := by
  have : srt (keysL z21 2) = [1, 2] := by
    simp [srt, keysL, z21, List.range_succ, List.mergeSort]
  rw [this]
  decide
theorem ok12 : COk (fun _ => kb [1, 2]) 1 := by decide
theorem all12 : opnE [1, 2] z12 2 = 0 := by decide
theorem no12 : opnE [1, 2] z12 1 = 21 := by decide
theorem pair_at (w : World) (x y : Int) (z : Nat → Int) (h0 : z 0 = x) (h1 : z 1 = y) : ∀ j, j < 2 → (w.alloc (.cells #[.int .i64 x, .int .i64 y] 3)).cell? ⟨w.heap.size, 0 + j, none⟩ = some (.int .i64 (z j)) := by
  intro j hj
  rw [cell_of_row _ _ _ _ _ _ (heap_alloc_new w _)]
  match j, hj with
  | 0, _ => rw [h0]; rfl
  | 1, _ => rw [h1]; rfl
theorem one_at (w : World) (x : Int) (z : Nat → Int) (h0 : z 0 = x) : ∀ j, j < 1 → (w.alloc (.cells #[.int .i64 x] 3)).cell? ⟨w.heap.size, 0 + j, none⟩ = some (.int .i64 (z j)) := by
  intro j hj
  rw [cell_of_row _ _ _ _ _ _ (heap_alloc_new w _)]
  match j, hj with
  | 0, _ => rw [h0]; rfl
theorem ib12 (z : Nat → Int) (h : ∀ j, j < 2 → 1 ≤ z j ∧ z j ≤ 2) : ∀ j, j < 2 → Ib (z j) := fun j hj => by have := h j hj; unfold Ib; omega

set_option maxRecDepth 100000 in
set_option maxHeartbeats 3200000 in
theorem sure_any (w : World) (hg : Glob w) :
    Calls Tryd.prog 7 #[] w fun e w' => e = .returned (.bool true) ∧ Below w.heap.size w w' := by
  have hpos := hg.pos
  have HG : Hid (Glob w) := hg
  clear hg
  have hall := all_pos w.heap.size 0 2 2 z21 (w.alloc (.cells #[.int .i64 2, .int .i64 1] 3)) (pair_at w 2 1 z21 rfl rfl) (ib12 z21 (fun j hj => by unfold z21; split <;> omega)) (by omega)
  rw [k21] at hall
  have hb0 : Below w.heap.size w (w.alloc (.cells #[.int .i64 2, .int .i64 1] 3)) := (Below.refl _ w).alloc (Nat.le_refl _) _
  go_enter Tryd.func7, Tryd.ntmps7
  go_wp2_with fail
  refine hall.mono ?_
  rintro e w1 ⟨g, rfl, hB1, hb1⟩
  have hb1' : Below w.heap.size w w1 := hb0.trans (hb1.mono hb0.size)
  have HB1 : Hid (BrAt w1 (some ⟨g, 0, none⟩) 1 (fun _ => kb [1, 2]) ∧ Below w.heap.size w w1) := ⟨hB1, hb1'⟩
  clear hall hb0 hb1 hb1' hB1
  go_wp2_with fail
  have hbA : Below w1.heap.size w1 (w1.alloc (.cells #[.slice (some ⟨g, 0, none⟩) 1 1] 38)) := (Below.refl _ _).alloc (Nat.le_refl _) _
  have hnA := heap_alloc_new w1 (.cells #[.slice (some ⟨g, 0, none⟩) 1 1] 38)
  have hsA : (w1.alloc (.cells #[.slice (some ⟨g, 0, none⟩) 1 1] 38)).heap.size = w1.heap.size + 1 := by simp
  generalize w1.alloc (.cells #[.slice (some ⟨g, 0, none⟩) 1 1] 38) = wA at *
  have hbB : Below wA.heap.size wA (wA.alloc (.cells #[.int .i64 1, .int .i64 2] 3)) := (Below.refl _ _).alloc (Nat.le_refl _) _
  have hpB := pair_at wA 1 2 z12 rfl rfl
  rw [hsA] at hpB
  generalize wA.alloc (.cells #[.int .i64 1, .int .i64 2] 3) = wB at *
  have hB2 := (HB1.out.1.below hbA).below hbB
  refine (opens_keys g [1, 2] (some ⟨w1.heap.size + 1, 0, none⟩) 2 2 z12 wB hB2 ok12 (by decide) (fun _ => ⟨_, _, rfl, hpB⟩) (by omega)).mono ?_
  rintro e w3 ⟨rfl, hb3⟩
  rw [all12]
  have e1 : errV 0 = .nilIface := rfl
  rw [e1]
  have hm3 : w3.heap[w1.heap.size]? = some (.cells #[.slice (some ⟨g, 0, none⟩) 1 1] 38 (0, 0)) := by rw [hb3.block _ (by have := hbB.size; omega), hbB.block _ (by omega)]; exact hnA
  have c3 : w3.cell? ⟨w1.heap.size, 0, none⟩ = some (.slice (some ⟨g, 0, none⟩) 1 1) := by rw [cell_of_row _ _ 0 _ _ _ hm3]; rfl
  have hbw3 : Below w.heap.size w w3 := ((HB1.out.2.trans (hbA.mono HB1.out.2.size)).trans (hbB.mono (by have := HB1.out.2.size; omega))).trans (hb3.mono (by have := HB1.out.2.size; have := hbB.size; omega))
  have HW3 : Hid (BrAt w3 (some ⟨g, 0, none⟩) 1 (fun _ => kb [1, 2]) ∧ Below w.heap.size w w3 ∧ w3.heap[w1.heap.size]? = some (.cells #[.slice (some ⟨g, 0, none⟩) 1 1] 38 (0, 0))) := ⟨hB2.below hb3, hbw3, hm3⟩
  clear hbA hnA hsA hbB hpB hB2 hb3 e1 hm3 hbw3
  go_wp2_with fail
  have hbC : Below w3.heap.size w3 (w3.alloc (.cells #[.int .i64 1] 3)) := (Below.refl _ _).alloc (Nat.le_refl _) _
  have hpC := one_at w3 1 z12 rfl
  generalize w3.alloc (.cells #[.int .i64 1] 3) = wC at *
  have hB3 := HW3.out.1.below hbC
  refine (opens_keys g [1, 2] (some ⟨w3.heap.size, 0, none⟩) 1 1 z12 wC hB3 ok12 (by decide) (fun _ => ⟨_, _, rfl, hpC⟩) (by omega)).mono ?_
  rintro e w4 ⟨rfl, hb4⟩
  rw [no12]
  have hbw4 : Below w.heap.size w w4 := (HW3.out.2.1.trans (hbC.mono HW3.out.2.1.size)).trans (hb4.mono (by have := HW3.out.2.1.size; have := hbC.size; omega))
  have hm4 : w4.heap[w1.heap.size]? = some (.cells #[.slice (some ⟨g, 0, none⟩) 1 1] 38 (0, 0)) := by
    have hl := lt_of_block HW3.out.2.2
    rw [hb4.block _ (by have := hbC.size; omega), hbC.block _ hl]; exact HW3.out.2.2
  have HW4 : Hid (BrAt w4 (some ⟨g, 0, none⟩) 1 (fun _ => kb [1, 2]) ∧ Below w.heap.size w w4 ∧ w4.heap[w1.heap.size]? = some (.cells #[.slice (some ⟨g, 0, none⟩) 1 1] 38 (0, 0))) := ⟨hB3.below hb4, hbw4, hm4⟩
  clear hbC hpC hB3 hb4 hbw4 hm4 c3
  go_wp2_with fail
  refine (num_any 21 w4 (HG.out.below HW4.out.2.1 hpos)).mono ?_
  rintro e w5 ⟨rfl, hb5⟩
  have hm5 : w5.heap[w1.heap.size]? = some (.cells #[.slice (some ⟨g, 0, none⟩) 1 1] 38 (0, 0)) := by rw [hb5.block _ (lt_of_block HW4.out.2.2)]; exact HW4.out.2.2
  have c5 : w5.cell? ⟨w1.heap.size, 0, none⟩ = some (.slice (some ⟨g, 0, none⟩) 1 1) := by rw [cell_of_row _ _ 0 _ _ _ hm5]; rfl
  have hB5 := HW4.out.1.below hb5
  obtain ⟨b, off, e2, hrow⟩ := hB5.at_ (by omega)
  obtain ⟨ka, kc, hr5, hk5⟩ := hrow 0 (by omega)
  obtain ⟨rfl, rfl⟩ : g = b ∧ 0 = off := by simpa using e2
  have d5' : w5.cell? ⟨g, 0, none⟩ = some (.slice ka (kb [1, 2]).n kc) := by simpa using hr5 0 _ rfl
  have d5 : w5.cell? ⟨g, 0, none⟩ = some (.slice ka 2 kc) := d5'
  have hbw5 : Below w.heap.size w w5 := HW4.out.2.1.trans (hb5.mono HW4.out.2.1.size)
  have HK5 : Hid (IsAt w5 ka 2 z12) := by
    intro _
    obtain ⟨b2, o2, e3, hc⟩ := hk5 (by show 0 < 2; omega)
    refine ⟨b2, o2, e3, fun j hj => ?_⟩
    rw [hc j hj]
    match j, hj with
    | 0, _ => rfl
    | 1, _ => rfl
  clear hb5 hm5 hB5 hrow hr5 hk5 e2 d5'
  go_wp2_with fail
  refine (ints_same ka (some ⟨w5.heap.size, 0, none⟩) 2 kc 2 z12 _ (HK5.out.below ((Below.refl _ _).alloc (Nat.le_refl _) _)) (fun _ => ⟨_, _, rfl, pair_at w5 1 2 z12 rfl rfl⟩) (by omega)).mono ?_
  rintro e w6 ⟨rfl, hb6⟩
  have hbw6 : Below w.heap.size w w6 := (hbw5.alloc hbw5.size _).trans (hb6.mono (by have := hbw5.size; simp; omega))
  clear hb6 hbw5
  go_wp2
  go_ret
  exact ⟨rfl, hbw6⟩
end Go.Proofs.YtecahnafcljljaaDoor
