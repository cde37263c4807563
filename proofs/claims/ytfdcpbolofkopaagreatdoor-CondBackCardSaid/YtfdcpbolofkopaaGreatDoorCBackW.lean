/- CondBack: the walk. -/
import Derived.Test.YtfdcpbolofkopaaGreatDoorCSame
import Derived.Test.YtfdcpbolofkopaaGreatDoorCLong
namespace Go.Proofs.YtfdcpbolofkopaaGreatDoor
open Go.RowKit

set_option maxRecDepth 100000 in
set_option maxHeartbeats 3200000 in
theorem backW_any (ad : Option Addr) (n cap : Nat) (X : Nat → Bv) (w : World) (hg : Glob w) (hB : BrAt w ad n X) (hn : n ≤ 140737488355328) (hx : ∀ i, i < n → (X i).n ≤ 140737488355328) :
    Calls Tryz.prog 4 #[.agg #[.slice ad n cap]] w fun e w' => e = .returned (.bool true) ∧ Below w.heap.size w w' := by
  have HG : Hid (Glob w ∧ BrAt w ad n X) := ⟨hg, hB⟩
  have hb0 : Below w.heap.size w (w.alloc (.cells #[.slice ad n cap] 24)) := (Below.refl _ w).alloc (Nat.le_refl _) _
  have hc0 : (w.alloc (.cells #[.slice ad n cap] 24)).cell? ⟨w.heap.size, 0, none⟩ = some (.slice ad n cap) := by simp
  have HB0 : Hid (Below w.heap.size w (w.alloc (.cells #[.slice ad n cap] 24))) := hb0
  clear hg hB hb0
  go_enter Tryz.func4, Tryz.ntmps4
  go_wp2_with fail
  generalize w.alloc (.cells #[.slice ad n cap] 24) = W0 at *
  refine (long_any ad n cap X W0 (HG.out.2.below HB0.out) hn hx).mono ?_
  rintro e w1 ⟨rfl, hb1⟩
  have HB1 : Hid (Below w.heap.size w w1) := HB0.out.trans (hb1.mono HB0.out.size)
  have hc1 : w1.cell? ⟨w.heap.size, 0, none⟩ = some (.slice ad n cap) := by
    rw [hb1.cell (p := ⟨w.heap.size, 0, none⟩) (World.block_lt_of_cell? W0 ⟨w.heap.size, 0, none⟩ hc0)]; exact hc0
  clear hb1 hc0
  by_cases hl : lng X n = true
  · rw [hl]
    go_wp2_with fail
    refine (sure_any w1 (HG.out.1.belowB HB1.out)).mono ?_
    rintro e w2 ⟨rfl, hb2⟩
    have hbe : Below w.heap.size w w2 := HB1.out.trans (hb2.mono HB1.out.size)
    clear hb2
    go_wp2
    go_ret
    exact ⟨rfl, hbe⟩
  · have hl' : lng X n = false := by simpa using hl
    have hsm := lng_no hl'
    have hn3 : n ≤ 1000 := by have := hsm.1; omega
    have hn6 : n ≤ 1000000 := by omega
    have hx3 : ∀ i, i < n → (X i).n ≤ 1000000 := fun i hi => by have := hsm.2 i hi; omega
    rw [hl']
    clear hl hsm hl'
    go_wp2_with fail
    refine (give_any ad n cap X w1 (HG.out.2.below HB1.out) hn6 hx3).mono ?_
    rintro e w2 ⟨ad2, cap2, rfl, hB2, hb2⟩
    have HB2 : Hid (Below w.heap.size w w2 ∧ BrAt w2 ad2 n X) := ⟨HB1.out.trans (hb2.mono HB1.out.size), hB2⟩
    clear hB2 hb2 hc1
    have hbA : Below w2.heap.size w2 (w2.alloc (.cells #[.slice ad2 n cap2] 30)) := (Below.refl _ _).alloc (Nat.le_refl _) _
    have hnA := heap_alloc_new w2 (.cells #[.slice ad2 n cap2] 30)
    have hc3 : (w2.alloc (.cells #[.slice ad2 n cap2] 30)).cell? ⟨w2.heap.size, 0, none⟩ = some (.slice ad2 n cap2) := by rw [cell_of_row _ _ 0 _ _ _ hnA]; rfl
    have HA : Hid (Below w2.heap.size w2 (w2.alloc (.cells #[.slice ad2 n cap2] 30))) := hbA
    clear hbA hnA
    go_wp2_with fail
    generalize w2.alloc (.cells #[.slice ad2 n cap2] 30) = w3 at *
    have HB3 : Hid (Below w.heap.size w w3 ∧ BrAt w3 ad2 n X) := ⟨HB2.out.1.trans (HA.out.mono HB2.out.1.size), HB2.out.2.below HA.out⟩
    generalize w2.heap.size = p3 at *
    clear HB2 HA
    refine (put_any none [] 0 ad2 n cap2 X w3 (SlAt.zero _ _) (fun _ => ⟨rfl, rfl⟩) HB3.out.2 hn3 hx3 (by simp)).mono ?_
    rintro e w4 ⟨v4, rfl, hO4⟩
    rw [List.nil_append] at hO4
    obtain ⟨ad4, cap4, rfl⟩ := hO4.form
    obtain ⟨_, hs4, hn4, _, _⟩ := hO4.fresh
    have HB4 : Hid (Below w.heap.size w w4 ∧ BrAt w4 ad2 n X ∧ SlAt w4 ad4 (laidC X n).length (fn (laidC X n)) ∧ (ad4 = none → (laidC X n).length = 0 ∧ cap4 = 0)) := ⟨HB3.out.1.trans (hO4.below.mono HB3.out.1.size), HB3.out.2.below hO4.below, hs4, hn4⟩
    have hc4 : w4.cell? ⟨p3, 0, none⟩ = some (.slice ad2 n cap2) := by
      rw [hO4.below.cell (p := ⟨p3, 0, none⟩) (World.block_lt_of_cell? w3 ⟨p3, 0, none⟩ hc3)]; exact hc3
    clear hO4 hs4 hn4 hc3 HB3
    go_wp2_with fail
    refine (decode_any ad4 cap4 X n (laidC X n) w4 rfl HB4.out.2.2.1 HB4.out.2.2.2 HB4.out.2.1.ok hn3 hx3).mono ?_
    rintro e w5 ⟨hE5, hb5⟩
    have HB5 : Hid (Below w.heap.size w w5 ∧ BrAt w5 ad2 n X) := ⟨HB4.out.1.trans (hb5.mono HB4.out.1.size), HB4.out.2.1.below hb5⟩
    have hc5 : w5.cell? ⟨p3, 0, none⟩ = some (.slice ad2 n cap2) := by
      rw [hb5.cell (p := ⟨p3, 0, none⟩) (World.block_lt_of_cell? w4 ⟨p3, 0, none⟩ hc4)]; exact hc4
    clear hc4 HB4 hb5
    rcases hE5 with ⟨hok, ad5, cap5, Y, rfl, hB6, hal⟩ | ⟨hno, rfl⟩
    · have hz : chkE X n = 0 := if_pos hok
      have hlc : laidC Y n = laidC X n := by rw [laidC, laidC, (alike_brs n hal).1]
      have hy : ∀ i, i < n → (Y i).n ≤ 1000000 := fun i hi => by rw [(hal i hi).n]; exact hx3 i hi
      have hbA : Below w5.heap.size w5 (w5.alloc (.cells #[.slice ad5 n cap5] 30)) := (Below.refl _ _).alloc (Nat.le_refl _) _
      have hnA := heap_alloc_new w5 (.cells #[.slice ad5 n cap5] 30)
      have hc6 : (w5.alloc (.cells #[.slice ad5 n cap5] 30)).cell? ⟨w5.heap.size, 0, none⟩ = some (.slice ad5 n cap5) := by rw [cell_of_row _ _ 0 _ _ _ hnA]; rfl
      have hc7 : (w5.alloc (.cells #[.slice ad5 n cap5] 30)).cell? ⟨p3, 0, none⟩ = some (.slice ad2 n cap2) := by
        rw [hbA.cell (p := ⟨p3, 0, none⟩) (World.block_lt_of_cell? w5 ⟨p3, 0, none⟩ hc5)]; exact hc5
      have HB6 : Hid (Below w.heap.size w (w5.alloc (.cells #[.slice ad5 n cap5] 30)) ∧ BrAt (w5.alloc (.cells #[.slice ad5 n cap5] 30)) ad2 n X ∧ BrAt (w5.alloc (.cells #[.slice ad5 n cap5] 30)) ad5 n Y) := ⟨HB5.out.1.trans (hbA.mono HB5.out.1.size), HB5.out.2.below hbA, hB6.below hbA⟩
      clear hbA hnA hc5 hB6 HB5 hal
      go_wp2_with fail
      generalize w5.alloc (.cells #[.slice ad5 n cap5] 30) = w6 at *
      generalize w5.heap.size = p6 at *
      refine (check_any ad2 n cap2 X w6 HB6.out.2.1 hn6 hx3).mono ?_
      rintro e w7 ⟨rfl, hb7⟩
      rw [hz, errV_0]
      have hc8 : w7.cell? ⟨p6, 0, none⟩ = some (.slice ad5 n cap5) := by
        rw [hb7.cell (p := ⟨p6, 0, none⟩) (World.block_lt_of_cell? w6 ⟨p6, 0, none⟩ hc6)]; exact hc6
      have hc9 : w7.cell? ⟨p3, 0, none⟩ = some (.slice ad2 n cap2) := by
        rw [hb7.cell (p := ⟨p3, 0, none⟩) (World.block_lt_of_cell? w6 ⟨p3, 0, none⟩ hc7)]; exact hc7
      have HB7 : Hid (Below w.heap.size w w7 ∧ BrAt w7 ad2 n X ∧ BrAt w7 ad5 n Y) := ⟨HB6.out.1.trans (hb7.mono HB6.out.1.size), HB6.out.2.1.below hb7, HB6.out.2.2.below hb7⟩
      clear hb7 hc6 hc7 HB6
      go_wp2_with fail
      refine (same_any ad5 cap5 Y ad2 cap2 X n w7 HB7.out.2.2 HB7.out.2.1 hlc hn3 hy hx3).mono ?_
      rintro e w8 ⟨rfl, hb8⟩
      have HB8 : Hid (Below w.heap.size w w8) := HB7.out.1.trans (hb8.mono HB7.out.1.size)
      clear hb8 hc8 hc9
      go_wp2_with fail
      refine (sure_any w8 (HG.out.1.belowB HB8.out)).mono ?_
      rintro e w9 ⟨rfl, hb9⟩
      have hbe : Below w.heap.size w w9 := HB8.out.trans (hb9.mono HB8.out.size)
      clear hb9
      go_wp2
      go_ret
      exact ⟨rfl, hbe⟩
    · have hz : chkE X n = 1 := if_neg hno
      have hbA : Below w5.heap.size w5 (w5.alloc (.cells #[.slice none 0 0] 30)) := (Below.refl _ _).alloc (Nat.le_refl _) _
      have hnA := heap_alloc_new w5 (.cells #[.slice none 0 0] 30)
      have hc6 : (w5.alloc (.cells #[.slice none 0 0] 30)).cell? ⟨w5.heap.size, 0, none⟩ = some (.slice none 0 0) := by rw [cell_of_row _ _ 0 _ _ _ hnA]; rfl
      have hc7 : (w5.alloc (.cells #[.slice none 0 0] 30)).cell? ⟨p3, 0, none⟩ = some (.slice ad2 n cap2) := by
        rw [hbA.cell (p := ⟨p3, 0, none⟩) (World.block_lt_of_cell? w5 ⟨p3, 0, none⟩ hc5)]; exact hc5
      have HB6 : Hid (Below w.heap.size w (w5.alloc (.cells #[.slice none 0 0] 30)) ∧ BrAt (w5.alloc (.cells #[.slice none 0 0] 30)) ad2 n X) := ⟨HB5.out.1.trans (hbA.mono HB5.out.1.size), HB5.out.2.below hbA⟩
      clear hbA hnA hc5 HB5
      generalize hE3 : errV 3 = E3 at *
      go_wp2_with fail
      generalize w5.alloc (.cells #[.slice none 0 0] 30) = w6 at *
      generalize w5.heap.size = p6 at *
      refine (check_any ad2 n cap2 X w6 HB6.out.2 hn6 hx3).mono ?_
      rintro e w7 ⟨rfl, hb7⟩
      rw [hz, errV_ne (by omega : (1 : Int) ≠ 0)]
      have hc8 : w7.cell? ⟨p6, 0, none⟩ = some (.slice none 0 0) := by
        rw [hb7.cell (p := ⟨p6, 0, none⟩) (World.block_lt_of_cell? w6 ⟨p6, 0, none⟩ hc6)]; exact hc6
      have HB7 : Hid (Below w.heap.size w w7) := HB6.out.1.trans (hb7.mono HB6.out.1.size)
      clear hb7 hc6 hc7 HB6
      go_wp2_with fail
      rw [← hE3]
      refine (num_any 3 w7 (HG.out.1.belowB HB7.out)).mono ?_
      rintro e w8 ⟨rfl, hb8⟩
      have hc9 : w8.cell? ⟨p6, 0, none⟩ = some (.slice none 0 0) := by
        rw [hb8.cell (p := ⟨p6, 0, none⟩) (World.block_lt_of_cell? w7 ⟨p6, 0, none⟩ hc8)]; exact hc8
      have HB8 : Hid (Below w.heap.size w w8) := HB7.out.trans (hb8.mono HB7.out.size)
      clear hb8 hc8
      go_wp2_with fail
      refine (sure_any w8 (HG.out.1.belowB HB8.out)).mono ?_
      rintro e w9 ⟨rfl, hb9⟩
      have hbe : Below w.heap.size w w9 := HB8.out.trans (hb9.mono HB8.out.size)
      clear hb9 hc9
      go_wp2
      go_ret
      exact ⟨rfl, hbe⟩
end Go.Proofs.YtfdcpbolofkopaaGreatDoor
