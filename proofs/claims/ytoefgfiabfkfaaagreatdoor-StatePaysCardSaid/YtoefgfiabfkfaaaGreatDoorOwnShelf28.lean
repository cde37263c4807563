/- The document's holdMay. -/
import Derived.Test.YtoefgfiabfkfaaaGreatDoorOwnShelf27
import Derived.Test.YtoefgfiabfkfaaaGreatDoorOwnShelf19
namespace Go.Proofs.YtoefgfiabfkfaaaGreatDoor
open Go.RowKit

/-- Keys as the document asks for them. -/
def KD (z : Nat → Int) (n : Nat) : Prop := ∀ j, j < n → (0 ≤ z j ∧ z j ≤ 15) ∧ (0 < j → z (j - 1) < z j)
theorem kd_ok (z : Nat → Int) (n : Nat) : KD z n ↔ KOk z n := by
 constructor
 ·intro h j hj
  obtain ⟨h1, h2⟩ := h j hj
  refine ⟨?_, by omega⟩
  unfold lastK
  split
  ·omega
  ·exact h2 (by omega)
 ·intro h j hj
  have pos : ∀ k, k < n → 0 ≤ z k := by
   intro k
   induction k with
   | zero => intro hk; have := (h 0 hk).1; simp [lastK] at this; omega
   | succ k ih =>
    intro hk
    have h1 := (h (k + 1) hk).1
    rw [lastK_succ] at h1
    have := ih (by omega)
    omega
  refine ⟨⟨pos j hj, by have := (h j hj).2; omega⟩, fun h0 => ?_⟩
  have := (h j hj).1
  unfold lastK at this
  rwa [if_neg (by omega)] at this
def HMay (x : Hd) : Prop := 0 ≤ x.id ∧ HOne x
instance (x : Hd) : Decidable (HMay x) := inferInstanceAs (Decidable (_ ∧ _))

set_option maxRecDepth 100000 in
set_option maxHeartbeats 3200000 in
theorem holdMay_any (x : Hd) (ka : Option Addr) (kc : Nat) (w : World) (hI : IsAt w ka x.n x.z) (hn : x.n ≤ 1000000) :
  Calls Tryz.prog 64 #[.agg (hdv x ka kc)] w fun e w' => e = .returned (.bool (decide (HMay x))) ∧ Below w.heap.size w w' := by
 unfold hdv
 have hb0 : Below w.heap.size w (w.alloc (.cells #[.int .i64 x.id, .int .i64 x.am, .slice ka x.n kc] 56)) := (Below.refl _ w).alloc (Nat.le_refl _) _
 have hr0 := heap_alloc_new w (.cells #[.int .i64 x.id, .int .i64 x.am, .slice ka x.n kc] 56)
 have HI : Hid (IsAt (w.alloc (.cells #[.int .i64 x.id, .int .i64 x.am, .slice ka x.n kc] 56)) ka x.n x.z) := hI.below hb0
 clear hI
 go_enter Tryz.func64, Tryz.ntmps64
 go_wp2_with fail
 generalize w.alloc (.cells #[.int .i64 x.id, .int .i64 x.am, .slice ka x.n kc] 56) = W0 at *
 have hl0 := lt_of_block hr0
 have HB0 : Hid (Below w.heap.size w W0) := hb0
 have HC : Hid (∀ w', Below W0.heap.size W0 w' → w'.cell? ⟨w.heap.size, 0, none⟩ = some (.int .i64 x.id) ∧ w'.cell? ⟨w.heap.size, 1, none⟩ = some (.int .i64 x.am) ∧ w'.cell? ⟨w.heap.size, 2, none⟩ = some (.slice ka x.n kc)) := fun w' hb => by
  have := hb.block _ hl0
  rw [hr0] at this
  exact ⟨by rw [cell_of_row _ _ 0 _ _ _ this]; rfl, by rw [cell_of_row _ _ 1 _ _ _ this]; rfl, by rw [cell_of_row _ _ 2 _ _ _ this]; rfl⟩
 have hbr := Below.refl W0.heap.size W0
 clear hb0 hr0
 go_loopw [3] (fun iv wr => ∃ i : Nat, i ≤ x.n ∧ iv = .int .i64 i ∧ KD x.z i ∧ Below W0.heap.size W0 wr) (fun iv _ => x.n + 1 - (intOf iv).toNat)
 case atStart => exact ⟨0, by omega, rfl, fun j hj => by omega, hbr⟩
 case round =>
  clear hbr
  obtain ⟨i, hi, rfl, hk, hb⟩ := hrel
  have HK : Hid (KD x.z i) := hk
  clear hk
  obtain ⟨c0, c1, c2⟩ := HC.out wr hb
  by_cases hlt : i < x.n
  ·have hlt' : (i : Int) < x.n := by omega
   obtain ⟨b, off, rfl, hc⟩ := HI.out (by omega)
   have KC : ∀ j, j < x.n → ∀ w', Below W0.heap.size W0 w' → w'.cell? ⟨b, off + j, none⟩ = some (.int .i64 (x.z j)) := fun j hj w' hb' => by
    have := hc j hj
    rw [hb'.cell (p := ⟨b, off + j, none⟩) (World.block_lt_of_cell? W0 ⟨b, off + j, none⟩ this)]; exact this
   have HB : Hid (Below W0.heap.size W0 wr.drew) := hb.drew
   have S0 : wr.drew.cell? ⟨w.heap.size, 2, none⟩ = some (.slice (some ⟨b, off, none⟩) x.n kc) := (HC.out _ HB.out).2.2
   have ki := KC i hlt _ HB.out
   have hwi := rwithin_any (x.z i) 0 15
   have HF : Hid (∀ h : ¬ ((0 ≤ x.z i ∧ x.z i ≤ 15) ∧ (0 < i → x.z (i - 1) < x.z i)), decide (HMay x) = false) := fun h => decide_eq_false (fun hm => h ((kd_ok x.z x.n).2 hm.2.2.2.1 i hlt))
   have HS : Hid ((0 ≤ x.z i ∧ x.z i ≤ 15) ∧ (0 < i → x.z (i - 1) < x.z i) → KD x.z (i + 1)) := fun h j hj => by
    by_cases e : j = i
    ·subst e; exact h
    ·exact HK.out j (by omega)
   clear hc HK
   by_cases h1 : 0 ≤ x.z i ∧ x.z i ≤ 15
   ·rw [decide_eq_true h1] at hwi
    rcases Nat.eq_zero_or_pos i with h0 | h0
    ·have HN := HS.out ⟨h1, fun h => by omega⟩
     subst h0
     clear KC HF HS h1 hlt'
     have h00 : (0 : Int) < x.n := by omega
     rw [Nat.add_zero] at ki
     go_wp2_with fail
     refine wp_region_noPanic ?_
     refine wp_region_held_drew (S := fun w' => w'.cell? ⟨w.heap.size, 2, none⟩ = some (.slice (some ⟨b, off, none⟩) x.n kc) ∧ w'.cell? ⟨b, off, none⟩ = some (.int .i64 (x.z 0))) (by kernel_rfl) ⟨S0, ki⟩ (fun hHeld => ?_)
     refine wpV 0 ⟨some 11, .fieldAddr 56 (.tmp 1) 2, 0, _, _, none⟩ rfl ?_
     try simp only [Act.put, sqA, sqB, sqC]
     refine wpV 1 ⟨some 12, .load 54 (.tmp 11), 54, _, _, none⟩ rfl ?_
     try simp only [Act.put, sqA, sqB, sqC]
     refine wpV 2 ⟨some 13, .move (.tmp 3), 3, _, _, none⟩ rfl ?_
     try simp only [Act.put, sqA, sqB, sqC]
     refine wpV 3 ⟨some 14, .indexAddr 54 (.tmp 12) (.tmp 13), 0, _, _, none⟩ rfl ?_
     try simp only [Act.put, sqA, sqB, sqC]
     refine wpV 4 ⟨some 15, .load 3 (.tmp 14), 3, _, _, none⟩ rfl ?_
     try simp only [Act.put, sqA, sqB, sqC]
     refine wpAnyH_ready (rs := [5]) (by kernel_rfl) (by simp) ?_
     refine (AllReadyH.cons (o := ⟨some 16, .call ⟨.value (.func 48), #[.tmp 15, .const (.int .i64 0), .const (.int .i64 15)], #[3, 3, 3]⟩, 4, _, _, none⟩) rfl (fun K hK => ?_) AllReadyH.nil)
     go_simp
     refine (hwi _).mono ?_
     rintro e w2 ⟨rfl, rfl⟩
     refine hK.out _ _ ⟨S0, ki⟩ (fun _ => ?_)
     clear hK K
     refine wpV 6 ⟨some 17, .unOp Go.UnOp.not 4 (.tmp 16), 4, _, _, none⟩ rfl ?_
     try simp only [Act.put, sqA, sqB, sqC]
     refine wpV 7 ⟨some 18, .move (.tmp 17), 4, _, _, none⟩ rfl ?_
     try simp only [Act.put, sqA, sqB, sqC]
     refine wpV 8 ⟨some 19, .move (.tmp 3), 3, _, _, some (7, false)⟩ rfl ?_
     try simp only [Act.put, sqA, sqB, sqC]
     refine wpV 9 ⟨some 20, .binOp .gtr 3 (.tmp 19) (.const (.int .i64 0)) 3, 4, _, _, some (7, false)⟩ rfl ?_
     try simp only [Act.put, sqA, sqB, sqC]
     refine wpV 10 ⟨some 21, .move (.tmp 20), 4, _, _, some (7, false)⟩ rfl ?_
     try simp only [Act.put, sqA, sqB, sqC]
     refine wpX 11 ⟨some 22, .fieldAddr 56 (.tmp 1) 2, 0, _, _, some (10, true)⟩ rfl ?_
     try simp only [Act.put, sqA, sqB, sqC]
     refine wpX 12 ⟨some 23, .load 54 (.tmp 22), 54, _, _, some (10, true)⟩ rfl ?_
     try simp only [Act.put, sqA, sqB, sqC]
     refine wpX 13 ⟨some 24, .move (.tmp 3), 3, _, _, some (10, true)⟩ rfl ?_
     try simp only [Act.put, sqA, sqB, sqC]
     refine wpX 14 ⟨some 25, .binOp .sub 3 (.tmp 24) (.const (.int .i64 1)) 3, 3, _, _, some (10, true)⟩ rfl ?_
     try simp only [Act.put, sqA, sqB, sqC]
     refine wpX 15 ⟨some 26, .indexAddr 54 (.tmp 23) (.tmp 25), 0, _, _, some (10, true)⟩ rfl ?_
     try simp only [Act.put, sqA, sqB, sqC]
     refine wpX 16 ⟨some 27, .load 3 (.tmp 26), 3, _, _, some (10, true)⟩ rfl ?_
     try simp only [Act.put, sqA, sqB, sqC]
     refine wpX 17 ⟨some 28, .fieldAddr 56 (.tmp 1) 2, 0, _, _, some (10, true)⟩ rfl ?_
     try simp only [Act.put, sqA, sqB, sqC]
     refine wpX 18 ⟨some 29, .load 54 (.tmp 28), 54, _, _, some (10, true)⟩ rfl ?_
     try simp only [Act.put, sqA, sqB, sqC]
     refine wpX 19 ⟨some 30, .move (.tmp 3), 3, _, _, some (10, true)⟩ rfl ?_
     try simp only [Act.put, sqA, sqB, sqC]
     refine wpX 20 ⟨some 31, .indexAddr 54 (.tmp 29) (.tmp 30), 0, _, _, some (10, true)⟩ rfl ?_
     try simp only [Act.put, sqA, sqB, sqC]
     refine wpX 21 ⟨some 32, .load 3 (.tmp 31), 3, _, _, some (10, true)⟩ rfl ?_
     try simp only [Act.put, sqA, sqB, sqC]
     refine wpX 22 ⟨some 33, .binOp .geq 3 (.tmp 27) (.tmp 32) 3, 4, _, _, some (10, true)⟩ rfl ?_
     try simp only [Act.put, sqA, sqB, sqC]
     refine wpV 23 ⟨some 34, .pick (.tmp 21) (.tmp 33) (.const (.bool false)), 4, _, _, some (7, false)⟩ rfl ?_
     try simp only [Act.put, sqA, sqB, sqC]
     refine wpV 24 ⟨some 35, .pick (.tmp 18) (.const (.bool true)) (.tmp 34), 4, _, _, none⟩ rfl ?_
     try simp only [Act.put, sqA, sqB, sqC]
     refine wpAnyH_done (by kernel_rfl) (NoPanic.normal ?_) _
     try simp only [Act.put, sqA, sqB, sqC]
     clear hHeld
     go_wp2
     go_roundw
     case rel => exact ⟨0 + 1, by omega, by go_num, HN, HB.out⟩
     case measure => simp [intOf]
    ·obtain ⟨m, hm⟩ : ∃ m, i = m + 1 := ⟨i - 1, by omega⟩
     have HM : Hid (i = m + 1) := hm
     have km := KC m (by omega) _ HB.out
     have hpos : (0 : Int) < (i : Int) := by omega
     have em : IntKind.i64.wrap ((i : Int) - 1) = (m : Int) := by simp [IntKind.wrap, IntKind.bits, IntKind.signed]; omega
     have hmn : (m : Int) < x.n := by omega
     have hm0 : x.z (i - 1) = x.z m := by rw [hm]; simp
     rw [hm0] at HS HF
     clear KC hm0 hm
     by_cases h2 : x.z m < x.z i
     ·have h2' : ¬ x.z i ≤ x.z m := by omega
      have HN := HS.out ⟨h1, fun _ => h2⟩
      clear HF HS h1
      go_wp2_with fail
      refine wp_region_noPanic ?_
      refine wp_region_held_drew (S := fun w' => w'.cell? ⟨w.heap.size, 2, none⟩ = some (.slice (some ⟨b, off, none⟩) x.n kc) ∧ w'.cell? ⟨b, off + i, none⟩ = some (.int .i64 (x.z i)) ∧ w'.cell? ⟨b, off + m, none⟩ = some (.int .i64 (x.z m))) (by kernel_rfl) ⟨S0, ki, km⟩ (fun hHeld => ?_)
      refine wpV 0 ⟨some 11, .fieldAddr 56 (.tmp 1) 2, 0, _, _, none⟩ rfl ?_
      try simp only [Act.put, sqA, sqB, sqC]
      refine wpV 1 ⟨some 12, .load 54 (.tmp 11), 54, _, _, none⟩ rfl ?_
      try simp only [Act.put, sqA, sqB, sqC]
      refine wpV 2 ⟨some 13, .move (.tmp 3), 3, _, _, none⟩ rfl ?_
      try simp only [Act.put, sqA, sqB, sqC]
      refine wpV 3 ⟨some 14, .indexAddr 54 (.tmp 12) (.tmp 13), 0, _, _, none⟩ rfl ?_
      try simp only [Act.put, sqA, sqB, sqC]
      refine wpV 4 ⟨some 15, .load 3 (.tmp 14), 3, _, _, none⟩ rfl ?_
      try simp only [Act.put, sqA, sqB, sqC]
      refine wpAnyH_ready (rs := [5]) (by kernel_rfl) (by simp) ?_
      refine (AllReadyH.cons (o := ⟨some 16, .call ⟨.value (.func 48), #[.tmp 15, .const (.int .i64 0), .const (.int .i64 15)], #[3, 3, 3]⟩, 4, _, _, none⟩) rfl (fun K hK => ?_) AllReadyH.nil)
      go_simp
      refine (hwi _).mono ?_
      rintro e w2 ⟨rfl, rfl⟩
      refine hK.out _ _ ⟨S0, ki, km⟩ (fun _ => ?_)
      clear hK K
      refine wpV 6 ⟨some 17, .unOp Go.UnOp.not 4 (.tmp 16), 4, _, _, none⟩ rfl ?_
      try simp only [Act.put, sqA, sqB, sqC]
      refine wpV 7 ⟨some 18, .move (.tmp 17), 4, _, _, none⟩ rfl ?_
      try simp only [Act.put, sqA, sqB, sqC]
      refine wpV 8 ⟨some 19, .move (.tmp 3), 3, _, _, some (7, false)⟩ rfl ?_
      try simp only [Act.put, sqA, sqB, sqC]
      refine wpV 9 ⟨some 20, .binOp .gtr 3 (.tmp 19) (.const (.int .i64 0)) 3, 4, _, _, some (7, false)⟩ rfl ?_
      try simp only [Act.put, sqA, sqB, sqC]
      refine wpV 10 ⟨some 21, .move (.tmp 20), 4, _, _, some (7, false)⟩ rfl ?_
      try simp only [Act.put, sqA, sqB, sqC]
      refine wpV 11 ⟨some 22, .fieldAddr 56 (.tmp 1) 2, 0, _, _, some (10, true)⟩ rfl ?_
      try simp only [Act.put, sqA, sqB, sqC]
      refine wpV 12 ⟨some 23, .load 54 (.tmp 22), 54, _, _, some (10, true)⟩ rfl ?_
      try simp only [Act.put, sqA, sqB, sqC]
      refine wpV 13 ⟨some 24, .move (.tmp 3), 3, _, _, some (10, true)⟩ rfl ?_
      try simp only [Act.put, sqA, sqB, sqC]
      refine wpV 14 ⟨some 25, .binOp .sub 3 (.tmp 24) (.const (.int .i64 1)) 3, 3, _, _, some (10, true)⟩ rfl ?_
      try simp only [Act.put, sqA, sqB, sqC]
      refine wpV 15 ⟨some 26, .indexAddr 54 (.tmp 23) (.tmp 25), 0, _, _, some (10, true)⟩ rfl ?_
      try simp only [Act.put, sqA, sqB, sqC]
      refine wpV 16 ⟨some 27, .load 3 (.tmp 26), 3, _, _, some (10, true)⟩ rfl ?_
      try simp only [Act.put, sqA, sqB, sqC]
      refine wpV 17 ⟨some 28, .fieldAddr 56 (.tmp 1) 2, 0, _, _, some (10, true)⟩ rfl ?_
      try simp only [Act.put, sqA, sqB, sqC]
      refine wpV 18 ⟨some 29, .load 54 (.tmp 28), 54, _, _, some (10, true)⟩ rfl ?_
      try simp only [Act.put, sqA, sqB, sqC]
      refine wpV 19 ⟨some 30, .move (.tmp 3), 3, _, _, some (10, true)⟩ rfl ?_
      try simp only [Act.put, sqA, sqB, sqC]
      refine wpV 20 ⟨some 31, .indexAddr 54 (.tmp 29) (.tmp 30), 0, _, _, some (10, true)⟩ rfl ?_
      try simp only [Act.put, sqA, sqB, sqC]
      refine wpV 21 ⟨some 32, .load 3 (.tmp 31), 3, _, _, some (10, true)⟩ rfl ?_
      try simp only [Act.put, sqA, sqB, sqC]
      refine wpV 22 ⟨some 33, .binOp .geq 3 (.tmp 27) (.tmp 32) 3, 4, _, _, some (10, true)⟩ rfl ?_
      try simp only [Act.put, sqA, sqB, sqC]
      refine wpV 23 ⟨some 34, .pick (.tmp 21) (.tmp 33) (.const (.bool false)), 4, _, _, some (7, false)⟩ rfl ?_
      try simp only [Act.put, sqA, sqB, sqC]
      refine wpV 24 ⟨some 35, .pick (.tmp 18) (.const (.bool true)) (.tmp 34), 4, _, _, none⟩ rfl ?_
      try simp only [Act.put, sqA, sqB, sqC]
      refine wpAnyH_done (by kernel_rfl) (NoPanic.normal ?_) _
      try simp only [Act.put, sqA, sqB, sqC]
      clear hHeld
      go_wp2
      go_roundw
      case rel => exact ⟨i + 1, by omega, by go_num, HN, HB.out⟩
      case measure => simp [intOf]; omega
     ·have h2' : x.z i ≤ x.z m := by omega
      have HE : Hid (decide (HMay x) = false) := HF.out (fun h => h2 (h.2 h0))
      clear HF HS h1
      go_wp2_with fail
      refine wp_region_noPanic ?_
      refine wp_region_held_drew (S := fun w' => w'.cell? ⟨w.heap.size, 2, none⟩ = some (.slice (some ⟨b, off, none⟩) x.n kc) ∧ w'.cell? ⟨b, off + i, none⟩ = some (.int .i64 (x.z i)) ∧ w'.cell? ⟨b, off + m, none⟩ = some (.int .i64 (x.z m))) (by kernel_rfl) ⟨S0, ki, km⟩ (fun hHeld => ?_)
      refine wpV 0 ⟨some 11, .fieldAddr 56 (.tmp 1) 2, 0, _, _, none⟩ rfl ?_
      try simp only [Act.put, sqA, sqB, sqC]
      refine wpV 1 ⟨some 12, .load 54 (.tmp 11), 54, _, _, none⟩ rfl ?_
      try simp only [Act.put, sqA, sqB, sqC]
      refine wpV 2 ⟨some 13, .move (.tmp 3), 3, _, _, none⟩ rfl ?_
      try simp only [Act.put, sqA, sqB, sqC]
      refine wpV 3 ⟨some 14, .indexAddr 54 (.tmp 12) (.tmp 13), 0, _, _, none⟩ rfl ?_
      try simp only [Act.put, sqA, sqB, sqC]
      refine wpV 4 ⟨some 15, .load 3 (.tmp 14), 3, _, _, none⟩ rfl ?_
      try simp only [Act.put, sqA, sqB, sqC]
      refine wpAnyH_ready (rs := [5]) (by kernel_rfl) (by simp) ?_
      refine (AllReadyH.cons (o := ⟨some 16, .call ⟨.value (.func 48), #[.tmp 15, .const (.int .i64 0), .const (.int .i64 15)], #[3, 3, 3]⟩, 4, _, _, none⟩) rfl (fun K hK => ?_) AllReadyH.nil)
      go_simp
      refine (hwi _).mono ?_
      rintro e w2 ⟨rfl, rfl⟩
      refine hK.out _ _ ⟨S0, ki, km⟩ (fun _ => ?_)
      clear hK K
      refine wpV 6 ⟨some 17, .unOp Go.UnOp.not 4 (.tmp 16), 4, _, _, none⟩ rfl ?_
      try simp only [Act.put, sqA, sqB, sqC]
      refine wpV 7 ⟨some 18, .move (.tmp 17), 4, _, _, none⟩ rfl ?_
      try simp only [Act.put, sqA, sqB, sqC]
      refine wpV 8 ⟨some 19, .move (.tmp 3), 3, _, _, some (7, false)⟩ rfl ?_
      try simp only [Act.put, sqA, sqB, sqC]
      refine wpV 9 ⟨some 20, .binOp .gtr 3 (.tmp 19) (.const (.int .i64 0)) 3, 4, _, _, some (7, false)⟩ rfl ?_
      try simp only [Act.put, sqA, sqB, sqC]
      refine wpV 10 ⟨some 21, .move (.tmp 20), 4, _, _, some (7, false)⟩ rfl ?_
      try simp only [Act.put, sqA, sqB, sqC]
      refine wpV 11 ⟨some 22, .fieldAddr 56 (.tmp 1) 2, 0, _, _, some (10, true)⟩ rfl ?_
      try simp only [Act.put, sqA, sqB, sqC]
      refine wpV 12 ⟨some 23, .load 54 (.tmp 22), 54, _, _, some (10, true)⟩ rfl ?_
      try simp only [Act.put, sqA, sqB, sqC]
      refine wpV 13 ⟨some 24, .move (.tmp 3), 3, _, _, some (10, true)⟩ rfl ?_
      try simp only [Act.put, sqA, sqB, sqC]
      refine wpV 14 ⟨some 25, .binOp .sub 3 (.tmp 24) (.const (.int .i64 1)) 3, 3, _, _, some (10, true)⟩ rfl ?_
      try simp only [Act.put, sqA, sqB, sqC]
      refine wpV 15 ⟨some 26, .indexAddr 54 (.tmp 23) (.tmp 25), 0, _, _, some (10, true)⟩ rfl ?_
      try simp only [Act.put, sqA, sqB, sqC]
      refine wpV 16 ⟨some 27, .load 3 (.tmp 26), 3, _, _, some (10, true)⟩ rfl ?_
      try simp only [Act.put, sqA, sqB, sqC]
      refine wpV 17 ⟨some 28, .fieldAddr 56 (.tmp 1) 2, 0, _, _, some (10, true)⟩ rfl ?_
      try simp only [Act.put, sqA, sqB, sqC]
      refine wpV 18 ⟨some 29, .load 54 (.tmp 28), 54, _, _, some (10, true)⟩ rfl ?_
      try simp only [Act.put, sqA, sqB, sqC]
      refine wpV 19 ⟨some 30, .move (.tmp 3), 3, _, _, some (10, true)⟩ rfl ?_
      try simp only [Act.put, sqA, sqB, sqC]
      refine wpV 20 ⟨some 31, .indexAddr 54 (.tmp 29) (.tmp 30), 0, _, _, some (10, true)⟩ rfl ?_
      try simp only [Act.put, sqA, sqB, sqC]
      refine wpV 21 ⟨some 32, .load 3 (.tmp 31), 3, _, _, some (10, true)⟩ rfl ?_
      try simp only [Act.put, sqA, sqB, sqC]
      refine wpV 22 ⟨some 33, .binOp .geq 3 (.tmp 27) (.tmp 32) 3, 4, _, _, some (10, true)⟩ rfl ?_
      try simp only [Act.put, sqA, sqB, sqC]
      refine wpV 23 ⟨some 34, .pick (.tmp 21) (.tmp 33) (.const (.bool false)), 4, _, _, some (7, false)⟩ rfl ?_
      try simp only [Act.put, sqA, sqB, sqC]
      refine wpV 24 ⟨some 35, .pick (.tmp 18) (.const (.bool true)) (.tmp 34), 4, _, _, none⟩ rfl ?_
      try simp only [Act.put, sqA, sqB, sqC]
      refine wpAnyH_done (by kernel_rfl) (NoPanic.normal ?_) _
      try simp only [Act.put, sqA, sqB, sqC]
      clear hHeld
      go_wp2
      go_ret
      exact ⟨by rw [HE.out]; rfl, HB0.out.trans (HB.out.mono HB0.out.size)⟩
   ·rw [decide_eq_false h1] at hwi
    have HE : Hid (decide (HMay x) = false) := HF.out (fun h => h1 h.1)
    clear KC HF HS h1
    go_wp2_with fail
    refine wp_region_noPanic ?_
    refine wp_region_held_drew (S := fun w' => w'.cell? ⟨w.heap.size, 2, none⟩ = some (.slice (some ⟨b, off, none⟩) x.n kc) ∧ w'.cell? ⟨b, off + i, none⟩ = some (.int .i64 (x.z i))) (by kernel_rfl) ⟨S0, ki⟩ (fun hHeld => ?_)
    refine wpV 0 ⟨some 11, .fieldAddr 56 (.tmp 1) 2, 0, _, _, none⟩ rfl ?_
    try simp only [Act.put, sqA, sqB, sqC]
    refine wpV 1 ⟨some 12, .load 54 (.tmp 11), 54, _, _, none⟩ rfl ?_
    try simp only [Act.put, sqA, sqB, sqC]
    refine wpV 2 ⟨some 13, .move (.tmp 3), 3, _, _, none⟩ rfl ?_
    try simp only [Act.put, sqA, sqB, sqC]
    refine wpV 3 ⟨some 14, .indexAddr 54 (.tmp 12) (.tmp 13), 0, _, _, none⟩ rfl ?_
    try simp only [Act.put, sqA, sqB, sqC]
    refine wpV 4 ⟨some 15, .load 3 (.tmp 14), 3, _, _, none⟩ rfl ?_
    try simp only [Act.put, sqA, sqB, sqC]
    refine wpAnyH_ready (rs := [5]) (by kernel_rfl) (by simp) ?_
    refine (AllReadyH.cons (o := ⟨some 16, .call ⟨.value (.func 48), #[.tmp 15, .const (.int .i64 0), .const (.int .i64 15)], #[3, 3, 3]⟩, 4, _, _, none⟩) rfl (fun K hK => ?_) AllReadyH.nil)
    go_simp
    refine (hwi _).mono ?_
    rintro e w2 ⟨rfl, rfl⟩
    refine hK.out _ _ ⟨S0, ki⟩ (fun _ => ?_)
    clear hK K
    refine wpV 6 ⟨some 17, .unOp Go.UnOp.not 4 (.tmp 16), 4, _, _, none⟩ rfl ?_
    try simp only [Act.put, sqA, sqB, sqC]
    refine wpV 7 ⟨some 18, .move (.tmp 17), 4, _, _, none⟩ rfl ?_
    try simp only [Act.put, sqA, sqB, sqC]
    refine wpX 8 ⟨some 19, .move (.tmp 3), 3, _, _, some (7, false)⟩ rfl ?_
    try simp only [Act.put, sqA, sqB, sqC]
    refine wpX 9 ⟨some 20, .binOp .gtr 3 (.tmp 19) (.const (.int .i64 0)) 3, 4, _, _, some (7, false)⟩ rfl ?_
    try simp only [Act.put, sqA, sqB, sqC]
    refine wpX 10 ⟨some 21, .move (.tmp 20), 4, _, _, some (7, false)⟩ rfl ?_
    try simp only [Act.put, sqA, sqB, sqC]
    refine wpX 11 ⟨some 22, .fieldAddr 56 (.tmp 1) 2, 0, _, _, some (10, true)⟩ rfl ?_
    try simp only [Act.put, sqA, sqB, sqC]
    refine wpX 12 ⟨some 23, .load 54 (.tmp 22), 54, _, _, some (10, true)⟩ rfl ?_
    try simp only [Act.put, sqA, sqB, sqC]
    refine wpX 13 ⟨some 24, .move (.tmp 3), 3, _, _, some (10, true)⟩ rfl ?_
    try simp only [Act.put, sqA, sqB, sqC]
    refine wpX 14 ⟨some 25, .binOp .sub 3 (.tmp 24) (.const (.int .i64 1)) 3, 3, _, _, some (10, true)⟩ rfl ?_
    try simp only [Act.put, sqA, sqB, sqC]
    refine wpX 15 ⟨some 26, .indexAddr 54 (.tmp 23) (.tmp 25), 0, _, _, some (10, true)⟩ rfl ?_
    try simp only [Act.put, sqA, sqB, sqC]
    refine wpX 16 ⟨some 27, .load 3 (.tmp 26), 3, _, _, some (10, true)⟩ rfl ?_
    try simp only [Act.put, sqA, sqB, sqC]
    refine wpX 17 ⟨some 28, .fieldAddr 56 (.tmp 1) 2, 0, _, _, some (10, true)⟩ rfl ?_
    try simp only [Act.put, sqA, sqB, sqC]
    refine wpX 18 ⟨some 29, .load 54 (.tmp 28), 54, _, _, some (10, true)⟩ rfl ?_
    try simp only [Act.put, sqA, sqB, sqC]
    refine wpX 19 ⟨some 30, .move (.tmp 3), 3, _, _, some (10, true)⟩ rfl ?_
    try simp only [Act.put, sqA, sqB, sqC]
    refine wpX 20 ⟨some 31, .indexAddr 54 (.tmp 29) (.tmp 30), 0, _, _, some (10, true)⟩ rfl ?_
    try simp only [Act.put, sqA, sqB, sqC]
    refine wpX 21 ⟨some 32, .load 3 (.tmp 31), 3, _, _, some (10, true)⟩ rfl ?_
    try simp only [Act.put, sqA, sqB, sqC]
    refine wpX 22 ⟨some 33, .binOp .geq 3 (.tmp 27) (.tmp 32) 3, 4, _, _, some (10, true)⟩ rfl ?_
    try simp only [Act.put, sqA, sqB, sqC]
    refine wpX 23 ⟨some 34, .pick (.tmp 21) (.tmp 33) (.const (.bool false)), 4, _, _, some (7, false)⟩ rfl ?_
    try simp only [Act.put, sqA, sqB, sqC]
    refine wpV 24 ⟨some 35, .pick (.tmp 18) (.const (.bool true)) (.tmp 34), 4, _, _, none⟩ rfl ?_
    try simp only [Act.put, sqA, sqB, sqC]
    refine wpAnyH_done (by kernel_rfl) (NoPanic.normal ?_) _
    try simp only [Act.put, sqA, sqB, sqC]
    clear hHeld
    go_wp2
    go_ret
    exact ⟨by rw [HE.out]; rfl, HB0.out.trans (HB.out.mono HB0.out.size)⟩
  ·obtain rfl : i = x.n := by omega
   have hnn : ¬ ((x.n : Int) < x.n) := by omega
   have hK := (kd_ok x.z x.n).1 HK.out
   have HE : Hid (decide (HMay x) = decide ((0 ≤ x.id ∧ x.id ≤ 4294967296) ∧ (10 ≤ x.am ∧ x.am ≤ 1125899906842624) ∧ 0 < x.n)) := by
    show _ = _
    simp only [HMay, HOne, hK, true_and, decide_eq_decide]
    constructor
    ·rintro ⟨h1, h2, h3, h4⟩; exact ⟨⟨h1, h2⟩, h3, h4⟩
    ·rintro ⟨⟨h1, h2⟩, h3, h4⟩; exact ⟨h1, h2, h3, h4⟩
   have HBE : Hid (Below w.heap.size w wr) := HB0.out.trans (hb.mono HB0.out.size)
   have hw1 := rwithin_any x.id 0 4294967296
   have hw2 := rwithin_any x.am 10 1125899906842624
   clear hK HK
   by_cases h1 : 0 ≤ x.id ∧ x.id ≤ 4294967296
   ·rw [decide_eq_true h1] at hw1
    by_cases h2 : 10 ≤ x.am ∧ x.am ≤ 1125899906842624
    ·rw [decide_eq_true h2] at hw2
     have HE2 : Hid (decide (HMay x) = decide (0 < x.n)) := by show _ = _; rw [HE.out]; simp [h1, h2]
     clear HE h1 h2
     go_wp2_with fail
     refine (hw1 _).mono ?_
     rintro e w2 ⟨rfl, rfl⟩
     go_wp2_with fail
     refine (hw2 _).mono ?_
     rintro e w3 ⟨rfl, rfl⟩
     go_wp2
     go_ret
     exact ⟨by rw [HE2.out]; simp, HBE.out⟩
    ·rw [decide_eq_false h2] at hw2
     have HE2 : Hid (decide (HMay x) = false) := by show _ = _; rw [HE.out]; exact decide_eq_false (fun h => h2 h.2.1)
     clear HE h1 h2
     go_wp2_with fail
     refine (hw1 _).mono ?_
     rintro e w2 ⟨rfl, rfl⟩
     go_wp2_with fail
     refine (hw2 _).mono ?_
     rintro e w3 ⟨rfl, rfl⟩
     go_wp2
     go_ret
     exact ⟨by rw [HE2.out]; rfl, HBE.out⟩
   ·rw [decide_eq_false h1] at hw1
    have HE2 : Hid (decide (HMay x) = false) := by show _ = _; rw [HE.out]; exact decide_eq_false (fun h => h1 h.1)
    clear HE h1
    go_wp2_with fail
    refine (hw1 _).mono ?_
    rintro e w2 ⟨rfl, rfl⟩
    go_wp2
    go_ret
    exact ⟨by rw [HE2.out]; rfl, HBE.out⟩
end Go.Proofs.YtoefgfiabfkfaaaGreatDoor
/- The document's sum. -/
namespace Go.Proofs.YtoefgfiabfkfaaaGreatDoor
open Go.RowKit

set_option maxRecDepth 100000 in
set_option maxHeartbeats 3200000 in
theorem rsum_any (s : Sv) (p : Pl) (w : World) (h : SvAt w s p) (h1 : SNum s) (h2 : SRows s) :
  Calls Tryz.prog 65 #[.agg (svv s p)] w fun e w' => e = .returned (.int .i64 (tot s)) ∧ Below w.heap.size w w' := by
 obtain ⟨nu, a, b, pn, P, hn, H⟩ := s
 obtain ⟨pa, pc, ha, hc⟩ := p
 obtain ⟨py, hd, _, _, _, _⟩ := h
 simp only at py hd
 have HT : Hid (tot ⟨nu, a, b, pn, P, hn, H⟩ = a + b + sumP P pn + sumH H hn) := rfl
 unfold svv
 simp only
 have hab : (0 ≤ a ∧ a ≤ 1125899906842624) ∧ (0 ≤ b ∧ b ≤ 1125899906842624) := ⟨h1.2.1, h1.2.2⟩
 have hp8 : pn + hn ≤ 8 := h2.1
 have HP : Hid (∀ i, i ≤ pn → 0 ≤ sumP P i ∧ sumP P i ≤ 9007199254740992) := sumP_pre h2.2.1 (by omega)
 have HH : Hid (∀ i, i ≤ hn → 0 ≤ sumH H i ∧ sumH H i ≤ 9007199254740992) := sumH_pre h2.2.2 (by omega)
 clear h1 h2
 have hb0 : Below w.heap.size w (w.alloc (.cells #[.int .i64 nu, .int .i64 a, .int .i64 b, .slice pa pn pc, .slice ha hn hc] 26)) := (Below.refl _ w).alloc (Nat.le_refl _) _
 have HPY : Hid (PyAt (w.alloc (.cells #[.int .i64 nu, .int .i64 a, .int .i64 b, .slice pa pn pc, .slice ha hn hc] 26)) pa pn P) := py.below hb0
 have HHD : Hid (HdAt (w.alloc (.cells #[.int .i64 nu, .int .i64 a, .int .i64 b, .slice pa pn pc, .slice ha hn hc] 26)) ha hn H) := hd.below hb0
 clear py hd
 have hr0 := heap_alloc_new w (.cells #[.int .i64 nu, .int .i64 a, .int .i64 b, .slice pa pn pc, .slice ha hn hc] 26)
 go_enter Tryz.func65, Tryz.ntmps65
 go_wp2
 generalize w.alloc (.cells #[.int .i64 nu, .int .i64 a, .int .i64 b, .slice pa pn pc, .slice ha hn hc] 26) = W0 at *
 have c3 : W0.cell? ⟨w.heap.size, 3, none⟩ = some (.slice pa pn pc) := by rw [cell_of_row _ _ 3 _ _ _ hr0]; rfl
 have c4 : W0.cell? ⟨w.heap.size, 4, none⟩ = some (.slice ha hn hc) := by rw [cell_of_row _ _ 4 _ _ _ hr0]; rfl
 have HB0 : Hid (Below w.heap.size w W0) := hb0
 have eab : wrap64 (a + b) = a + b + sumP P 0 := by simp [sumP, wrap64]; omega
 clear hb0 hr0
 go_loop [3, 4] (fun sv iv => ∃ i : Nat, i ≤ pn ∧ sv = .int .i64 (a + b + sumP P i) ∧ iv = .int .i64 i) (fun _ iv => pn + 1 - (intOf iv).toNat)
 case atStart => exact ⟨0, by omega, by first | rw [eab] | (simp [sumP]), rfl⟩
 case round =>
  clear eab
  obtain ⟨i, hi, rfl, rfl⟩ := hrel
  by_cases hlt : i < pn
  ·have hlt' : (i : Int) < pn := by omega
   obtain ⟨bl0, off, rfl, hc0⟩ := HPY.out.at_ (by omega)
   have c2 := (py_cells (hc0 i hlt)).2.2.1
   have b1 := HP.out i (by omega)
   have b2' : 0 ≤ sumP P i + (P i).am ∧ sumP P i + (P i).am ≤ 9007199254740992 := HP.out (i + 1) (by omega)
   have HW : Hid (a + b + sumP P i + (P i).am = a + b + sumP P (i + 1)) := by show _ = _; rw [show sumP P (i + 1) = sumP P i + (P i).am from rfl]; omega
   clear hc0
   generalize sumP P i = q at *
   obtain ⟨x, hx⟩ : ∃ x, P i = x := ⟨_, rfl⟩
   rw [hx] at b2' HW c2
   clear hx
   have ew : wrap64 (a + b + q + x.am) = a + b + q + x.am := by simp [wrap64]; omega
   go_wp2
   go_round
   case rel => exact ⟨i + 1, by omega, by first | rw [HW.out] | (rw [ew, HW.out]) | (rw [← HW.out]), by go_num⟩
   case measure => simp [intOf]; omega
  ·obtain rfl : i = pn := by omega
   have hnn : ¬ ((i : Int) < i) := by omega
   have b1 := HP.out i (by omega)
   have HQ : Hid (tot ⟨nu, a, b, i, P, hn, H⟩ = a + b + sumP P i + sumH H hn) := HT.out
   generalize sumP P i = q at *
   have e0 : Hid (a + b + q = a + b + q + sumH H 0) := by show _ = _; simp [sumH]
   clear HT HP HPY
   go_wp2
   go_loop [3, 5] (fun sv iv => ∃ j : Nat, j ≤ hn ∧ sv = .int .i64 (a + b + q + sumH H j) ∧ iv = .int .i64 j) (fun _ iv => hn + 1 - (intOf iv).toNat)
   case atStart => exact ⟨0, by omega, by rw [← e0.out], rfl⟩
   case round =>
    clear e0
    obtain ⟨j, hj, rfl, rfl⟩ := hrel
    by_cases hlt : j < hn
    ·have hlt' : (j : Int) < hn := by omega
     obtain ⟨bl0, off, rfl, hc0⟩ := HHD.out.at_ (by omega)
     obtain ⟨ka, kc, hr, _, _⟩ := hc0 j hlt
     obtain ⟨_, d1, _⟩ := hd_cells hr
     have b3 := HH.out j (by omega)
     have b2' : 0 ≤ sumH H j + (H j).am ∧ sumH H j + (H j).am ≤ 9007199254740992 := HH.out (j + 1) (by omega)
     have HW : Hid (a + b + q + sumH H j + (H j).am = a + b + q + sumH H (j + 1)) := by show _ = _; rw [show sumH H (j + 1) = sumH H j + (H j).am from rfl]; omega
     clear hc0 hr
     generalize sumH H j = r at *
     obtain ⟨x, hx⟩ : ∃ x, H j = x := ⟨_, rfl⟩
     rw [hx] at b2' HW d1
     clear hx
     have ew : wrap64 (a + b + q + r + x.am) = a + b + q + r + x.am := by simp [wrap64]; omega
     go_wp2
     go_round
     case rel => exact ⟨j + 1, by omega, by first | rw [HW.out] | (rw [ew, HW.out]) | (rw [← HW.out]), by go_num⟩
     case measure => simp [intOf]; omega
    ·obtain rfl : j = hn := by omega
     have hnn : ¬ ((j : Int) < j) := by omega
     go_wp2
     go_ret
     exact ⟨by rw [HQ.out]; rfl, HB0.out⟩
end Go.Proofs.YtoefgfiabfkfaaaGreatDoor
