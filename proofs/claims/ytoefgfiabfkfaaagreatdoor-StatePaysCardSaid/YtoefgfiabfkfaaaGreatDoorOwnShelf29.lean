/- The document's Check. -/
import Derived.Test.YtoefgfiabfkfaaaGreatDoorOwnShelf28
namespace Go.Proofs.YtoefgfiabfkfaaaGreatDoor
open Go.RowKit

def PD (X : Nat → Py) (n : Nat) : Prop := ∀ j, j < n → PMay (X j) ∧ (0 < j → (X (j - 1)).id < (X j).id)
theorem pd_ok (X : Nat → Py) (n : Nat) : PD X n ↔ PsOk X n := by
 constructor
 ·intro h j hj
  obtain ⟨⟨h1, h3⟩, h2⟩ := h j hj
  refine ⟨?_, h3⟩
  unfold lastP
  split
  ·omega
  ·exact h2 (by omega)
 ·intro h j hj
  have pos : ∀ k, k < n → 0 ≤ (X k).id := by
   intro k
   induction k with
   | zero => intro hk; have := (h 0 hk).1; simp [lastP] at this; omega
   | succ k ih =>
    intro hk
    have h1 := (h (k + 1) hk).1
    rw [lastP_succ] at h1
    have := ih (by omega)
    omega
  refine ⟨⟨pos j hj, (h j hj).2⟩, fun h0 => ?_⟩
  have := (h j hj).1
  unfold lastP at this
  rwa [if_neg (by omega)] at this
def HDo (X : Nat → Hd) (n : Nat) : Prop := ∀ j, j < n → HMay (X j) ∧ (0 < j → (X (j - 1)).id < (X j).id)
theorem hdo_ok (X : Nat → Hd) (n : Nat) : HDo X n ↔ HsOk X n := by
 constructor
 ·intro h j hj
  obtain ⟨⟨h1, h3⟩, h2⟩ := h j hj
  refine ⟨?_, h3⟩
  unfold lastH
  split
  ·omega
  ·exact h2 (by omega)
 ·intro h j hj
  have pos : ∀ k, k < n → 0 ≤ (X k).id := by
   intro k
   induction k with
   | zero => intro hk; have := (h 0 hk).1; simp [lastH] at this; omega
   | succ k ih =>
    intro hk
    have h1 := (h (k + 1) hk).1
    rw [lastH_succ] at h1
    have := ih (by omega)
    omega
  refine ⟨⟨pos j hj, (h j hj).2⟩, fun h0 => ?_⟩
  have := (h j hj).1
  unfold lastH at this
  rwa [if_neg (by omega)] at this

set_option maxRecDepth 100000 in
set_option maxHeartbeats 6400000 in
theorem rcheck_any (s : Sv) (p : Pl) (w : World) (h : SvAt w s p) (hs : s.Small) :
  Calls Tryz.prog 47 #[.agg (svv s p)] w fun e w' => e = .returned (.int .i64 (chkE s)) ∧ Below w.heap.size w w' := by
 obtain ⟨pa, pc, ha, hcp⟩ := p
 have hb0 : Below w.heap.size w (w.alloc (.cells (svv s ⟨pa, pc, ha, hcp⟩) 26)) := (Below.refl _ w).alloc (Nat.le_refl _) _
 have hr0 := heap_alloc_new w (.cells (svv s ⟨pa, pc, ha, hcp⟩) 26)
 have H0 : Hid (SvAt (w.alloc (.cells (svv s ⟨pa, pc, ha, hcp⟩) 26)) s ⟨pa, pc, ha, hcp⟩) := h.below hb0
 have HS : Hid s.Small := hs
 have hsn := hs.n
 have HEE : Hid (chkE s = if SOk s then 0 else 1) := rfl
 have hw1 := rwithin_any s.nu 0 1099511627776
 have hw2 := rwithin_any s.a 0 1125899906842624
 have hw3 := rwithin_any s.b 0 1125899906842624
 clear h hs
 by_cases h1 : 0 ≤ s.nu ∧ s.nu ≤ 1099511627776
 ·rw [decide_eq_true h1] at hw1
  by_cases h2 : 0 ≤ s.a ∧ s.a ≤ 1125899906842624
  ·rw [decide_eq_true h2] at hw2
   by_cases h3 : 0 ≤ s.b ∧ s.b ≤ 1125899906842624
   ·rw [decide_eq_true h3] at hw3
    by_cases h4 : s.pn ≤ 8
    ·by_cases h5 : s.hn ≤ 8
     ·by_cases h6 : s.pn + s.hn ≤ 8
      ·have HN : Hid (SNum s) := ⟨h1, h2, h3⟩
       have h4' : ¬ (8 : Int) < s.pn := by omega
       have h5' : ¬ (8 : Int) < s.hn := by omega
       have h6' : ¬ (8 : Int) < (s.pn : Int) + s.hn := by omega
       have e6 : wrap64 ((s.pn : Int) + s.hn) = (s.pn : Int) + s.hn := by simp [wrap64]; omega
       clear h1 h2 h3
       unfold svv at hb0 hr0 ⊢
       dsimp only at hb0 hr0 ⊢
       unfold svv at H0
       dsimp only at H0
       go_enter Tryz.func47, Tryz.ntmps47
       go_wp2_with fail
       refine (hw1 _).mono ?_
       rintro e x1 ⟨rfl, rfl⟩
       go_wp2_with fail
       refine (hw2 _).mono ?_
       rintro e x2 ⟨rfl, rfl⟩
       go_wp2_with fail
       refine (hw3 _).mono ?_
       rintro e x3 ⟨rfl, rfl⟩
       go_wp2_with fail
       generalize w.alloc (.cells #[.int .i64 s.nu, .int .i64 s.a, .int .i64 s.b, .slice pa s.pn pc, .slice ha s.hn hcp] 26) = W0 at *
       have hl0 := lt_of_block hr0
       have HB0 : Hid (Below w.heap.size w W0) := hb0
       have HC : Hid (∀ w', Below W0.heap.size W0 w' → w'.cell? ⟨w.heap.size, 3, none⟩ = some (.slice pa s.pn pc) ∧ w'.cell? ⟨w.heap.size, 4, none⟩ = some (.slice ha s.hn hcp)) := fun w' hb => by
        have := hb.block _ hl0
        rw [hr0] at this
        exact ⟨by rw [cell_of_row _ _ 3 _ _ _ this]; rfl, by rw [cell_of_row _ _ 4 _ _ _ this]; rfl⟩
       have HC5 : Hid (∀ w', Below W0.heap.size W0 w' → w'.heap[w.heap.size]? = some (.cells #[.int .i64 s.nu, .int .i64 s.a, .int .i64 s.b, .slice pa s.pn pc, .slice ha s.hn hcp] 26 (0, 0))) := fun w' hb => by
        rw [hb.block _ hl0]; exact hr0
       have hbr := Below.refl W0.heap.size W0
       clear hb0 hr0 hw1 hw2 hw3
       go_loopw [3] (fun iv wr => ∃ i : Nat, i ≤ s.pn ∧ iv = .int .i64 i ∧ PD s.P i ∧ Below W0.heap.size W0 wr) (fun iv _ => s.pn + 1 - (intOf iv).toNat)
       case atStart => exact ⟨0, by omega, rfl, fun j hj => by omega, hbr⟩
       case round =>
        clear hbr
        obtain ⟨i, hi, rfl, hk, hb⟩ := hrel
        have HK : Hid (PD s.P i) := hk
        clear hk
        obtain ⟨c3, c4⟩ := HC.out wr hb
        by_cases hlt : i < s.pn
        ·have hlt' : (i : Int) < s.pn := by omega
         have HB : Hid (Below W0.heap.size W0 wr.drew) := hb.drew
         have HZ := H0.out.py.lk i hlt
         obtain ⟨b, off, ead, hc⟩ := H0.out.py.at_ (by omega)
         dsimp only at ead
         subst ead
         have hra := range_below (hc i hlt) HB.out
         have hid := (py_cells hra).1
         have hca := payMay_any (s.P i) wr.drew HZ
         have hIm : ∀ m, m < s.pn → wr.drew.cell? ⟨b, off + m * 36, none⟩ = some (.int .i64 (s.P m).id) := fun m hm => (py_cells (range_below (hc m hm) HB.out)).1
         have S0 : wr.drew.cell? ⟨w.heap.size, 3, none⟩ = some (.slice (some ⟨b, off, none⟩) s.pn pc) := by exact (HC.out _ HB.out).1
         have HF : Hid (∀ h : ¬ (PMay (s.P i) ∧ (0 < i → (s.P (i - 1)).id < (s.P i).id)), chkE s = 1) := fun h => if_neg (fun hm => h ((pd_ok s.P s.pn).2 hm.2.1.2.1 i hlt))
         have HSS : Hid (PMay (s.P i) ∧ (0 < i → (s.P (i - 1)).id < (s.P i).id) → PD s.P (i + 1)) := fun h j hj => by
          by_cases e : j = i
          ·subst e; exact h
          ·exact HK.out j (by omega)
         clear hc HK HEE
         by_cases h7 : PMay (s.P i)
         ·rw [decide_eq_true h7] at hca
          rcases Nat.eq_zero_or_pos i with h0 | h0
          ·have HNN := HSS.out ⟨h7, fun h => by omega⟩
           have h00 : decide ((0 : Int) < (i : Int)) = false := by simp [h0]
           have h01 : decide (0 < i) = false := by simp [h0]
           have h02 : ¬ 0 < i := by omega
           have HI0 : Hid (i = 0) := h0
           clear HF HSS h7 hIm h0
           go_wp2_with fail
           refine wp_region_noPanic ?_
           refine wp_region_held_drew (S := fun w' => w'.cell? ⟨w.heap.size, 3, none⟩ = some (.slice (some ⟨b, off, none⟩) s.pn pc) ∧ w'.rangeAt b (off + i * 36) (pyl (s.P i))) (by kernel_rfl) ⟨S0, hra⟩ (fun hHeld => ?_)
           refine wpV 0 ⟨some 52, .fieldAddr 26 (.tmp 1) 2, 0, _, _, none⟩ rfl ?_
           try simp only [Act.put, sqA, sqB, sqC]
           refine wpV 1 ⟨some 53, .load 23 (.tmp 52), 23, _, _, none⟩ rfl ?_
           try simp only [Act.put, sqA, sqB, sqC]
           refine wpV 2 ⟨some 54, .move (.tmp 3), 3, _, _, none⟩ rfl ?_
           try simp only [Act.put, sqA, sqB, sqC]
           refine wpV 3 ⟨some 55, .indexAddr 23 (.tmp 53) (.tmp 54), 0, _, _, none⟩ rfl ?_
           try simp only [Act.put, sqA, sqB, sqC]
           refine wpAnyH_take (i := 4) (oi := ⟨some 56, .load 30 (.tmp 55), 30, _, _, none⟩) rfl (by kernel_rfl) (by kernel_rfl) (by kernel_rfl) (fun _ _ _ h => h) (yieldsIf_load_mid (by rfl) _ _ rfl b (off + i * 36) rfl (pyl (s.P i)) _ (fun _ h => h.2) Tryz.underlying30 rfl (szPrl _)) (by assumption) ?_
           try simp only [Act.put, sqA, sqB, sqC]
           refine wpAnyH_ready (rs := [5]) (by kernel_rfl) (by simp) ?_
           refine (AllReadyH.cons (o := ⟨some 57, .call ⟨.value (.func 22), #[.tmp 56], #[30]⟩, 4, _, _, none⟩) rfl (fun K hK => ?_) AllReadyH.nil)
           go_simp
           refine hca.mono ?_
           rintro e w2 ⟨rfl, hb2⟩
           have S2 : w2.cell? ⟨w.heap.size, 3, none⟩ = some (.slice (some ⟨b, off, none⟩) s.pn pc) ∧ w2.rangeAt b (off + i * 36) (pyl (s.P i)) := ⟨by rw [hb2.cell (p := ⟨_, _, none⟩) (World.block_lt_of_cell? _ _ S0)]; exact S0, range_below hra hb2⟩
           have HB2 : Hid (Below W0.heap.size W0 w2) := Below.transS HB.out hb2
           clear hca hb2
           refine hK.out _ _ S2 (fun _ => ?_)
           clear hK K
           refine wpV 6 ⟨some 58, .unOp Go.UnOp.not 4 (.tmp 57), 4, _, _, none⟩ rfl ?_
           try simp only [Act.put, sqA, sqB, sqC]
           refine wpV 7 ⟨some 59, .move (.tmp 58), 4, _, _, none⟩ rfl ?_
           try simp only [Act.put, sqA, sqB, sqC]
           refine wpV 8 ⟨some 60, .move (.tmp 3), 3, _, _, some (7, false)⟩ rfl ?_
           try simp only [Act.put, sqA, sqB, sqC]
           refine wpV 9 ⟨some 61, .binOp .gtr 3 (.tmp 60) (.const (.int .i64 0)) 3, 4, _, _, some (7, false)⟩ rfl ?_
           try simp only [Act.put, sqA, sqB, sqC]
           refine wpV 10 ⟨some 62, .move (.tmp 61), 4, _, _, some (7, false)⟩ rfl ?_
           try simp only [Act.put, sqA, sqB, sqC]
           refine wpX 11 ⟨some 63, .fieldAddr 26 (.tmp 1) 2, 0, _, _, some (10, true)⟩ rfl ?_
           try simp only [Act.put, sqA, sqB, sqC]
           refine wpX 12 ⟨some 64, .load 23 (.tmp 63), 23, _, _, some (10, true)⟩ rfl ?_
           try simp only [Act.put, sqA, sqB, sqC]
           refine wpX 13 ⟨some 65, .move (.tmp 3), 3, _, _, some (10, true)⟩ rfl ?_
           try simp only [Act.put, sqA, sqB, sqC]
           refine wpX 14 ⟨some 66, .indexAddr 23 (.tmp 64) (.tmp 65), 0, _, _, some (10, true)⟩ rfl ?_
           try simp only [Act.put, sqA, sqB, sqC]
           refine wpX 15 ⟨some 67, .fieldAddr 30 (.tmp 66) 0, 0, _, _, some (10, true)⟩ rfl ?_
           try simp only [Act.put, sqA, sqB, sqC]
           refine wpX 16 ⟨some 68, .load 3 (.tmp 67), 3, _, _, some (10, true)⟩ rfl ?_
           try simp only [Act.put, sqA, sqB, sqC]
           refine wpX 17 ⟨some 69, .fieldAddr 26 (.tmp 1) 2, 0, _, _, some (10, true)⟩ rfl ?_
           try simp only [Act.put, sqA, sqB, sqC]
           refine wpX 18 ⟨some 70, .load 23 (.tmp 69), 23, _, _, some (10, true)⟩ rfl ?_
           try simp only [Act.put, sqA, sqB, sqC]
           refine wpX 19 ⟨some 71, .move (.tmp 3), 3, _, _, some (10, true)⟩ rfl ?_
           try simp only [Act.put, sqA, sqB, sqC]
           refine wpX 20 ⟨some 72, .binOp .sub 3 (.tmp 71) (.const (.int .i64 1)) 3, 3, _, _, some (10, true)⟩ rfl ?_
           try simp only [Act.put, sqA, sqB, sqC]
           refine wpX 21 ⟨some 73, .indexAddr 23 (.tmp 70) (.tmp 72), 0, _, _, some (10, true)⟩ rfl ?_
           try simp only [Act.put, sqA, sqB, sqC]
           refine wpX 22 ⟨some 74, .fieldAddr 30 (.tmp 73) 0, 0, _, _, some (10, true)⟩ rfl ?_
           try simp only [Act.put, sqA, sqB, sqC]
           refine wpX 23 ⟨some 75, .load 3 (.tmp 74), 3, _, _, some (10, true)⟩ rfl ?_
           try simp only [Act.put, sqA, sqB, sqC]
           refine wpX 24 ⟨some 76, .binOp .leq 3 (.tmp 68) (.tmp 75) 3, 4, _, _, some (10, true)⟩ rfl ?_
           try simp only [Act.put, sqA, sqB, sqC]
           refine wpV 25 ⟨some 77, .pick (.tmp 62) (.tmp 76) (.const (.bool false)), 4, _, _, some (7, false)⟩ rfl ?_
           try simp only [Act.put, sqA, sqB, sqC]
           refine wpV 26 ⟨some 78, .pick (.tmp 59) (.const (.bool true)) (.tmp 77), 4, _, _, none⟩ rfl ?_
           try simp only [Act.put, sqA, sqB, sqC]
           refine wpAnyH_done (by kernel_rfl) (NoPanic.normal ?_) _
           try simp only [Act.put, sqA, sqB, sqC]
           clear hHeld S2
           go_wp2
           go_roundw
           case rel => exact ⟨i + 1, by omega, by go_num, HNN, HB2.out⟩
           case measure => simp [intOf]; omega
          ·obtain ⟨m, hm⟩ : ∃ m, i = m + 1 := ⟨i - 1, by omega⟩
           have HM : Hid (i = m + 1) := hm
           have him := hIm m (by omega)
           have hpos : (0 : Int) < (i : Int) := by omega
           have em : IntKind.i64.wrap ((i : Int) - 1) = (m : Int) := by simp [IntKind.wrap, IntKind.bits, IntKind.signed]; omega
           have hmn : (m : Int) < s.pn := by omega
           have hm0 : s.P (i - 1) = s.P m := by rw [hm]; simp
           rw [hm0] at HF HSS
           clear hm0 hm hIm
           by_cases h8 : (s.P m).id < (s.P i).id
           ·have h8' : ¬ (s.P i).id ≤ (s.P m).id := by omega
            have HNN := HSS.out ⟨h7, fun _ => h8⟩
            clear HF HSS h7
            go_wp2_with fail
            refine wp_region_noPanic ?_
            refine wp_region_held_drew (S := fun w' => w'.cell? ⟨w.heap.size, 3, none⟩ = some (.slice (some ⟨b, off, none⟩) s.pn pc) ∧ w'.rangeAt b (off + i * 36) (pyl (s.P i)) ∧ w'.cell? ⟨b, off + i * 36, none⟩ = some (.int .i64 (s.P i).id) ∧ w'.cell? ⟨b, off + m * 36, none⟩ = some (.int .i64 (s.P m).id)) (by kernel_rfl) ⟨S0, hra, hid, him⟩ (fun hHeld => ?_)
            refine wpV 0 ⟨some 52, .fieldAddr 26 (.tmp 1) 2, 0, _, _, none⟩ rfl ?_
            try simp only [Act.put, sqA, sqB, sqC]
            refine wpV 1 ⟨some 53, .load 23 (.tmp 52), 23, _, _, none⟩ rfl ?_
            try simp only [Act.put, sqA, sqB, sqC]
            refine wpV 2 ⟨some 54, .move (.tmp 3), 3, _, _, none⟩ rfl ?_
            try simp only [Act.put, sqA, sqB, sqC]
            refine wpV 3 ⟨some 55, .indexAddr 23 (.tmp 53) (.tmp 54), 0, _, _, none⟩ rfl ?_
            try simp only [Act.put, sqA, sqB, sqC]
            refine wpAnyH_take (i := 4) (oi := ⟨some 56, .load 30 (.tmp 55), 30, _, _, none⟩) rfl (by kernel_rfl) (by kernel_rfl) (by kernel_rfl) (fun _ _ _ h => h) (yieldsIf_load_mid (by rfl) _ _ rfl b (off + i * 36) rfl (pyl (s.P i)) _ (fun _ h => h.2.1) Tryz.underlying30 rfl (szPrl _)) (by assumption) ?_
            try simp only [Act.put, sqA, sqB, sqC]
            refine wpAnyH_ready (rs := [5]) (by kernel_rfl) (by simp) ?_
            refine (AllReadyH.cons (o := ⟨some 57, .call ⟨.value (.func 22), #[.tmp 56], #[30]⟩, 4, _, _, none⟩) rfl (fun K hK => ?_) AllReadyH.nil)
            go_simp
            refine hca.mono ?_
            rintro e w2 ⟨rfl, hb2⟩
            have S2 : w2.cell? ⟨w.heap.size, 3, none⟩ = some (.slice (some ⟨b, off, none⟩) s.pn pc) ∧ w2.rangeAt b (off + i * 36) (pyl (s.P i)) ∧ w2.cell? ⟨b, off + i * 36, none⟩ = some (.int .i64 (s.P i).id) ∧ w2.cell? ⟨b, off + m * 36, none⟩ = some (.int .i64 (s.P m).id) := ⟨by rw [hb2.cell (p := ⟨_, _, none⟩) (World.block_lt_of_cell? _ _ S0)]; exact S0, range_below hra hb2, by rw [hb2.cell (p := ⟨_, _, none⟩) (World.block_lt_of_cell? _ _ hid)]; exact hid, by rw [hb2.cell (p := ⟨_, _, none⟩) (World.block_lt_of_cell? _ _ him)]; exact him⟩
            have HB2 : Hid (Below W0.heap.size W0 w2) := Below.transS HB.out hb2
            clear hca hb2
            refine hK.out _ _ S2 (fun _ => ?_)
            clear hK K
            refine wpV 6 ⟨some 58, .unOp Go.UnOp.not 4 (.tmp 57), 4, _, _, none⟩ rfl ?_
            try simp only [Act.put, sqA, sqB, sqC]
            refine wpV 7 ⟨some 59, .move (.tmp 58), 4, _, _, none⟩ rfl ?_
            try simp only [Act.put, sqA, sqB, sqC]
            refine wpV 8 ⟨some 60, .move (.tmp 3), 3, _, _, some (7, false)⟩ rfl ?_
            try simp only [Act.put, sqA, sqB, sqC]
            refine wpV 9 ⟨some 61, .binOp .gtr 3 (.tmp 60) (.const (.int .i64 0)) 3, 4, _, _, some (7, false)⟩ rfl ?_
            try simp only [Act.put, sqA, sqB, sqC]
            refine wpV 10 ⟨some 62, .move (.tmp 61), 4, _, _, some (7, false)⟩ rfl ?_
            try simp only [Act.put, sqA, sqB, sqC]
            refine wpV 11 ⟨some 63, .fieldAddr 26 (.tmp 1) 2, 0, _, _, some (10, true)⟩ rfl ?_
            try simp only [Act.put, sqA, sqB, sqC]
            refine wpV 12 ⟨some 64, .load 23 (.tmp 63), 23, _, _, some (10, true)⟩ rfl ?_
            try simp only [Act.put, sqA, sqB, sqC]
            refine wpV 13 ⟨some 65, .move (.tmp 3), 3, _, _, some (10, true)⟩ rfl ?_
            try simp only [Act.put, sqA, sqB, sqC]
            refine wpV 14 ⟨some 66, .indexAddr 23 (.tmp 64) (.tmp 65), 0, _, _, some (10, true)⟩ rfl ?_
            try simp only [Act.put, sqA, sqB, sqC]
            refine wpV 15 ⟨some 67, .fieldAddr 30 (.tmp 66) 0, 0, _, _, some (10, true)⟩ rfl ?_
            try simp only [Act.put, sqA, sqB, sqC]
            refine wpV 16 ⟨some 68, .load 3 (.tmp 67), 3, _, _, some (10, true)⟩ rfl ?_
            try simp only [Act.put, sqA, sqB, sqC]
            refine wpV 17 ⟨some 69, .fieldAddr 26 (.tmp 1) 2, 0, _, _, some (10, true)⟩ rfl ?_
            try simp only [Act.put, sqA, sqB, sqC]
            refine wpV 18 ⟨some 70, .load 23 (.tmp 69), 23, _, _, some (10, true)⟩ rfl ?_
            try simp only [Act.put, sqA, sqB, sqC]
            refine wpV 19 ⟨some 71, .move (.tmp 3), 3, _, _, some (10, true)⟩ rfl ?_
            try simp only [Act.put, sqA, sqB, sqC]
            refine wpV 20 ⟨some 72, .binOp .sub 3 (.tmp 71) (.const (.int .i64 1)) 3, 3, _, _, some (10, true)⟩ rfl ?_
            try simp only [Act.put, sqA, sqB, sqC]
            refine wpV 21 ⟨some 73, .indexAddr 23 (.tmp 70) (.tmp 72), 0, _, _, some (10, true)⟩ rfl ?_
            try simp only [Act.put, sqA, sqB, sqC]
            refine wpV 22 ⟨some 74, .fieldAddr 30 (.tmp 73) 0, 0, _, _, some (10, true)⟩ rfl ?_
            try simp only [Act.put, sqA, sqB, sqC]
            refine wpV 23 ⟨some 75, .load 3 (.tmp 74), 3, _, _, some (10, true)⟩ rfl ?_
            try simp only [Act.put, sqA, sqB, sqC]
            refine wpV 24 ⟨some 76, .binOp .leq 3 (.tmp 68) (.tmp 75) 3, 4, _, _, some (10, true)⟩ rfl ?_
            try simp only [Act.put, sqA, sqB, sqC]
            refine wpV 25 ⟨some 77, .pick (.tmp 62) (.tmp 76) (.const (.bool false)), 4, _, _, some (7, false)⟩ rfl ?_
            try simp only [Act.put, sqA, sqB, sqC]
            refine wpV 26 ⟨some 78, .pick (.tmp 59) (.const (.bool true)) (.tmp 77), 4, _, _, none⟩ rfl ?_
            try simp only [Act.put, sqA, sqB, sqC]
            refine wpAnyH_done (by kernel_rfl) (NoPanic.normal ?_) _
            try simp only [Act.put, sqA, sqB, sqC]
            clear hHeld S2
            go_wp2
            go_roundw
            case rel => exact ⟨i + 1, by omega, by go_num, HNN, HB2.out⟩
            case measure => simp [intOf]; omega
           ·have h8' : (s.P i).id ≤ (s.P m).id := by omega
            have HE : Hid (chkE s = 1) := HF.out (fun h => h8 (h.2 h0))
            clear HF HSS h7
            go_wp2_with fail
            refine wp_region_noPanic ?_
            refine wp_region_held_drew (S := fun w' => w'.cell? ⟨w.heap.size, 3, none⟩ = some (.slice (some ⟨b, off, none⟩) s.pn pc) ∧ w'.rangeAt b (off + i * 36) (pyl (s.P i)) ∧ w'.cell? ⟨b, off + i * 36, none⟩ = some (.int .i64 (s.P i).id) ∧ w'.cell? ⟨b, off + m * 36, none⟩ = some (.int .i64 (s.P m).id)) (by kernel_rfl) ⟨S0, hra, hid, him⟩ (fun hHeld => ?_)
            refine wpV 0 ⟨some 52, .fieldAddr 26 (.tmp 1) 2, 0, _, _, none⟩ rfl ?_
            try simp only [Act.put, sqA, sqB, sqC]
            refine wpV 1 ⟨some 53, .load 23 (.tmp 52), 23, _, _, none⟩ rfl ?_
            try simp only [Act.put, sqA, sqB, sqC]
            refine wpV 2 ⟨some 54, .move (.tmp 3), 3, _, _, none⟩ rfl ?_
            try simp only [Act.put, sqA, sqB, sqC]
            refine wpV 3 ⟨some 55, .indexAddr 23 (.tmp 53) (.tmp 54), 0, _, _, none⟩ rfl ?_
            try simp only [Act.put, sqA, sqB, sqC]
            refine wpAnyH_take (i := 4) (oi := ⟨some 56, .load 30 (.tmp 55), 30, _, _, none⟩) rfl (by kernel_rfl) (by kernel_rfl) (by kernel_rfl) (fun _ _ _ h => h) (yieldsIf_load_mid (by rfl) _ _ rfl b (off + i * 36) rfl (pyl (s.P i)) _ (fun _ h => h.2.1) Tryz.underlying30 rfl (szPrl _)) (by assumption) ?_
            try simp only [Act.put, sqA, sqB, sqC]
            refine wpAnyH_ready (rs := [5]) (by kernel_rfl) (by simp) ?_
            refine (AllReadyH.cons (o := ⟨some 57, .call ⟨.value (.func 22), #[.tmp 56], #[30]⟩, 4, _, _, none⟩) rfl (fun K hK => ?_) AllReadyH.nil)
            go_simp
            refine hca.mono ?_
            rintro e w2 ⟨rfl, hb2⟩
            have S2 : w2.cell? ⟨w.heap.size, 3, none⟩ = some (.slice (some ⟨b, off, none⟩) s.pn pc) ∧ w2.rangeAt b (off + i * 36) (pyl (s.P i)) ∧ w2.cell? ⟨b, off + i * 36, none⟩ = some (.int .i64 (s.P i).id) ∧ w2.cell? ⟨b, off + m * 36, none⟩ = some (.int .i64 (s.P m).id) := ⟨by rw [hb2.cell (p := ⟨_, _, none⟩) (World.block_lt_of_cell? _ _ S0)]; exact S0, range_below hra hb2, by rw [hb2.cell (p := ⟨_, _, none⟩) (World.block_lt_of_cell? _ _ hid)]; exact hid, by rw [hb2.cell (p := ⟨_, _, none⟩) (World.block_lt_of_cell? _ _ him)]; exact him⟩
            have HB2 : Hid (Below W0.heap.size W0 w2) := Below.transS HB.out hb2
            clear hca hb2
            refine hK.out _ _ S2 (fun _ => ?_)
            clear hK K
            refine wpV 6 ⟨some 58, .unOp Go.UnOp.not 4 (.tmp 57), 4, _, _, none⟩ rfl ?_
            try simp only [Act.put, sqA, sqB, sqC]
            refine wpV 7 ⟨some 59, .move (.tmp 58), 4, _, _, none⟩ rfl ?_
            try simp only [Act.put, sqA, sqB, sqC]
            refine wpV 8 ⟨some 60, .move (.tmp 3), 3, _, _, some (7, false)⟩ rfl ?_
            try simp only [Act.put, sqA, sqB, sqC]
            refine wpV 9 ⟨some 61, .binOp .gtr 3 (.tmp 60) (.const (.int .i64 0)) 3, 4, _, _, some (7, false)⟩ rfl ?_
            try simp only [Act.put, sqA, sqB, sqC]
            refine wpV 10 ⟨some 62, .move (.tmp 61), 4, _, _, some (7, false)⟩ rfl ?_
            try simp only [Act.put, sqA, sqB, sqC]
            refine wpV 11 ⟨some 63, .fieldAddr 26 (.tmp 1) 2, 0, _, _, some (10, true)⟩ rfl ?_
            try simp only [Act.put, sqA, sqB, sqC]
            refine wpV 12 ⟨some 64, .load 23 (.tmp 63), 23, _, _, some (10, true)⟩ rfl ?_
            try simp only [Act.put, sqA, sqB, sqC]
            refine wpV 13 ⟨some 65, .move (.tmp 3), 3, _, _, some (10, true)⟩ rfl ?_
            try simp only [Act.put, sqA, sqB, sqC]
            refine wpV 14 ⟨some 66, .indexAddr 23 (.tmp 64) (.tmp 65), 0, _, _, some (10, true)⟩ rfl ?_
            try simp only [Act.put, sqA, sqB, sqC]
            refine wpV 15 ⟨some 67, .fieldAddr 30 (.tmp 66) 0, 0, _, _, some (10, true)⟩ rfl ?_
            try simp only [Act.put, sqA, sqB, sqC]
            refine wpV 16 ⟨some 68, .load 3 (.tmp 67), 3, _, _, some (10, true)⟩ rfl ?_
            try simp only [Act.put, sqA, sqB, sqC]
            refine wpV 17 ⟨some 69, .fieldAddr 26 (.tmp 1) 2, 0, _, _, some (10, true)⟩ rfl ?_
            try simp only [Act.put, sqA, sqB, sqC]
            refine wpV 18 ⟨some 70, .load 23 (.tmp 69), 23, _, _, some (10, true)⟩ rfl ?_
            try simp only [Act.put, sqA, sqB, sqC]
            refine wpV 19 ⟨some 71, .move (.tmp 3), 3, _, _, some (10, true)⟩ rfl ?_
            try simp only [Act.put, sqA, sqB, sqC]
            refine wpV 20 ⟨some 72, .binOp .sub 3 (.tmp 71) (.const (.int .i64 1)) 3, 3, _, _, some (10, true)⟩ rfl ?_
            try simp only [Act.put, sqA, sqB, sqC]
            refine wpV 21 ⟨some 73, .indexAddr 23 (.tmp 70) (.tmp 72), 0, _, _, some (10, true)⟩ rfl ?_
            try simp only [Act.put, sqA, sqB, sqC]
            refine wpV 22 ⟨some 74, .fieldAddr 30 (.tmp 73) 0, 0, _, _, some (10, true)⟩ rfl ?_
            try simp only [Act.put, sqA, sqB, sqC]
            refine wpV 23 ⟨some 75, .load 3 (.tmp 74), 3, _, _, some (10, true)⟩ rfl ?_
            try simp only [Act.put, sqA, sqB, sqC]
            refine wpV 24 ⟨some 76, .binOp .leq 3 (.tmp 68) (.tmp 75) 3, 4, _, _, some (10, true)⟩ rfl ?_
            try simp only [Act.put, sqA, sqB, sqC]
            refine wpV 25 ⟨some 77, .pick (.tmp 62) (.tmp 76) (.const (.bool false)), 4, _, _, some (7, false)⟩ rfl ?_
            try simp only [Act.put, sqA, sqB, sqC]
            refine wpV 26 ⟨some 78, .pick (.tmp 59) (.const (.bool true)) (.tmp 77), 4, _, _, none⟩ rfl ?_
            try simp only [Act.put, sqA, sqB, sqC]
            refine wpAnyH_done (by kernel_rfl) (NoPanic.normal ?_) _
            try simp only [Act.put, sqA, sqB, sqC]
            clear hHeld S2
            go_wp2
            go_ret
            exact ⟨by rw [HE.out]; rfl, HB0.out.trans (HB2.out.mono HB0.out.size)⟩
         ·rw [decide_eq_false h7] at hca
          have HE : Hid (chkE s = 1) := HF.out (fun h => h7 h.1)
          clear HF HSS h7 hIm
          go_wp2_with fail
          refine wp_region_noPanic ?_
          refine wp_region_held_drew (S := fun w' => w'.cell? ⟨w.heap.size, 3, none⟩ = some (.slice (some ⟨b, off, none⟩) s.pn pc) ∧ w'.rangeAt b (off + i * 36) (pyl (s.P i))) (by kernel_rfl) ⟨S0, hra⟩ (fun hHeld => ?_)
          refine wpV 0 ⟨some 52, .fieldAddr 26 (.tmp 1) 2, 0, _, _, none⟩ rfl ?_
          try simp only [Act.put, sqA, sqB, sqC]
          refine wpV 1 ⟨some 53, .load 23 (.tmp 52), 23, _, _, none⟩ rfl ?_
          try simp only [Act.put, sqA, sqB, sqC]
          refine wpV 2 ⟨some 54, .move (.tmp 3), 3, _, _, none⟩ rfl ?_
          try simp only [Act.put, sqA, sqB, sqC]
          refine wpV 3 ⟨some 55, .indexAddr 23 (.tmp 53) (.tmp 54), 0, _, _, none⟩ rfl ?_
          try simp only [Act.put, sqA, sqB, sqC]
          refine wpAnyH_take (i := 4) (oi := ⟨some 56, .load 30 (.tmp 55), 30, _, _, none⟩) rfl (by kernel_rfl) (by kernel_rfl) (by kernel_rfl) (fun _ _ _ h => h) (yieldsIf_load_mid (by rfl) _ _ rfl b (off + i * 36) rfl (pyl (s.P i)) _ (fun _ h => h.2) Tryz.underlying30 rfl (szPrl _)) (by assumption) ?_
          try simp only [Act.put, sqA, sqB, sqC]
          refine wpAnyH_ready (rs := [5]) (by kernel_rfl) (by simp) ?_
          refine (AllReadyH.cons (o := ⟨some 57, .call ⟨.value (.func 22), #[.tmp 56], #[30]⟩, 4, _, _, none⟩) rfl (fun K hK => ?_) AllReadyH.nil)
          go_simp
          refine hca.mono ?_
          rintro e w2 ⟨rfl, hb2⟩
          have S2 : w2.cell? ⟨w.heap.size, 3, none⟩ = some (.slice (some ⟨b, off, none⟩) s.pn pc) ∧ w2.rangeAt b (off + i * 36) (pyl (s.P i)) := ⟨by rw [hb2.cell (p := ⟨_, _, none⟩) (World.block_lt_of_cell? _ _ S0)]; exact S0, range_below hra hb2⟩
          have HB2 : Hid (Below W0.heap.size W0 w2) := Below.transS HB.out hb2
          clear hca hb2
          refine hK.out _ _ S2 (fun _ => ?_)
          clear hK K
          refine wpV 6 ⟨some 58, .unOp Go.UnOp.not 4 (.tmp 57), 4, _, _, none⟩ rfl ?_
          try simp only [Act.put, sqA, sqB, sqC]
          refine wpV 7 ⟨some 59, .move (.tmp 58), 4, _, _, none⟩ rfl ?_
          try simp only [Act.put, sqA, sqB, sqC]
          refine wpX 8 ⟨some 60, .move (.tmp 3), 3, _, _, some (7, false)⟩ rfl ?_
          try simp only [Act.put, sqA, sqB, sqC]
          refine wpX 9 ⟨some 61, .binOp .gtr 3 (.tmp 60) (.const (.int .i64 0)) 3, 4, _, _, some (7, false)⟩ rfl ?_
          try simp only [Act.put, sqA, sqB, sqC]
          refine wpX 10 ⟨some 62, .move (.tmp 61), 4, _, _, some (7, false)⟩ rfl ?_
          try simp only [Act.put, sqA, sqB, sqC]
          refine wpX 11 ⟨some 63, .fieldAddr 26 (.tmp 1) 2, 0, _, _, some (10, true)⟩ rfl ?_
          try simp only [Act.put, sqA, sqB, sqC]
          refine wpX 12 ⟨some 64, .load 23 (.tmp 63), 23, _, _, some (10, true)⟩ rfl ?_
          try simp only [Act.put, sqA, sqB, sqC]
          refine wpX 13 ⟨some 65, .move (.tmp 3), 3, _, _, some (10, true)⟩ rfl ?_
          try simp only [Act.put, sqA, sqB, sqC]
          refine wpX 14 ⟨some 66, .indexAddr 23 (.tmp 64) (.tmp 65), 0, _, _, some (10, true)⟩ rfl ?_
          try simp only [Act.put, sqA, sqB, sqC]
          refine wpX 15 ⟨some 67, .fieldAddr 30 (.tmp 66) 0, 0, _, _, some (10, true)⟩ rfl ?_
          try simp only [Act.put, sqA, sqB, sqC]
          refine wpX 16 ⟨some 68, .load 3 (.tmp 67), 3, _, _, some (10, true)⟩ rfl ?_
          try simp only [Act.put, sqA, sqB, sqC]
          refine wpX 17 ⟨some 69, .fieldAddr 26 (.tmp 1) 2, 0, _, _, some (10, true)⟩ rfl ?_
          try simp only [Act.put, sqA, sqB, sqC]
          refine wpX 18 ⟨some 70, .load 23 (.tmp 69), 23, _, _, some (10, true)⟩ rfl ?_
          try simp only [Act.put, sqA, sqB, sqC]
          refine wpX 19 ⟨some 71, .move (.tmp 3), 3, _, _, some (10, true)⟩ rfl ?_
          try simp only [Act.put, sqA, sqB, sqC]
          refine wpX 20 ⟨some 72, .binOp .sub 3 (.tmp 71) (.const (.int .i64 1)) 3, 3, _, _, some (10, true)⟩ rfl ?_
          try simp only [Act.put, sqA, sqB, sqC]
          refine wpX 21 ⟨some 73, .indexAddr 23 (.tmp 70) (.tmp 72), 0, _, _, some (10, true)⟩ rfl ?_
          try simp only [Act.put, sqA, sqB, sqC]
          refine wpX 22 ⟨some 74, .fieldAddr 30 (.tmp 73) 0, 0, _, _, some (10, true)⟩ rfl ?_
          try simp only [Act.put, sqA, sqB, sqC]
          refine wpX 23 ⟨some 75, .load 3 (.tmp 74), 3, _, _, some (10, true)⟩ rfl ?_
          try simp only [Act.put, sqA, sqB, sqC]
          refine wpX 24 ⟨some 76, .binOp .leq 3 (.tmp 68) (.tmp 75) 3, 4, _, _, some (10, true)⟩ rfl ?_
          try simp only [Act.put, sqA, sqB, sqC]
          refine wpX 25 ⟨some 77, .pick (.tmp 62) (.tmp 76) (.const (.bool false)), 4, _, _, some (7, false)⟩ rfl ?_
          try simp only [Act.put, sqA, sqB, sqC]
          refine wpV 26 ⟨some 78, .pick (.tmp 59) (.const (.bool true)) (.tmp 77), 4, _, _, none⟩ rfl ?_
          try simp only [Act.put, sqA, sqB, sqC]
          refine wpAnyH_done (by kernel_rfl) (NoPanic.normal ?_) _
          try simp only [Act.put, sqA, sqB, sqC]
          clear hHeld S2
          go_wp2
          go_ret
          exact ⟨by rw [HE.out]; rfl, HB0.out.trans (HB2.out.mono HB0.out.size)⟩
        ·have hin : i = s.pn := by omega
         have HKn : Hid (PD s.P s.pn) := by rw [← hin]; exact HK.out
         have hnn : ¬ ((i : Int) < s.pn) := by omega
         clear HK
         have hPs := (pd_ok s.P s.pn).1 HKn.out
         have HPs : Hid (PsOk s.P s.pn) := hPs
         clear hPs HKn hin
         generalize wr = wo at *
         have hbr : Below W0.heap.size W0 wo := hb
         go_wp2_with fail
         go_loopw [4] (fun iv wr => ∃ i : Nat, i ≤ s.hn ∧ iv = .int .i64 i ∧ HDo s.H i ∧ Below W0.heap.size W0 wr) (fun iv _ => s.hn + 1 - (intOf iv).toNat)
         case atStart => exact ⟨0, by omega, rfl, fun j hj => by omega, hbr⟩
         case round =>
          clear hbr
          obtain ⟨i, hi, rfl, hk, hb⟩ := hrel
          have HK : Hid (HDo s.H i) := hk
          clear hk
          obtain ⟨c3, c4⟩ := HC.out wr hb
          by_cases hlt : i < s.hn
          ·have hlt' : (i : Int) < s.hn := by omega
           have HB : Hid (Below W0.heap.size W0 wr.drew) := hb.drew
           obtain ⟨b, off, ead, hc⟩ := H0.out.hd.at_ (by omega)
           dsimp only at ead
           subst ead
           obtain ⟨ka, kc, hr, hI, _⟩ := hc i hlt
           have hra := range_below hr HB.out
           have hid := (hd_cells hra).1
           have hca := holdMay_any (s.H i) ka kc wr.drew (hI.below HB.out) (by have := HS.out.k i hlt; omega)
           have hIm : ∀ m, m < s.hn → wr.drew.cell? ⟨b, off + m * 3, none⟩ = some (.int .i64 (s.H m).id) := fun m hm => by
            obtain ⟨ka, kc, hr, _⟩ := hc m hm
            exact (hd_cells (range_below hr HB.out)).1
           clear hr hI
           have S0 : wr.drew.cell? ⟨w.heap.size, 4, none⟩ = some (.slice (some ⟨b, off, none⟩) s.hn hcp) := by exact (HC.out _ HB.out).2
           have HF : Hid (∀ h : ¬ (HMay (s.H i) ∧ (0 < i → (s.H (i - 1)).id < (s.H i).id)), chkE s = 1) := fun h => if_neg (fun hm => h ((hdo_ok s.H s.hn).2 hm.2.1.2.2 i hlt))
           have HSS : Hid (HMay (s.H i) ∧ (0 < i → (s.H (i - 1)).id < (s.H i).id) → HDo s.H (i + 1)) := fun h j hj => by
            by_cases e : j = i
            ·subst e; exact h
            ·exact HK.out j (by omega)
           clear hc HK HEE
           by_cases h7 : HMay (s.H i)
           ·rw [decide_eq_true h7] at hca
            rcases Nat.eq_zero_or_pos i with h0 | h0
            ·have HNN := HSS.out ⟨h7, fun h => by omega⟩
             have h00 : decide ((0 : Int) < (i : Int)) = false := by simp [h0]
             have h01 : decide (0 < i) = false := by simp [h0]
             have h02 : ¬ 0 < i := by omega
             have HI0 : Hid (i = 0) := h0
             clear HF HSS h7 hIm h0
             go_wp2_with fail
             refine wp_region_noPanic ?_
             refine wp_region_held_drew (S := fun w' => w'.cell? ⟨w.heap.size, 4, none⟩ = some (.slice (some ⟨b, off, none⟩) s.hn hcp) ∧ w'.rangeAt b (off + i * 3) (hdl (s.H i) ka kc)) (by kernel_rfl) ⟨S0, hra⟩ (fun hHeld => ?_)
             refine wpV 0 ⟨some 86, .fieldAddr 26 (.tmp 1) 3, 0, _, _, none⟩ rfl ?_
             try simp only [Act.put, sqA, sqB, sqC]
             refine wpV 1 ⟨some 87, .load 24 (.tmp 86), 24, _, _, none⟩ rfl ?_
             try simp only [Act.put, sqA, sqB, sqC]
             refine wpV 2 ⟨some 88, .move (.tmp 4), 3, _, _, none⟩ rfl ?_
             try simp only [Act.put, sqA, sqB, sqC]
             refine wpV 3 ⟨some 89, .indexAddr 24 (.tmp 87) (.tmp 88), 0, _, _, none⟩ rfl ?_
             try simp only [Act.put, sqA, sqB, sqC]
             refine wpAnyH_take (i := 4) (oi := ⟨some 90, .load 56 (.tmp 89), 56, _, _, none⟩) rfl (by kernel_rfl) (by kernel_rfl) (by kernel_rfl) (fun _ _ _ h => h) (yieldsIf_load_mid (by rfl) _ _ rfl b (off + i * 3) rfl (hdl (s.H i) ka kc) _ (fun _ h => h.2) Tryz.underlying56 rfl (szHr)) (by assumption) ?_
             try simp only [Act.put, sqA, sqB, sqC]
             refine wpAnyH_ready (rs := [5]) (by kernel_rfl) (by simp) ?_
             refine (AllReadyH.cons (o := ⟨some 91, .call ⟨.value (.func 64), #[.tmp 90], #[56]⟩, 4, _, _, none⟩) rfl (fun K hK => ?_) AllReadyH.nil)
             go_simp
             refine hca.mono ?_
             rintro e w2 ⟨rfl, hb2⟩
             have S2 : w2.cell? ⟨w.heap.size, 4, none⟩ = some (.slice (some ⟨b, off, none⟩) s.hn hcp) ∧ w2.rangeAt b (off + i * 3) (hdl (s.H i) ka kc) := ⟨by rw [hb2.cell (p := ⟨_, _, none⟩) (World.block_lt_of_cell? _ _ S0)]; exact S0, range_below hra hb2⟩
             have HB2 : Hid (Below W0.heap.size W0 w2) := Below.transS HB.out hb2
             clear hca hb2
             refine hK.out _ _ S2 (fun _ => ?_)
             clear hK K
             refine wpV 6 ⟨some 92, .unOp Go.UnOp.not 4 (.tmp 91), 4, _, _, none⟩ rfl ?_
             try simp only [Act.put, sqA, sqB, sqC]
             refine wpV 7 ⟨some 93, .move (.tmp 92), 4, _, _, none⟩ rfl ?_
             try simp only [Act.put, sqA, sqB, sqC]
             refine wpV 8 ⟨some 94, .move (.tmp 4), 3, _, _, some (7, false)⟩ rfl ?_
             try simp only [Act.put, sqA, sqB, sqC]
             refine wpV 9 ⟨some 95, .binOp .gtr 3 (.tmp 94) (.const (.int .i64 0)) 3, 4, _, _, some (7, false)⟩ rfl ?_
             try simp only [Act.put, sqA, sqB, sqC]
             refine wpV 10 ⟨some 96, .move (.tmp 95), 4, _, _, some (7, false)⟩ rfl ?_
             try simp only [Act.put, sqA, sqB, sqC]
             refine wpX 11 ⟨some 97, .fieldAddr 26 (.tmp 1) 3, 0, _, _, some (10, true)⟩ rfl ?_
             try simp only [Act.put, sqA, sqB, sqC]
             refine wpX 12 ⟨some 98, .load 24 (.tmp 97), 24, _, _, some (10, true)⟩ rfl ?_
             try simp only [Act.put, sqA, sqB, sqC]
             refine wpX 13 ⟨some 99, .move (.tmp 4), 3, _, _, some (10, true)⟩ rfl ?_
             try simp only [Act.put, sqA, sqB, sqC]
             refine wpX 14 ⟨some 100, .indexAddr 24 (.tmp 98) (.tmp 99), 0, _, _, some (10, true)⟩ rfl ?_
             try simp only [Act.put, sqA, sqB, sqC]
             refine wpX 15 ⟨some 101, .fieldAddr 56 (.tmp 100) 0, 0, _, _, some (10, true)⟩ rfl ?_
             try simp only [Act.put, sqA, sqB, sqC]
             refine wpX 16 ⟨some 102, .load 3 (.tmp 101), 3, _, _, some (10, true)⟩ rfl ?_
             try simp only [Act.put, sqA, sqB, sqC]
             refine wpX 17 ⟨some 103, .fieldAddr 26 (.tmp 1) 3, 0, _, _, some (10, true)⟩ rfl ?_
             try simp only [Act.put, sqA, sqB, sqC]
             refine wpX 18 ⟨some 104, .load 24 (.tmp 103), 24, _, _, some (10, true)⟩ rfl ?_
             try simp only [Act.put, sqA, sqB, sqC]
             refine wpX 19 ⟨some 105, .move (.tmp 4), 3, _, _, some (10, true)⟩ rfl ?_
             try simp only [Act.put, sqA, sqB, sqC]
             refine wpX 20 ⟨some 106, .binOp .sub 3 (.tmp 105) (.const (.int .i64 1)) 3, 3, _, _, some (10, true)⟩ rfl ?_
             try simp only [Act.put, sqA, sqB, sqC]
             refine wpX 21 ⟨some 107, .indexAddr 24 (.tmp 104) (.tmp 106), 0, _, _, some (10, true)⟩ rfl ?_
             try simp only [Act.put, sqA, sqB, sqC]
             refine wpX 22 ⟨some 108, .fieldAddr 56 (.tmp 107) 0, 0, _, _, some (10, true)⟩ rfl ?_
             try simp only [Act.put, sqA, sqB, sqC]
             refine wpX 23 ⟨some 109, .load 3 (.tmp 108), 3, _, _, some (10, true)⟩ rfl ?_
             try simp only [Act.put, sqA, sqB, sqC]
             refine wpX 24 ⟨some 110, .binOp .leq 3 (.tmp 102) (.tmp 109) 3, 4, _, _, some (10, true)⟩ rfl ?_
             try simp only [Act.put, sqA, sqB, sqC]
             refine wpV 25 ⟨some 111, .pick (.tmp 96) (.tmp 110) (.const (.bool false)), 4, _, _, some (7, false)⟩ rfl ?_
             try simp only [Act.put, sqA, sqB, sqC]
             refine wpV 26 ⟨some 112, .pick (.tmp 93) (.const (.bool true)) (.tmp 111), 4, _, _, none⟩ rfl ?_
             try simp only [Act.put, sqA, sqB, sqC]
             refine wpAnyH_done (by kernel_rfl) (NoPanic.normal ?_) _
             try simp only [Act.put, sqA, sqB, sqC]
             clear hHeld S2
             go_wp2
             go_roundw
             case rel => exact ⟨i + 1, by omega, by go_num, HNN, HB2.out⟩
             case measure => simp [intOf]; omega
            ·obtain ⟨m, hm⟩ : ∃ m, i = m + 1 := ⟨i - 1, by omega⟩
             have HM : Hid (i = m + 1) := hm
             have him := hIm m (by omega)
             have hpos : (0 : Int) < (i : Int) := by omega
             have em : IntKind.i64.wrap ((i : Int) - 1) = (m : Int) := by simp [IntKind.wrap, IntKind.bits, IntKind.signed]; omega
             have hmn : (m : Int) < s.hn := by omega
             have hm0 : s.H (i - 1) = s.H m := by rw [hm]; simp
             rw [hm0] at HF HSS
             clear hm0 hm hIm
             by_cases h8 : (s.H m).id < (s.H i).id
             ·have h8' : ¬ (s.H i).id ≤ (s.H m).id := by omega
              have HNN := HSS.out ⟨h7, fun _ => h8⟩
              clear HF HSS h7
              go_wp2_with fail
              refine wp_region_noPanic ?_
              refine wp_region_held_drew (S := fun w' => w'.cell? ⟨w.heap.size, 4, none⟩ = some (.slice (some ⟨b, off, none⟩) s.hn hcp) ∧ w'.rangeAt b (off + i * 3) (hdl (s.H i) ka kc) ∧ w'.cell? ⟨b, off + i * 3, none⟩ = some (.int .i64 (s.H i).id) ∧ w'.cell? ⟨b, off + m * 3, none⟩ = some (.int .i64 (s.H m).id)) (by kernel_rfl) ⟨S0, hra, hid, him⟩ (fun hHeld => ?_)
              refine wpV 0 ⟨some 86, .fieldAddr 26 (.tmp 1) 3, 0, _, _, none⟩ rfl ?_
              try simp only [Act.put, sqA, sqB, sqC]
              refine wpV 1 ⟨some 87, .load 24 (.tmp 86), 24, _, _, none⟩ rfl ?_
              try simp only [Act.put, sqA, sqB, sqC]
              refine wpV 2 ⟨some 88, .move (.tmp 4), 3, _, _, none⟩ rfl ?_
              try simp only [Act.put, sqA, sqB, sqC]
              refine wpV 3 ⟨some 89, .indexAddr 24 (.tmp 87) (.tmp 88), 0, _, _, none⟩ rfl ?_
              try simp only [Act.put, sqA, sqB, sqC]
              refine wpAnyH_take (i := 4) (oi := ⟨some 90, .load 56 (.tmp 89), 56, _, _, none⟩) rfl (by kernel_rfl) (by kernel_rfl) (by kernel_rfl) (fun _ _ _ h => h) (yieldsIf_load_mid (by rfl) _ _ rfl b (off + i * 3) rfl (hdl (s.H i) ka kc) _ (fun _ h => h.2.1) Tryz.underlying56 rfl (szHr)) (by assumption) ?_
              try simp only [Act.put, sqA, sqB, sqC]
              refine wpAnyH_ready (rs := [5]) (by kernel_rfl) (by simp) ?_
              refine (AllReadyH.cons (o := ⟨some 91, .call ⟨.value (.func 64), #[.tmp 90], #[56]⟩, 4, _, _, none⟩) rfl (fun K hK => ?_) AllReadyH.nil)
              go_simp
              refine hca.mono ?_
              rintro e w2 ⟨rfl, hb2⟩
              have S2 : w2.cell? ⟨w.heap.size, 4, none⟩ = some (.slice (some ⟨b, off, none⟩) s.hn hcp) ∧ w2.rangeAt b (off + i * 3) (hdl (s.H i) ka kc) ∧ w2.cell? ⟨b, off + i * 3, none⟩ = some (.int .i64 (s.H i).id) ∧ w2.cell? ⟨b, off + m * 3, none⟩ = some (.int .i64 (s.H m).id) := ⟨by rw [hb2.cell (p := ⟨_, _, none⟩) (World.block_lt_of_cell? _ _ S0)]; exact S0, range_below hra hb2, by rw [hb2.cell (p := ⟨_, _, none⟩) (World.block_lt_of_cell? _ _ hid)]; exact hid, by rw [hb2.cell (p := ⟨_, _, none⟩) (World.block_lt_of_cell? _ _ him)]; exact him⟩
              have HB2 : Hid (Below W0.heap.size W0 w2) := Below.transS HB.out hb2
              clear hca hb2
              refine hK.out _ _ S2 (fun _ => ?_)
              clear hK K
              refine wpV 6 ⟨some 92, .unOp Go.UnOp.not 4 (.tmp 91), 4, _, _, none⟩ rfl ?_
              try simp only [Act.put, sqA, sqB, sqC]
              refine wpV 7 ⟨some 93, .move (.tmp 92), 4, _, _, none⟩ rfl ?_
              try simp only [Act.put, sqA, sqB, sqC]
              refine wpV 8 ⟨some 94, .move (.tmp 4), 3, _, _, some (7, false)⟩ rfl ?_
              try simp only [Act.put, sqA, sqB, sqC]
              refine wpV 9 ⟨some 95, .binOp .gtr 3 (.tmp 94) (.const (.int .i64 0)) 3, 4, _, _, some (7, false)⟩ rfl ?_
              try simp only [Act.put, sqA, sqB, sqC]
              refine wpV 10 ⟨some 96, .move (.tmp 95), 4, _, _, some (7, false)⟩ rfl ?_
              try simp only [Act.put, sqA, sqB, sqC]
              refine wpV 11 ⟨some 97, .fieldAddr 26 (.tmp 1) 3, 0, _, _, some (10, true)⟩ rfl ?_
              try simp only [Act.put, sqA, sqB, sqC]
              refine wpV 12 ⟨some 98, .load 24 (.tmp 97), 24, _, _, some (10, true)⟩ rfl ?_
              try simp only [Act.put, sqA, sqB, sqC]
              refine wpV 13 ⟨some 99, .move (.tmp 4), 3, _, _, some (10, true)⟩ rfl ?_
              try simp only [Act.put, sqA, sqB, sqC]
              refine wpV 14 ⟨some 100, .indexAddr 24 (.tmp 98) (.tmp 99), 0, _, _, some (10, true)⟩ rfl ?_
              try simp only [Act.put, sqA, sqB, sqC]
              refine wpV 15 ⟨some 101, .fieldAddr 56 (.tmp 100) 0, 0, _, _, some (10, true)⟩ rfl ?_
              try simp only [Act.put, sqA, sqB, sqC]
              refine wpV 16 ⟨some 102, .load 3 (.tmp 101), 3, _, _, some (10, true)⟩ rfl ?_
              try simp only [Act.put, sqA, sqB, sqC]
              refine wpV 17 ⟨some 103, .fieldAddr 26 (.tmp 1) 3, 0, _, _, some (10, true)⟩ rfl ?_
              try simp only [Act.put, sqA, sqB, sqC]
              refine wpV 18 ⟨some 104, .load 24 (.tmp 103), 24, _, _, some (10, true)⟩ rfl ?_
              try simp only [Act.put, sqA, sqB, sqC]
              refine wpV 19 ⟨some 105, .move (.tmp 4), 3, _, _, some (10, true)⟩ rfl ?_
              try simp only [Act.put, sqA, sqB, sqC]
              refine wpV 20 ⟨some 106, .binOp .sub 3 (.tmp 105) (.const (.int .i64 1)) 3, 3, _, _, some (10, true)⟩ rfl ?_
              try simp only [Act.put, sqA, sqB, sqC]
              refine wpV 21 ⟨some 107, .indexAddr 24 (.tmp 104) (.tmp 106), 0, _, _, some (10, true)⟩ rfl ?_
              try simp only [Act.put, sqA, sqB, sqC]
              refine wpV 22 ⟨some 108, .fieldAddr 56 (.tmp 107) 0, 0, _, _, some (10, true)⟩ rfl ?_
              try simp only [Act.put, sqA, sqB, sqC]
              refine wpV 23 ⟨some 109, .load 3 (.tmp 108), 3, _, _, some (10, true)⟩ rfl ?_
              try simp only [Act.put, sqA, sqB, sqC]
              refine wpV 24 ⟨some 110, .binOp .leq 3 (.tmp 102) (.tmp 109) 3, 4, _, _, some (10, true)⟩ rfl ?_
              try simp only [Act.put, sqA, sqB, sqC]
              refine wpV 25 ⟨some 111, .pick (.tmp 96) (.tmp 110) (.const (.bool false)), 4, _, _, some (7, false)⟩ rfl ?_
              try simp only [Act.put, sqA, sqB, sqC]
              refine wpV 26 ⟨some 112, .pick (.tmp 93) (.const (.bool true)) (.tmp 111), 4, _, _, none⟩ rfl ?_
              try simp only [Act.put, sqA, sqB, sqC]
              refine wpAnyH_done (by kernel_rfl) (NoPanic.normal ?_) _
              try simp only [Act.put, sqA, sqB, sqC]
              clear hHeld S2
              go_wp2
              go_roundw
              case rel => exact ⟨i + 1, by omega, by go_num, HNN, HB2.out⟩
              case measure => simp [intOf]; omega
             ·have h8' : (s.H i).id ≤ (s.H m).id := by omega
              have HE : Hid (chkE s = 1) := HF.out (fun h => h8 (h.2 h0))
              clear HF HSS h7
              go_wp2_with fail
              refine wp_region_noPanic ?_
              refine wp_region_held_drew (S := fun w' => w'.cell? ⟨w.heap.size, 4, none⟩ = some (.slice (some ⟨b, off, none⟩) s.hn hcp) ∧ w'.rangeAt b (off + i * 3) (hdl (s.H i) ka kc) ∧ w'.cell? ⟨b, off + i * 3, none⟩ = some (.int .i64 (s.H i).id) ∧ w'.cell? ⟨b, off + m * 3, none⟩ = some (.int .i64 (s.H m).id)) (by kernel_rfl) ⟨S0, hra, hid, him⟩ (fun hHeld => ?_)
              refine wpV 0 ⟨some 86, .fieldAddr 26 (.tmp 1) 3, 0, _, _, none⟩ rfl ?_
              try simp only [Act.put, sqA, sqB, sqC]
              refine wpV 1 ⟨some 87, .load 24 (.tmp 86), 24, _, _, none⟩ rfl ?_
              try simp only [Act.put, sqA, sqB, sqC]
              refine wpV 2 ⟨some 88, .move (.tmp 4), 3, _, _, none⟩ rfl ?_
              try simp only [Act.put, sqA, sqB, sqC]
              refine wpV 3 ⟨some 89, .indexAddr 24 (.tmp 87) (.tmp 88), 0, _, _, none⟩ rfl ?_
              try simp only [Act.put, sqA, sqB, sqC]
              refine wpAnyH_take (i := 4) (oi := ⟨some 90, .load 56 (.tmp 89), 56, _, _, none⟩) rfl (by kernel_rfl) (by kernel_rfl) (by kernel_rfl) (fun _ _ _ h => h) (yieldsIf_load_mid (by rfl) _ _ rfl b (off + i * 3) rfl (hdl (s.H i) ka kc) _ (fun _ h => h.2.1) Tryz.underlying56 rfl (szHr)) (by assumption) ?_
              try simp only [Act.put, sqA, sqB, sqC]
              refine wpAnyH_ready (rs := [5]) (by kernel_rfl) (by simp) ?_
              refine (AllReadyH.cons (o := ⟨some 91, .call ⟨.value (.func 64), #[.tmp 90], #[56]⟩, 4, _, _, none⟩) rfl (fun K hK => ?_) AllReadyH.nil)
              go_simp
              refine hca.mono ?_
              rintro e w2 ⟨rfl, hb2⟩
              have S2 : w2.cell? ⟨w.heap.size, 4, none⟩ = some (.slice (some ⟨b, off, none⟩) s.hn hcp) ∧ w2.rangeAt b (off + i * 3) (hdl (s.H i) ka kc) ∧ w2.cell? ⟨b, off + i * 3, none⟩ = some (.int .i64 (s.H i).id) ∧ w2.cell? ⟨b, off + m * 3, none⟩ = some (.int .i64 (s.H m).id) := ⟨by rw [hb2.cell (p := ⟨_, _, none⟩) (World.block_lt_of_cell? _ _ S0)]; exact S0, range_below hra hb2, by rw [hb2.cell (p := ⟨_, _, none⟩) (World.block_lt_of_cell? _ _ hid)]; exact hid, by rw [hb2.cell (p := ⟨_, _, none⟩) (World.block_lt_of_cell? _ _ him)]; exact him⟩
              have HB2 : Hid (Below W0.heap.size W0 w2) := Below.transS HB.out hb2
              clear hca hb2
              refine hK.out _ _ S2 (fun _ => ?_)
              clear hK K
              refine wpV 6 ⟨some 92, .unOp Go.UnOp.not 4 (.tmp 91), 4, _, _, none⟩ rfl ?_
              try simp only [Act.put, sqA, sqB, sqC]
              refine wpV 7 ⟨some 93, .move (.tmp 92), 4, _, _, none⟩ rfl ?_
              try simp only [Act.put, sqA, sqB, sqC]
              refine wpV 8 ⟨some 94, .move (.tmp 4), 3, _, _, some (7, false)⟩ rfl ?_
              try simp only [Act.put, sqA, sqB, sqC]
              refine wpV 9 ⟨some 95, .binOp .gtr 3 (.tmp 94) (.const (.int .i64 0)) 3, 4, _, _, some (7, false)⟩ rfl ?_
              try simp only [Act.put, sqA, sqB, sqC]
              refine wpV 10 ⟨some 96, .move (.tmp 95), 4, _, _, some (7, false)⟩ rfl ?_
              try simp only [Act.put, sqA, sqB, sqC]
              refine wpV 11 ⟨some 97, .fieldAddr 26 (.tmp 1) 3, 0, _, _, some (10, true)⟩ rfl ?_
              try simp only [Act.put, sqA, sqB, sqC]
              refine wpV 12 ⟨some 98, .load 24 (.tmp 97), 24, _, _, some (10, true)⟩ rfl ?_
              try simp only [Act.put, sqA, sqB, sqC]
              refine wpV 13 ⟨some 99, .move (.tmp 4), 3, _, _, some (10, true)⟩ rfl ?_
              try simp only [Act.put, sqA, sqB, sqC]
              refine wpV 14 ⟨some 100, .indexAddr 24 (.tmp 98) (.tmp 99), 0, _, _, some (10, true)⟩ rfl ?_
              try simp only [Act.put, sqA, sqB, sqC]
              refine wpV 15 ⟨some 101, .fieldAddr 56 (.tmp 100) 0, 0, _, _, some (10, true)⟩ rfl ?_
              try simp only [Act.put, sqA, sqB, sqC]
              refine wpV 16 ⟨some 102, .load 3 (.tmp 101), 3, _, _, some (10, true)⟩ rfl ?_
              try simp only [Act.put, sqA, sqB, sqC]
              refine wpV 17 ⟨some 103, .fieldAddr 26 (.tmp 1) 3, 0, _, _, some (10, true)⟩ rfl ?_
              try simp only [Act.put, sqA, sqB, sqC]
              refine wpV 18 ⟨some 104, .load 24 (.tmp 103), 24, _, _, some (10, true)⟩ rfl ?_
              try simp only [Act.put, sqA, sqB, sqC]
              refine wpV 19 ⟨some 105, .move (.tmp 4), 3, _, _, some (10, true)⟩ rfl ?_
              try simp only [Act.put, sqA, sqB, sqC]
              refine wpV 20 ⟨some 106, .binOp .sub 3 (.tmp 105) (.const (.int .i64 1)) 3, 3, _, _, some (10, true)⟩ rfl ?_
              try simp only [Act.put, sqA, sqB, sqC]
              refine wpV 21 ⟨some 107, .indexAddr 24 (.tmp 104) (.tmp 106), 0, _, _, some (10, true)⟩ rfl ?_
              try simp only [Act.put, sqA, sqB, sqC]
              refine wpV 22 ⟨some 108, .fieldAddr 56 (.tmp 107) 0, 0, _, _, some (10, true)⟩ rfl ?_
              try simp only [Act.put, sqA, sqB, sqC]
              refine wpV 23 ⟨some 109, .load 3 (.tmp 108), 3, _, _, some (10, true)⟩ rfl ?_
              try simp only [Act.put, sqA, sqB, sqC]
              refine wpV 24 ⟨some 110, .binOp .leq 3 (.tmp 102) (.tmp 109) 3, 4, _, _, some (10, true)⟩ rfl ?_
              try simp only [Act.put, sqA, sqB, sqC]
              refine wpV 25 ⟨some 111, .pick (.tmp 96) (.tmp 110) (.const (.bool false)), 4, _, _, some (7, false)⟩ rfl ?_
              try simp only [Act.put, sqA, sqB, sqC]
              refine wpV 26 ⟨some 112, .pick (.tmp 93) (.const (.bool true)) (.tmp 111), 4, _, _, none⟩ rfl ?_
              try simp only [Act.put, sqA, sqB, sqC]
              refine wpAnyH_done (by kernel_rfl) (NoPanic.normal ?_) _
              try simp only [Act.put, sqA, sqB, sqC]
              clear hHeld S2
              go_wp2
              go_ret
              exact ⟨by rw [HE.out]; rfl, HB0.out.trans (HB2.out.mono HB0.out.size)⟩
           ·rw [decide_eq_false h7] at hca
            have HE : Hid (chkE s = 1) := HF.out (fun h => h7 h.1)
            clear HF HSS h7 hIm
            go_wp2_with fail
            refine wp_region_noPanic ?_
            refine wp_region_held_drew (S := fun w' => w'.cell? ⟨w.heap.size, 4, none⟩ = some (.slice (some ⟨b, off, none⟩) s.hn hcp) ∧ w'.rangeAt b (off + i * 3) (hdl (s.H i) ka kc)) (by kernel_rfl) ⟨S0, hra⟩ (fun hHeld => ?_)
            refine wpV 0 ⟨some 86, .fieldAddr 26 (.tmp 1) 3, 0, _, _, none⟩ rfl ?_
            try simp only [Act.put, sqA, sqB, sqC]
            refine wpV 1 ⟨some 87, .load 24 (.tmp 86), 24, _, _, none⟩ rfl ?_
            try simp only [Act.put, sqA, sqB, sqC]
            refine wpV 2 ⟨some 88, .move (.tmp 4), 3, _, _, none⟩ rfl ?_
            try simp only [Act.put, sqA, sqB, sqC]
            refine wpV 3 ⟨some 89, .indexAddr 24 (.tmp 87) (.tmp 88), 0, _, _, none⟩ rfl ?_
            try simp only [Act.put, sqA, sqB, sqC]
            refine wpAnyH_take (i := 4) (oi := ⟨some 90, .load 56 (.tmp 89), 56, _, _, none⟩) rfl (by kernel_rfl) (by kernel_rfl) (by kernel_rfl) (fun _ _ _ h => h) (yieldsIf_load_mid (by rfl) _ _ rfl b (off + i * 3) rfl (hdl (s.H i) ka kc) _ (fun _ h => h.2) Tryz.underlying56 rfl (szHr)) (by assumption) ?_
            try simp only [Act.put, sqA, sqB, sqC]
            refine wpAnyH_ready (rs := [5]) (by kernel_rfl) (by simp) ?_
            refine (AllReadyH.cons (o := ⟨some 91, .call ⟨.value (.func 64), #[.tmp 90], #[56]⟩, 4, _, _, none⟩) rfl (fun K hK => ?_) AllReadyH.nil)
            go_simp
            refine hca.mono ?_
            rintro e w2 ⟨rfl, hb2⟩
            have S2 : w2.cell? ⟨w.heap.size, 4, none⟩ = some (.slice (some ⟨b, off, none⟩) s.hn hcp) ∧ w2.rangeAt b (off + i * 3) (hdl (s.H i) ka kc) := ⟨by rw [hb2.cell (p := ⟨_, _, none⟩) (World.block_lt_of_cell? _ _ S0)]; exact S0, range_below hra hb2⟩
            have HB2 : Hid (Below W0.heap.size W0 w2) := Below.transS HB.out hb2
            clear hca hb2
            refine hK.out _ _ S2 (fun _ => ?_)
            clear hK K
            refine wpV 6 ⟨some 92, .unOp Go.UnOp.not 4 (.tmp 91), 4, _, _, none⟩ rfl ?_
            try simp only [Act.put, sqA, sqB, sqC]
            refine wpV 7 ⟨some 93, .move (.tmp 92), 4, _, _, none⟩ rfl ?_
            try simp only [Act.put, sqA, sqB, sqC]
            refine wpX 8 ⟨some 94, .move (.tmp 4), 3, _, _, some (7, false)⟩ rfl ?_
            try simp only [Act.put, sqA, sqB, sqC]
            refine wpX 9 ⟨some 95, .binOp .gtr 3 (.tmp 94) (.const (.int .i64 0)) 3, 4, _, _, some (7, false)⟩ rfl ?_
            try simp only [Act.put, sqA, sqB, sqC]
            refine wpX 10 ⟨some 96, .move (.tmp 95), 4, _, _, some (7, false)⟩ rfl ?_
            try simp only [Act.put, sqA, sqB, sqC]
            refine wpX 11 ⟨some 97, .fieldAddr 26 (.tmp 1) 3, 0, _, _, some (10, true)⟩ rfl ?_
            try simp only [Act.put, sqA, sqB, sqC]
            refine wpX 12 ⟨some 98, .load 24 (.tmp 97), 24, _, _, some (10, true)⟩ rfl ?_
            try simp only [Act.put, sqA, sqB, sqC]
            refine wpX 13 ⟨some 99, .move (.tmp 4), 3, _, _, some (10, true)⟩ rfl ?_
            try simp only [Act.put, sqA, sqB, sqC]
            refine wpX 14 ⟨some 100, .indexAddr 24 (.tmp 98) (.tmp 99), 0, _, _, some (10, true)⟩ rfl ?_
            try simp only [Act.put, sqA, sqB, sqC]
            refine wpX 15 ⟨some 101, .fieldAddr 56 (.tmp 100) 0, 0, _, _, some (10, true)⟩ rfl ?_
            try simp only [Act.put, sqA, sqB, sqC]
            refine wpX 16 ⟨some 102, .load 3 (.tmp 101), 3, _, _, some (10, true)⟩ rfl ?_
            try simp only [Act.put, sqA, sqB, sqC]
            refine wpX 17 ⟨some 103, .fieldAddr 26 (.tmp 1) 3, 0, _, _, some (10, true)⟩ rfl ?_
            try simp only [Act.put, sqA, sqB, sqC]
            refine wpX 18 ⟨some 104, .load 24 (.tmp 103), 24, _, _, some (10, true)⟩ rfl ?_
            try simp only [Act.put, sqA, sqB, sqC]
            refine wpX 19 ⟨some 105, .move (.tmp 4), 3, _, _, some (10, true)⟩ rfl ?_
            try simp only [Act.put, sqA, sqB, sqC]
            refine wpX 20 ⟨some 106, .binOp .sub 3 (.tmp 105) (.const (.int .i64 1)) 3, 3, _, _, some (10, true)⟩ rfl ?_
            try simp only [Act.put, sqA, sqB, sqC]
            refine wpX 21 ⟨some 107, .indexAddr 24 (.tmp 104) (.tmp 106), 0, _, _, some (10, true)⟩ rfl ?_
            try simp only [Act.put, sqA, sqB, sqC]
            refine wpX 22 ⟨some 108, .fieldAddr 56 (.tmp 107) 0, 0, _, _, some (10, true)⟩ rfl ?_
            try simp only [Act.put, sqA, sqB, sqC]
            refine wpX 23 ⟨some 109, .load 3 (.tmp 108), 3, _, _, some (10, true)⟩ rfl ?_
            try simp only [Act.put, sqA, sqB, sqC]
            refine wpX 24 ⟨some 110, .binOp .leq 3 (.tmp 102) (.tmp 109) 3, 4, _, _, some (10, true)⟩ rfl ?_
            try simp only [Act.put, sqA, sqB, sqC]
            refine wpX 25 ⟨some 111, .pick (.tmp 96) (.tmp 110) (.const (.bool false)), 4, _, _, some (7, false)⟩ rfl ?_
            try simp only [Act.put, sqA, sqB, sqC]
            refine wpV 26 ⟨some 112, .pick (.tmp 93) (.const (.bool true)) (.tmp 111), 4, _, _, none⟩ rfl ?_
            try simp only [Act.put, sqA, sqB, sqC]
            refine wpAnyH_done (by kernel_rfl) (NoPanic.normal ?_) _
            try simp only [Act.put, sqA, sqB, sqC]
            clear hHeld S2
            go_wp2
            go_ret
            exact ⟨by rw [HE.out]; rfl, HB0.out.trans (HB2.out.mono HB0.out.size)⟩
          ·have hin : i = s.hn := by omega
           have HKn : Hid (HDo s.H s.hn) := by rw [← hin]; exact HK.out
           have hnn : ¬ ((i : Int) < s.hn) := by omega
           clear HK
           have hHs := (hdo_ok s.H s.hn).1 HKn.out
           have hR : SRows s := ⟨h6, HPs.out, hHs⟩
           have hx5 := HC5.out wr hb
           have k0 : wr.cell? ⟨w.heap.size, 0, none⟩ = some (.int .i64 s.nu) := by rw [cell_of_row _ _ 0 _ _ _ hx5]; rfl
           have k1 : wr.cell? ⟨w.heap.size, 1, none⟩ = some (.int .i64 s.a) := by rw [cell_of_row _ _ 1 _ _ _ hx5]; rfl
           have k2 : wr.cell? ⟨w.heap.size, 2, none⟩ = some (.int .i64 s.b) := by rw [cell_of_row _ _ 2 _ _ _ hx5]; rfl
           have hsu := rsum_any s ⟨pa, pc, ha, hcp⟩ wr (H0.out.below hb) HN.out hR
           unfold svv at hsu
           dsimp only at hsu
           have HBW := HB0.out.trans (hb.mono HB0.out.size)
           clear hx5 hHs HKn
           by_cases h9 : tot s ≤ 1125899906842624
           ·have h9' : ¬ 1125899906842624 < tot s := by omega
            have HE : Hid (chkE s = 0) := if_pos ⟨HN.out, hR, h9⟩
            clear hR
            generalize tot s = q at *
            go_wp2_with fail
            refine hsu.mono ?_
            rintro e w2 ⟨rfl, hb2⟩
            have HBE := HBW.trans (hb2.mono HBW.size)
            clear hsu hb2 HBW k0 k1 k2 c3 c4
            go_wp2
            go_ret
            exact ⟨by rw [HE.out]; rfl, HBE⟩
           ·have h9' : 1125899906842624 < tot s := by omega
            have HE : Hid (chkE s = 1) := if_neg (fun h => h9 h.2.2)
            clear hR
            generalize tot s = q at *
            go_wp2_with fail
            refine hsu.mono ?_
            rintro e w2 ⟨rfl, hb2⟩
            have HBE := HBW.trans (hb2.mono HBW.size)
            clear hsu hb2 HBW k0 k1 k2 c3 c4
            go_wp2
            go_ret
            exact ⟨by rw [HE.out]; rfl, HBE⟩
      ·have h6' : (8 : Int) < (s.pn : Int) + s.hn := by omega
       have h4' : ¬ (8 : Int) < s.pn := by omega
       have h5' : ¬ (8 : Int) < s.hn := by omega
       have e6 : wrap64 ((s.pn : Int) + s.hn) = (s.pn : Int) + s.hn := by simp [wrap64]; omega
       have HE : Hid (chkE s = 1) := if_neg (fun h => h6 h.2.1.1)
       clear H0
       unfold svv at hb0 hr0 ⊢
       dsimp only at hb0 hr0 ⊢
       go_enter Tryz.func47, Tryz.ntmps47
       go_wp2_with fail
       refine (hw1 _).mono ?_
       rintro e x1 ⟨rfl, rfl⟩
       go_wp2_with fail
       refine (hw2 _).mono ?_
       rintro e x2 ⟨rfl, rfl⟩
       go_wp2_with fail
       refine (hw3 _).mono ?_
       rintro e x3 ⟨rfl, rfl⟩
       go_wp2
       go_ret
       exact ⟨by rw [HE.out]; rfl, hb0⟩
     ·have h5' : (8 : Int) < s.hn := by omega
      have h4' : ¬ (8 : Int) < s.pn := by omega
      have HE : Hid (chkE s = 1) := if_neg (fun h => by have := h.2.1.1; omega)
      clear H0
      unfold svv at hb0 hr0 ⊢
      dsimp only at hb0 hr0 ⊢
      go_enter Tryz.func47, Tryz.ntmps47
      go_wp2_with fail
      refine (hw1 _).mono ?_
      rintro e x1 ⟨rfl, rfl⟩
      go_wp2_with fail
      refine (hw2 _).mono ?_
      rintro e x2 ⟨rfl, rfl⟩
      go_wp2_with fail
      refine (hw3 _).mono ?_
      rintro e x3 ⟨rfl, rfl⟩
      go_wp2
      go_ret
      exact ⟨by rw [HE.out]; rfl, hb0⟩
    ·have h4' : (8 : Int) < s.pn := by omega
     have HE : Hid (chkE s = 1) := if_neg (fun h => by have := h.2.1.1; omega)
     clear H0
     unfold svv at hb0 hr0 ⊢
     dsimp only at hb0 hr0 ⊢
     go_enter Tryz.func47, Tryz.ntmps47
     go_wp2_with fail
     refine (hw1 _).mono ?_
     rintro e x1 ⟨rfl, rfl⟩
     go_wp2_with fail
     refine (hw2 _).mono ?_
     rintro e x2 ⟨rfl, rfl⟩
     go_wp2_with fail
     refine (hw3 _).mono ?_
     rintro e x3 ⟨rfl, rfl⟩
     go_wp2
     go_ret
     exact ⟨by rw [HE.out]; rfl, hb0⟩
   ·rw [decide_eq_false h3] at hw3
    have HE : Hid (chkE s = 1) := if_neg (fun h => h3 h.1.2.2)
    clear H0
    unfold svv at hb0 hr0 ⊢
    dsimp only at hb0 hr0 ⊢
    go_enter Tryz.func47, Tryz.ntmps47
    go_wp2_with fail
    refine (hw1 _).mono ?_
    rintro e x1 ⟨rfl, rfl⟩
    go_wp2_with fail
    refine (hw2 _).mono ?_
    rintro e x2 ⟨rfl, rfl⟩
    go_wp2_with fail
    refine (hw3 _).mono ?_
    rintro e x3 ⟨rfl, rfl⟩
    go_wp2
    go_ret
    exact ⟨by rw [HE.out]; rfl, hb0⟩
  ·rw [decide_eq_false h2] at hw2
   have HE : Hid (chkE s = 1) := if_neg (fun h => h2 h.1.2.1)
   clear H0
   unfold svv at hb0 hr0 ⊢
   dsimp only at hb0 hr0 ⊢
   go_enter Tryz.func47, Tryz.ntmps47
   go_wp2_with fail
   refine (hw1 _).mono ?_
   rintro e x1 ⟨rfl, rfl⟩
   go_wp2_with fail
   refine (hw2 _).mono ?_
   rintro e x2 ⟨rfl, rfl⟩
   go_wp2
   go_ret
   exact ⟨by rw [HE.out]; rfl, hb0⟩
 ·rw [decide_eq_false h1] at hw1
  have HE : Hid (chkE s = 1) := if_neg (fun h => h1 h.1.1)
  clear H0
  unfold svv at hb0 hr0 ⊢
  dsimp only at hb0 hr0 ⊢
  go_enter Tryz.func47, Tryz.ntmps47
  go_wp2_with fail
  refine (hw1 _).mono ?_
  rintro e x1 ⟨rfl, rfl⟩
  go_wp2
  go_ret
  exact ⟨by rw [HE.out]; rfl, hb0⟩
end Go.Proofs.YtoefgfiabfkfaaaGreatDoor
