/- The document's Add where it answers an error. -/
import Derived.Test.YtoefgfiabfkfaaaGreatDoorOwnShelf32
import Derived.Test.YtoefgfiabfkfaaaGreatDoorOwnShelf30
namespace Go.Proofs.YtoefgfiabfkfaaaGreatDoor
open Go.RowKit

theorem three_boxesP (w : World) (s : Sv) (p : Pl) (y : Py) : ∃ W0, W0 = ((w.alloc (.cells (svv s p) 26)).alloc (.cells (pyv y) 30)).alloc (.cells #[.int .i64 0, .int .i64 0, .int .i64 0, .slice none 0 0, .slice none 0 0] 26) ∧ W0.heap[w.heap.size]? = some (.cells (svv s p) 26 (0, 0)) ∧ W0.heap[w.heap.size + 1]? = some (.cells (pyv y) 30 (0, 0)) ∧ W0.heap[w.heap.size + 2]? = some (.cells #[.int .i64 0, .int .i64 0, .int .i64 0, .slice none 0 0, .slice none 0 0] 26 (0, 0)) ∧ W0.heap.size = w.heap.size + 3 ∧ Below w.heap.size w W0 := by
 refine ⟨_, rfl, ?_, ?_, ?_, by simp, (three_new w _ _ _).2⟩
 ·rw [Below.heap_alloc _ _ _ (by simp; omega), Below.heap_alloc _ _ _ (by simp)]; exact heap_alloc_new w _
 ·rw [Below.heap_alloc _ _ _ (by simp)]
  have := heap_alloc_new (w.alloc (.cells (svv s p) 26)) (.cells (pyv y) 30)
  simpa using this
 ·have := heap_alloc_new ((w.alloc (.cells (svv s p) 26)).alloc (.cells (pyv y) 30)) (.cells #[.int .i64 0, .int .i64 0, .int .i64 0, .slice none 0 0, .slice none 0 0] 26)
  have e2 : ((w.alloc (.cells (svv s p) 26)).alloc (.cells (pyv y) 30)).heap.size = w.heap.size + 2 := by simp
  rw [e2] at this
  exact this
/-- The error of the document's Add. -/
def raE (s : Sv) (f : Int) (y : Py) : Int := asideE s f y.am (decide (PMay y)) (hasB (fun j => (s.P j).id) s.pn y.id)
set_option maxRecDepth 100000 in
set_option maxHeartbeats 6400000 in
theorem radd_bad (s : Sv) (p : Pl) (f : Int) (y : Py) (w : World) (h : SvAt w s p) (hs : s.Small) (hy : Zb y.lk) (hfr : y.fr = f) (hne : raE s f y ≠ 0) :
  Calls Tryz.prog 8 #[.agg (svv s p), .agg (pyv y)] w fun e w' => e = .returned (.tuple #[.agg #[.int .i64 0, .int .i64 0, .int .i64 0, .slice none 0 0, .slice none 0 0], .int .i64 (raE s f y)]) ∧ Below w.heap.size w w' := by
 have HNE : Hid (raE s f y ≠ 0) := hne
 have HFR : Hid (y.fr = f) := hfr
 clear hne hfr
 obtain ⟨W0, hW0, r0, r1, r2, hsz, hb0⟩ := three_boxesP w s p y
 have HV : Hid (SvAt w s p ∧ s.Small ∧ Zb y.lk) := ⟨h, hs, hy⟩
 have hc := right_any s p W0 (h.below hb0) hs
 have HX0 : Hid (W0.heap[w.heap.size]? = some (.cells (svv s p) 26 (0, 0)) ∧ W0.heap[w.heap.size + 1]? = some (.cells (pyv y) 30 (0, 0)) ∧ W0.heap[w.heap.size + 2]? = some (.cells #[.int .i64 0, .int .i64 0, .int .i64 0, .slice none 0 0, .slice none 0 0] 26 (0, 0)) ∧ W0.heap.size = w.heap.size + 3 ∧ Below w.heap.size w W0) := ⟨r0, r1, r2, hsz, hb0⟩
 clear h hs hy r0 r1 r2 hsz hb0
 subst hW0
 unfold svv at hc HX0 ⊢
 go_enter Tryz.func8, Tryz.ntmps8
 go_wp2_with (first | (refine Go.Great.wpList_boxTo rfl _ _ rfl _ rfl _ rfl (pyv y) rfl ?_) | fail)
 generalize ((w.alloc (.cells #[.int .i64 s.nu, .int .i64 s.a, .int .i64 s.b, .slice p.pa s.pn p.pc, .slice p.ha s.hn p.hc] 26)).alloc (.cells (pyv y) 30)).alloc (.cells #[.int .i64 0, .int .i64 0, .int .i64 0, .slice none 0 0, .slice none 0 0] 26) = W0 at *
 (try rw [show w.heap.size + 1 + 1 = w.heap.size + 2 from rfl])
 refine hc.mono ?_
 rintro e w1 ⟨rfl, hb1⟩
 have HX : Hid (w1.heap[w.heap.size]? = some (.cells #[.int .i64 s.nu, .int .i64 s.a, .int .i64 s.b, .slice p.pa s.pn p.pc, .slice p.ha s.hn p.hc] 26 (0, 0)) ∧ w1.heap[w.heap.size + 1]? = some (.cells (pyv y) 30 (0, 0)) ∧ w1.heap[w.heap.size + 2]? = some (.cells #[.int .i64 0, .int .i64 0, .int .i64 0, .slice none 0 0, .slice none 0 0] 26 (0, 0)) ∧ Below w.heap.size w w1) := ⟨(hb1.block _ (lt_of_block HX0.out.1)).trans HX0.out.1, (hb1.block _ (lt_of_block HX0.out.2.1)).trans HX0.out.2.1, (hb1.block _ (lt_of_block HX0.out.2.2.1)).trans HX0.out.2.2.1, HX0.out.2.2.2.2.trans (hb1.mono HX0.out.2.2.2.2.size)⟩
 clear hc hb1 HX0
 obtain ⟨c0, c1, c2, c3, c4, cf⟩ := five_of HX.out.1
 obtain ⟨k0, k1, k2, k3, kl⟩ := pbox_of HX.out.2.1
 rw [HFR.out] at k1
 clear k3 kl
 obtain ⟨d0, d1, d2, d3, d4, df⟩ := five_of HX.out.2.2.1
 by_cases hr : Rgt s
 ·rw [decide_eq_true hr]
  have hn8 : s.pn + s.hn ≤ 8 := hr.1.2.1.1
  by_cases hf : Side f
  ·have HF : Hid (Side f) := hf
   have f01 : (f = 0 ∧ (f != 0) = false) ∨ (f = 1 ∧ (f != 0) = true ∧ (f != 1) = false) := by
    rcases hf with rfl | rfl
    ·exact .inl ⟨rfl, rfl⟩
    ·exact .inr ⟨rfl, rfl, rfl⟩
   by_cases hd : y.am < 10
   ·have HE : Hid (raE s f y = 27) := by show raE s f y = 27; unfold raE asideE; rw [if_neg (not_not_intro hr), if_neg (not_not_intro hf), if_pos hd]
    clear hr hf
    rcases f01 with ⟨rfl, g0⟩ | ⟨rfl, g0, g1⟩ <;> (go_wp2; exact bodyPost_ret (results_R2 Tryz.results8 _ _ (w.heap.size + 2) 26 _ _ _ _ _ (0, 0) rfl (five_all HX.out.2.2.1)) rfl ⟨by rw [HE.out]; rfl, five_below HX.out.2.2.2 (by omega)⟩)
   ·by_cases hm : PMay y
    ·cases hb : hasB (fun j => (s.P j).id) s.pn y.id with
     | true =>
      have HE : Hid (raE s f y = 9) := by show raE s f y = 9; unfold raE asideE; rw [if_neg (not_not_intro hr), if_neg (not_not_intro hf), if_neg hd, if_neg (by simp [hm]), if_pos hb]
      clear hr hf
      rcases f01 with ⟨rfl, g0⟩ | ⟨rfl, g0, g1⟩
      all_goals
       go_wp2_with (first | (refine wpList_load_mid rfl 30 _ rfl (w.heap.size + 1) 0 rfl (pyl y) _ (pyv_range HX.out.2.1) Tryz.underlying30 rfl (szPrl _) ?_) | fail)
       refine (payMay_any y w1 HV.out.2.2).mono ?_
       rintro e w2 ⟨rfl, hb2⟩
       have HX2 : Hid (w2.heap[w.heap.size]? = some (.cells #[.int .i64 s.nu, .int .i64 s.a, .int .i64 s.b, .slice p.pa s.pn p.pc, .slice p.ha s.hn p.hc] 26 (0, 0)) ∧ w2.heap[w.heap.size + 1]? = some (.cells (pyv y) 30 (0, 0)) ∧ w2.heap[w.heap.size + 2]? = some (.cells #[.int .i64 0, .int .i64 0, .int .i64 0, .slice none 0 0, .slice none 0 0] 26 (0, 0)) ∧ Below w.heap.size w w2) := ⟨(hb2.block _ (lt_of_block HX.out.1)).trans HX.out.1, (hb2.block _ (lt_of_block HX.out.2.1)).trans HX.out.2.1, (hb2.block _ (lt_of_block HX.out.2.2.1)).trans HX.out.2.2.1, HX.out.2.2.2.trans (hb2.mono HX.out.2.2.2.size)⟩
       clear c0 c1 c2 c3 c4 cf k0 k1 k2 d0 d1 d2 d3 d4 df HX hb2
       have HX : Hid (w2.heap[w.heap.size]? = some (.cells #[.int .i64 s.nu, .int .i64 s.a, .int .i64 s.b, .slice p.pa s.pn p.pc, .slice p.ha s.hn p.hc] 26 (0, 0)) ∧ w2.heap[w.heap.size + 1]? = some (.cells (pyv y) 30 (0, 0)) ∧ w2.heap[w.heap.size + 2]? = some (.cells #[.int .i64 0, .int .i64 0, .int .i64 0, .slice none 0 0, .slice none 0 0] 26 (0, 0)) ∧ Below w.heap.size w w2) := HX2.out
       clear HX2
       obtain ⟨c0, c1, c2, c3, c4, cf⟩ := five_of HX.out.1
       obtain ⟨k0, k1, k2, k3, kl⟩ := pbox_of HX.out.2.1
       rw [HFR.out] at k1
       clear k3 kl
       obtain ⟨d0, d1, d2, d3, d4, df⟩ := five_of HX.out.2.2.1
       rw [decide_eq_true hm]
       go_wp2_with fail
       refine (payAt_any p.pa s.pn p.pc s.P y.id w2 (HV.out.1.py.below HX.out.2.2.2) (by have := HV.out.2.1.n; omega)).mono ?_
       rintro e w3 ⟨k, hk, rfl, hw3⟩
       rw [hw3]
       clear hw3
       have HH : Hid (HatR (fun j => (s.P j).id) s.pn y.id k) := hk
       have hkb := hat_hasB hk
       clear hk
       rw [hb] at hkb
       have hk0 : 0 ≤ k := of_decide_eq_true hkb
       clear hkb
       go_wp2
       exact bodyPost_ret (results_R2 Tryz.results8 _ _ (w.heap.size + 2) 26 _ _ _ _ _ (0, 0) rfl (five_all HX.out.2.2.1)) rfl ⟨by rw [HE.out]; rfl, five_below HX.out.2.2.2 (by omega)⟩
     | false =>
      by_cases h8 : 8 ≤ s.pn + s.hn
      ·have HE : Hid (raE s f y = 30) := by show raE s f y = 30; unfold raE asideE; rw [if_neg (not_not_intro hr), if_neg (not_not_intro hf), if_neg hd, if_neg (by simp [hm]), if_neg (by simp [hb]), if_pos h8]
       have h8' : (7 : Int) < (s.pn : Int) + (s.hn : Int) := by omega
       have ew : wrap64 ((s.pn : Int) + (s.hn : Int)) = (s.pn : Int) + (s.hn : Int) := by simp [wrap64]; omega
       clear hr hf
       rcases f01 with ⟨rfl, g0⟩ | ⟨rfl, g0, g1⟩
       all_goals
        go_wp2_with (first | (refine wpList_load_mid rfl 30 _ rfl (w.heap.size + 1) 0 rfl (pyl y) _ (pyv_range HX.out.2.1) Tryz.underlying30 rfl (szPrl _) ?_) | fail)
        refine (payMay_any y w1 HV.out.2.2).mono ?_
        rintro e w2 ⟨rfl, hb2⟩
        have HX2 : Hid (w2.heap[w.heap.size]? = some (.cells #[.int .i64 s.nu, .int .i64 s.a, .int .i64 s.b, .slice p.pa s.pn p.pc, .slice p.ha s.hn p.hc] 26 (0, 0)) ∧ w2.heap[w.heap.size + 1]? = some (.cells (pyv y) 30 (0, 0)) ∧ w2.heap[w.heap.size + 2]? = some (.cells #[.int .i64 0, .int .i64 0, .int .i64 0, .slice none 0 0, .slice none 0 0] 26 (0, 0)) ∧ Below w.heap.size w w2) := ⟨(hb2.block _ (lt_of_block HX.out.1)).trans HX.out.1, (hb2.block _ (lt_of_block HX.out.2.1)).trans HX.out.2.1, (hb2.block _ (lt_of_block HX.out.2.2.1)).trans HX.out.2.2.1, HX.out.2.2.2.trans (hb2.mono HX.out.2.2.2.size)⟩
        clear c0 c1 c2 c3 c4 cf k0 k1 k2 d0 d1 d2 d3 d4 df HX hb2
        have HX : Hid (w2.heap[w.heap.size]? = some (.cells #[.int .i64 s.nu, .int .i64 s.a, .int .i64 s.b, .slice p.pa s.pn p.pc, .slice p.ha s.hn p.hc] 26 (0, 0)) ∧ w2.heap[w.heap.size + 1]? = some (.cells (pyv y) 30 (0, 0)) ∧ w2.heap[w.heap.size + 2]? = some (.cells #[.int .i64 0, .int .i64 0, .int .i64 0, .slice none 0 0, .slice none 0 0] 26 (0, 0)) ∧ Below w.heap.size w w2) := HX2.out
        clear HX2
        obtain ⟨c0, c1, c2, c3, c4, cf⟩ := five_of HX.out.1
        obtain ⟨k0, k1, k2, k3, kl⟩ := pbox_of HX.out.2.1
        rw [HFR.out] at k1
        clear k3 kl
        obtain ⟨d0, d1, d2, d3, d4, df⟩ := five_of HX.out.2.2.1
        rw [decide_eq_true hm]
        go_wp2_with fail
        refine (payAt_any p.pa s.pn p.pc s.P y.id w2 (HV.out.1.py.below HX.out.2.2.2) (by have := HV.out.2.1.n; omega)).mono ?_
        rintro e w3 ⟨k, hk, rfl, hw3⟩
        rw [hw3]
        clear hw3
        have HH : Hid (HatR (fun j => (s.P j).id) s.pn y.id k) := hk
        have hkb := hat_hasB hk
        clear hk
        rw [hb] at hkb
        have hk0 : ¬ 0 ≤ k := of_decide_eq_false hkb
        clear hkb
        go_wp2
        exact bodyPost_ret (results_R2 Tryz.results8 _ _ (w.heap.size + 2) 26 _ _ _ _ _ (0, 0) rfl (five_all HX.out.2.2.1)) rfl ⟨by rw [HE.out]; rfl, five_below HX.out.2.2.2 (by omega)⟩
      ·have hh : has s f < y.am := by
        refine Decidable.byContradiction fun hh => HNE.out ?_
        unfold raE asideE
        rw [if_neg (not_not_intro hr), if_neg (not_not_intro hf), if_neg hd, if_neg (by simp [hm]), if_neg (by simp [hb]), if_neg h8, if_neg hh]
       have HE : Hid (raE s f y = 20) := by show raE s f y = 20; unfold raE asideE; rw [if_neg (not_not_intro hr), if_neg (not_not_intro hf), if_neg hd, if_neg (by simp [hm]), if_neg (by simp [hb]), if_neg h8, if_pos hh]
       have h8' : ¬ (7 : Int) < (s.pn : Int) + (s.hn : Int) := by omega
       have ew : wrap64 ((s.pn : Int) + (s.hn : Int)) = (s.pn : Int) + (s.hn : Int) := by simp [wrap64]; omega
       clear hr hf
       rcases f01 with ⟨rfl, g0⟩ | ⟨rfl, g0, g1⟩
       ·have hh' : s.a < y.am := hh
        clear hh
        go_wp2_with (first | (refine wpList_load_mid rfl 30 _ rfl (w.heap.size + 1) 0 rfl (pyl y) _ (pyv_range HX.out.2.1) Tryz.underlying30 rfl (szPrl _) ?_) | fail)
        refine (payMay_any y w1 HV.out.2.2).mono ?_
        rintro e w2 ⟨rfl, hb2⟩
        have HX2 : Hid (w2.heap[w.heap.size]? = some (.cells #[.int .i64 s.nu, .int .i64 s.a, .int .i64 s.b, .slice p.pa s.pn p.pc, .slice p.ha s.hn p.hc] 26 (0, 0)) ∧ w2.heap[w.heap.size + 1]? = some (.cells (pyv y) 30 (0, 0)) ∧ w2.heap[w.heap.size + 2]? = some (.cells #[.int .i64 0, .int .i64 0, .int .i64 0, .slice none 0 0, .slice none 0 0] 26 (0, 0)) ∧ Below w.heap.size w w2) := ⟨(hb2.block _ (lt_of_block HX.out.1)).trans HX.out.1, (hb2.block _ (lt_of_block HX.out.2.1)).trans HX.out.2.1, (hb2.block _ (lt_of_block HX.out.2.2.1)).trans HX.out.2.2.1, HX.out.2.2.2.trans (hb2.mono HX.out.2.2.2.size)⟩
        clear c0 c1 c2 c3 c4 cf k0 k1 k2 d0 d1 d2 d3 d4 df HX hb2
        have HX : Hid (w2.heap[w.heap.size]? = some (.cells #[.int .i64 s.nu, .int .i64 s.a, .int .i64 s.b, .slice p.pa s.pn p.pc, .slice p.ha s.hn p.hc] 26 (0, 0)) ∧ w2.heap[w.heap.size + 1]? = some (.cells (pyv y) 30 (0, 0)) ∧ w2.heap[w.heap.size + 2]? = some (.cells #[.int .i64 0, .int .i64 0, .int .i64 0, .slice none 0 0, .slice none 0 0] 26 (0, 0)) ∧ Below w.heap.size w w2) := HX2.out
        clear HX2
        obtain ⟨c0, c1, c2, c3, c4, cf⟩ := five_of HX.out.1
        obtain ⟨k0, k1, k2, k3, kl⟩ := pbox_of HX.out.2.1
        rw [HFR.out] at k1
        clear k3 kl
        obtain ⟨d0, d1, d2, d3, d4, df⟩ := five_of HX.out.2.2.1
        rw [decide_eq_true hm]
        go_wp2_with fail
        refine (payAt_any p.pa s.pn p.pc s.P y.id w2 (HV.out.1.py.below HX.out.2.2.2) (by have := HV.out.2.1.n; omega)).mono ?_
        rintro e w3 ⟨k, hk, rfl, hw3⟩
        rw [hw3]
        clear hw3
        have HH : Hid (HatR (fun j => (s.P j).id) s.pn y.id k) := hk
        have hkb := hat_hasB hk
        clear hk
        rw [hb] at hkb
        have hk0 : ¬ 0 ≤ k := of_decide_eq_false hkb
        clear hkb
        go_wp2_with fail
        have S0 : w2.drew.cell? ⟨w.heap.size, 1, none⟩ = some (.int .i64 s.a) ∧ w2.drew.cell? ⟨w.heap.size + 1, 1, none⟩ = some (.int .i64 0) ∧ w2.drew.cell? ⟨w.heap.size + 1, 2, none⟩ = some (.int .i64 y.am) := ⟨c1, k1, k2⟩
        refine wp_region_noPanic ?_
        refine wp_region_held_drew (S := fun u => u.cell? ⟨w.heap.size, 1, none⟩ = some (.int .i64 s.a) ∧ u.cell? ⟨w.heap.size + 1, 1, none⟩ = some (.int .i64 0) ∧ u.cell? ⟨w.heap.size + 1, 2, none⟩ = some (.int .i64 y.am)) (by kernel_rfl) S0 (fun hHeld => ?_)
        have HXd : Hid (w2.drew.heap[w.heap.size + 2]? = some (.cells #[.int .i64 0, .int .i64 0, .int .i64 0, .slice none 0 0, .slice none 0 0] 26 (0, 0)) ∧ Below w.heap.size w w2.drew) := ⟨HX.out.2.2.1, HX.out.2.2.2.drew⟩
        clear c0 c1 c2 c3 c4 cf k0 k1 k2 d0 d1 d2 d3 d4 df
        generalize w2.drew = Wd at *
        refine wpV 0 ⟨some 54, .fieldAddr 30 (.tmp 3) 1, 0, _, _, none⟩ rfl ?_
        try simp only [Act.put, sqA, sqB, sqC]
        refine wpV 1 ⟨some 55, .load 3 (.tmp 54), 3, _, _, none⟩ rfl ?_
        try simp only [Act.put, sqA, sqB, sqC]
        refine wpV 2 ⟨some 56, .fieldAddr 26 (.tmp 2) 1, 0, _, _, none⟩ rfl ?_
        try simp only [Act.put, sqA, sqB, sqC]
        refine wpV 3 ⟨some 57, .indexAddr 22 (.tmp 56) (.tmp 55), 0, _, _, none⟩ rfl ?_
        try simp only [Act.put, sqA, sqB, sqC]
        refine wpV 4 ⟨some 58, .load 3 (.tmp 57), 3, _, _, none⟩ rfl ?_
        try simp only [Act.put, sqA, sqB, sqC]
        refine wpV 5 ⟨some 59, .fieldAddr 30 (.tmp 3) 2, 0, _, _, none⟩ rfl ?_
        try simp only [Act.put, sqA, sqB, sqC]
        refine wpV 6 ⟨some 60, .load 3 (.tmp 59), 3, _, _, none⟩ rfl ?_
        try simp only [Act.put, sqA, sqB, sqC]
        refine wpV 7 ⟨some 61, .binOp .lss 3 (.tmp 58) (.tmp 60) 3, 4, _, _, none⟩ rfl ?_
        try simp only [Act.put, sqA, sqB, sqC]
        refine wpV 8 ⟨some 53, .assign (.tmp 61), 4, _, _, none⟩ rfl ?_
        try simp only [Act.put, sqA, sqB, sqC]
        refine wpAnyH_done (by kernel_rfl) (NoPanic.normal ?_) _
        try simp only [Act.put, sqA, sqB, sqC]
        clear hHeld S0
        obtain ⟨d0, d1, d2, d3, d4, df⟩ := five_of HXd.out.1
        go_wp2
        exact bodyPost_ret (results_R2 Tryz.results8 _ _ (w.heap.size + 2) 26 _ _ _ _ _ (0, 0) rfl (five_all HXd.out.1)) rfl ⟨by rw [HE.out]; rfl, five_below HXd.out.2 (by omega)⟩
       ·have hh' : s.b < y.am := hh
        clear hh
        go_wp2_with (first | (refine wpList_load_mid rfl 30 _ rfl (w.heap.size + 1) 0 rfl (pyl y) _ (pyv_range HX.out.2.1) Tryz.underlying30 rfl (szPrl _) ?_) | fail)
        refine (payMay_any y w1 HV.out.2.2).mono ?_
        rintro e w2 ⟨rfl, hb2⟩
        have HX2 : Hid (w2.heap[w.heap.size]? = some (.cells #[.int .i64 s.nu, .int .i64 s.a, .int .i64 s.b, .slice p.pa s.pn p.pc, .slice p.ha s.hn p.hc] 26 (0, 0)) ∧ w2.heap[w.heap.size + 1]? = some (.cells (pyv y) 30 (0, 0)) ∧ w2.heap[w.heap.size + 2]? = some (.cells #[.int .i64 0, .int .i64 0, .int .i64 0, .slice none 0 0, .slice none 0 0] 26 (0, 0)) ∧ Below w.heap.size w w2) := ⟨(hb2.block _ (lt_of_block HX.out.1)).trans HX.out.1, (hb2.block _ (lt_of_block HX.out.2.1)).trans HX.out.2.1, (hb2.block _ (lt_of_block HX.out.2.2.1)).trans HX.out.2.2.1, HX.out.2.2.2.trans (hb2.mono HX.out.2.2.2.size)⟩
        clear c0 c1 c2 c3 c4 cf k0 k1 k2 d0 d1 d2 d3 d4 df HX hb2
        have HX : Hid (w2.heap[w.heap.size]? = some (.cells #[.int .i64 s.nu, .int .i64 s.a, .int .i64 s.b, .slice p.pa s.pn p.pc, .slice p.ha s.hn p.hc] 26 (0, 0)) ∧ w2.heap[w.heap.size + 1]? = some (.cells (pyv y) 30 (0, 0)) ∧ w2.heap[w.heap.size + 2]? = some (.cells #[.int .i64 0, .int .i64 0, .int .i64 0, .slice none 0 0, .slice none 0 0] 26 (0, 0)) ∧ Below w.heap.size w w2) := HX2.out
        clear HX2
        obtain ⟨c0, c1, c2, c3, c4, cf⟩ := five_of HX.out.1
        obtain ⟨k0, k1, k2, k3, kl⟩ := pbox_of HX.out.2.1
        rw [HFR.out] at k1
        clear k3 kl
        obtain ⟨d0, d1, d2, d3, d4, df⟩ := five_of HX.out.2.2.1
        rw [decide_eq_true hm]
        go_wp2_with fail
        refine (payAt_any p.pa s.pn p.pc s.P y.id w2 (HV.out.1.py.below HX.out.2.2.2) (by have := HV.out.2.1.n; omega)).mono ?_
        rintro e w3 ⟨k, hk, rfl, hw3⟩
        rw [hw3]
        clear hw3
        have HH : Hid (HatR (fun j => (s.P j).id) s.pn y.id k) := hk
        have hkb := hat_hasB hk
        clear hk
        rw [hb] at hkb
        have hk0 : ¬ 0 ≤ k := of_decide_eq_false hkb
        clear hkb
        go_wp2_with fail
        have S0 : w2.drew.cell? ⟨w.heap.size, 2, none⟩ = some (.int .i64 s.b) ∧ w2.drew.cell? ⟨w.heap.size + 1, 1, none⟩ = some (.int .i64 1) ∧ w2.drew.cell? ⟨w.heap.size + 1, 2, none⟩ = some (.int .i64 y.am) := ⟨c2, k1, k2⟩
        refine wp_region_noPanic ?_
        refine wp_region_held_drew (S := fun u => u.cell? ⟨w.heap.size, 2, none⟩ = some (.int .i64 s.b) ∧ u.cell? ⟨w.heap.size + 1, 1, none⟩ = some (.int .i64 1) ∧ u.cell? ⟨w.heap.size + 1, 2, none⟩ = some (.int .i64 y.am)) (by kernel_rfl) S0 (fun hHeld => ?_)
        have HXd : Hid (w2.drew.heap[w.heap.size + 2]? = some (.cells #[.int .i64 0, .int .i64 0, .int .i64 0, .slice none 0 0, .slice none 0 0] 26 (0, 0)) ∧ Below w.heap.size w w2.drew) := ⟨HX.out.2.2.1, HX.out.2.2.2.drew⟩
        clear c0 c1 c2 c3 c4 cf k0 k1 k2 d0 d1 d2 d3 d4 df
        generalize w2.drew = Wd at *
        refine wpV 0 ⟨some 54, .fieldAddr 30 (.tmp 3) 1, 0, _, _, none⟩ rfl ?_
        try simp only [Act.put, sqA, sqB, sqC]
        refine wpV 1 ⟨some 55, .load 3 (.tmp 54), 3, _, _, none⟩ rfl ?_
        try simp only [Act.put, sqA, sqB, sqC]
        refine wpV 2 ⟨some 56, .fieldAddr 26 (.tmp 2) 1, 0, _, _, none⟩ rfl ?_
        try simp only [Act.put, sqA, sqB, sqC]
        refine wpV 3 ⟨some 57, .indexAddr 22 (.tmp 56) (.tmp 55), 0, _, _, none⟩ rfl ?_
        try simp only [Act.put, sqA, sqB, sqC]
        refine wpV 4 ⟨some 58, .load 3 (.tmp 57), 3, _, _, none⟩ rfl ?_
        try simp only [Act.put, sqA, sqB, sqC]
        refine wpV 5 ⟨some 59, .fieldAddr 30 (.tmp 3) 2, 0, _, _, none⟩ rfl ?_
        try simp only [Act.put, sqA, sqB, sqC]
        refine wpV 6 ⟨some 60, .load 3 (.tmp 59), 3, _, _, none⟩ rfl ?_
        try simp only [Act.put, sqA, sqB, sqC]
        refine wpV 7 ⟨some 61, .binOp .lss 3 (.tmp 58) (.tmp 60) 3, 4, _, _, none⟩ rfl ?_
        try simp only [Act.put, sqA, sqB, sqC]
        refine wpV 8 ⟨some 53, .assign (.tmp 61), 4, _, _, none⟩ rfl ?_
        try simp only [Act.put, sqA, sqB, sqC]
        refine wpAnyH_done (by kernel_rfl) (NoPanic.normal ?_) _
        try simp only [Act.put, sqA, sqB, sqC]
        clear hHeld S0
        obtain ⟨d0, d1, d2, d3, d4, df⟩ := five_of HXd.out.1
        go_wp2
        exact bodyPost_ret (results_R2 Tryz.results8 _ _ (w.heap.size + 2) 26 _ _ _ _ _ (0, 0) rfl (five_all HXd.out.1)) rfl ⟨by rw [HE.out]; rfl, five_below HXd.out.2 (by omega)⟩
    ·have HE : Hid (raE s f y = 1) := by show raE s f y = 1; unfold raE asideE; rw [if_neg (not_not_intro hr), if_neg (not_not_intro hf), if_neg hd, if_pos (by simp [hm])]
     clear hr hf
     rcases f01 with ⟨rfl, g0⟩ | ⟨rfl, g0, g1⟩
     all_goals
      go_wp2_with (first | (refine wpList_load_mid rfl 30 _ rfl (w.heap.size + 1) 0 rfl (pyl y) _ (pyv_range HX.out.2.1) Tryz.underlying30 rfl (szPrl _) ?_) | fail)
      refine (payMay_any y w1 HV.out.2.2).mono ?_
      rintro e w2 ⟨rfl, hb2⟩
      have HX2 : Hid (w2.heap[w.heap.size]? = some (.cells #[.int .i64 s.nu, .int .i64 s.a, .int .i64 s.b, .slice p.pa s.pn p.pc, .slice p.ha s.hn p.hc] 26 (0, 0)) ∧ w2.heap[w.heap.size + 1]? = some (.cells (pyv y) 30 (0, 0)) ∧ w2.heap[w.heap.size + 2]? = some (.cells #[.int .i64 0, .int .i64 0, .int .i64 0, .slice none 0 0, .slice none 0 0] 26 (0, 0)) ∧ Below w.heap.size w w2) := ⟨(hb2.block _ (lt_of_block HX.out.1)).trans HX.out.1, (hb2.block _ (lt_of_block HX.out.2.1)).trans HX.out.2.1, (hb2.block _ (lt_of_block HX.out.2.2.1)).trans HX.out.2.2.1, HX.out.2.2.2.trans (hb2.mono HX.out.2.2.2.size)⟩
      clear c0 c1 c2 c3 c4 cf k0 k1 k2 d0 d1 d2 d3 d4 df HX hb2
      have HX : Hid (w2.heap[w.heap.size]? = some (.cells #[.int .i64 s.nu, .int .i64 s.a, .int .i64 s.b, .slice p.pa s.pn p.pc, .slice p.ha s.hn p.hc] 26 (0, 0)) ∧ w2.heap[w.heap.size + 1]? = some (.cells (pyv y) 30 (0, 0)) ∧ w2.heap[w.heap.size + 2]? = some (.cells #[.int .i64 0, .int .i64 0, .int .i64 0, .slice none 0 0, .slice none 0 0] 26 (0, 0)) ∧ Below w.heap.size w w2) := HX2.out
      clear HX2
      obtain ⟨c0, c1, c2, c3, c4, cf⟩ := five_of HX.out.1
      obtain ⟨k0, k1, k2, k3, kl⟩ := pbox_of HX.out.2.1
      rw [HFR.out] at k1
      clear k3 kl
      obtain ⟨d0, d1, d2, d3, d4, df⟩ := five_of HX.out.2.2.1
      rw [decide_eq_false hm]
      go_wp2
      exact bodyPost_ret (results_R2 Tryz.results8 _ _ (w.heap.size + 2) 26 _ _ _ _ _ (0, 0) rfl (five_all HX.out.2.2.1)) rfl ⟨by rw [HE.out]; rfl, five_below HX.out.2.2.2 (by omega)⟩
  ·have HE : Hid (raE s f y = 33) := by show raE s f y = 33; unfold raE asideE; rw [if_neg (not_not_intro hr), if_pos hf]
   have g0 : ¬ f = 0 := fun h => hf (.inl h)
   have g1 : ¬ f = 1 := fun h => hf (.inr h)
   have f0 : (f != 0) = true := by simpa using g0
   have f1 : (f != 1) = true := by simpa using g1
   clear g0 g1 hr hf
   go_wp2
   exact bodyPost_ret (results_R2 Tryz.results8 _ _ (w.heap.size + 2) 26 _ _ _ _ _ (0, 0) rfl (five_all HX.out.2.2.1)) rfl ⟨by rw [HE.out]; rfl, five_below HX.out.2.2.2 (by omega)⟩
 ·have HE : Hid (raE s f y = 1) := by show raE s f y = 1; unfold raE asideE; rw [if_pos hr]
  rw [decide_eq_false hr]
  clear hr
  go_wp2
  exact bodyPost_ret (results_R2 Tryz.results8 _ _ (w.heap.size + 2) 26 _ _ _ _ _ (0, 0) rfl (five_all HX.out.2.2.1)) rfl ⟨by rw [HE.out]; rfl, five_below HX.out.2.2.2 (by omega)⟩
end Go.Proofs.YtoefgfiabfkfaaaGreatDoor
