/- The document's Keep where it answers an error. -/
import Derived.Test.YtjlobimncpiacaaDoorOwnShelf45
import Derived.Test.YtjlobimncpiacaaDoorOwnShelf25
namespace Go.Proofs.YtjlobimncpiacaaDoor
open Go.RowKit

theorem three_boxesR (w : World) (s : Sv) (p : Pl) (y : Hd) (ka : Option Addr) (kc : Nat) : ∃ W0, W0 = ((w.alloc (.cells (svv s p) 26)).alloc (.cells (hdv y ka kc) 29)).alloc (.cells #[.int .i64 0, .int .i64 0, .int .i64 0, .slice none 0 0, .slice none 0 0] 26) ∧ W0.heap[w.heap.size]? = some (.cells (svv s p) 26 (0, 0)) ∧ W0.heap[w.heap.size + 1]? = some (.cells (hdv y ka kc) 29 (0, 0)) ∧ W0.heap[w.heap.size + 2]? = some (.cells #[.int .i64 0, .int .i64 0, .int .i64 0, .slice none 0 0, .slice none 0 0] 26 (0, 0)) ∧ W0.heap.size = w.heap.size + 3 ∧ Below w.heap.size w W0 := by
  refine ⟨_, rfl, ?_, ?_, ?_, by simp, (three_new w _ _ _).2⟩
  · rw [Below.heap_alloc _ _ _ (by simp; omega), Below.heap_alloc _ _ _ (by simp)]; exact heap_alloc_new w _
  · rw [Below.heap_alloc _ _ _ (by simp)]
    have := heap_alloc_new (w.alloc (.cells (svv s p) 26)) (.cells (hdv y ka kc) 29)
    simpa using this
  · have := heap_alloc_new ((w.alloc (.cells (svv s p) 26)).alloc (.cells (hdv y ka kc) 29)) (.cells #[.int .i64 0, .int .i64 0, .int .i64 0, .slice none 0 0, .slice none 0 0] 26)
    have e2 : ((w.alloc (.cells (svv s p) 26)).alloc (.cells (hdv y ka kc) 29)).heap.size = w.heap.size + 2 := by simp
    rw [e2] at this
    exact this
/-- Is a number there. -/
def hasB (f : Nat → Int) (n : Nat) (x : Int) : Bool := !decide (∀ j, j < n → f j ≠ x)
theorem hat_hasB {f : Nat → Int} {n : Nat} {x k : Int} (h : HatR f n x k) : decide (0 ≤ k) = hasB f n x := by
  rcases h with ⟨rfl, h⟩ | ⟨i, rfl, hi, he, _⟩
  · have : hasB f n x = false := by unfold hasB; rw [decide_eq_true h]; rfl
    rw [this]; rfl
  · have : hasB f n x = true := by unfold hasB; rw [decide_eq_false (fun h => h i hi he)]; rfl
    rw [this]; exact decide_eq_true (by omega)
/-- The error of the document's Keep. -/
def rkE (s : Sv) (f : Int) (y : Hd) : Int := asideE s f y.am (decide (HMay y)) (hasB (fun j => (s.H j).id) s.hn y.id)
set_option maxRecDepth 100000 in
set_option maxHeartbeats 6400000 in
theorem rkeep_bad (s : Sv) (p : Pl) (f : Int) (y : Hd) (ka : Option Addr) (kc : Nat) (w : World) (h : SvAt w s p) (hs : s.Small) (hI : IsAt w ka y.n y.z) (hkn : ka = none → y.n = 0 ∧ kc = 0) (hyn : y.n ≤ 1000000) (hne : rkE s f y ≠ 0) :
    Calls Tryd.prog 9 #[.agg (svv s p), .int .i64 f, .agg (hdv y ka kc)] w fun e w' => e = .returned (.tuple #[.agg #[.int .i64 0, .int .i64 0, .int .i64 0, .slice none 0 0, .slice none 0 0], .int .i64 (rkE s f y)]) ∧ Below w.heap.size w w' := by
  have HNE : Hid (rkE s f y ≠ 0) := hne
  clear hne
  obtain ⟨W0, hW0, r0, r1, r2, hsz, hb0⟩ := three_boxesR w s p y ka kc
  have HV : Hid (SvAt w s p ∧ s.Small ∧ IsAt w ka y.n y.z ∧ (ka = none → y.n = 0 ∧ kc = 0) ∧ y.n ≤ 1000000) := ⟨h, hs, hI, hkn, hyn⟩
  have hc := right_any s p W0 (h.below hb0) hs
  have HX0 : Hid (W0.heap[w.heap.size]? = some (.cells (svv s p) 26 (0, 0)) ∧ W0.heap[w.heap.size + 1]? = some (.cells (hdv y ka kc) 29 (0, 0)) ∧ W0.heap[w.heap.size + 2]? = some (.cells #[.int .i64 0, .int .i64 0, .int .i64 0, .slice none 0 0, .slice none 0 0] 26 (0, 0)) ∧ W0.heap.size = w.heap.size + 3 ∧ Below w.heap.size w W0) := ⟨r0, r1, r2, hsz, hb0⟩
  clear h hs hI hkn hyn r0 r1 r2 hsz hb0
  subst hW0
  unfold svv hdv at hc HX0 ⊢
  go_enter Tryd.func9, Tryd.ntmps9
  go_wp2_with fail
  generalize ((w.alloc (.cells #[.int .i64 s.nu, .int .i64 s.a, .int .i64 s.b, .slice p.pa s.pn p.pc, .slice p.ha s.hn p.hc] 26)).alloc (.cells #[.int .i64 y.id, .int .i64 y.am, .slice ka y.n kc] 29)).alloc (.cells #[.int .i64 0, .int .i64 0, .int .i64 0, .slice none 0 0, .slice none 0 0] 26) = W0 at *
  (try rw [show w.heap.size + 1 + 1 = w.heap.size + 2 from rfl])
  refine hc.mono ?_
  rintro e w1 ⟨rfl, hb1⟩
  have HX : Hid (w1.heap[w.heap.size]? = some (.cells #[.int .i64 s.nu, .int .i64 s.a, .int .i64 s.b, .slice p.pa s.pn p.pc, .slice p.ha s.hn p.hc] 26 (0, 0)) ∧ w1.heap[w.heap.size + 1]? = some (.cells #[.int .i64 y.id, .int .i64 y.am, .slice ka y.n kc] 29 (0, 0)) ∧ w1.heap[w.heap.size + 2]? = some (.cells #[.int .i64 0, .int .i64 0, .int .i64 0, .slice none 0 0, .slice none 0 0] 26 (0, 0)) ∧ Below w.heap.size w w1) := ⟨(hb1.block _ (lt_of_block HX0.out.1)).trans HX0.out.1, (hb1.block _ (lt_of_block HX0.out.2.1)).trans HX0.out.2.1, (hb1.block _ (lt_of_block HX0.out.2.2.1)).trans HX0.out.2.2.1, HX0.out.2.2.2.2.trans (hb1.mono HX0.out.2.2.2.2.size)⟩
  clear hc hb1 HX0
  obtain ⟨c0, c1, c2, c3, c4, cf⟩ := five_of HX.out.1
  obtain ⟨k0, k1, k2⟩ := hd_new (x := y) HX.out.2.1 rfl
  obtain ⟨d0, d1, d2, d3, d4, df⟩ := five_of HX.out.2.2.1
  by_cases hr : Rgt s
  · rw [decide_eq_true hr]
    have hn8 : s.pn + s.hn ≤ 8 := hr.1.2.1.1
    by_cases hf : Side f
    · have HF : Hid (Side f) := hf
      have f01 : (f = 0 ∧ (f != 0) = false) ∨ (f = 1 ∧ (f != 0) = true ∧ (f != 1) = false) := by
        rcases hf with rfl | rfl
        · exact .inl ⟨rfl, rfl⟩
        · exact .inr ⟨rfl, rfl, rfl⟩
      by_cases hd : y.am < 10
      · have HE : Hid (rkE s f y = 27) := by show rkE s f y = 27; unfold rkE asideE; rw [if_neg (not_not_intro hr), if_neg (not_not_intro hf), if_pos hd]
        clear hr hf
        rcases f01 with ⟨rfl, g0⟩ | ⟨rfl, g0, g1⟩ <;> (go_wp2; exact bodyPost_ret (results_R2 Tryd.results9 _ _ (w.heap.size + 2) 26 _ _ _ _ _ (0, 0) rfl (five_all HX.out.2.2.1)) rfl ⟨by rw [HE.out]; rfl, five_below HX.out.2.2.2 (by omega)⟩)
      · by_cases hm : HMay y
        · cases hb : hasB (fun j => (s.H j).id) s.hn y.id with
          | true =>
            have HE : Hid (rkE s f y = 9) := by show rkE s f y = 9; unfold rkE asideE; rw [if_neg (not_not_intro hr), if_neg (not_not_intro hf), if_neg hd, if_neg (by simp [hm]), if_pos hb]
            clear hr hf
            rcases f01 with ⟨rfl, g0⟩ | ⟨rfl, g0, g1⟩
            all_goals
              go_wp2_with fail
              refine (holdMay_any y ka kc w1 (HV.out.2.2.1.below HX.out.2.2.2) HV.out.2.2.2.2).mono ?_
              rintro e w2 ⟨rfl, hb2⟩
              have HX2 : Hid (w2.heap[w.heap.size]? = some (.cells #[.int .i64 s.nu, .int .i64 s.a, .int .i64 s.b, .slice p.pa s.pn p.pc, .slice p.ha s.hn p.hc] 26 (0, 0)) ∧ w2.heap[w.heap.size + 1]? = some (.cells #[.int .i64 y.id, .int .i64 y.am, .slice ka y.n kc] 29 (0, 0)) ∧ w2.heap[w.heap.size + 2]? = some (.cells #[.int .i64 0, .int .i64 0, .int .i64 0, .slice none 0 0, .slice none 0 0] 26 (0, 0)) ∧ Below w.heap.size w w2) := ⟨(hb2.block _ (lt_of_block HX.out.1)).trans HX.out.1, (hb2.block _ (lt_of_block HX.out.2.1)).trans HX.out.2.1, (hb2.block _ (lt_of_block HX.out.2.2.1)).trans HX.out.2.2.1, HX.out.2.2.2.trans (hb2.mono HX.out.2.2.2.size)⟩
              clear c0 c1 c2 c3 c4 cf k0 k1 k2 d0 d1 d2 d3 d4 df HX hb2
              have HX : Hid (w2.heap[w.heap.size]? = some (.cells #[.int .i64 s.nu, .int .i64 s.a, .int .i64 s.b, .slice p.pa s.pn p.pc, .slice p.ha s.hn p.hc] 26 (0, 0)) ∧ w2.heap[w.heap.size + 1]? = some (.cells #[.int .i64 y.id, .int .i64 y.am, .slice ka y.n kc] 29 (0, 0)) ∧ w2.heap[w.heap.size + 2]? = some (.cells #[.int .i64 0, .int .i64 0, .int .i64 0, .slice none 0 0, .slice none 0 0] 26 (0, 0)) ∧ Below w.heap.size w w2) := HX2.out
              clear HX2
              obtain ⟨c0, c1, c2, c3, c4, cf⟩ := five_of HX.out.1
              obtain ⟨k0, k1, k2⟩ := hd_new (x := y) HX.out.2.1 rfl
              obtain ⟨d0, d1, d2, d3, d4, df⟩ := five_of HX.out.2.2.1
              rw [decide_eq_true hm]
              go_wp2_with fail
              refine (holdAt_any p.ha s.hn p.hc s.H y.id w2 (HV.out.1.hd.below HX.out.2.2.2) (by have := HV.out.2.1.n; omega)).mono ?_
              rintro e w3 ⟨k, hk, rfl, hw3⟩
              rw [hw3]
              clear hw3
              have HH : Hid (HatR (fun j => (s.H j).id) s.hn y.id k) := hk
              have hkb := hat_hasB hk
              clear hk
              rw [hb] at hkb
              have hk0 : 0 ≤ k := of_decide_eq_true hkb
              clear hkb
              go_wp2
              exact bodyPost_ret (results_R2 Tryd.results9 _ _ (w.heap.size + 2) 26 _ _ _ _ _ (0, 0) rfl (five_all HX.out.2.2.1)) rfl ⟨by rw [HE.out]; rfl, five_below HX.out.2.2.2 (by omega)⟩
          | false =>
            by_cases h8 : 8 ≤ s.pn + s.hn
            · have HE : Hid (rkE s f y = 30) := by show rkE s f y = 30; unfold rkE asideE; rw [if_neg (not_not_intro hr), if_neg (not_not_intro hf), if_neg hd, if_neg (by simp [hm]), if_neg (by simp [hb]), if_pos h8]
              have h8' : (7 : Int) < (s.pn : Int) + (s.hn : Int) := by omega
              have ew : wrap64 ((s.pn : Int) + (s.hn : Int)) = (s.pn : Int) + (s.hn : Int) := by simp [wrap64]; omega
              clear hr hf
              rcases f01 with ⟨rfl, g0⟩ | ⟨rfl, g0, g1⟩
              all_goals
                go_wp2_with fail
                refine (holdMay_any y ka kc w1 (HV.out.2.2.1.below HX.out.2.2.2) HV.out.2.2.2.2).mono ?_
                rintro e w2 ⟨rfl, hb2⟩
                have HX2 : Hid (w2.heap[w.heap.size]? = some (.cells #[.int .i64 s.nu, .int .i64 s.a, .int .i64 s.b, .slice p.pa s.pn p.pc, .slice p.ha s.hn p.hc] 26 (0, 0)) ∧ w2.heap[w.heap.size + 1]? = some (.cells #[.int .i64 y.id, .int .i64 y.am, .slice ka y.n kc] 29 (0, 0)) ∧ w2.heap[w.heap.size + 2]? = some (.cells #[.int .i64 0, .int .i64 0, .int .i64 0, .slice none 0 0, .slice none 0 0] 26 (0, 0)) ∧ Below w.heap.size w w2) := ⟨(hb2.block _ (lt_of_block HX.out.1)).trans HX.out.1, (hb2.block _ (lt_of_block HX.out.2.1)).trans HX.out.2.1, (hb2.block _ (lt_of_block HX.out.2.2.1)).trans HX.out.2.2.1, HX.out.2.2.2.trans (hb2.mono HX.out.2.2.2.size)⟩
                clear c0 c1 c2 c3 c4 cf k0 k1 k2 d0 d1 d2 d3 d4 df HX hb2
                have HX : Hid (w2.heap[w.heap.size]? = some (.cells #[.int .i64 s.nu, .int .i64 s.a, .int .i64 s.b, .slice p.pa s.pn p.pc, .slice p.ha s.hn p.hc] 26 (0, 0)) ∧ w2.heap[w.heap.size + 1]? = some (.cells #[.int .i64 y.id, .int .i64 y.am, .slice ka y.n kc] 29 (0, 0)) ∧ w2.heap[w.heap.size + 2]? = some (.cells #[.int .i64 0, .int .i64 0, .int .i64 0, .slice none 0 0, .slice none 0 0] 26 (0, 0)) ∧ Below w.heap.size w w2) := HX2.out
                clear HX2
                obtain ⟨c0, c1, c2, c3, c4, cf⟩ := five_of HX.out.1
                obtain ⟨k0, k1, k2⟩ := hd_new (x := y) HX.out.2.1 rfl
                obtain ⟨d0, d1, d2, d3, d4, df⟩ := five_of HX.out.2.2.1
                rw [decide_eq_true hm]
                go_wp2_with fail
                refine (holdAt_any p.ha s.hn p.hc s.H y.id w2 (HV.out.1.hd.below HX.out.2.2.2) (by have := HV.out.2.1.n; omega)).mono ?_
                rintro e w3 ⟨k, hk, rfl, hw3⟩
                rw [hw3]
                clear hw3
                have HH : Hid (HatR (fun j => (s.H j).id) s.hn y.id k) := hk
                have hkb := hat_hasB hk
                clear hk
                rw [hb] at hkb
                have hk0 : ¬ 0 ≤ k := of_decide_eq_false hkb
                clear hkb
                go_wp2
                exact bodyPost_ret (results_R2 Tryd.results9 _ _ (w.heap.size + 2) 26 _ _ _ _ _ (0, 0) rfl (five_all HX.out.2.2.1)) rfl ⟨by rw [HE.out]; rfl, five_below HX.out.2.2.2 (by omega)⟩
            · have hh : has s f < y.am := by
                refine Decidable.byContradiction fun hh => HNE.out ?_
                unfold rkE asideE
                rw [if_neg (not_not_intro hr), if_neg (not_not_intro hf), if_neg hd, if_neg (by simp [hm]), if_neg (by simp [hb]), if_neg h8, if_neg hh]
              have HE : Hid (rkE s f y = 20) := by show rkE s f y = 20; unfold rkE asideE; rw [if_neg (not_not_intro hr), if_neg (not_not_intro hf), if_neg hd, if_neg (by simp [hm]), if_neg (by simp [hb]), if_neg h8, if_pos hh]
              have h8' : ¬ (7 : Int) < (s.pn : Int) + (s.hn : Int) := by omega
              have ew : wrap64 ((s.pn : Int) + (s.hn : Int)) = (s.pn : Int) + (s.hn : Int) := by simp [wrap64]; omega
              clear hr hf
              rcases f01 with ⟨rfl, g0⟩ | ⟨rfl, g0, g1⟩
              · have hh' : s.a < y.am := hh
                clear hh
                go_wp2_with fail
                refine (holdMay_any y ka kc w1 (HV.out.2.2.1.below HX.out.2.2.2) HV.out.2.2.2.2).mono ?_
                rintro e w2 ⟨rfl, hb2⟩
                have HX2 : Hid (w2.heap[w.heap.size]? = some (.cells #[.int .i64 s.nu, .int .i64 s.a, .int .i64 s.b, .slice p.pa s.pn p.pc, .slice p.ha s.hn p.hc] 26 (0, 0)) ∧ w2.heap[w.heap.size + 1]? = some (.cells #[.int .i64 y.id, .int .i64 y.am, .slice ka y.n kc] 29 (0, 0)) ∧ w2.heap[w.heap.size + 2]? = some (.cells #[.int .i64 0, .int .i64 0, .int .i64 0, .slice none 0 0, .slice none 0 0] 26 (0, 0)) ∧ Below w.heap.size w w2) := ⟨(hb2.block _ (lt_of_block HX.out.1)).trans HX.out.1, (hb2.block _ (lt_of_block HX.out.2.1)).trans HX.out.2.1, (hb2.block _ (lt_of_block HX.out.2.2.1)).trans HX.out.2.2.1, HX.out.2.2.2.trans (hb2.mono HX.out.2.2.2.size)⟩
                clear c0 c1 c2 c3 c4 cf k0 k1 k2 d0 d1 d2 d3 d4 df HX hb2
                have HX : Hid (w2.heap[w.heap.size]? = some (.cells #[.int .i64 s.nu, .int .i64 s.a, .int .i64 s.b, .slice p.pa s.pn p.pc, .slice p.ha s.hn p.hc] 26 (0, 0)) ∧ w2.heap[w.heap.size + 1]? = some (.cells #[.int .i64 y.id, .int .i64 y.am, .slice ka y.n kc] 29 (0, 0)) ∧ w2.heap[w.heap.size + 2]? = some (.cells #[.int .i64 0, .int .i64 0, .int .i64 0, .slice none 0 0, .slice none 0 0] 26 (0, 0)) ∧ Below w.heap.size w w2) := HX2.out
                clear HX2
                obtain ⟨c0, c1, c2, c3, c4, cf⟩ := five_of HX.out.1
                obtain ⟨k0, k1, k2⟩ := hd_new (x := y) HX.out.2.1 rfl
                obtain ⟨d0, d1, d2, d3, d4, df⟩ := five_of HX.out.2.2.1
                rw [decide_eq_true hm]
                go_wp2_with fail
                refine (holdAt_any p.ha s.hn p.hc s.H y.id w2 (HV.out.1.hd.below HX.out.2.2.2) (by have := HV.out.2.1.n; omega)).mono ?_
                rintro e w3 ⟨k, hk, rfl, hw3⟩
                rw [hw3]
                clear hw3
                have HH : Hid (HatR (fun j => (s.H j).id) s.hn y.id k) := hk
                have hkb := hat_hasB hk
                clear hk
                rw [hb] at hkb
                have hk0 : ¬ 0 ≤ k := of_decide_eq_false hkb
                clear hkb
                go_wp2_with fail
                have S0 : w2.drew.cell? ⟨w.heap.size, 1, none⟩ = some (.int .i64 s.a) ∧ w2.drew.cell? ⟨w.heap.size + 1, 1, none⟩ = some (.int .i64 y.am) := ⟨c1, k1⟩
                refine wp_region_noPanic ?_
                refine wp_region_held_drew (S := fun u => u.cell? ⟨w.heap.size, 1, none⟩ = some (.int .i64 s.a) ∧ u.cell? ⟨w.heap.size + 1, 1, none⟩ = some (.int .i64 y.am)) (by kernel_rfl) S0 (fun hHeld => ?_)
                have HXd : Hid (w2.drew.heap[w.heap.size + 2]? = some (.cells #[.int .i64 0, .int .i64 0, .int .i64 0, .slice none 0 0, .slice none 0 0] 26 (0, 0)) ∧ Below w.heap.size w w2.drew) := ⟨HX.out.2.2.1, HX.out.2.2.2.drew⟩
                clear c0 c1 c2 c3 c4 cf k0 k1 k2 d0 d1 d2 d3 d4 df
                generalize w2.drew = Wd at *
                refine wpAnyH_take (i := 0) (oi := { dst := some 54, op := Go.Op.move (Go.Operand.tmp 1), type := 3, pos := "ref.go:242", after := #[], guard := none }) (v := ?_) rfl (by kernel_rfl) (by kernel_rfl) (by kernel_rfl) (fun _ _ _ h => h) (Or.inl ⟨by rfl, ?_⟩) (by assumption) ?_
                rotate_left
                · intro wz hSw; (try dsimp only at hSw); go_simp; (try with_reducible rfl)
                try simp only [Act.put, List.setIfInBounds_toArray, List.set_cons_zero, List.set_cons_succ]
                refine wpAnyH_take (i := 1) (oi := { dst := some 55, op := Go.Op.fieldAddr 26 (Go.Operand.tmp 3) 1, type := 0, pos := "ref.go:242", after := #[], guard := none }) (v := ?_) rfl (by kernel_rfl) (by kernel_rfl) (by kernel_rfl) (fun _ _ _ h => h) (Or.inl ⟨by rfl, ?_⟩) (by assumption) ?_
                rotate_left
                · intro wz hSw; (try dsimp only at hSw); go_simp; (try with_reducible rfl)
                try simp only [Act.put, List.setIfInBounds_toArray, List.set_cons_zero, List.set_cons_succ]
                refine wpAnyH_take (i := 2) (oi := { dst := some 56, op := Go.Op.indexAddr 22 (Go.Operand.tmp 55) (Go.Operand.tmp 54), type := 0, pos := "ref.go:242", after := #[{ on := 1, ground := Go.Ground.data }, { on := 0, ground := Go.Ground.data }], guard := none }) (v := ?_) rfl (by kernel_rfl) (by kernel_rfl) (by kernel_rfl) (fun _ _ _ h => h) (Or.inl ⟨by rfl, ?_⟩) (by assumption) ?_
                rotate_left
                · intro wz hSw; (try dsimp only at hSw); go_simp; (try with_reducible rfl)
                try simp only [Act.put, List.setIfInBounds_toArray, List.set_cons_zero, List.set_cons_succ]
                refine wpAnyH_take (i := 3) (oi := { dst := some 57, op := Go.Op.load 3 (Go.Operand.tmp 56), type := 3, pos := "ref.go:242", after := #[{ on := 2, ground := Go.Ground.data }], guard := none }) (v := ?_) rfl (by kernel_rfl) (by kernel_rfl) (by kernel_rfl) (fun _ _ _ h => h) (Or.inl ⟨by rfl, ?_⟩) (by assumption) ?_
                rotate_left
                · intro wz hSw; (try dsimp only at hSw); go_simp; (try with_reducible rfl)
                try simp only [Act.put, List.setIfInBounds_toArray, List.set_cons_zero, List.set_cons_succ]
                refine wpAnyH_take (i := 4) (oi := { dst := some 58, op := Go.Op.fieldAddr 29 (Go.Operand.tmp 5) 1, type := 0, pos := "ref.go:242", after := #[], guard := none }) (v := ?_) rfl (by kernel_rfl) (by kernel_rfl) (by kernel_rfl) (fun _ _ _ h => h) (Or.inl ⟨by rfl, ?_⟩) (by assumption) ?_
                rotate_left
                · intro wz hSw; (try dsimp only at hSw); go_simp; (try with_reducible rfl)
                try simp only [Act.put, List.setIfInBounds_toArray, List.set_cons_zero, List.set_cons_succ]
                refine wpAnyH_take (i := 5) (oi := { dst := some 59, op := Go.Op.load 3 (Go.Operand.tmp 58), type := 3, pos := "ref.go:242", after := #[{ on := 4, ground := Go.Ground.data }], guard := none }) (v := ?_) rfl (by kernel_rfl) (by kernel_rfl) (by kernel_rfl) (fun _ _ _ h => h) (Or.inl ⟨by rfl, ?_⟩) (by assumption) ?_
                rotate_left
                · intro wz hSw; (try dsimp only at hSw); go_simp; (try with_reducible rfl)
                try simp only [Act.put, List.setIfInBounds_toArray, List.set_cons_zero, List.set_cons_succ]
                refine wpAnyH_take (i := 6) (oi := { dst := some 60, op := Go.Op.binOp Go.BinOp.lss 3 (Go.Operand.tmp 57) (Go.Operand.tmp 59) 3, type := 4, pos := "ref.go:242", after := #[{ on := 3, ground := Go.Ground.data }, { on := 5, ground := Go.Ground.data }], guard := none }) (v := ?_) rfl (by kernel_rfl) (by kernel_rfl) (by kernel_rfl) (fun _ _ _ h => h) (Or.inl ⟨by rfl, ?_⟩) (by assumption) ?_
                rotate_left
                · intro wz hSw; (try dsimp only at hSw); go_simp; (try with_reducible rfl)
                try simp only [Act.put, List.setIfInBounds_toArray, List.set_cons_zero, List.set_cons_succ]
                refine wpAnyH_take (i := 7) (oi := { dst := some 53, op := Go.Op.assign (Go.Operand.tmp 60), type := 4, pos := "ref.go:242", after := #[{ on := 6, ground := Go.Ground.data }], guard := none }) (v := ?_) rfl (by kernel_rfl) (by kernel_rfl) (by kernel_rfl) (fun _ _ _ h => h) (Or.inl ⟨by rfl, ?_⟩) (by assumption) ?_
                rotate_left
                · intro wz hSw; (try dsimp only at hSw); go_simp; (try with_reducible rfl)
                try simp only [Act.put, List.setIfInBounds_toArray, List.set_cons_zero, List.set_cons_succ]
                refine wpAnyH_done (by kernel_rfl) (NoPanic.normal ?_) _
                try simp only [Act.put, List.setIfInBounds_toArray, List.set_cons_zero, List.set_cons_succ]
                clear hHeld S0
                obtain ⟨d0, d1, d2, d3, d4, df⟩ := five_of HXd.out.1
                go_wp2
                exact bodyPost_ret (results_R2 Tryd.results9 _ _ (w.heap.size + 2) 26 _ _ _ _ _ (0, 0) rfl (five_all HXd.out.1)) rfl ⟨by rw [HE.out]; rfl, five_below HXd.out.2 (by omega)⟩
              · have hh' : s.b < y.am := hh
                clear hh
                go_wp2_with fail
                refine (holdMay_any y ka kc w1 (HV.out.2.2.1.below HX.out.2.2.2) HV.out.2.2.2.2).mono ?_
                rintro e w2 ⟨rfl, hb2⟩
                have HX2 : Hid (w2.heap[w.heap.size]? = some (.cells #[.int .i64 s.nu, .int .i64 s.a, .int .i64 s.b, .slice p.pa s.pn p.pc, .slice p.ha s.hn p.hc] 26 (0, 0)) ∧ w2.heap[w.heap.size + 1]? = some (.cells #[.int .i64 y.id, .int .i64 y.am, .slice ka y.n kc] 29 (0, 0)) ∧ w2.heap[w.heap.size + 2]? = some (.cells #[.int .i64 0, .int .i64 0, .int .i64 0, .slice none 0 0, .slice none 0 0] 26 (0, 0)) ∧ Below w.heap.size w w2) := ⟨(hb2.block _ (lt_of_block HX.out.1)).trans HX.out.1, (hb2.block _ (lt_of_block HX.out.2.1)).trans HX.out.2.1, (hb2.block _ (lt_of_block HX.out.2.2.1)).trans HX.out.2.2.1, HX.out.2.2.2.trans (hb2.mono HX.out.2.2.2.size)⟩
                clear c0 c1 c2 c3 c4 cf k0 k1 k2 d0 d1 d2 d3 d4 df HX hb2
                have HX : Hid (w2.heap[w.heap.size]? = some (.cells #[.int .i64 s.nu, .int .i64 s.a, .int .i64 s.b, .slice p.pa s.pn p.pc, .slice p.ha s.hn p.hc] 26 (0, 0)) ∧ w2.heap[w.heap.size + 1]? = some (.cells #[.int .i64 y.id, .int .i64 y.am, .slice ka y.n kc] 29 (0, 0)) ∧ w2.heap[w.heap.size + 2]? = some (.cells #[.int .i64 0, .int .i64 0, .int .i64 0, .slice none 0 0, .slice none 0 0] 26 (0, 0)) ∧ Below w.heap.size w w2) := HX2.out
                clear HX2
                obtain ⟨c0, c1, c2, c3, c4, cf⟩ := five_of HX.out.1
                obtain ⟨k0, k1, k2⟩ := hd_new (x := y) HX.out.2.1 rfl
                obtain ⟨d0, d1, d2, d3, d4, df⟩ := five_of HX.out.2.2.1
                rw [decide_eq_true hm]
                go_wp2_with fail
                refine (holdAt_any p.ha s.hn p.hc s.H y.id w2 (HV.out.1.hd.below HX.out.2.2.2) (by have := HV.out.2.1.n; omega)).mono ?_
                rintro e w3 ⟨k, hk, rfl, hw3⟩
                rw [hw3]
                clear hw3
                have HH : Hid (HatR (fun j => (s.H j).id) s.hn y.id k) := hk
                have hkb := hat_hasB hk
                clear hk
                rw [hb] at hkb
                have hk0 : ¬ 0 ≤ k := of_decide_eq_false hkb
                clear hkb
                go_wp2_with fail
                have S0 : w2.drew.cell? ⟨w.heap.size, 2, none⟩ = some (.int .i64 s.b) ∧ w2.drew.cell? ⟨w.heap.size + 1, 1, none⟩ = some (.int .i64 y.am) := ⟨c2, k1⟩
                refine wp_region_noPanic ?_
                refine wp_region_held_drew (S := fun u => u.cell? ⟨w.heap.size, 2, none⟩ = some (.int .i64 s.b) ∧ u.cell? ⟨w.heap.size + 1, 1, none⟩ = some (.int .i64 y.am)) (by kernel_rfl) S0 (fun hHeld => ?_)
                have HXd : Hid (w2.drew.heap[w.heap.size + 2]? = some (.cells #[.int .i64 0, .int .i64 0, .int .i64 0, .slice none 0 0, .slice none 0 0] 26 (0, 0)) ∧ Below w.heap.size w w2.drew) := ⟨HX.out.2.2.1, HX.out.2.2.2.drew⟩
                clear c0 c1 c2 c3 c4 cf k0 k1 k2 d0 d1 d2 d3 d4 df
                generalize w2.drew = Wd at *
                refine wpAnyH_take (i := 0) (oi := { dst := some 54, op := Go.Op.move (Go.Operand.tmp 1), type := 3, pos := "ref.go:242", after := #[], guard := none }) (v := ?_) rfl (by kernel_rfl) (by kernel_rfl) (by kernel_rfl) (fun _ _ _ h => h) (Or.inl ⟨by rfl, ?_⟩) (by assumption) ?_
                rotate_left
                · intro wz hSw; (try dsimp only at hSw); go_simp; (try with_reducible rfl)
                try simp only [Act.put, List.setIfInBounds_toArray, List.set_cons_zero, List.set_cons_succ]
                refine wpAnyH_take (i := 1) (oi := { dst := some 55, op := Go.Op.fieldAddr 26 (Go.Operand.tmp 3) 1, type := 0, pos := "ref.go:242", after := #[], guard := none }) (v := ?_) rfl (by kernel_rfl) (by kernel_rfl) (by kernel_rfl) (fun _ _ _ h => h) (Or.inl ⟨by rfl, ?_⟩) (by assumption) ?_
                rotate_left
                · intro wz hSw; (try dsimp only at hSw); go_simp; (try with_reducible rfl)
                try simp only [Act.put, List.setIfInBounds_toArray, List.set_cons_zero, List.set_cons_succ]
                refine wpAnyH_take (i := 2) (oi := { dst := some 56, op := Go.Op.indexAddr 22 (Go.Operand.tmp 55) (Go.Operand.tmp 54), type := 0, pos := "ref.go:242", after := #[{ on := 1, ground := Go.Ground.data }, { on := 0, ground := Go.Ground.data }], guard := none }) (v := ?_) rfl (by kernel_rfl) (by kernel_rfl) (by kernel_rfl) (fun _ _ _ h => h) (Or.inl ⟨by rfl, ?_⟩) (by assumption) ?_
                rotate_left
                · intro wz hSw; (try dsimp only at hSw); go_simp; (try with_reducible rfl)
                try simp only [Act.put, List.setIfInBounds_toArray, List.set_cons_zero, List.set_cons_succ]
                refine wpAnyH_take (i := 3) (oi := { dst := some 57, op := Go.Op.load 3 (Go.Operand.tmp 56), type := 3, pos := "ref.go:242", after := #[{ on := 2, ground := Go.Ground.data }], guard := none }) (v := ?_) rfl (by kernel_rfl) (by kernel_rfl) (by kernel_rfl) (fun _ _ _ h => h) (Or.inl ⟨by rfl, ?_⟩) (by assumption) ?_
                rotate_left
                · intro wz hSw; (try dsimp only at hSw); go_simp; (try with_reducible rfl)
                try simp only [Act.put, List.setIfInBounds_toArray, List.set_cons_zero, List.set_cons_succ]
                refine wpAnyH_take (i := 4) (oi := { dst := some 58, op := Go.Op.fieldAddr 29 (Go.Operand.tmp 5) 1, type := 0, pos := "ref.go:242", after := #[], guard := none }) (v := ?_) rfl (by kernel_rfl) (by kernel_rfl) (by kernel_rfl) (fun _ _ _ h => h) (Or.inl ⟨by rfl, ?_⟩) (by assumption) ?_
                rotate_left
                · intro wz hSw; (try dsimp only at hSw); go_simp; (try with_reducible rfl)
                try simp only [Act.put, List.setIfInBounds_toArray, List.set_cons_zero, List.set_cons_succ]
                refine wpAnyH_take (i := 5) (oi := { dst := some 59, op := Go.Op.load 3 (Go.Operand.tmp 58), type := 3, pos := "ref.go:242", after := #[{ on := 4, ground := Go.Ground.data }], guard := none }) (v := ?_) rfl (by kernel_rfl) (by kernel_rfl) (by kernel_rfl) (fun _ _ _ h => h) (Or.inl ⟨by rfl, ?_⟩) (by assumption) ?_
                rotate_left
                · intro wz hSw; (try dsimp only at hSw); go_simp; (try with_reducible rfl)
                try simp only [Act.put, List.setIfInBounds_toArray, List.set_cons_zero, List.set_cons_succ]
                refine wpAnyH_take (i := 6) (oi := { dst := some 60, op := Go.Op.binOp Go.BinOp.lss 3 (Go.Operand.tmp 57) (Go.Operand.tmp 59) 3, type := 4, pos := "ref.go:242", after := #[{ on := 3, ground := Go.Ground.data }, { on := 5, ground := Go.Ground.data }], guard := none }) (v := ?_) rfl (by kernel_rfl) (by kernel_rfl) (by kernel_rfl) (fun _ _ _ h => h) (Or.inl ⟨by rfl, ?_⟩) (by assumption) ?_
                rotate_left
                · intro wz hSw; (try dsimp only at hSw); go_simp; (try with_reducible rfl)
                try simp only [Act.put, List.setIfInBounds_toArray, List.set_cons_zero, List.set_cons_succ]
                refine wpAnyH_take (i := 7) (oi := { dst := some 53, op := Go.Op.assign (Go.Operand.tmp 60), type := 4, pos := "ref.go:242", after := #[{ on := 6, ground := Go.Ground.data }], guard := none }) (v := ?_) rfl (by kernel_rfl) (by kernel_rfl) (by kernel_rfl) (fun _ _ _ h => h) (Or.inl ⟨by rfl, ?_⟩) (by assumption) ?_
                rotate_left
                · intro wz hSw; (try dsimp only at hSw); go_simp; (try with_reducible rfl)
                try simp only [Act.put, List.setIfInBounds_toArray, List.set_cons_zero, List.set_cons_succ]
                refine wpAnyH_done (by kernel_rfl) (NoPanic.normal ?_) _
                try simp only [Act.put, List.setIfInBounds_toArray, List.set_cons_zero, List.set_cons_succ]
                clear hHeld S0
                obtain ⟨d0, d1, d2, d3, d4, df⟩ := five_of HXd.out.1
                go_wp2
                exact bodyPost_ret (results_R2 Tryd.results9 _ _ (w.heap.size + 2) 26 _ _ _ _ _ (0, 0) rfl (five_all HXd.out.1)) rfl ⟨by rw [HE.out]; rfl, five_below HXd.out.2 (by omega)⟩
        · have HE : Hid (rkE s f y = 1) := by show rkE s f y = 1; unfold rkE asideE; rw [if_neg (not_not_intro hr), if_neg (not_not_intro hf), if_neg hd, if_pos (by simp [hm])]
          clear hr hf
          rcases f01 with ⟨rfl, g0⟩ | ⟨rfl, g0, g1⟩
          all_goals
            go_wp2_with fail
            refine (holdMay_any y ka kc w1 (HV.out.2.2.1.below HX.out.2.2.2) HV.out.2.2.2.2).mono ?_
            rintro e w2 ⟨rfl, hb2⟩
            have HX2 : Hid (w2.heap[w.heap.size]? = some (.cells #[.int .i64 s.nu, .int .i64 s.a, .int .i64 s.b, .slice p.pa s.pn p.pc, .slice p.ha s.hn p.hc] 26 (0, 0)) ∧ w2.heap[w.heap.size + 1]? = some (.cells #[.int .i64 y.id, .int .i64 y.am, .slice ka y.n kc] 29 (0, 0)) ∧ w2.heap[w.heap.size + 2]? = some (.cells #[.int .i64 0, .int .i64 0, .int .i64 0, .slice none 0 0, .slice none 0 0] 26 (0, 0)) ∧ Below w.heap.size w w2) := ⟨(hb2.block _ (lt_of_block HX.out.1)).trans HX.out.1, (hb2.block _ (lt_of_block HX.out.2.1)).trans HX.out.2.1, (hb2.block _ (lt_of_block HX.out.2.2.1)).trans HX.out.2.2.1, HX.out.2.2.2.trans (hb2.mono HX.out.2.2.2.size)⟩
            clear c0 c1 c2 c3 c4 cf k0 k1 k2 d0 d1 d2 d3 d4 df HX hb2
            have HX : Hid (w2.heap[w.heap.size]? = some (.cells #[.int .i64 s.nu, .int .i64 s.a, .int .i64 s.b, .slice p.pa s.pn p.pc, .slice p.ha s.hn p.hc] 26 (0, 0)) ∧ w2.heap[w.heap.size + 1]? = some (.cells #[.int .i64 y.id, .int .i64 y.am, .slice ka y.n kc] 29 (0, 0)) ∧ w2.heap[w.heap.size + 2]? = some (.cells #[.int .i64 0, .int .i64 0, .int .i64 0, .slice none 0 0, .slice none 0 0] 26 (0, 0)) ∧ Below w.heap.size w w2) := HX2.out
            clear HX2
            obtain ⟨c0, c1, c2, c3, c4, cf⟩ := five_of HX.out.1
            obtain ⟨k0, k1, k2⟩ := hd_new (x := y) HX.out.2.1 rfl
            obtain ⟨d0, d1, d2, d3, d4, df⟩ := five_of HX.out.2.2.1
            rw [decide_eq_false hm]
            go_wp2
            exact bodyPost_ret (results_R2 Tryd.results9 _ _ (w.heap.size + 2) 26 _ _ _ _ _ (0, 0) rfl (five_all HX.out.2.2.1)) rfl ⟨by rw [HE.out]; rfl, five_below HX.out.2.2.2 (by omega)⟩
    · have HE : Hid (rkE s f y = 33) := by show rkE s f y = 33; unfold rkE asideE; rw [if_neg (not_not_intro hr), if_pos hf]
      have g0 : ¬ f = 0 := fun h => hf (.inl h)
      have g1 : ¬ f = 1 := fun h => hf (.inr h)
      have f0 : (f != 0) = true := by simpa using g0
      have f1 : (f != 1) = true := by simpa using g1
      clear g0 g1 hr hf
      go_wp2
      exact bodyPost_ret (results_R2 Tryd.results9 _ _ (w.heap.size + 2) 26 _ _ _ _ _ (0, 0) rfl (five_all HX.out.2.2.1)) rfl ⟨by rw [HE.out]; rfl, five_below HX.out.2.2.2 (by omega)⟩
  · have HE : Hid (rkE s f y = 1) := by show rkE s f y = 1; unfold rkE asideE; rw [if_pos hr]
    rw [decide_eq_false hr]
    clear hr
    go_wp2
    exact bodyPost_ret (results_R2 Tryd.results9 _ _ (w.heap.size + 2) 26 _ _ _ _ _ (0, 0) rfl (five_all HX.out.2.2.1)) rfl ⟨by rw [HE.out]; rfl, five_below HX.out.2.2.2 (by omega)⟩
end Go.Proofs.YtjlobimncpiacaaDoor
