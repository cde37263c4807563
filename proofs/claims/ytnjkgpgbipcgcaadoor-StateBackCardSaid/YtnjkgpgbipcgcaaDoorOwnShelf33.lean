/- state.Check. -/
import Derived.Test.YtnjkgpgbipcgcaaDoorOwnShelf32
namespace Go.Proofs.YtnjkgpgbipcgcaaDoor
open Go.RowKit

theorem errV_1 : errV 1 = .iface 72 (.int .i64 1) := rfl
set_option maxRecDepth 100000 in
set_option maxHeartbeats 3200000 in
theorem check_any (s : Sv) (p : Pl) (w : World) (h : SvAt w s p) (hs : s.Small) :
    Calls Tryd.prog 12 #[.agg (svv s p)] w fun e w' => e = .returned (errV (chkE s)) ∧ Below w.heap.size w w' := by
  have hb0 : Below w.heap.size w (w.alloc (.cells (svv s p) 28)) := (Below.refl _ w).alloc (Nat.le_refl _) _
  have hr0 := heap_alloc_new w (.cells (svv s p) 28)
  have H0 := h.below hb0
  have HS : Hid s.Small := hs
  have hsn := hs.n
  have hw1 := within_any s.nu 0 1099511627776
  have hw2 := within_any s.a 0 1125899906842624
  have hw3 := within_any s.b 0 1125899906842624
  clear h hs
  by_cases h1 : 0 ≤ s.nu ∧ s.nu ≤ 1099511627776
  · rw [decide_eq_true h1] at hw1
    by_cases h2 : 0 ≤ s.a ∧ s.a ≤ 1125899906842624
    · rw [decide_eq_true h2] at hw2
      by_cases h3 : 0 ≤ s.b ∧ s.b ≤ 1125899906842624
      · rw [decide_eq_true h3] at hw3
        have hN : SNum s := ⟨h1, h2, h3⟩
        have HN : Hid (SNum s) := hN
        clear h1 h2 h3 hN
        go_enter Tryd.func12, Tryd.ntmps12
        have HW : Hid (SvAt (w.alloc (.cells (svv s p) 28)) s p) := H0
        have HB0 : Hid (Below w.heap.size w (w.alloc (.cells (svv s p) 28))) := hb0
        clear H0 hb0
        have hsl := fun w => slots_any s p w (by omega)
        unfold svv at HW HB0 hr0 hsl ⊢
        go_wp2_with fail
        refine (hw1 _).mono ?_
        rintro e w1 ⟨rfl, rfl⟩
        go_wp2_with fail
        refine (hw2 _).mono ?_
        rintro e w2 ⟨rfl, rfl⟩
        go_wp2_with fail
        refine (hw3 _).mono ?_
        rintro e w3 ⟨rfl, rfl⟩
        clear hw1 hw2 hw3
        go_wp2_with fail
        generalize w.alloc (.cells #[.int .i64 s.nu, .int .i64 s.a, .int .i64 s.b, .slice p.pa s.pn p.pc, .slice p.ha s.hn p.hc] 28) = W0 at *
        have hl0 := lt_of_block hr0
        refine (hsl _).mono ?_
        rintro e w4 ⟨rfl, hb4⟩
        have KP : ∀ w', Below W0.heap.size W0 w' → w'.heap[w.heap.size]? = some (.cells #[.int .i64 s.nu, .int .i64 s.a, .int .i64 s.b, .slice p.pa s.pn p.pc, .slice p.ha s.hn p.hc] 28 (0, 0)) := fun w' hb => by rw [hb.block _ hl0]; exact hr0
        have KC : Hid (∀ w', Below W0.heap.size W0 w' → w'.cell? ⟨w.heap.size, 0, none⟩ = some (.int .i64 s.nu) ∧ w'.cell? ⟨w.heap.size, 1, none⟩ = some (.int .i64 s.a) ∧ w'.cell? ⟨w.heap.size, 2, none⟩ = some (.int .i64 s.b) ∧ w'.cell? ⟨w.heap.size, 3, none⟩ = some (.slice p.pa s.pn p.pc) ∧ w'.cell? ⟨w.heap.size, 4, none⟩ = some (.slice p.ha s.hn p.hc)) := fun w' hb =>
          ⟨by rw [cell_of_row _ _ 0 _ _ _ (KP w' hb)]; rfl, by rw [cell_of_row _ _ 1 _ _ _ (KP w' hb)]; rfl, by rw [cell_of_row _ _ 2 _ _ _ (KP w' hb)]; rfl, by rw [cell_of_row _ _ 3 _ _ _ (KP w' hb)]; rfl, by rw [cell_of_row _ _ 4 _ _ _ (KP w' hb)]; rfl⟩
        have KE : Hid (∀ w', Below W0.heap.size W0 w' → Below w.heap.size w w') := fun w' hb => HB0.out.trans (hb.mono HB0.out.size)
        clear KP hsl hr0
        obtain ⟨k0, k1, k2, k3, k4⟩ := KC.out w4 hb4
        by_cases h4 : s.pn + s.hn ≤ 8
        · have h4' : ¬ (8 : Int) < ((s.pn + s.hn : Nat) : Int) := by omega
          have hm := mayWait_any p.pa s.pn p.pc s.P w4 (HW.out.py.below hb4) (by omega)
          by_cases h5 : PsOk s.P s.pn
          · rw [decide_eq_true h5] at hm
            go_wp2_with fail
            refine hm.mono ?_
            rintro e w5 ⟨rfl, hb5⟩
            have hb5' := Below.transS hb4 hb5
            clear hm hb4 hb5 k0 k1 k2 k3 k4
            obtain ⟨k0, k1, k2, k3, k4⟩ := KC.out w5 hb5'
            have hh := mayBeHeld_any p.ha s.hn p.hc s.H w5 (HW.out.hd.below hb5') (by omega) (fun i hi => by have := HS.out.k i hi; omega)
            by_cases h6 : HsOk s.H s.hn
            · rw [decide_eq_true h6] at hh
              go_wp2_with fail
              refine hh.mono ?_
              rintro e w6 ⟨rfl, hb6⟩
              have hb6' := Below.transS hb5' hb6
              clear hh hb5' hb6 k0 k1 k2 k3 k4
              obtain ⟨k0, k1, k2, k3, k4⟩ := KC.out w6 hb6'
              have ht := together_any s p w6 (HW.out.below hb6') HN.out ⟨h4, h5, h6⟩
              have hR : SRows s := ⟨h4, h5, h6⟩
              unfold svv at ht
              by_cases h7 : tot s ≤ 1125899906842624
              · have h7' : ¬ 1125899906842624 < tot s := by omega
                have HE : Hid (chkE s = 0) := if_pos ⟨HN.out, hR, h7⟩
                clear hR h4 h5 h6
                generalize tot s = q at *
                go_wp2_with fail
                refine ht.mono ?_
                rintro e w7 ⟨rfl, hb7⟩
                have hb7' := KE.out w7 (Below.transS hb6' hb7)
                clear ht hb7 hb6' k0 k1 k2 k3 k4
                go_wp2
                go_ret
                exact ⟨by rw [HE.out]; rfl, hb7'⟩
              · have h7' : 1125899906842624 < tot s := by omega
                have HE : Hid (chkE s = 1) := if_neg (fun h => h7 h.2.2)
                clear hR h4 h5 h6
                generalize tot s = q at *
                go_wp2_with fail
                refine ht.mono ?_
                rintro e w7 ⟨rfl, hb7⟩
                have hb7' := KE.out w7 (Below.transS hb6' hb7)
                clear ht hb7 hb6' k0 k1 k2 k3 k4
                go_wp2
                go_ret
                exact ⟨by rw [HE.out]; rfl, hb7'⟩
            · rw [decide_eq_false h6] at hh
              have HE : Hid (chkE s = 1) := if_neg (fun h => h6 h.2.1.2.2)
              go_wp2_with fail
              refine hh.mono ?_
              rintro e w6 ⟨rfl, hb6⟩
              have hb7' := KE.out w6 (Below.transS hb5' hb6)
              clear hh hb6 hb5' k0 k1 k2 k3 k4
              go_wp2
              go_ret
              exact ⟨by rw [HE.out]; rfl, hb7'⟩
          · rw [decide_eq_false h5] at hm
            have HE : Hid (chkE s = 1) := if_neg (fun h => h5 h.2.1.2.1)
            go_wp2_with fail
            refine hm.mono ?_
            rintro e w5 ⟨rfl, hb5⟩
            have hb7' := KE.out w5 (Below.transS hb4 hb5)
            clear hm hb5 hb4 k0 k1 k2 k3 k4
            go_wp2
            go_ret
            exact ⟨by rw [HE.out]; rfl, hb7'⟩
        · have h4' : (8 : Int) < ((s.pn + s.hn : Nat) : Int) := by omega
          have HE : Hid (chkE s = 1) := if_neg (fun h => h4 h.2.1.1)
          have hb7' := KE.out w4 hb4
          go_wp2
          go_ret
          exact ⟨by rw [HE.out]; rfl, hb7'⟩
      · rw [decide_eq_false h3] at hw3
        have HE : Hid (chkE s = 1) := if_neg (fun h => h3 h.1.2.2)
        clear h1 h2 h3 H0
        unfold svv at hb0 hr0 ⊢
        go_enter Tryd.func12, Tryd.ntmps12
        go_wp2_with fail
        refine (hw1 _).mono ?_
        rintro e w1 ⟨rfl, rfl⟩
        go_wp2_with fail
        refine (hw2 _).mono ?_
        rintro e w2 ⟨rfl, rfl⟩
        go_wp2_with fail
        refine (hw3 _).mono ?_
        rintro e w3 ⟨rfl, rfl⟩
        go_wp2
        go_ret
        exact ⟨by rw [HE.out]; rfl, hb0⟩
    · rw [decide_eq_false h2] at hw2
      have HE : Hid (chkE s = 1) := if_neg (fun h => h2 h.1.2.1)
      clear h1 h2 H0
      unfold svv at hb0 hr0 ⊢
      go_enter Tryd.func12, Tryd.ntmps12
      go_wp2_with fail
      refine (hw1 _).mono ?_
      rintro e w1 ⟨rfl, rfl⟩
      go_wp2_with fail
      refine (hw2 _).mono ?_
      rintro e w2 ⟨rfl, rfl⟩
      go_wp2
      go_ret
      exact ⟨by rw [HE.out]; rfl, hb0⟩
  · rw [decide_eq_false h1] at hw1
    have HE : Hid (chkE s = 1) := if_neg (fun h => h1 h.1.1)
    clear h1 H0
    unfold svv at hb0 hr0 ⊢
    go_enter Tryd.func12, Tryd.ntmps12
    go_wp2_with fail
    refine (hw1 _).mono ?_
    rintro e w1 ⟨rfl, rfl⟩
    go_wp2
    go_ret
    exact ⟨by rw [HE.out]; rfl, hb0⟩
end Go.Proofs.YtnjkgpgbipcgcaaDoor
