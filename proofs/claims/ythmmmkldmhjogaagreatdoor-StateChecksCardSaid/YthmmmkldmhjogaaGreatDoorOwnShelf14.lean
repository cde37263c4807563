/- state.Check. -/
import Derived.Test.YthmmmkldmhjogaaGreatDoorOwnShelf13
import Derived.Deep.RegionLaw
import Derived.Deep.DrawnRows
import Derived.OrdersHeld
import Derived.Deep.RegionHeld3
namespace Go.Proofs.YthmmmkldmhjogaaGreatDoor
open Go.RowKit

set_option maxRecDepth 100000 in
set_option maxHeartbeats 3200000 in
theorem check_any (s : Sv) (p : Pl) (w : World) (h : SvAt w s p) (hs : s.Small) :
  Calls Tryz.prog 10 #[.agg (svv s p)] w fun e w' => e = .returned (errV (chkE s)) ∧ Below w.heap.size w w' := by
 have hb0 : Below w.heap.size w (w.alloc (.cells (svv s p) 33)) := (Below.refl _ w).alloc (Nat.le_refl _) _
 have hr0 := heap_alloc_new w (.cells (svv s p) 33)
 have H0 := h.below hb0
 have HS : Hid s.Small := hs
 have hsn := hs.n
 have hw1 := within_any s.nu 0 1099511627776
 have hw2 := within_any s.a 0 1125899906842624
 have hw3 := within_any s.b 0 1125899906842624
 clear h hs
 by_cases h1 : 0 ≤ s.nu ∧ s.nu ≤ 1099511627776
 ·rw [decide_eq_true h1] at hw1
  by_cases h2 : 0 ≤ s.a ∧ s.a ≤ 1125899906842624
  ·rw [decide_eq_true h2] at hw2
   by_cases h3 : 0 ≤ s.b ∧ s.b ≤ 1125899906842624
   ·rw [decide_eq_true h3] at hw3
    have hN : SNum s := ⟨h1, h2, h3⟩
    have HN : Hid (SNum s) := hN
    clear h1 h2 h3 hN
    go_enter Tryz.func10, Tryz.ntmps10
    have HW : Hid (SvAt (w.alloc (.cells (svv s p) 33)) s p) := H0
    have HB0 : Hid (Below w.heap.size w (w.alloc (.cells (svv s p) 33))) := hb0
    clear H0 hb0
    have hsl := fun w => slots_any s p w (by omega)
    unfold svv at HW HB0 hr0 hsl ⊢
    go_wp2_with fail
    refine (hw1 _).mono ?_
    rintro e w1 ⟨rfl, rfl⟩
    go_wp2_with fail
    refine (hw2 _).mono ?_
    rintro e w2 ⟨rfl, rfl⟩
    go_wp2_with fail
    refine (hw3 _).mono ?_
    rintro e w3 ⟨rfl, rfl⟩
    clear hw1 hw2 hw3
    go_wp2_with fail
    generalize w.alloc (.cells #[.int .i64 s.nu, .int .i64 s.a, .int .i64 s.b, .slice p.pa s.pn p.pc, .slice p.ha s.hn p.hc] 33) = W0 at *
    have hl0 := lt_of_block hr0
    refine (hsl _).mono ?_
    rintro e w4 ⟨rfl, hb4⟩
    have KP : ∀ w', Below W0.heap.size W0 w' → w'.heap[w.heap.size]? = some (.cells #[.int .i64 s.nu, .int .i64 s.a, .int .i64 s.b, .slice p.pa s.pn p.pc, .slice p.ha s.hn p.hc] 33 (0, 0)) := fun w' hb => by rw [hb.block _ hl0]; exact hr0
    have KC : Hid (∀ w', Below W0.heap.size W0 w' → w'.cell? ⟨w.heap.size, 0, none⟩ = some (.int .i64 s.nu) ∧ w'.cell? ⟨w.heap.size, 1, none⟩ = some (.int .i64 s.a) ∧ w'.cell? ⟨w.heap.size, 2, none⟩ = some (.int .i64 s.b) ∧ w'.cell? ⟨w.heap.size, 3, none⟩ = some (.slice p.pa s.pn p.pc) ∧ w'.cell? ⟨w.heap.size, 4, none⟩ = some (.slice p.ha s.hn p.hc)) := fun w' hb =>
     ⟨by rw [cell_of_row _ _ 0 _ _ _ (KP w' hb)]; rfl, by rw [cell_of_row _ _ 1 _ _ _ (KP w' hb)]; rfl, by rw [cell_of_row _ _ 2 _ _ _ (KP w' hb)]; rfl, by rw [cell_of_row _ _ 3 _ _ _ (KP w' hb)]; rfl, by rw [cell_of_row _ _ 4 _ _ _ (KP w' hb)]; rfl⟩
    have KE : Hid (∀ w', Below W0.heap.size W0 w' → Below w.heap.size w w') := fun w' hb => HB0.out.trans (hb.mono HB0.out.size)
    clear KP hsl hr0
    obtain ⟨k0, k1, k2, k3, k4⟩ := KC.out w4 hb4
    by_cases h4 : s.pn + s.hn ≤ 8
    ·have h4' : ¬ (8 : Int) < ((s.pn + s.hn : Nat) : Int) := by omega
     have hm := mayWait_any p.pa s.pn p.pc s.P w4 (HW.out.py.below hb4) (by omega)
     by_cases h5 : PsOk s.P s.pn
     ·rw [decide_eq_true h5] at hm
      go_wp2_with fail
      refine hm.mono ?_
      rintro e w5 ⟨rfl, hb5⟩
      have hb5' := Below.transS hb4 hb5
      clear hm hb4 hb5 k0 k1 k2 k3 k4
      obtain ⟨k0, k1, k2, k3, k4⟩ := KC.out w5 hb5'
      have hh := mayBeHeld_any p.ha s.hn p.hc s.H w5 (HW.out.hd.below hb5') (by omega) (fun i hi => by have := HS.out.k i hi; omega)
      by_cases h6 : HsOk s.H s.hn
      ·rw [decide_eq_true h6] at hh
       go_wp2_with fail
       refine hh.mono ?_
       rintro e w6 ⟨rfl, hb6⟩
       have hb6' := Below.transS hb5' hb6
       clear hh hb5' hb6 k0 k1 k2 k3 k4
       obtain ⟨k0, k1, k2, k3, k4⟩ := KC.out w6 hb6'
       have ht := together_any s p w6 (HW.out.below hb6') HN.out ⟨h4, h5, h6⟩
       have hR : SRows s := ⟨h4, h5, h6⟩
       unfold svv at ht
       by_cases h7 : tot s ≤ 1125899906842624
       ·have h7' : ¬ 1125899906842624 < tot s := by omega
        have HE : Hid (chkE s = 0) := if_pos ⟨HN.out, hR, h7⟩
        clear hR h4 h5 h6
        generalize tot s = q at *
        go_wp2_with fail
        refine ht.mono ?_
        rintro e w7 ⟨rfl, hb7⟩
        have hb7' := KE.out w7 (Below.transS hb6' hb7)
        clear ht hb7 hb6' k0 k1 k2 k3 k4
        go_wp2
        go_ret
        exact ⟨by rw [HE.out]; rfl, hb7'⟩
       ·have h7' : 1125899906842624 < tot s := by omega
        have HE : Hid (chkE s = 1) := if_neg (fun h => h7 h.2.2)
        clear hR h4 h5 h6
        generalize tot s = q at *
        go_wp2_with fail
        refine ht.mono ?_
        rintro e w7 ⟨rfl, hb7⟩
        have hb7' := KE.out w7 (Below.transS hb6' hb7)
        clear ht hb7 hb6' k0 k1 k2 k3 k4
        go_wp2
        go_ret
        exact ⟨by rw [HE.out]; rfl, hb7'⟩
      ·rw [decide_eq_false h6] at hh
       have HE : Hid (chkE s = 1) := if_neg (fun h => h6 h.2.1.2.2)
       go_wp2_with fail
       refine hh.mono ?_
       rintro e w6 ⟨rfl, hb6⟩
       have hb7' := KE.out w6 (Below.transS hb5' hb6)
       clear hh hb6 hb5' k0 k1 k2 k3 k4
       go_wp2
       go_ret
       exact ⟨by rw [HE.out]; rfl, hb7'⟩
     ·rw [decide_eq_false h5] at hm
      have HE : Hid (chkE s = 1) := if_neg (fun h => h5 h.2.1.2.1)
      go_wp2_with fail
      refine hm.mono ?_
      rintro e w5 ⟨rfl, hb5⟩
      have hb7' := KE.out w5 (Below.transS hb4 hb5)
      clear hm hb5 hb4 k0 k1 k2 k3 k4
      go_wp2
      go_ret
      exact ⟨by rw [HE.out]; rfl, hb7'⟩
    ·have h4' : (8 : Int) < ((s.pn + s.hn : Nat) : Int) := by omega
     have HE : Hid (chkE s = 1) := if_neg (fun h => h4 h.2.1.1)
     have hb7' := KE.out w4 hb4
     go_wp2
     go_ret
     exact ⟨by rw [HE.out]; rfl, hb7'⟩
   ·rw [decide_eq_false h3] at hw3
    have HE : Hid (chkE s = 1) := if_neg (fun h => h3 h.1.2.2)
    clear h1 h2 h3 H0
    unfold svv at hb0 hr0 ⊢
    go_enter Tryz.func10, Tryz.ntmps10
    go_wp2_with fail
    refine (hw1 _).mono ?_
    rintro e w1 ⟨rfl, rfl⟩
    go_wp2_with fail
    refine (hw2 _).mono ?_
    rintro e w2 ⟨rfl, rfl⟩
    go_wp2_with fail
    refine (hw3 _).mono ?_
    rintro e w3 ⟨rfl, rfl⟩
    go_wp2
    go_ret
    exact ⟨by rw [HE.out]; rfl, hb0⟩
  ·rw [decide_eq_false h2] at hw2
   have HE : Hid (chkE s = 1) := if_neg (fun h => h2 h.1.2.1)
   clear h1 h2 H0
   unfold svv at hb0 hr0 ⊢
   go_enter Tryz.func10, Tryz.ntmps10
   go_wp2_with fail
   refine (hw1 _).mono ?_
   rintro e w1 ⟨rfl, rfl⟩
   go_wp2_with fail
   refine (hw2 _).mono ?_
   rintro e w2 ⟨rfl, rfl⟩
   go_wp2
   go_ret
   exact ⟨by rw [HE.out]; rfl, hb0⟩
 ·rw [decide_eq_false h1] at hw1
  have HE : Hid (chkE s = 1) := if_neg (fun h => h1 h.1.1)
  clear h1 H0
  unfold svv at hb0 hr0 ⊢
  go_enter Tryz.func10, Tryz.ntmps10
  go_wp2_with fail
  refine (hw1 _).mono ?_
  rintro e w1 ⟨rfl, rfl⟩
  go_wp2
  go_ret
  exact ⟨by rw [HE.out]; rfl, hb0⟩
end Go.Proofs.YthmmmkldmhjogaaGreatDoor
/- state.next. -/
namespace Go.Proofs.YthmmmkldmhjogaaGreatDoor
open Go.RowKit

/-- A state that can be changed; with the next number. -/
def Rgt (s : Sv) : Prop := SOk s ∧ s.nu < 1099511627776
instance (s : Sv) : Decidable (Rgt s) := inferInstanceAs (Decidable (_ ∧ _))
def nxt (s : Sv) : Sv := { s with nu := s.nu + 1 }

theorem results_S2 {fn : Func} {p u : Tmp} (h : fn.results = #[.cell p 33, .tmp u]) (tmps : Array Value) (w : World) (g : Nat) (t : TypeId) (c0 c1 c2 c3 c4 : Value) (fr : Nat × Nat)
  (hp : tmps.getD p undef = .pointer (some ⟨g, 0, none⟩)) (hg : w.heap[g]? = some (.cells #[c0, c1, c2, c3, c4] t fr)) :
  (results fn tmps).run Tryz.prog w = .ok (.tuple #[.agg #[c0, c1, c2, c3, c4], tmps.getD u undef]) w := by
 have hp' : tmps[p]?.getD undef = .pointer (some ⟨g, 0, none⟩) := by simpa using hp
 simp [results, h, hp', asAddr, run_loadVar_row w g t 33 #[c0, c1, c2, c3, c4] fr _ hg Tryz.underlying33 rfl szS]
section
variable {w : World} {b : Nat} {x0 x1 x2 x3 x4 u u0 u1 u2 u3 u4 : Value} {t : TypeId}
theorem five_set0 (h : w.heap[b]? = some (.cells #[x0, x1, x2, x3, x4] t (0, 0))) : (w.setCell ⟨b, 0, none⟩ u).heap[b]? = some (.cells #[u, x1, x2, x3, x4] t (0, 0)) := heap_setCell_same w b 0 _ t u h
theorem five_set1 (h : w.heap[b]? = some (.cells #[x0, x1, x2, x3, x4] t (0, 0))) : (w.setCell ⟨b, 1, none⟩ u).heap[b]? = some (.cells #[x0, u, x2, x3, x4] t (0, 0)) := heap_setCell_same w b 1 _ t u h
theorem five_set2 (h : w.heap[b]? = some (.cells #[x0, x1, x2, x3, x4] t (0, 0))) : (w.setCell ⟨b, 2, none⟩ u).heap[b]? = some (.cells #[x0, x1, u, x3, x4] t (0, 0)) := heap_setCell_same w b 2 _ t u h
theorem five_set3 (h : w.heap[b]? = some (.cells #[x0, x1, x2, x3, x4] t (0, 0))) : (w.setCell ⟨b, 3, none⟩ u).heap[b]? = some (.cells #[x0, x1, x2, u, x4] t (0, 0)) := heap_setCell_same w b 3 _ t u h
theorem five_set4 (h : w.heap[b]? = some (.cells #[x0, x1, x2, x3, x4] t (0, 0))) : (w.setCell ⟨b, 4, none⟩ u).heap[b]? = some (.cells #[x0, x1, x2, x3, u] t (0, 0)) := heap_setCell_same w b 4 _ t u h
/-- All five written. -/
theorem five_all (h : w.heap[b]? = some (.cells #[x0, x1, x2, x3, x4] t (0, 0))) : (((((w.setCell ⟨b, 0, none⟩ u0).setCell ⟨b, 1, none⟩ u1).setCell ⟨b, 2, none⟩ u2).setCell ⟨b, 3, none⟩ u3).setCell ⟨b, 4, none⟩ u4).heap[b]? = some (.cells #[u0, u1, u2, u3, u4] t (0, 0)) :=
 five_set4 (five_set3 (five_set2 (five_set1 (five_set0 h))))
/-- What a block of five cells gives a walk. -/
structure Five (w : World) (b : Nat) (x0 x1 x2 x3 x4 : Value) : Prop where
 c0 : w.cell? ⟨b, 0, none⟩ = some x0
 c1 : w.cell? ⟨b, 1, none⟩ = some x1
 c2 : w.cell? ⟨b, 2, none⟩ = some x2
 c3 : w.cell? ⟨b, 3, none⟩ = some x3
 c4 : w.cell? ⟨b, 4, none⟩ = some x4
 f : ∀ o, w.frozen? ⟨b, o, none⟩ = false
theorem five_of (h : w.heap[b]? = some (.cells #[x0, x1, x2, x3, x4] t (0, 0))) : Five w b x0 x1 x2 x3 x4 :=
 ⟨by rw [cell_of_row _ _ 0 _ _ _ h]; rfl, by rw [cell_of_row _ _ 1 _ _ _ h]; rfl, by rw [cell_of_row _ _ 2 _ _ _ h]; rfl, by rw [cell_of_row _ _ 3 _ _ _ h]; rfl, by rw [cell_of_row _ _ 4 _ _ _ h]; rfl, fun o => frozen_of_row _ _ o _ _ h⟩
theorem five_below {B : Nat} {w' : World} (h : Below B w w') (hB : B ≤ b) : Below B w (((((w'.setCell ⟨b, 0, none⟩ u0).setCell ⟨b, 1, none⟩ u1).setCell ⟨b, 2, none⟩ u2).setCell ⟨b, 3, none⟩ u3).setCell ⟨b, 4, none⟩ u4) :=
 ((((h.setCell hB _).setCell hB _).setCell hB _).setCell hB _).setCell hB _
theorem five_other {k : Nat} (h : k ≠ b) : (((((w.setCell ⟨b, 0, none⟩ u0).setCell ⟨b, 1, none⟩ u1).setCell ⟨b, 2, none⟩ u2).setCell ⟨b, 3, none⟩ u3).setCell ⟨b, 4, none⟩ u4).heap[k]? = w.heap[k]? := by
 rw [Below.heap_setCell _ _ _ _ (by exact h), Below.heap_setCell _ _ _ _ (by exact h), Below.heap_setCell _ _ _ _ (by exact h), Below.heap_setCell _ _ _ _ (by exact h), Below.heap_setCell _ _ _ _ (by exact h)]
end
/-- Two blocks at the begin: a state that came, and the one that is told. -/
theorem two_new (w : World) (s : Sv) (p : Pl) (T U : TypeId) :
  ((w.alloc (.cells (svv s p) T)).alloc (.cells (svv sv0 pl0) U)).heap[w.heap.size]? = some (.cells (svv s p) T (0, 0)) ∧
  ((w.alloc (.cells (svv s p) T)).alloc (.cells (svv sv0 pl0) U)).heap[w.heap.size + 1]? = some (.cells (svv sv0 pl0) U (0, 0)) ∧
  ((w.alloc (.cells (svv s p) T)).alloc (.cells (svv sv0 pl0) U)).heap.size = w.heap.size + 2 ∧ Below w.heap.size w ((w.alloc (.cells (svv s p) T)).alloc (.cells (svv sv0 pl0) U)) := by
 refine ⟨?_, ?_, by simp, ((Below.refl _ w).alloc (Nat.le_refl _) _).alloc (by simp) _⟩
 ·rw [Below.heap_alloc _ _ _ (by simp)]; exact heap_alloc_new w _
 ·have := heap_alloc_new (w.alloc (.cells (svv s p) T)) (.cells (svv sv0 pl0) U)
  simpa using this
theorem chk_ok {s : Sv} (h : SOk s) : errV (chkE s) = .nilIface := by rw [chkE, if_pos h]; rfl
theorem chk_bad {s : Sv} (h : ¬ SOk s) : errV (chkE s) = .iface 67 (.int .i64 1) := by rw [chkE, if_neg h]; rfl

set_option maxRecDepth 100000 in
set_option maxHeartbeats 3200000 in
theorem next_bad (s : Sv) (p : Pl) (w : World) (h : SvAt w s p) (hs : s.Small) (hr : ¬ Rgt s) :
  Calls Tryz.prog 49 #[.agg (svv s p)] w fun e w' => e = .returned (.tuple #[.agg (svv sv0 pl0), errV 1]) ∧ Below w.heap.size w w' := by
 obtain ⟨hn0, hn1, hsz, hb0⟩ := two_new w s p 33 33
 have hc := check_any s p _ (h.below hb0) hs
 by_cases hk : SOk s
 ·rw [chk_ok hk] at hc
  have hnu : s.nu = 1099511627776 := by
   have h1 := hk.1.1
   have h2 : ¬ s.nu < 1099511627776 := fun h => hr ⟨hk, h⟩
   omega
  have hq : (s.nu == 1099511627776) = true := by simp [hnu]
  clear hr hk h hs hnu
  unfold svv sv0 pl0 at hn0 hn1 hsz hb0 hc ⊢
  simp only at hn0 hn1 hsz hb0 hc ⊢
  go_enter Tryz.func49, Tryz.ntmps49
  go_wp2_with fail
  generalize ((w.alloc (.cells #[.int .i64 s.nu, .int .i64 s.a, .int .i64 s.b, .slice p.pa s.pn p.pc, .slice p.ha s.hn p.hc] 33)).alloc (.cells #[.int .i64 0, .int .i64 0, .int .i64 0, .slice none 0 0, .slice none 0 0] 33)) = W0 at *
  refine hc.mono ?_
  rintro e w1 ⟨rfl, hb1⟩
  have k0 := hb1.block _ (show w.heap.size < W0.heap.size by omega)
  have k1 := hb1.block _ (show w.heap.size + 1 < W0.heap.size by omega)
  rw [hn0] at k0
  rw [hn1] at k1
  obtain ⟨c0, c1, c2, c3, c4, cf⟩ := five_of k0
  obtain ⟨d0, d1, d2, d3, d4, df⟩ := five_of k1
  have HB : Hid (Below w.heap.size w w1) := hb0.trans (hb1.mono (by omega))
  have HK : Hid (w1.heap[w.heap.size + 1]? = some (.cells #[.int .i64 0, .int .i64 0, .int .i64 0, .slice none 0 0, .slice none 0 0] 33 (0, 0))) := k1
  clear hc hb0 hb1 hn0 hn1 hsz k0 k1
  go_wp2
  exact bodyPost_ret (results_S2 Tryz.results49 _ _ (w.heap.size + 1) 33 _ _ _ _ _ (0, 0) rfl (five_all HK.out)) rfl ⟨rfl, five_below HB.out (by omega)⟩
 ·rw [chk_bad hk] at hc
  clear hr hk h hs
  unfold svv sv0 pl0 at hn0 hn1 hsz hb0 hc ⊢
  simp only at hn0 hn1 hsz hb0 hc ⊢
  go_enter Tryz.func49, Tryz.ntmps49
  go_wp2_with fail
  generalize ((w.alloc (.cells #[.int .i64 s.nu, .int .i64 s.a, .int .i64 s.b, .slice p.pa s.pn p.pc, .slice p.ha s.hn p.hc] 33)).alloc (.cells #[.int .i64 0, .int .i64 0, .int .i64 0, .slice none 0 0, .slice none 0 0] 33)) = W0 at *
  refine hc.mono ?_
  rintro e w1 ⟨rfl, hb1⟩
  have k1 := hb1.block _ (show w.heap.size + 1 < W0.heap.size by omega)
  rw [hn1] at k1
  obtain ⟨d0, d1, d2, d3, d4, df⟩ := five_of k1
  have HB : Hid (Below w.heap.size w w1) := hb0.trans (hb1.mono (by omega))
  have HK : Hid (w1.heap[w.heap.size + 1]? = some (.cells #[.int .i64 0, .int .i64 0, .int .i64 0, .slice none 0 0, .slice none 0 0] 33 (0, 0))) := k1
  clear hc hb0 hb1 hn0 hn1 hsz k1
  go_wp2
  exact bodyPost_ret (results_S2 Tryz.results49 _ _ (w.heap.size + 1) 33 _ _ _ _ _ (0, 0) rfl (five_all HK.out)) rfl ⟨rfl, five_below HB.out (by omega)⟩
end Go.Proofs.YthmmmkldmhjogaaGreatDoor
/- state.next of a state that can be changed. -/
namespace Go.Proofs.YthmmmkldmhjogaaGreatDoor
open Go.RowKit
attribute [local go_sem ↓] Go.wp_at_zero Go.wp_at_succ

/-- On the way: the rows cloned, the keys of the first i holds too. -/
structure NxI (w wr : World) (s : Sv) (p : Pl) (A : Nat → Option Addr × Nat) (i : Nat) : Prop where
 box : wr.heap[w.heap.size]? = some (.cells #[.int .i64 (s.nu + 1), .int .i64 s.a, .int .i64 s.b, .slice p.pa s.pn p.pc, .slice p.ha s.hn p.hc] 33 (0, 0))
 res : wr.heap[w.heap.size + 1]? = some (.cells #[.int .i64 0, .int .i64 0, .int .i64 0, .slice none 0 0, .slice none 0 0] 33 (0, 0))
 py : wr.ownsRow (w.heap.size + 2) 62 36 (.slice p.pa s.pn p.pc) s.pn (flatL (pf s.P) s.pn)
 hd : wr.ownsRow (w.heap.size + 2) 64 3 (.slice p.ha s.hn p.hc) s.hn (flatL (hf s.H A) s.hn)
 ks : ∀ j, j < i → wr.ownsRow (w.heap.size + 2) 3 1 (.slice (A j).1 (s.H j).n (A j).2) (s.H j).n (kL (s.H j))
 old : ∀ j, i ≤ j → j < s.hn → IsAt w (A j).1 (s.H j).n (s.H j).z ∧ ((A j).1 = none → (s.H j).n = 0 ∧ (A j).2 = 0)
 below : Below w.heap.size w wr
theorem NxI.keep {w wr w' : World} {s : Sv} {p : Pl} {A : Nat → Option Addr × Nat} {i : Nat} (h : NxI w wr s p A i) (hb : Below wr.heap.size wr w') : NxI w w' s p A i :=
 ⟨by rw [hb.block _ (lt_of_block h.box)]; exact h.box, by rw [hb.block _ (lt_of_block h.res)]; exact h.res, own_below h.py hb, own_below h.hd hb, fun j hj => own_below (h.ks j hj) hb, h.old, h.below.trans (hb.mono h.below.size)⟩
theorem setCells_other (g k : Nat) (h : k ≠ g) : ∀ (vs : List Value) (off : Nat) (w : World), (w.setCells g off vs).heap[k]? = w.heap[k]?
 | [], _, _ => rfl
 | v :: r, off, w => by rw [World.setCells, setCells_other g k h r, Below.heap_setCell _ _ _ _ (by exact h)]
theorem setCells_below {B g : Nat} (hB : B ≤ g) : ∀ (vs : List Value) (off : Nat) (w w' : World), Below B w w' → Below B w (w'.setCells g off vs)
 | [], _, _, _, h => h
 | v :: r, off, w, w', h => by rw [World.setCells]; exact setCells_below hB r _ w _ (h.setCell hB _)
theorem own_other {w : World} {B T U k n g m l C : Nat} {v u : Value} {xs ys cs : List Value} {off : Nat} (h : w.ownsRow B T k v n xs) (h' : w.ownsRow C U m u l ys) (hT : T ≠ U) (hg : u.ownBlock = some g) : (w.setCells g off cs).ownsRow B T k v n xs :=
 own_keep h fun q e => setCells_other g q (fun e2 => own_apart h h' hT q e (by rw [hg, e2])) cs off w
/-- One hold more with keys of its own. -/
theorem NxI.next {w wr : World} {s : Sv} {p : Pl} {A : Nat → Option Addr × Nat} {i g : Nat} {ka : Option Addr} {kc : Nat} (h : NxI w wr s p A i) (hi : i < s.hn) (hg : p.ha = some ⟨g, 0, none⟩)
  (hk : wr.ownsRow (w.heap.size + 2) 3 1 (.slice ka (s.H i).n kc) (s.H i).n (kL (s.H i))) : NxI w (wr.setCells g (i * 3) (hdl (s.H i) ka kc)) s p (fun j => if j = i then (ka, kc) else A j) (i + 1) := by
 have hgb : (Value.slice p.ha s.hn p.hc).ownBlock = some g := by rw [hg]; rfl
 have hlt := h.hd.lt g hgb
 have hd' := h.hd
 rw [hg] at hd'
 refine ⟨?_, ?_, own_other h.py h.hd (by decide) hgb, ?_, fun j hj => ?_, fun j h1 h2 => ?_, ?_⟩
 ·rw [setCells_other g _ (by omega)]; exact h.box
 ·rw [setCells_other g _ (by omega)]; exact h.res
 ·have := own_set (cs := hdl (s.H i) ka kc) hd' (hf_len _ _ _) hi rfl
  rw [hg]
  rw [flatL_congr s.hn (g := fun j => if j = i then hdl (s.H i) ka kc else hf s.H A j) (fun j _ => by
   by_cases e : j = i
   ·subst e; simp [hf]
   ·simp [hf, e])]
  exact this
 ·by_cases e : j = i
  ·subst e
   simp only [if_true]
   exact own_other hk h.hd (by decide) hgb
  ·simp only [if_neg e]
   exact own_other (h.ks j (by omega)) h.hd (by decide) hgb
 ·simp only [if_neg (show ¬ j = i by omega)]
  exact h.old j (by omega) h2
 ·exact setCells_below (by omega) _ _ _ _ h.below

set_option maxRecDepth 100000 in
set_option maxHeartbeats 3200000 in
theorem next_ok (s : Sv) (p : Pl) (w : World) (h : SvAt w s p) (hs : s.Small) (hr : Rgt s) :
  Calls Tryz.prog 49 #[.agg (svv s p)] w fun e w' => (∃ p' A, e = .returned (.tuple #[.agg (svv (nxt s) p'), .nilIface]) ∧ SvOw w.heap.size w' (nxt s) p' A) ∧ Below w.heap.size w w' := by
 obtain ⟨hn0, hn1, hsz, hb0⟩ := two_new w s p 33 33
 have hc := check_any s p _ (h.below hb0) hs
 rw [chk_ok hr.1] at hc
 have hq : (s.nu == 1099511627776) = false := by have := hr.2; simp; omega
 have hw1 : wrap64 (s.nu + 1) = s.nu + 1 := by have := hr.1.1.1; have := hr.2; simp [wrap64]; omega
 have H : Hid (SvAt w s p) := h
 have HS : Hid s.Small := hs
 have hsn := hs.n
 clear hr h hs
 unfold svv sv0 pl0 at hn0 hn1 hsz hb0 hc
 unfold svv
 simp only at hn0 hn1 hsz hb0 hc
 go_enter Tryz.func49, Tryz.ntmps49
 go_wp2_with fail
 generalize ((w.alloc (.cells #[.int .i64 s.nu, .int .i64 s.a, .int .i64 s.b, .slice p.pa s.pn p.pc, .slice p.ha s.hn p.hc] 33)).alloc (.cells #[.int .i64 0, .int .i64 0, .int .i64 0, .slice none 0 0, .slice none 0 0] 33)) = W0 at *
 refine hc.mono ?_
 rintro e w1 ⟨rfl, hb1⟩
 have k0 := hb1.block _ (show w.heap.size < W0.heap.size by omega)
 have k1 := hb1.block _ (show w.heap.size + 1 < W0.heap.size by omega)
 rw [hn0] at k0
 rw [hn1] at k1
 have HB : Hid (Below w.heap.size w w1) := hb0.trans (hb1.mono (by omega))
 have hs1 : w.heap.size + 2 ≤ w1.heap.size := by have := hb1.size; omega
 obtain ⟨c0, c1, c2, c3, c4, cf⟩ := five_of k0
 have HK : Hid (w1.heap[w.heap.size]? = some (.cells #[.int .i64 s.nu, .int .i64 s.a, .int .i64 s.b, .slice p.pa s.pn p.pc, .slice p.ha s.hn p.hc] 33 (0, 0)) ∧ w1.heap[w.heap.size + 1]? = some (.cells #[.int .i64 0, .int .i64 0, .int .i64 0, .slice none 0 0, .slice none 0 0] 33 (0, 0))) := ⟨k0, k1⟩
 clear hc hb0 hb1 hn0 hn1 hsz k0 k1
 -- the number
 have hbA : Below w.heap.size w (w1.setCell ⟨w.heap.size, 0, none⟩ (.int .i64 (s.nu + 1))) := HB.out.setCell (Nat.le_refl _) _
 have hcP := cloneP_any p.pa s.pn p.pc (flatL (pf s.P) s.pn) (w1.setCell ⟨w.heap.size, 0, none⟩ (.int .i64 (s.nu + 1))) ((H.out.py.below hbA).src H.out.pnil) (flatL_length _ (pf_len _ _)) (pf_one _ _) (by omega)
 go_wp2_with fail
 refine hcP.mono ?_
 rintro e w2 ⟨v, rfl, hO, hb2⟩
 obtain ⟨pa', pc', rfl, _, _⟩ := own_frmV hO
 have hsA : (w1.setCell ⟨w.heap.size, 0, none⟩ (.int .i64 (s.nu + 1))).heap.size = w1.heap.size := by simp [World.setCell]
 have k0 : w2.heap[w.heap.size]? = some (.cells #[.int .i64 (s.nu + 1), .int .i64 s.a, .int .i64 s.b, .slice p.pa s.pn p.pc, .slice p.ha s.hn p.hc] 33 (0, 0)) := by
  rw [hb2.block _ (by omega)]; exact five_set0 HK.out.1
 have k1 : w2.heap[w.heap.size + 1]? = some (.cells #[.int .i64 0, .int .i64 0, .int .i64 0, .slice none 0 0, .slice none 0 0] 33 (0, 0)) := by
  rw [hb2.block _ (by omega), Below.heap_setCell _ _ _ _ (by show w.heap.size + 1 ≠ w.heap.size; omega)]; exact HK.out.2
 have HB2 : Hid (Below w.heap.size w w2) := hbA.trans (hb2.mono (by omega))
 have HO2 : Hid (w2.ownsRow (w.heap.size + 2) 62 36 (.slice pa' s.pn pc') s.pn (flatL (pf s.P) s.pn)) := own_low hO (by omega)
 have hs2 : w.heap.size + 2 ≤ w2.heap.size := by have := hb2.size; omega
 clear hcP hO hb2 hbA HB HK hsA hs1 c0 c1 c2 c3 c4 cf
 obtain ⟨c0, c1, c2, c3, c4, cf⟩ := five_of k0
 have HK : Hid (w2.heap[w.heap.size]? = some (.cells #[.int .i64 (s.nu + 1), .int .i64 s.a, .int .i64 s.b, .slice p.pa s.pn p.pc, .slice p.ha s.hn p.hc] 33 (0, 0)) ∧ w2.heap[w.heap.size + 1]? = some (.cells #[.int .i64 0, .int .i64 0, .int .i64 0, .slice none 0 0, .slice none 0 0] 33 (0, 0))) := ⟨k0, k1⟩
 clear k0 k1
 have hbA : Below w.heap.size w (w2.setCell ⟨w.heap.size, 3, none⟩ (.slice pa' s.pn pc')) := HB2.out.setCell (Nat.le_refl _) _
 obtain ⟨A0, hsrc, hkeys⟩ := H.out.hd.src (cap := p.hc) H.out.hnil
 have HKY : Hid (∀ i, i < s.hn → IsAt w (A0 i).1 (s.H i).n (s.H i).z ∧ ((A0 i).1 = none → (s.H i).n = 0 ∧ (A0 i).2 = 0)) := hkeys
 have hsrc' : Src (w2.setCell ⟨w.heap.size, 3, none⟩ (.slice pa' s.pn pc')) p.ha s.hn p.hc (flatL (hf s.H A0) s.hn) := by
  refine ⟨fun h0 => ?_, hsrc.2⟩
  obtain ⟨b, off, e, hr⟩ := hsrc.1 h0
  exact ⟨b, off, e, range_below hr hbA⟩
 have hcH := cloneH_any p.ha s.hn p.hc (flatL (hf s.H A0) s.hn) (w2.setCell ⟨w.heap.size, 3, none⟩ (.slice pa' s.pn pc')) hsrc' (flatL_length _ (hf_len _ _ _)) (hf_one _ _ _) (by omega)
 clear hsrc hsrc' hkeys
 go_wp2_with fail
 refine hcH.mono ?_
 rintro e w3 ⟨v, rfl, hO, hb3⟩
 obtain ⟨ha', hc', rfl, _, _⟩ := own_frmV hO
 have hsA : (w2.setCell ⟨w.heap.size, 3, none⟩ (.slice pa' s.pn pc')).heap.size = w2.heap.size := by simp [World.setCell]
 have k0 : w3.heap[w.heap.size]? = some (.cells #[.int .i64 (s.nu + 1), .int .i64 s.a, .int .i64 s.b, .slice pa' s.pn pc', .slice p.ha s.hn p.hc] 33 (0, 0)) := by
  rw [hb3.block _ (by omega)]; exact five_set3 HK.out.1
 have k1 : w3.heap[w.heap.size + 1]? = some (.cells #[.int .i64 0, .int .i64 0, .int .i64 0, .slice none 0 0, .slice none 0 0] 33 (0, 0)) := by
  rw [hb3.block _ (by omega), Below.heap_setCell _ _ _ _ (by show w.heap.size + 1 ≠ w.heap.size; omega)]; exact HK.out.2
 have hN : NxI w (w3.setCell ⟨w.heap.size, 4, none⟩ (.slice ha' s.hn hc')) s ⟨pa', pc', ha', hc'⟩ A0 0 := by
  have hO2 : w3.ownsRow (w.heap.size + 2) 62 36 (.slice pa' s.pn pc') s.pn (flatL (pf s.P) s.pn) := by
   refine own_below (own_keep HO2.out fun g e => ?_) hb3
   have := (HO2.out.lt g e).1
   exact Below.heap_setCell _ _ _ _ (by show g ≠ w.heap.size; omega)
  refine ⟨five_set4 k0, ?_, ?_, ?_, fun j hj => by omega, fun j _ hj => HKY.out j hj, ?_⟩
  ·rw [Below.heap_setCell _ _ _ _ (by show w.heap.size + 1 ≠ w.heap.size; omega)]; exact k1
  ·refine own_keep hO2 fun g e => ?_
   have := (hO2.lt g e).1
   exact Below.heap_setCell _ _ _ _ (by show g ≠ w.heap.size; omega)
  ·refine own_keep (own_low hO (by omega)) fun g e => ?_
   have := (hO.lt g e).1
   exact Below.heap_setCell _ _ _ _ (by show g ≠ w.heap.size; omega)
  ·exact (hbA.trans (hb3.mono (by omega))).setCell (Nat.le_refl _) _
 obtain ⟨d0, d1, d2, d3, d4, df⟩ := five_of k0
 clear hcH hO hb3 hbA HB2 HK hsA hs2 HO2 c0 c1 c2 c3 c4 cf k0 k1 HKY
 go_wp2_with fail
 clear d0 d1 d2 d3 d4 df
 have HKN : Hid (∀ i, i < s.hn → (s.H i).n ≤ 300) := HS.out.k
 go_loopw [4, 5, 31] (fun _ _ iv wr => ∃ (i : Nat) (A : Nat → Option Addr × Nat), i ≤ s.hn ∧ iv = .int .i64 i ∧ NxI w wr s ⟨pa', pc', ha', hc'⟩ A i) (fun _ _ iv _ => s.hn + 1 - (intOf iv).toNat)
 case atStart => exact ⟨0, A0, by omega, rfl, hN⟩
 case round =>
  clear hN
  obtain ⟨i, A, hi, rfl, hN⟩ := hrel
  have HN : Hid (NxI w wr s ⟨pa', pc', ha', hc'⟩ A i) := hN
  clear hN
  by_cases hlt : i < s.hn
  ·have hlt' : (i : Int) < s.hn := by omega
   obtain ⟨g, e, hg1, hg2, hrg⟩ := own_range HN.out.hd (by omega)
   simp only at e
   subst e
   obtain ⟨r0, r1, r2⟩ := hd_cells ((flatL_range _ (hf_len s.H A s.hn)).1 hrg i hlt)
   rw [Nat.zero_add] at r0 r1 r2
   have hkn := HKN.out i hlt
   obtain ⟨hI0, hI1⟩ := HN.out.old i (Nat.le_refl _) hlt
   have hb4 : Below wr.heap.size wr ((wr.alloc (.cells (hdv (s.H i) (A i).1 (A i).2) 64)).drew) := ((Below.refl _ wr).alloc (Nat.le_refl _) _).drew
   have hcl := hclone_any (s.H i) (A i).1 (A i).2 ((wr.alloc (.cells (hdv (s.H i) (A i).1 (A i).2) 64)).drew) ((hI0.below HN.out.below).below hb4) hI1 (by omega)
   have HN4 : Hid (NxI w ((wr.alloc (.cells (hdv (s.H i) (A i).1 (A i).2) 64)).drew) s ⟨pa', pc', some ⟨g, 0, none⟩, hc'⟩ A i) := HN.out.keep hb4
   have c4 := (five_of HN.out.box).c4
   have hwl := lt_of_block HN.out.box
   clear hI0 hI1 hrg hb4
   unfold hdv at hcl HN4
   go_wp2_with fail
   have S0 : ((wr.alloc (.cells #[.int .i64 (s.H i).id, .int .i64 (s.H i).am, .slice (A i).1 (s.H i).n (A i).2] 64)).drew).cell? ⟨w.heap.size, 4, none⟩ = some (.slice (some ⟨g, 0, none⟩) s.hn hc') ∧ ((wr.alloc (.cells #[.int .i64 (s.H i).id, .int .i64 (s.H i).am, .slice (A i).1 (s.H i).n (A i).2] 64)).drew).rangeAt wr.heap.size 0 (hdl (s.H i) (A i).1 (A i).2) := by
    refine ⟨(five_of HN4.out.box).c4, fun j v hv => ?_⟩
    have := cell_of_row _ _ (0 + j) _ _ _ (heap_alloc_new wr (.cells #[.int .i64 (s.H i).id, .int .i64 (s.H i).am, .slice (A i).1 (s.H i).n (A i).2] 64))
    rw [Nat.zero_add] at this ⊢
    show (wr.alloc _).cell? _ = _
    rw [this]
    simpa [hdl] using hv
   have hlN := hg2
   generalize hx : s.H i = x at *
   refine wp_region_noPanic ?_
   refine wp_region_held_drew (S := fun w' => w'.cell? ⟨w.heap.size, 4, none⟩ = some (.slice (some ⟨g, 0, none⟩) s.hn hc') ∧ w'.rangeAt wr.heap.size 0 (hdl x (A i).1 (A i).2)) (by kernel_rfl) S0 (fun hHeld => ?_)
   clear r0 r1 r2 c4
   refine wpT (i := 0) (oi := ⟨some 36, .fieldAddr 33 (.tmp 1) 3, 0, _, _, none⟩) (v := ?_) rfl (by kernel_rfl) (fun _ _ _ h => h) (Or.inl ⟨by rfl, ?_⟩) (by assumption) ?_
   rotate_left
   ·intro wz hSw; (try dsimp only at hSw); go_simp; (try with_reducible rfl)
   try simp only [Act.put, sqA, sqB, sqC]
   refine wpT (i := 1) (oi := ⟨some 37, .load 31 (.tmp 36), 31, _, _, none⟩) (v := .slice (some ⟨g, 0, none⟩) s.hn hc') rfl (by kernel_rfl) (fun _ _ _ h => h) (Or.inl ⟨by rfl, ?_⟩) (by assumption) ?_
   ·intro wz hSw; (try dsimp only at hSw); (have h1 := hSw.1; go_simp)
   try simp only [Act.put, sqA, sqB, sqC]
   refine wpT (i := 2) (oi := ⟨some 38, .move (.tmp 4), 3, _, _, none⟩) (v := ?_) rfl (by kernel_rfl) (fun _ _ _ h => h) (Or.inl ⟨by rfl, ?_⟩) (by assumption) ?_
   rotate_left
   ·intro wz hSw; (try dsimp only at hSw); go_simp; (try with_reducible rfl)
   try simp only [Act.put, sqA, sqB, sqC]
   refine wpAnyH_take (i := 3) (oi := ⟨some 39, .load 64 (.tmp 5), 64, _, _, none⟩) rfl (by kernel_rfl) (by kernel_rfl) (by kernel_rfl) (fun _ _ _ h => h) (yieldsIf_load_mid (by rfl) _ _ rfl wr.heap.size 0 rfl (hdl x (A i).1 (A i).2) _ (fun _ h => h.2) Tryz.underlying64 rfl szH) (by assumption) ?_
   try simp only [Act.put, sqA, sqB, sqC]
   refine wpAnyH_ready (rs := [4]) (by kernel_rfl) (by simp) ?_
   refine (AllReadyH.cons (o := ⟨some 40, .call { callee := Go.Callee.value (.func 73), args := #[.tmp 39], argTypes := #[64] }, 64, _, _, none⟩) rfl (fun K hK => ?_) AllReadyH.nil)
   go_simp
   refine hcl.mono ?_
   rintro e w5 ⟨ka, kc, rfl, hO5, hb5⟩
   have hN5 := HN4.out.keep hb5
   have S5 : w5.cell? ⟨w.heap.size, 4, none⟩ = some (.slice (some ⟨g, 0, none⟩) s.hn hc') ∧ w5.rangeAt wr.heap.size 0 (hdl x (A i).1 (A i).2) := ⟨(five_of hN5.box).c4, range_below S0.2 hb5⟩
   have hl5 : wr.heap.size < w5.heap.size := World.block_lt_of_cell? w5 _ (S5.2 0 _ rfl)
   have hO5' : w5.ownsRow (w.heap.size + 2) 3 1 (.slice ka x.n kc) x.n (kL x) := own_low hO5 (by simp; omega)
   have HN5 : Hid (NxI w (w5.setCells g (i * 3) (hdl x ka kc)) s ⟨pa', pc', some ⟨g, 0, none⟩, hc'⟩ (fun j => if j = i then (ka, kc) else A j) (i + 1)) := by
    have := hN5.next (ka := ka) (kc := kc) (g := g) hlt rfl (by rw [hx]; exact hO5')
    rw [hx] at this
    exact this
   obtain ⟨g', e', _, _, hrg⟩ := own_range hN5.hd (by omega)
   obtain rfl : g = g' := by simpa using e'
   obtain ⟨r0, r1, r2⟩ := hd_cells ((flatL_range _ (hf_len s.H A s.hn)).1 hrg i hlt)
   rw [Nat.zero_add] at r0 r1 r2
   have fr : ∀ o, w5.frozen? ⟨g, o, none⟩ = false := fun o => by
    rcases hN5.hd.2 with ⟨e, _⟩ | ⟨g2, cap2, cur2, e, _, hg2, _⟩
    ·cases e
    ·cases e; exact frozen_of_row _ _ o _ _ hg2
   have S6 : (w5.setCells g (i * 3) (hdl x ka kc)).cell? ⟨w.heap.size, 4, none⟩ = some (.slice (some ⟨g, 0, none⟩) s.hn hc') ∧ (w5.setCells g (i * 3) (hdl x ka kc)).rangeAt wr.heap.size 0 (hdl x (A i).1 (A i).2) := by
    refine ⟨(five_of HN5.out.box).c4, fun j v hv => ?_⟩
    rw [World.cell?_of_block (a := ⟨wr.heap.size, 0 + j, none⟩) (setCells_other g _ (by show wr.heap.size ≠ g; omega) _ _ _)]
    exact S5.2 j v hv
   clear hN5 hO5 hO5' hb5 hcl HN4 hrg e' S0
   refine hK.out _ _ S5 (fun _ => ?_)
   clear hK K
   refine wpT (i := 5) (oi := ⟨some 41, .indexAddr 31 (.tmp 37) (.tmp 38), 0, _, _, none⟩) (v := ?_) rfl (by kernel_rfl) (fun _ _ _ h => h) (Or.inl ⟨by rfl, ?_⟩) (by assumption) ?_
   rotate_left
   ·intro wz hSw; (try dsimp only at hSw); go_simp; (try with_reducible rfl)
   try simp only [Act.put, sqA, sqB, sqC]
   refine wpAnyH_ready (rs := [6]) (by kernel_rfl) (by simp) ?_
   refine (AllReadyH.cons (o := ⟨none, .store 64 (.tmp 41) (.tmp 40), 0, _, _, none⟩) rfl (fun K hK => ?_) AllReadyH.nil)
   go_simp
   refine hK.out _ _ S6 (fun _ => ?_)
   clear hK K
   refine wpAnyH_done (by kernel_rfl) (NoPanic.normal ?_) _
   try simp only [Act.put, sqA, sqB, sqC]
   clear hHeld S5 S6 r0 r1 r2 fr HN
   go_wp2
   go_roundw
   case rel => exact ⟨i + 1, _, by omega, by go_num, HN5.out⟩
   case measure => simp [intOf]; omega
  ·obtain rfl : i = s.hn := by omega
   have hnn : ¬ ((s.hn : Int) < s.hn) := by omega
   obtain ⟨c0, c1, c2, c3, c4, cf⟩ := five_of HN.out.box
   obtain ⟨d0, d1, d2, d3, d4, df⟩ := five_of HN.out.res
   have hO : SvOw w.heap.size (((((wr.setCell ⟨w.heap.size + 1, 0, none⟩ (.int .i64 (s.nu + 1))).setCell ⟨w.heap.size + 1, 1, none⟩ (.int .i64 s.a)).setCell ⟨w.heap.size + 1, 2, none⟩ (.int .i64 s.b)).setCell ⟨w.heap.size + 1, 3, none⟩ (.slice pa' s.pn pc')).setCell ⟨w.heap.size + 1, 4, none⟩ (.slice ha' s.hn hc')) (nxt s) ⟨pa', pc', ha', hc'⟩ A := by
    refine ⟨H.out.py.lk, ?_, ?_, fun j hj => ?_⟩
    ·refine own_low (own_keep HN.out.py fun q e => ?_) (by omega)
     have := (HN.out.py.lt q e).1
     exact five_other (by omega)
    ·refine own_low (own_keep HN.out.hd fun q e => ?_) (by omega)
     have := (HN.out.hd.lt q e).1
     exact five_other (by omega)
    ·refine own_low (own_keep (HN.out.ks j hj) fun q e => ?_) (by omega)
     have := ((HN.out.ks j hj).lt q e).1
     exact five_other (by omega)
   have HE : Hid (SvOw w.heap.size (((((wr.setCell ⟨w.heap.size + 1, 0, none⟩ (.int .i64 (s.nu + 1))).setCell ⟨w.heap.size + 1, 1, none⟩ (.int .i64 s.a)).setCell ⟨w.heap.size + 1, 2, none⟩ (.int .i64 s.b)).setCell ⟨w.heap.size + 1, 3, none⟩ (.slice pa' s.pn pc')).setCell ⟨w.heap.size + 1, 4, none⟩ (.slice ha' s.hn hc')) (nxt s) ⟨pa', pc', ha', hc'⟩ A) := hO
   clear hO
   go_wp2
   exact bodyPost_ret (results_S2 Tryz.results49 _ _ (w.heap.size + 1) 33 _ _ _ _ _ (0, 0) rfl (five_all HN.out.res)) rfl ⟨⟨⟨pa', pc', ha', hc'⟩, rfl, A, HE.out⟩, five_below HN.out.below (by omega)⟩
end Go.Proofs.YthmmmkldmhjogaaGreatDoor
/- state.Move. -/
namespace Go.Proofs.YthmmmkldmhjogaaGreatDoor
open Go.RowKit

theorem five_alloc {w1 : World} {b : Nat} {x0 x1 x2 x3 x4 u0 u1 u2 u3 u4 : Value} {t : TypeId} (o : Obj) (h : w1.heap[b]? = some (.cells #[x0, x1, x2, x3, x4] t (0, 0))) :
  ((((((w1.setCell ⟨b, 0, none⟩ u0).setCell ⟨b, 1, none⟩ u1).setCell ⟨b, 2, none⟩ u2).setCell ⟨b, 3, none⟩ u3).setCell ⟨b, 4, none⟩ u4).alloc o).heap[b]? = some (.cells #[u0, u1, u2, u3, u4] t (0, 0)) := by
 rw [Below.heap_alloc _ _ _ (by simpa [World.setCell] using lt_of_block h)]
 exact five_all h
theorem five_ab {B b : Nat} {w w1 : World} {u0 u1 u2 u3 u4 : Value} (o : Obj) (h : Below B w w1) (hB : B ≤ b) (hs : B ≤ w1.heap.size) :
  Below B w ((((((w1.setCell ⟨b, 0, none⟩ u0).setCell ⟨b, 1, none⟩ u1).setCell ⟨b, 2, none⟩ u2).setCell ⟨b, 3, none⟩ u3).setCell ⟨b, 4, none⟩ u4).alloc o) :=
 (five_below h hB).alloc (by simpa [World.setCell] using hs) _
theorem five_ao {k b : Nat} {w : World} {u0 u1 u2 u3 u4 : Value} (o : Obj) (h : k ≠ b) (hk : k < w.heap.size) : ((((((w.setCell ⟨b, 0, none⟩ u0).setCell ⟨b, 1, none⟩ u1).setCell ⟨b, 2, none⟩ u2).setCell ⟨b, 3, none⟩ u3).setCell ⟨b, 4, none⟩ u4).alloc o).heap[k]? = w.heap[k]? := by
 rw [Below.heap_alloc _ _ _ (by simpa [World.setCell] using hk)]
 exact five_other h
def Side (n : Int) : Prop := n = 0 ∨ n = 1
instance (n : Int) : Decidable (Side n) := inferInstanceAs (Decidable (_ ∨ _))
/-- What a side has. -/
def has (s : Sv) (side : Int) : Int := if side = 0 then s.a else s.b
/-- A state with the next number in which the sides have so much more. -/
def giv (s : Sv) (x y : Int) : Sv := { nxt s with a := s.a + x, b := s.b + y }
/-- Move, as a function. -/
def moveF (s : Sv) (f n : Int) : Sv × Int :=
 if ¬ Rgt s then (sv0, 1) else if ¬ Side f then (sv0, 33) else if n < 1 then (sv0, 27) else if has s f < n then (sv0, 20)
 else (if f = 0 then giv s (-n) n else giv s n (-n), 0)
theorem SvOw.alike {w : World} {B : Nat} {s s' : Sv} {p : Pl} {A : Nat → Option Addr × Nat} (h : SvOw B w s p A) (h1 : s'.pn = s.pn) (h2 : s'.P = s.P) (h3 : s'.hn = s.hn) (h4 : s'.H = s.H) : SvOw B w s' p A := by
 obtain ⟨nu, a, b, pn, P, hn, H⟩ := s
 obtain ⟨nu', a', b', pn', P', hn', H'⟩ := s'
 simp only at h1 h2 h3 h4
 subst h1 h2 h3 h4
 exact ⟨h.lk, h.py, h.hd, h.ks⟩
/-- Behind a block of one's own that is written: the rows stay. -/
theorem SvOw.frm {w w' : World} {B : Nat} {s : Sv} {p : Pl} {A : Nat → Option Addr × Nat} (h : SvOw B w s p A) (hk : ∀ k, k < w.heap.size → B ≤ k → w'.heap[k]? = w.heap[k]?) : SvOw B w' s p A :=
 ⟨h.lk, own_keep h.py (fun g e => hk g (h.py.lt g e).2 (h.py.lt g e).1), own_keep h.hd (fun g e => hk g (h.hd.lt g e).2 (h.hd.lt g e).1), fun i hi => own_keep (h.ks i hi) (fun g e => hk g ((h.ks i hi).lt g e).2 ((h.ks i hi).lt g e).1)⟩
set_option maxRecDepth 100000 in
set_option maxHeartbeats 1600000 in
theorem move_1 (s : Sv) (p : Pl) (f n : Int) (w : World) (h : SvAt w s p) (hs : s.Small) (hr : ¬ Rgt s) :
  Calls Tryz.prog 19 #[.agg (svv s p), .int .i64 f, .int .i64 n] w fun e w' => e = .returned (.tuple #[.agg #[.int .i64 0, .int .i64 0, .int .i64 0, .slice none 0 0, .slice none 0 0], errV 1]) ∧ Below w.heap.size w w' := by
 obtain ⟨hn0, hn1, hsz, hb0⟩ := two_new w s p 33 33
 have hc := next_bad s p _ (h.below hb0) hs hr
 clear h hs
 unfold svv sv0 pl0 at hn0 hn1 hsz hb0 hc
 unfold svv
 simp only at hn0 hn1 hsz hb0 hc
 go_enter Tryz.func19, Tryz.ntmps19
 go_wp2_with fail
 generalize ((w.alloc (.cells #[.int .i64 s.nu, .int .i64 s.a, .int .i64 s.b, .slice p.pa s.pn p.pc, .slice p.ha s.hn p.hc] 33)).alloc (.cells #[.int .i64 0, .int .i64 0, .int .i64 0, .slice none 0 0, .slice none 0 0] 33)) = W0 at *
 refine hc.mono ?_
 rintro e w1 ⟨rfl, hb1⟩
 have HB : Hid (Below w.heap.size w w1) := hb0.trans (hb1.mono (by omega))
 have k1 := hb1.block _ (show w.heap.size + 1 < W0.heap.size by omega)
 rw [hn1] at k1
 have hl1 : w.heap.size + 1 < w1.heap.size := by have := hb1.size; omega
 clear hc hb0 hb1 hn0 hn1 hsz
 obtain ⟨d0, d1, d2, d3, d4, df⟩ := five_of k1
 have HK : Hid (w1.heap[w.heap.size + 1]? = some (.cells #[.int .i64 0, .int .i64 0, .int .i64 0, .slice none 0 0, .slice none 0 0] 33 (0, 0))) := k1
 clear k1
 have e1 : errV 1 = .iface 67 (.int .i64 1) := rfl
 rw [e1]
 go_wp2
 exact bodyPost_ret (results_S2 Tryz.results19 _ _ (w.heap.size + 1) 33 _ _ _ _ _ (0, 0) rfl (five_alloc _ HK.out)) rfl ⟨rfl, five_ab _ HB.out (by omega) HB.out.size⟩
set_option maxRecDepth 100000 in
set_option maxHeartbeats 1600000 in
theorem move_33 (s : Sv) (p : Pl) (f n : Int) (w : World) (h : SvAt w s p) (hs : s.Small) (hr : Rgt s) (hf : ¬ Side f) :
  Calls Tryz.prog 19 #[.agg (svv s p), .int .i64 f, .int .i64 n] w fun e w' => e = .returned (.tuple #[.agg #[.int .i64 0, .int .i64 0, .int .i64 0, .slice none 0 0, .slice none 0 0], errV 33]) ∧ Below w.heap.size w w' := by
 obtain ⟨hn0, hn1, hsz, hb0⟩ := two_new w s p 33 33
 have hc := next_ok s p _ (h.below hb0) hs hr
 have hsd := isSide_any f
 rw [decide_eq_false (show ¬ (f = 0 ∨ f = 1) from hf)] at hsd
 clear h hs
 unfold svv sv0 pl0 at hn0 hn1 hsz hb0 hc
 unfold svv
 simp only at hn0 hn1 hsz hb0 hc
 go_enter Tryz.func19, Tryz.ntmps19
 go_wp2_with fail
 generalize ((w.alloc (.cells #[.int .i64 s.nu, .int .i64 s.a, .int .i64 s.b, .slice p.pa s.pn p.pc, .slice p.ha s.hn p.hc] 33)).alloc (.cells #[.int .i64 0, .int .i64 0, .int .i64 0, .slice none 0 0, .slice none 0 0] 33)) = W0 at *
 refine hc.mono ?_
 rintro e w1 ⟨⟨p', A, rfl, hO⟩, hb1⟩
 have HB : Hid (Below w.heap.size w w1) := hb0.trans (hb1.mono (by omega))
 have k1 := hb1.block _ (show w.heap.size + 1 < W0.heap.size by omega)
 rw [hn1] at k1
 have hl1 : w.heap.size + 1 < w1.heap.size := by have := hb1.size; omega
 have HO : Hid (SvOw (w.heap.size + 2) w1 (nxt s) p' A) := hO.low (by omega)
 clear hc hb0 hb1 hn0 hn1 hO hsz
 unfold nxt at HO ⊢
 dsimp only
 obtain ⟨d0, d1, d2, d3, d4, df⟩ := five_of k1
 have HK : Hid (w1.heap[w.heap.size + 1]? = some (.cells #[.int .i64 0, .int .i64 0, .int .i64 0, .slice none 0 0, .slice none 0 0] 33 (0, 0))) := k1
 clear k1
 go_wp2_with fail
 refine (hsd _).mono ?_
 rintro e w2 ⟨rfl, rfl⟩
 clear hsd
 go_wp2
 exact bodyPost_ret (results_S2 Tryz.results19 _ _ (w.heap.size + 1) 33 _ _ _ _ _ (0, 0) rfl (five_alloc _ HK.out)) rfl ⟨rfl, five_ab _ HB.out (by omega) HB.out.size⟩
set_option maxRecDepth 100000 in
set_option maxHeartbeats 1600000 in
theorem move_27 (s : Sv) (p : Pl) (f n : Int) (w : World) (h : SvAt w s p) (hs : s.Small) (hr : Rgt s) (hf : Side f) (hn : n < 1) :
  Calls Tryz.prog 19 #[.agg (svv s p), .int .i64 f, .int .i64 n] w fun e w' => e = .returned (.tuple #[.agg #[.int .i64 0, .int .i64 0, .int .i64 0, .slice none 0 0, .slice none 0 0], errV 27]) ∧ Below w.heap.size w w' := by
 obtain ⟨hn0, hn1, hsz, hb0⟩ := two_new w s p 33 33
 have hc := next_ok s p _ (h.below hb0) hs hr
 have hsd := isSide_any f
 rw [decide_eq_true (show (f = 0 ∨ f = 1) from hf)] at hsd
 clear h hs
 unfold svv sv0 pl0 at hn0 hn1 hsz hb0 hc
 unfold svv
 simp only at hn0 hn1 hsz hb0 hc
 go_enter Tryz.func19, Tryz.ntmps19
 go_wp2_with fail
 generalize ((w.alloc (.cells #[.int .i64 s.nu, .int .i64 s.a, .int .i64 s.b, .slice p.pa s.pn p.pc, .slice p.ha s.hn p.hc] 33)).alloc (.cells #[.int .i64 0, .int .i64 0, .int .i64 0, .slice none 0 0, .slice none 0 0] 33)) = W0 at *
 refine hc.mono ?_
 rintro e w1 ⟨⟨p', A, rfl, hO⟩, hb1⟩
 have HB : Hid (Below w.heap.size w w1) := hb0.trans (hb1.mono (by omega))
 have k1 := hb1.block _ (show w.heap.size + 1 < W0.heap.size by omega)
 rw [hn1] at k1
 have hl1 : w.heap.size + 1 < w1.heap.size := by have := hb1.size; omega
 have HO : Hid (SvOw (w.heap.size + 2) w1 (nxt s) p' A) := hO.low (by omega)
 clear hc hb0 hb1 hn0 hn1 hO hsz
 unfold nxt at HO ⊢
 dsimp only
 obtain ⟨d0, d1, d2, d3, d4, df⟩ := five_of k1
 have HK : Hid (w1.heap[w.heap.size + 1]? = some (.cells #[.int .i64 0, .int .i64 0, .int .i64 0, .slice none 0 0, .slice none 0 0] 33 (0, 0))) := k1
 clear k1
 go_wp2_with fail
 refine (hsd _).mono ?_
 rintro e w2 ⟨rfl, rfl⟩
 clear hsd
 go_wp2
 exact bodyPost_ret (results_S2 Tryz.results19 _ _ (w.heap.size + 1) 33 _ _ _ _ _ (0, 0) rfl (five_alloc _ HK.out)) rfl ⟨rfl, five_ab _ HB.out (by omega) HB.out.size⟩
set_option maxRecDepth 100000 in
set_option maxHeartbeats 1600000 in
theorem move_20_0 (s : Sv) (p : Pl) (n : Int) (w : World) (h : SvAt w s p) (hs : s.Small) (hr : Rgt s) (hn : ¬ n < 1) (hh : s.a < n) :
  Calls Tryz.prog 19 #[.agg (svv s p), .int .i64 0, .int .i64 n] w fun e w' => e = .returned (.tuple #[.agg #[.int .i64 0, .int .i64 0, .int .i64 0, .slice none 0 0, .slice none 0 0], errV 20]) ∧ Below w.heap.size w w' := by
 obtain ⟨hn0, hn1, hsz, hb0⟩ := two_new w s p 33 33
 have hc := next_ok s p _ (h.below hb0) hs hr
 have hsd := isSide_any 0
 rw [decide_eq_true (by decide)] at hsd
 clear h hs
 unfold svv sv0 pl0 at hn0 hn1 hsz hb0 hc
 unfold svv
 simp only at hn0 hn1 hsz hb0 hc
 go_enter Tryz.func19, Tryz.ntmps19
 go_wp2_with fail
 generalize ((w.alloc (.cells #[.int .i64 s.nu, .int .i64 s.a, .int .i64 s.b, .slice p.pa s.pn p.pc, .slice p.ha s.hn p.hc] 33)).alloc (.cells #[.int .i64 0, .int .i64 0, .int .i64 0, .slice none 0 0, .slice none 0 0] 33)) = W0 at *
 refine hc.mono ?_
 rintro e w1 ⟨⟨p', A, rfl, hO⟩, hb1⟩
 have HB : Hid (Below w.heap.size w w1) := hb0.trans (hb1.mono (by omega))
 have k1 := hb1.block _ (show w.heap.size + 1 < W0.heap.size by omega)
 rw [hn1] at k1
 have hl1 : w.heap.size + 1 < w1.heap.size := by have := hb1.size; omega
 have HO : Hid (SvOw (w.heap.size + 2) w1 (nxt s) p' A) := hO.low (by omega)
 clear hc hb0 hb1 hn0 hn1 hO hsz
 unfold nxt at HO ⊢
 dsimp only
 obtain ⟨d0, d1, d2, d3, d4, df⟩ := five_of k1
 have HK : Hid (w1.heap[w.heap.size + 1]? = some (.cells #[.int .i64 0, .int .i64 0, .int .i64 0, .slice none 0 0, .slice none 0 0] 33 (0, 0))) := k1
 clear k1
 go_wp2_with fail
 refine (hsd _).mono ?_
 rintro e w2 ⟨rfl, rfl⟩
 clear hsd
 go_wp2
 exact bodyPost_ret (results_S2 Tryz.results19 _ _ (w.heap.size + 1) 33 _ _ _ _ _ (0, 0) rfl (five_alloc _ HK.out)) rfl ⟨rfl, five_ab _ HB.out (by omega) HB.out.size⟩
set_option maxRecDepth 100000 in
set_option maxHeartbeats 1600000 in
theorem move_ok_0 (s : Sv) (p : Pl) (n : Int) (w : World) (h : SvAt w s p) (hs : s.Small) (hr : Rgt s) (hn : ¬ n < 1) (hh : ¬ s.a < n) :
  Calls Tryz.prog 19 #[.agg (svv s p), .int .i64 0, .int .i64 n] w fun e w' => (∃ p' A, e = .returned (.tuple #[.agg #[.int .i64 (s.nu + 1), .int .i64 (s.a - n), .int .i64 (s.b + n), .slice p'.pa s.pn p'.pc, .slice p'.ha s.hn p'.hc], .nilIface]) ∧ SvOw w.heap.size w' (nxt s) p' A) ∧ Below w.heap.size w w' := by
 have b1 := hr.1.1.2.1
 have b2 := hr.1.1.2.2
 have x1 : wrap64 (s.a - n) = s.a - n := by simp [wrap64]; omega
 have x2 : wrap64 (s.b + n) = s.b + n := by simp [wrap64]; omega
 obtain ⟨hn0, hn1, hsz, hb0⟩ := two_new w s p 33 33
 have hc := next_ok s p _ (h.below hb0) hs hr
 have hsd := isSide_any 0
 rw [decide_eq_true (by decide)] at hsd
 clear h hs
 unfold svv sv0 pl0 at hn0 hn1 hsz hb0 hc
 unfold svv
 simp only at hn0 hn1 hsz hb0 hc
 go_enter Tryz.func19, Tryz.ntmps19
 go_wp2_with fail
 generalize ((w.alloc (.cells #[.int .i64 s.nu, .int .i64 s.a, .int .i64 s.b, .slice p.pa s.pn p.pc, .slice p.ha s.hn p.hc] 33)).alloc (.cells #[.int .i64 0, .int .i64 0, .int .i64 0, .slice none 0 0, .slice none 0 0] 33)) = W0 at *
 refine hc.mono ?_
 rintro e w1 ⟨⟨p', A, rfl, hO⟩, hb1⟩
 have HB : Hid (Below w.heap.size w w1) := hb0.trans (hb1.mono (by omega))
 have k1 := hb1.block _ (show w.heap.size + 1 < W0.heap.size by omega)
 rw [hn1] at k1
 have hl1 : w.heap.size + 1 < w1.heap.size := by have := hb1.size; omega
 have HO : Hid (SvOw (w.heap.size + 2) w1 (nxt s) p' A) := hO.low (by omega)
 clear hc hb0 hb1 hn0 hn1 hO hsz
 unfold nxt at HO ⊢
 dsimp only
 obtain ⟨d0, d1, d2, d3, d4, df⟩ := five_of k1
 have HK : Hid (w1.heap[w.heap.size + 1]? = some (.cells #[.int .i64 0, .int .i64 0, .int .i64 0, .slice none 0 0, .slice none 0 0] 33 (0, 0))) := k1
 clear k1
 go_wp2_with fail
 refine (hsd _).mono ?_
 rintro e w2 ⟨rfl, rfl⟩
 clear hsd
 go_wp2
 exact bodyPost_ret (results_S2 Tryz.results19 _ _ (w.heap.size + 1) 33 _ _ _ _ _ (0, 0) rfl (five_alloc _ HK.out)) rfl ⟨⟨p', A, rfl, (HO.out.frm fun k h1 h2 => five_ao _ (by omega) h1).low (by omega)⟩, five_ab _ HB.out (by omega) HB.out.size⟩
set_option maxRecDepth 100000 in
set_option maxHeartbeats 1600000 in
theorem move_20_1 (s : Sv) (p : Pl) (n : Int) (w : World) (h : SvAt w s p) (hs : s.Small) (hr : Rgt s) (hn : ¬ n < 1) (hh : s.b < n) :
  Calls Tryz.prog 19 #[.agg (svv s p), .int .i64 1, .int .i64 n] w fun e w' => e = .returned (.tuple #[.agg #[.int .i64 0, .int .i64 0, .int .i64 0, .slice none 0 0, .slice none 0 0], errV 20]) ∧ Below w.heap.size w w' := by
 obtain ⟨hn0, hn1, hsz, hb0⟩ := two_new w s p 33 33
 have hc := next_ok s p _ (h.below hb0) hs hr
 have hsd := isSide_any 1
 rw [decide_eq_true (by decide)] at hsd
 clear h hs
 unfold svv sv0 pl0 at hn0 hn1 hsz hb0 hc
 unfold svv
 simp only at hn0 hn1 hsz hb0 hc
 go_enter Tryz.func19, Tryz.ntmps19
 go_wp2_with fail
 generalize ((w.alloc (.cells #[.int .i64 s.nu, .int .i64 s.a, .int .i64 s.b, .slice p.pa s.pn p.pc, .slice p.ha s.hn p.hc] 33)).alloc (.cells #[.int .i64 0, .int .i64 0, .int .i64 0, .slice none 0 0, .slice none 0 0] 33)) = W0 at *
 refine hc.mono ?_
 rintro e w1 ⟨⟨p', A, rfl, hO⟩, hb1⟩
 have HB : Hid (Below w.heap.size w w1) := hb0.trans (hb1.mono (by omega))
 have k1 := hb1.block _ (show w.heap.size + 1 < W0.heap.size by omega)
 rw [hn1] at k1
 have hl1 : w.heap.size + 1 < w1.heap.size := by have := hb1.size; omega
 have HO : Hid (SvOw (w.heap.size + 2) w1 (nxt s) p' A) := hO.low (by omega)
 clear hc hb0 hb1 hn0 hn1 hO hsz
 unfold nxt at HO ⊢
 dsimp only
 obtain ⟨d0, d1, d2, d3, d4, df⟩ := five_of k1
 have HK : Hid (w1.heap[w.heap.size + 1]? = some (.cells #[.int .i64 0, .int .i64 0, .int .i64 0, .slice none 0 0, .slice none 0 0] 33 (0, 0))) := k1
 clear k1
 go_wp2_with fail
 refine (hsd _).mono ?_
 rintro e w2 ⟨rfl, rfl⟩
 clear hsd
 go_wp2
 exact bodyPost_ret (results_S2 Tryz.results19 _ _ (w.heap.size + 1) 33 _ _ _ _ _ (0, 0) rfl (five_alloc _ HK.out)) rfl ⟨rfl, five_ab _ HB.out (by omega) HB.out.size⟩
set_option maxRecDepth 100000 in
set_option maxHeartbeats 1600000 in
theorem move_ok_1 (s : Sv) (p : Pl) (n : Int) (w : World) (h : SvAt w s p) (hs : s.Small) (hr : Rgt s) (hn : ¬ n < 1) (hh : ¬ s.b < n) :
  Calls Tryz.prog 19 #[.agg (svv s p), .int .i64 1, .int .i64 n] w fun e w' => (∃ p' A, e = .returned (.tuple #[.agg #[.int .i64 (s.nu + 1), .int .i64 (s.a + n), .int .i64 (s.b - n), .slice p'.pa s.pn p'.pc, .slice p'.ha s.hn p'.hc], .nilIface]) ∧ SvOw w.heap.size w' (nxt s) p' A) ∧ Below w.heap.size w w' := by
 have b1 := hr.1.1.2.1
 have b2 := hr.1.1.2.2
 have x1 : wrap64 (s.a + n) = s.a + n := by simp [wrap64]; omega
 have x2 : wrap64 (s.b - n) = s.b - n := by simp [wrap64]; omega
 obtain ⟨hn0, hn1, hsz, hb0⟩ := two_new w s p 33 33
 have hc := next_ok s p _ (h.below hb0) hs hr
 have hsd := isSide_any 1
 rw [decide_eq_true (by decide)] at hsd
 clear h hs
 unfold svv sv0 pl0 at hn0 hn1 hsz hb0 hc
 unfold svv
 simp only at hn0 hn1 hsz hb0 hc
 go_enter Tryz.func19, Tryz.ntmps19
 go_wp2_with fail
 generalize ((w.alloc (.cells #[.int .i64 s.nu, .int .i64 s.a, .int .i64 s.b, .slice p.pa s.pn p.pc, .slice p.ha s.hn p.hc] 33)).alloc (.cells #[.int .i64 0, .int .i64 0, .int .i64 0, .slice none 0 0, .slice none 0 0] 33)) = W0 at *
 refine hc.mono ?_
 rintro e w1 ⟨⟨p', A, rfl, hO⟩, hb1⟩
 have HB : Hid (Below w.heap.size w w1) := hb0.trans (hb1.mono (by omega))
 have k1 := hb1.block _ (show w.heap.size + 1 < W0.heap.size by omega)
 rw [hn1] at k1
 have hl1 : w.heap.size + 1 < w1.heap.size := by have := hb1.size; omega
 have HO : Hid (SvOw (w.heap.size + 2) w1 (nxt s) p' A) := hO.low (by omega)
 clear hc hb0 hb1 hn0 hn1 hO hsz
 unfold nxt at HO ⊢
 dsimp only
 obtain ⟨d0, d1, d2, d3, d4, df⟩ := five_of k1
 have HK : Hid (w1.heap[w.heap.size + 1]? = some (.cells #[.int .i64 0, .int .i64 0, .int .i64 0, .slice none 0 0, .slice none 0 0] 33 (0, 0))) := k1
 clear k1
 go_wp2_with fail
 refine (hsd _).mono ?_
 rintro e w2 ⟨rfl, rfl⟩
 clear hsd
 go_wp2
 exact bodyPost_ret (results_S2 Tryz.results19 _ _ (w.heap.size + 1) 33 _ _ _ _ _ (0, 0) rfl (five_alloc _ HK.out)) rfl ⟨⟨p', A, rfl, (HO.out.frm fun k h1 h2 => five_ao _ (by omega) h1).low (by omega)⟩, five_ab _ HB.out (by omega) HB.out.size⟩

theorem move_any (s : Sv) (p : Pl) (f n : Int) (w : World) (h : SvAt w s p) (hs : s.Small) :
  Calls Tryz.prog 19 #[.agg (svv s p), .int .i64 f, .int .i64 n] w fun e w' => ∃ p', e = .returned (.tuple #[.agg (svv (moveF s f n).1 p'), errV (moveF s f n).2]) ∧ SvAt w' (moveF s f n).1 p' ∧ Below w.heap.size w w' := by
 by_cases hr : Rgt s
 ·by_cases hf : Side f
  ·by_cases hn : n < 1
   ·have e : moveF s f n = (sv0, 27) := by simp [moveF, hr, hf, hn]
    rw [e]
    exact (move_27 s p f n w h hs hr hf hn).mono fun e w' ⟨h1, h2⟩ => ⟨pl0, h1, sv0_at _, h2⟩
   ·rcases hf with rfl | rfl
    ·by_cases hh : s.a < n
     ·have e : moveF s 0 n = (sv0, 20) := by simp [moveF, hr, Side, hn, has, hh]
      rw [e]
      exact (move_20_0 s p n w h hs hr hn hh).mono fun e w' ⟨h1, h2⟩ => ⟨pl0, h1, sv0_at _, h2⟩
     ·have e : moveF s 0 n = (giv s (-n) n, 0) := by simp [moveF, hr, Side, hn, has, hh]
      rw [e]
      refine (move_ok_0 s p n w h hs hr hn hh).mono fun e w' ⟨⟨p', A, h1, h2⟩, h3⟩ => ⟨p', ?_, (h2.alike (s' := giv s (-n) n) rfl rfl rfl rfl).at, h3⟩
      rw [h1]; rfl
    ·by_cases hh : s.b < n
     ·have e : moveF s 1 n = (sv0, 20) := by simp [moveF, hr, Side, hn, has, hh]
      rw [e]
      exact (move_20_1 s p n w h hs hr hn hh).mono fun e w' ⟨h1, h2⟩ => ⟨pl0, h1, sv0_at _, h2⟩
     ·have e : moveF s 1 n = (giv s n (-n), 0) := by simp [moveF, hr, Side, hn, has, hh]
      rw [e]
      refine (move_ok_1 s p n w h hs hr hn hh).mono fun e w' ⟨⟨p', A, h1, h2⟩, h3⟩ => ⟨p', ?_, (h2.alike (s' := giv s n (-n)) rfl rfl rfl rfl).at, h3⟩
      rw [h1]; rfl
  ·have e : moveF s f n = (sv0, 33) := by simp [moveF, hr, hf]
   rw [e]
   exact (move_33 s p f n w h hs hr hf).mono fun e w' ⟨h1, h2⟩ => ⟨pl0, h1, sv0_at _, h2⟩
 ·have e : moveF s f n = (sv0, 1) := by simp [moveF, hr]
  rw [e]
  exact (move_1 s p f n w h hs hr).mono fun e w' ⟨h1, h2⟩ => ⟨pl0, h1, sv0_at _, h2⟩
end Go.Proofs.YthmmmkldmhjogaaGreatDoor
/- A region that draws its order and whose last operation (c, which waits for all others) writes a cell that the others load: S need not hold behind it. -/
namespace Go.Proofs.YthmmmkldmhjogaaGreatDoor
open Go

section
variable {P : Program} {ops : Array Oper} {md : Region.Mode} {Q : Exit → Act → World → Prop} {S : World → Prop} {c : Nat}

/-- Whatever order is picked from here on; S holds behind every operation but c. -/
def wpAnyK (P : Program) (md : Region.Mode) (ops : Array Oper) (Q : Exit → Act → World → Prop) (S : World → Prop) (c : Nat) : Nat → Array Bool → Act → World → Prop
 | 0, l, a, w => Region.ready md ops l = [] ∧ Q .normal a w
 | n + 1, l, a, w => (Region.ready md ops l = [] → Q .normal a w) ∧
  ∀ i ∈ Region.ready md ops l, wpOp P ops Q i (fun a' w' => (i ≠ c → S w') ∧ wpAnyK P md ops Q S c n (l.setIfInBounds i true) a' w') a w

theorem wpAny_of_K : ∀ (n : Nat) (l : Array Bool) (a : Act) (w : World), wpAnyK P md ops Q S c n l a w → wpAny P md ops Q n l a w
 | 0, _, _, _, h => h
 | n + 1, _, _, _, h => ⟨h.1, fun i hi => wpOp_mono (fun a' w' h' => wpAny_of_K n _ a' w' h'.2) (h.2 i hi)⟩

/-- c waits for i. -/
def waitsK (md : Region.Mode) (ops : Array Oper) (c i : Nat) : Bool := match ops[c]? with
 | some oc => oc.after.any fun e => Region.binds md e && e.on == i
 | none => false

theorem wpAnyK_first {i : Nat} {oi : Oper} {v : Value} (hce : waitsK md ops c i = true) (hi : ops[i]? = some oi) (hsel : ∀ (j : Nat) (o : Oper) cs b, ops[j]? = some o → o.op ≠ .select cs b)
  (hQ : ∀ ch a w, Q (.panic ch) (a.put oi.dst v) w → Q (.panic ch) a w) :
  ∀ (n : Nat) (l : Array Bool) (a : Act) (w : World),
   (∀ j oj, ops[j]? = some oj → j ≠ i → l.getD j true = false → (∀ e ∈ oj.after, Region.binds md e = true → e.on ≠ i) → oi.apart ops oj = true) →
   i ∈ Region.ready md ops l → YieldsIf P ops S oi v a → S w →
   wpAnyK P md ops Q S c n (l.setIfInBounds i true) (a.put oi.dst v) w → wpAnyK P md ops Q S c (n + 1) l a w := by
 intro n
 induction n with
 | zero =>
  intro l a w _ hr hy hS H
  refine ⟨fun h => (by rw [h] at hr; cases hr), fun j hj => ?_⟩
  by_cases hji : j = i
  ·subst hji; exact hy.wpOp hi hS ⟨fun _ => hS, H⟩
  ·have := ready_mono hj hji
   rw [H.1] at this
   cases this
 | succ n ih =>
  intro l a w hfree hr hy hS H
  refine ⟨fun h => (by rw [h] at hr; cases hr), fun j hj => ?_⟩
  by_cases hji : j = i
  ·subst hji; exact hy.wpOp hi hS ⟨fun _ => hS, H⟩
  ·have h1 := H.2 j (ready_mono hj hji)
   obtain ⟨hjun, oj, hoj, hall⟩ := mem_ready.1 hj
   have hnot : ∀ e ∈ oj.after, Region.binds md e = true → e.on ≠ i := fun e he hb heq => by
    have h1 := hall e he hb
    have h0 := (mem_ready.1 hr).1
    rw [heq] at h1
    rcases Nat.lt_or_ge i l.size with h' | h'
    ·simp [h'] at h0 h1; rw [h0] at h1; cases h1
    ·simp [Array.getElem?_eq_none h'] at h1
   have hjc : j ≠ c := fun e => by
    subst e
    unfold waitsK at hce
    rw [hoj] at hce
    obtain ⟨e, he, hh⟩ := Array.any_eq_true'.1 hce
    simp only [Bool.and_eq_true, beq_iff_eq] at hh
    exact hnot e he hh.1 hh.2
   have h2 := wpOp_putIf hoj (hfree j oj hoj hji hjun hnot) (fun cs b => hsel i oi cs b hi) (fun cs b => hsel j oj cs b hoj) hQ hy h1
   have hfree' : ∀ k ok, ops[k]? = some ok → k ≠ i → (l.setIfInBounds j true).getD k true = false →
     (∀ e ∈ ok.after, Region.binds md e = true → e.on ≠ i) → oi.apart ops ok = true := fun k ok hk hki hun hno => by
    refine hfree k ok hk hki ?_ hno
    by_cases hjk : j = k
    ·subst hjk; exact hjun
    ·rw [getD_set_ne true hjk] at hun; exact hun
   refine wpOp_mono (fun a' w' h3 => ⟨h3.2.1, ih (l.setIfInBounds j true) a' w' hfree' (ready_mono hr (Ne.symm hji)) h3.1 (h3.2.1 hjc) ?_⟩) h2
   rw [Array.setIfInBounds_comm _ _ hji]
   exact h3.2.2

theorem wpAnyK_take {i : Nat} {oi : Oper} {v : Value} {n : Nat} {l : Array Bool} {a : Act} {w : World} (hce : waitsK md ops c i = true) (hi : ops[i]? = some oi)
  (hs : Region.noSelect ops = true) (hf : Region.free md ops l i = true) (hr : (Region.ready md ops l).contains i = true)
  (hQ : ∀ ch a w, Q (.panic ch) (a.put oi.dst v) w → Q (.panic ch) a w) (hy : YieldsIf P ops S oi v a) (hS : S w)
  (h : wpAnyK P md ops Q S c n (l.setIfInBounds i true) (a.put oi.dst v) w) : wpAnyK P md ops Q S c (n + 1) l a w :=
 wpAnyK_first hce hi (Region.noSelect_spec hs) hQ n l a w (Region.free_spec hi hf) (by simpa using hr) hy hS h

def AllReadyK (P : Program) (md : Region.Mode) (ops : Array Oper) (Q : Exit → Act → World → Prop) (S : World → Prop) (c n : Nat) (l : Array Bool) (a : Act) (w : World) (rs : List Nat) : Prop :=
 ∀ i ∈ rs, wpOp P ops Q i (fun a' w' => (i ≠ c → S w') ∧ wpAnyK P md ops Q S c n (l.setIfInBounds i true) a' w') a w
theorem AllReadyK.nil {n : Nat} {l : Array Bool} {a : Act} {w : World} : AllReadyK P md ops Q S c n l a w [] := fun _ h => by cases h
theorem AllReadyK.cons {n : Nat} {l : Array Bool} {a : Act} {w : World} {i : Nat} {o : Oper} {rs : List Nat} (ho : ops[i]? = some o)
  (h : ∀ K' : Act → World → Prop, Shut (∀ a w, (i ≠ c → S w) → ((i ≠ c → S w) → wpAnyK P md ops Q S c n (l.setIfInBounds i true) a w) → K' a w) → if Region.wanted o (yielded ops a.tmps) = true then Oper.wp P o a w K' Q else K' (a.put o.dst undef) w)
  (hs : AllReadyK P md ops Q S c n l a w rs) : AllReadyK P md ops Q S c n l a w (i :: rs) := fun j hj => by
 rcases List.mem_cons.1 hj with rfl | hj
 ·exact wpOp_step ho (fun K' hK => h K' (fun a w hS hW => hK a w ⟨hS, hW hS⟩))
 ·exact hs j hj
theorem wpAnyK_ready {rs : List Nat} {n : Nat} {l : Array Bool} {a : Act} {w : World} (hr : Region.ready md ops l = rs) (hne : rs ≠ [])
  (h : AllReadyK P md ops Q S c n l a w rs) : wpAnyK P md ops Q S c (n + 1) l a w := ⟨fun h0 => absurd (hr ▸ h0) hne, hr ▸ h⟩
theorem wpAnyK_done {l : Array Bool} {a : Act} {w : World} (hr : Region.ready md ops l = []) (h : Q .normal a w) : ∀ n, wpAnyK P md ops Q S c n l a w
 | 0 => ⟨hr, h⟩
 | _ + 1 => ⟨fun _ => h, by rw [hr]; simp⟩
theorem wp_region_K {id : Nat} {a : Act} {w : World} (c : Nat) (hm : P.follows .mixedOrders = true) (hS : S w.drew)
  (h : S w.drew → wpAnyK P .any ops Q S c ops.size (Array.replicate ops.size false) a w.drew) : (Code.region id ops true).wp P Q a w :=
 wp_region_any hm (wpAny_of_K _ _ _ _ (h hS))
end
end Go.Proofs.YthmmmkldmhjogaaGreatDoor
