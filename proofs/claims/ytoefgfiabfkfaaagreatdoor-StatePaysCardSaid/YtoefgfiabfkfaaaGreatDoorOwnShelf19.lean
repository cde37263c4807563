/- state.mayBeHeld and (State).together. -/
import Derived.Test.YtoefgfiabfkfaaaGreatDoorOwnShelf15
import Derived.Test.YtoefgfiabfkfaaaGreatDoorOwnShelf18
import Derived.Deep.RegionLaw
import Derived.Deep.DrawnRows
namespace Go.Proofs.YtoefgfiabfkfaaaGreatDoor
open Go.RowKit


set_option maxRecDepth 100000 in
set_option maxHeartbeats 3200000 in
theorem mayBeHeld_any (ad : Option Addr) (n cap : Nat) (X : Nat → Hd) (w : World) (h : HdAt w ad n X) (hn : n ≤ 1000000) (hk : ∀ i, i < n → (X i).n ≤ 1000000) :
  Calls Tryz.prog 76 #[.slice ad n cap] w fun e w' => e = .returned (.bool (decide (HsOk X n))) ∧ Below w.heap.size w w' := by
 have HB : Hid (HdAt w ad n X) := h
 have hb0 := Below.refl w.heap.size w
 clear h
 go_enter Tryz.func76, Tryz.ntmps76
 go_wp2
 go_loopw [3, 5, 8] (fun lv _ iv wr => ∃ i : Nat, i ≤ n ∧ lv = .int .i64 (lastH X i) ∧ iv = .int .i64 i ∧ HsOk X i ∧ Below w.heap.size w wr) (fun _ _ iv _ => n + 1 - (intOf iv).toNat)
 case atStart => exact ⟨0, by omega, rfl, rfl, fun j hj => by omega, hb0⟩
 case round =>
  clear hb0
  obtain ⟨i, hi, rfl, rfl, hk0, hb⟩ := hrel
  have HK : Hid (HsOk X i) := hk0
  clear hk0
  by_cases hlt : i < n
  ·have hlt' : (i : Int) < n := by omega
   have hkn := hk i hlt
   obtain ⟨b, off, rfl, hc⟩ := HB.out.at_ (by omega)
   obtain ⟨ka, kc, hr, hI, _⟩ := hc i hlt
   have HI : Hid (IsAt wr ka (X i).n (X i).z) := hI.below hb
   obtain ⟨d0, d1, d2⟩ := hd_cells (range_below hr hb)
   clear hc hr hI hk
   have HS : Hid (lastH X i < (X i).id ∧ HOne (X i) → HsOk X (i + 1)) := fun hx j hj => by
    by_cases e : j = i
    ·subst e; exact hx
    ·exact HK.out j (by omega)
   have HN : Hid (HsOk X n → lastH X i < (X i).id ∧ HOne (X i)) := fun hk => hk i hlt
   have HE : Hid (lastH X (i + 1) = (X i).id) := lastH_succ X i
   clear HK
   generalize lastH X i = q at *
   obtain ⟨x, hx⟩ : ∃ x, X i = x := ⟨_, rfl⟩
   rw [hx] at HN HE HS HI d0 d1 d2 hkn
   clear hx
   have hbn : Below wr.heap.size wr (wr.alloc (.cells (hdv x ka kc) 58)) := (Below.refl _ wr).alloc (Nat.le_refl _) _
   have hm := mayHold_any ka x.n kc x.z _ (HI.out.below hbn) hkn
   have HBN : Hid (Below w.heap.size w (wr.alloc (.cells (hdv x ka kc) 58))) := hb.trans (hbn.mono hb.size)
   clear hbn HI
   unfold hdv at HBN hm
   by_cases h1 : q < x.id
   ·have h1' : ¬ x.id ≤ q := by omega
    by_cases h2 : x.id ≤ 4294967296
    ·have h2' : ¬ 4294967296 < x.id := by omega
     by_cases h3 : 10 ≤ x.am ∧ x.am ≤ 1125899906842624
     ·have hw1 := within_any x.am 10 1125899906842624
      rw [decide_eq_true h3] at hw1
      by_cases h4 : KOk x.z x.n ∧ 0 < x.n
      ·rw [decide_eq_true h4] at hm
       have HO := HS.out ⟨h1, h2, h3, h4⟩
       clear h3 h4 HN HS
       go_wp2_with fail
       refine (hw1 _).mono ?_
       rintro e w5 ⟨rfl, rfl⟩
       clear hw1
       go_wp2_with fail
       refine hm.mono ?_
       rintro e w6 ⟨rfl, hb6⟩
       have hb7 := HBN.out.trans (hb6.mono HBN.out.size)
       have c0 : w6.cell? ⟨wr.heap.size, 0, none⟩ = some (.int .i64 x.id) := by
        rw [hb6.cell (p := ⟨wr.heap.size, 0, none⟩) (by simp)]; simp
       clear hb6 hm d0 d1 d2
       go_wp2
       go_roundw
       case rel => exact ⟨i + 1, by omega, by rw [HE.out], by go_num, HO, hb7⟩
       case measure => simp [intOf]; omega
      ·rw [decide_eq_false h4] at hm
       have HF : Hid (decide (HsOk X n) = false) := by
        show _ = _
        simp only [decide_eq_false_iff_not]
        exact fun hk => h4 (HN.out hk).2.2.2
       clear h3 h4 HN HS
       go_wp2_with fail
       refine (hw1 _).mono ?_
       rintro e w5 ⟨rfl, rfl⟩
       clear hw1
       go_wp2_with fail
       refine hm.mono ?_
       rintro e w6 ⟨rfl, hb6⟩
       have hb7 := HBN.out.trans (hb6.mono HBN.out.size)
       clear hb6 hm d0 d1 d2
       go_wp2
       go_ret
       exact ⟨by rw [HF.out]; rfl, hb7⟩
     ·have hw1 := within_any x.am 10 1125899906842624
      rw [decide_eq_false h3] at hw1
      have HF : Hid (decide (HsOk X n) = false) := by
       show _ = _
       simp only [decide_eq_false_iff_not]
       exact fun hk => h3 (HN.out hk).2.2.1
      clear h3 HN HS hm
      go_wp2_with fail
      refine (hw1 _).mono ?_
      rintro e w5 ⟨rfl, rfl⟩
      clear hw1
      go_wp2
      go_ret
      exact ⟨by rw [HF.out]; rfl, HBN.out⟩
    ·have h2' : 4294967296 < x.id := by omega
     have HF : Hid (decide (HsOk X n) = false) := by
      show _ = _
      simp only [decide_eq_false_iff_not]
      exact fun hk => h2 (HN.out hk).2.1
     clear HN HS hm
     go_wp2
     go_ret
     exact ⟨by rw [HF.out]; rfl, HBN.out⟩
   ·have h1' : x.id ≤ q := by omega
    have HF : Hid (decide (HsOk X n) = false) := by
     show _ = _
     simp only [decide_eq_false_iff_not]
     exact fun hk => h1 (HN.out hk).1
    clear HN HS hm
    go_wp2
    go_ret
    exact ⟨by rw [HF.out]; rfl, HBN.out⟩
  ·obtain rfl : i = n := by omega
   have hnn : ¬ ((i : Int) < i) := by omega
   have hk := HK.out
   go_wp2
   go_ret
   exact ⟨by simp, hb⟩
end Go.Proofs.YtoefgfiabfkfaaaGreatDoor
/- (State).together. -/
namespace Go.Proofs.YtoefgfiabfkfaaaGreatDoor
open Go.RowKit

theorem sumP_pre {X : Nat → Py} {n : Nat} (h : PsOk X n) (hn : n ≤ 8) : ∀ i, i ≤ n → 0 ≤ sumP X i ∧ sumP X i ≤ 9007199254740992 := fun i hi => by
 have := sumP_bd X i (fun j hj => h j (by omega))
 omega
theorem sumH_pre {X : Nat → Hd} {n : Nat} (h : HsOk X n) (hn : n ≤ 8) : ∀ i, i ≤ n → 0 ≤ sumH X i ∧ sumH X i ≤ 9007199254740992 := fun i hi => by
 have := sumH_bd X i (fun j hj => h j (by omega))
 omega

set_option maxRecDepth 100000 in
set_option maxHeartbeats 3200000 in
theorem together_any (s : Sv) (p : Pl) (w : World) (h : SvAt w s p) (h1 : SNum s) (h2 : SRows s) :
  Calls Tryz.prog 77 #[.agg (svv s p)] w fun e w' => e = .returned (.int .i64 (tot s)) ∧ Below w.heap.size w w' := by
 obtain ⟨nu, a, b, pn, P, hn, H⟩ := s
 obtain ⟨pa, pc, ha, hc⟩ := p
 obtain ⟨py, hd, _, _, _, _⟩ := h
 simp only at py hd
 have HT : Hid (tot ⟨nu, a, b, pn, P, hn, H⟩ = a + b + sumP P pn + sumH H hn) := rfl
 unfold svv
 simp only
 have hab : (0 ≤ a ∧ a ≤ 1125899906842624) ∧ (0 ≤ b ∧ b ≤ 1125899906842624) := ⟨h1.2.1, h1.2.2⟩
 have hp8 : pn + hn ≤ 8 := h2.1
 have HP : Hid (∀ i, i ≤ pn → 0 ≤ sumP P i ∧ sumP P i ≤ 9007199254740992) := sumP_pre h2.2.1 (by omega)
 have HH : Hid (∀ i, i ≤ hn → 0 ≤ sumH H i ∧ sumH H i ≤ 9007199254740992) := sumH_pre h2.2.2 (by omega)
 clear h1 h2
 have hb0 : Below w.heap.size w (w.alloc (.cells #[.int .i64 nu, .int .i64 a, .int .i64 b, .slice pa pn pc, .slice ha hn hc] 37)) := (Below.refl _ w).alloc (Nat.le_refl _) _
 have HPY : Hid (PyAt (w.alloc (.cells #[.int .i64 nu, .int .i64 a, .int .i64 b, .slice pa pn pc, .slice ha hn hc] 37)) pa pn P) := py.below hb0
 have HHD : Hid (HdAt (w.alloc (.cells #[.int .i64 nu, .int .i64 a, .int .i64 b, .slice pa pn pc, .slice ha hn hc] 37)) ha hn H) := hd.below hb0
 clear py hd
 have hr0 := heap_alloc_new w (.cells #[.int .i64 nu, .int .i64 a, .int .i64 b, .slice pa pn pc, .slice ha hn hc] 37)
 go_enter Tryz.func77, Tryz.ntmps77
 go_wp2
 generalize w.alloc (.cells #[.int .i64 nu, .int .i64 a, .int .i64 b, .slice pa pn pc, .slice ha hn hc] 37) = W0 at *
 have hl0 := lt_of_block hr0
 have HB0 : Hid (Below w.heap.size w W0) := hb0
 have hs0 := hb0.size
 have hbr : Below W0.heap.size W0 W0 := Below.refl _ _
 have eab : wrap64 (a + b) = a + b + sumP P 0 := by simp [sumP, wrap64]; omega
 clear hb0
 go_loopw [3, 5, 18] (fun sv _ iv wr => ∃ i : Nat, i ≤ pn ∧ sv = .int .i64 (a + b + sumP P i) ∧ iv = .int .i64 i ∧ Below W0.heap.size W0 wr) (fun _ _ iv _ => pn + 1 - (intOf iv).toNat)
 case atStart => exact ⟨0, by omega, by first | rw [eab] | (simp [sumP]), rfl, hbr⟩
 case round =>
  clear hbr eab
  obtain ⟨i, hi, rfl, rfl, hb⟩ := hrel
  by_cases hlt : i < pn
  ·have hlt' : (i : Int) < pn := by omega
   obtain ⟨bl0, off, rfl, hc0⟩ := HPY.out.at_ (by omega)
   have HR : Hid (wr.rangeAt bl0 (off + i * 36) (pyl (P i))) := range_below (hc0 i hlt) hb
   have b1 := HP.out i (by omega)
   have b2 := HP.out (i + 1) (by omega)
   have HE : Hid (sumP P (i + 1) = sumP P i + (P i).am) := rfl
   have b2' : 0 ≤ sumP P i + (P i).am ∧ sumP P i + (P i).am ≤ 9007199254740992 := b2
   clear b2 hc0
   have HW : Hid (a + b + sumP P i + (P i).am = a + b + sumP P (i + 1)) := by show _ = _; rw [HE.out]; omega
   generalize sumP P i = q at *
   obtain ⟨x, hx⟩ : ∃ x, P i = x := ⟨_, rfl⟩
   rw [hx] at HR HE b2' HW
   clear hx
   go_wp2_with (first | (refine wpList_load_mid rfl 43 _ rfl bl0 (off + i * 36) rfl (pyl x) _ HR.out Tryz.underlying43 rfl (szPl _) ?_) | (refine wpList_allocP rfl rfl ?_) | (refine wpList_storeP _ szP rfl _ _ rfl wr.heap.size rfl x p0 43 rfl (heap_alloc_new wr _) ?_; intro w3 hg3 hf3; have c2 := (pbox_of hg3).c2; have HB3 : Hid (Below wr.heap.size wr w3) := frm_new hf3; clear hf3 hg3) | fail)
   have ew : wrap64 (a + b + q + x.am) = a + b + q + x.am := by simp [wrap64]; omega
   go_roundw
   case rel => exact ⟨i + 1, by omega, by first | rw [HW.out] | (rw [ew, HW.out]) | (rw [← HW.out]), by go_num, hb.trans (HB3.out.mono hb.size)⟩
   case measure => simp [intOf]; omega
  ·obtain rfl : i = pn := by omega
   have hnn : ¬ ((i : Int) < i) := by omega
   have hrb : wr.heap[w.heap.size]? = some (.cells #[.int .i64 nu, .int .i64 a, .int .i64 b, .slice pa i pc, .slice ha hn hc] 37 (0, 0)) := by rw [hb.block _ hl0]; exact hr0
   have c4 : wr.cell? ⟨w.heap.size, 4, none⟩ = some (.slice ha hn hc) := by rw [cell_of_row wr _ 4 _ _ _ hrb]; rfl
   have HB1 : Hid (Below W0.heap.size W0 wr) := hb
   have HHD1 : Hid (HdAt wr ha hn H) := HHD.out.below hb
   have b1 := HP.out i (by omega)
   have hbr : Below wr.heap.size wr wr := Below.refl _ _
   have HQ : Hid (tot ⟨nu, a, b, i, P, hn, H⟩ = a + b + sumP P i + sumH H hn) := HT.out
   generalize sumP P i = q at *
   have e0 : Hid (a + b + q = a + b + q + sumH H 0) := by show _ = _; simp [sumH]
   clear hb hrb HT HP HPY hr0
   generalize wr = wo at *
   go_wp2
   go_loopw [3, 7, 30] (fun sv _ iv wr => ∃ j : Nat, j ≤ hn ∧ sv = .int .i64 (a + b + q + sumH H j) ∧ iv = .int .i64 j ∧ Below wo.heap.size wo wr) (fun _ _ iv _ => hn + 1 - (intOf iv).toNat)
   case atStart => exact ⟨0, by omega, by rw [← e0.out], rfl, hbr⟩
   case round =>
    clear hbr e0
    obtain ⟨j, hj, rfl, rfl, hb⟩ := hrel
    by_cases hlt : j < hn
    ·have hlt' : (j : Int) < hn := by omega
     obtain ⟨bl0, off, rfl, hc0⟩ := HHD1.out.at_ (by omega)
     obtain ⟨ka, kc, hr, _, _⟩ := hc0 j hlt
     obtain ⟨d0, d1, d2⟩ := hd_cells (range_below hr hb)
     have b3 := HH.out j (by omega)
     have b2 := HH.out (j + 1) (by omega)
     have HE : Hid (sumH H (j + 1) = sumH H j + (H j).am) := rfl
     have b2' : 0 ≤ sumH H j + (H j).am ∧ sumH H j + (H j).am ≤ 9007199254740992 := b2
     clear b2 hc0 hr
     have HW : Hid (a + b + q + sumH H j + (H j).am = a + b + q + sumH H (j + 1)) := by show _ = _; rw [HE.out]; omega
     generalize sumH H j = r at *
     obtain ⟨x, hx⟩ : ∃ x, H j = x := ⟨_, rfl⟩
     rw [hx] at HE b2' HW d0 d1 d2
     clear hx
     have hb' := hb.alloc hb.size (.cells #[.int .i64 x.id, .int .i64 x.am, .slice ka x.n kc] 58)
     have ew : wrap64 (a + b + q + r + x.am) = a + b + q + r + x.am := by simp [wrap64]; omega
     go_wp2
     go_roundw
     case rel => exact ⟨j + 1, by omega, by first | rw [HW.out] | (rw [ew, HW.out]) | (rw [← HW.out]), by go_num, hb'⟩
     case measure => simp [intOf]; omega
    ·obtain rfl : j = hn := by omega
     have hnn : ¬ ((j : Int) < j) := by omega
     go_wp2
     go_ret
     refine ⟨by rw [HQ.out]; rfl, ?_⟩
     exact (HB0.out.trans (HB1.out.mono hs0)).trans (hb.mono (by have := HB1.out.size; omega))
end Go.Proofs.YtoefgfiabfkfaaaGreatDoor
/- state.Check. -/
namespace Go.Proofs.YtoefgfiabfkfaaaGreatDoor
open Go.RowKit

set_option maxRecDepth 100000 in
set_option maxHeartbeats 3200000 in
theorem check_any (s : Sv) (p : Pl) (w : World) (h : SvAt w s p) (hs : s.Small) :
  Calls Tryz.prog 58 #[.agg (svv s p)] w fun e w' => e = .returned (errV (chkE s)) ∧ Below w.heap.size w w' := by
 have hb0 : Below w.heap.size w (w.alloc (.cells (svv s p) 37)) := (Below.refl _ w).alloc (Nat.le_refl _) _
 have hr0 := heap_alloc_new w (.cells (svv s p) 37)
 have H0 := h.below hb0
 have HS : Hid s.Small := hs
 have hsn := hs.n
 have hw1 := within_any s.nu 0 1099511627776
 have hw2 := within_any s.a 0 1125899906842624
 have hw3 := within_any s.b 0 1125899906842624
 clear h hs
 by_cases h1 : 0 ≤ s.nu ∧ s.nu ≤ 1099511627776
 ·rw [decide_eq_true h1] at hw1
  by_cases h2 : 0 ≤ s.a ∧ s.a ≤ 1125899906842624
  ·rw [decide_eq_true h2] at hw2
   by_cases h3 : 0 ≤ s.b ∧ s.b ≤ 1125899906842624
   ·rw [decide_eq_true h3] at hw3
    have hN : SNum s := ⟨h1, h2, h3⟩
    have HN : Hid (SNum s) := hN
    clear h1 h2 h3 hN
    go_enter Tryz.func58, Tryz.ntmps58
    have HW : Hid (SvAt (w.alloc (.cells (svv s p) 37)) s p) := H0
    have HB0 : Hid (Below w.heap.size w (w.alloc (.cells (svv s p) 37))) := hb0
    clear H0 hb0
    have hsl := fun w => slots_any s p w (by omega)
    unfold svv at HW HB0 hr0 hsl ⊢
    go_wp2_with fail
    refine (hw1 _).mono ?_
    rintro e w1 ⟨rfl, rfl⟩
    go_wp2_with fail
    refine (hw2 _).mono ?_
    rintro e w2 ⟨rfl, rfl⟩
    go_wp2_with fail
    refine (hw3 _).mono ?_
    rintro e w3 ⟨rfl, rfl⟩
    clear hw1 hw2 hw3
    go_wp2_with fail
    generalize w.alloc (.cells #[.int .i64 s.nu, .int .i64 s.a, .int .i64 s.b, .slice p.pa s.pn p.pc, .slice p.ha s.hn p.hc] 37) = W0 at *
    have hl0 := lt_of_block hr0
    refine (hsl _).mono ?_
    rintro e w4 ⟨rfl, hb4⟩
    have KP : ∀ w', Below W0.heap.size W0 w' → w'.heap[w.heap.size]? = some (.cells #[.int .i64 s.nu, .int .i64 s.a, .int .i64 s.b, .slice p.pa s.pn p.pc, .slice p.ha s.hn p.hc] 37 (0, 0)) := fun w' hb => by rw [hb.block _ hl0]; exact hr0
    have KC : Hid (∀ w', Below W0.heap.size W0 w' → w'.cell? ⟨w.heap.size, 0, none⟩ = some (.int .i64 s.nu) ∧ w'.cell? ⟨w.heap.size, 1, none⟩ = some (.int .i64 s.a) ∧ w'.cell? ⟨w.heap.size, 2, none⟩ = some (.int .i64 s.b) ∧ w'.cell? ⟨w.heap.size, 3, none⟩ = some (.slice p.pa s.pn p.pc) ∧ w'.cell? ⟨w.heap.size, 4, none⟩ = some (.slice p.ha s.hn p.hc)) := fun w' hb =>
     ⟨by rw [cell_of_row _ _ 0 _ _ _ (KP w' hb)]; rfl, by rw [cell_of_row _ _ 1 _ _ _ (KP w' hb)]; rfl, by rw [cell_of_row _ _ 2 _ _ _ (KP w' hb)]; rfl, by rw [cell_of_row _ _ 3 _ _ _ (KP w' hb)]; rfl, by rw [cell_of_row _ _ 4 _ _ _ (KP w' hb)]; rfl⟩
    have KE : Hid (∀ w', Below W0.heap.size W0 w' → Below w.heap.size w w') := fun w' hb => HB0.out.trans (hb.mono HB0.out.size)
    clear KP hsl hr0
    obtain ⟨k0, k1, k2, k3, k4⟩ := KC.out w4 hb4
    by_cases h4 : s.pn + s.hn ≤ 8
    ·have h4' : ¬ (8 : Int) < ((s.pn + s.hn : Nat) : Int) := by omega
     have hm := mayWait_any p.pa s.pn p.pc s.P w4 (HW.out.py.below hb4) (by omega)
     by_cases h5 : PsOk s.P s.pn
     ·rw [decide_eq_true h5] at hm
      go_wp2_with fail
      refine hm.mono ?_
      rintro e w5 ⟨rfl, hb5⟩
      have hb5' := Below.transS hb4 hb5
      clear hm hb4 hb5 k0 k1 k2 k3 k4
      obtain ⟨k0, k1, k2, k3, k4⟩ := KC.out w5 hb5'
      have hh := mayBeHeld_any p.ha s.hn p.hc s.H w5 (HW.out.hd.below hb5') (by omega) (fun i hi => by have := HS.out.k i hi; omega)
      by_cases h6 : HsOk s.H s.hn
      ·rw [decide_eq_true h6] at hh
       go_wp2_with fail
       refine hh.mono ?_
       rintro e w6 ⟨rfl, hb6⟩
       have hb6' := Below.transS hb5' hb6
       clear hh hb5' hb6 k0 k1 k2 k3 k4
       obtain ⟨k0, k1, k2, k3, k4⟩ := KC.out w6 hb6'
       have ht := together_any s p w6 (HW.out.below hb6') HN.out ⟨h4, h5, h6⟩
       have hR : SRows s := ⟨h4, h5, h6⟩
       unfold svv at ht
       by_cases h7 : tot s ≤ 1125899906842624
       ·have h7' : ¬ 1125899906842624 < tot s := by omega
        have HE : Hid (chkE s = 0) := if_pos ⟨HN.out, hR, h7⟩
        clear hR h4 h5 h6
        generalize tot s = q at *
        go_wp2_with fail
        refine ht.mono ?_
        rintro e w7 ⟨rfl, hb7⟩
        have hb7' := KE.out w7 (Below.transS hb6' hb7)
        clear ht hb7 hb6' k0 k1 k2 k3 k4
        go_wp2
        go_ret
        exact ⟨by rw [HE.out]; rfl, hb7'⟩
       ·have h7' : 1125899906842624 < tot s := by omega
        have HE : Hid (chkE s = 1) := if_neg (fun h => h7 h.2.2)
        clear hR h4 h5 h6
        generalize tot s = q at *
        go_wp2_with fail
        refine ht.mono ?_
        rintro e w7 ⟨rfl, hb7⟩
        have hb7' := KE.out w7 (Below.transS hb6' hb7)
        clear ht hb7 hb6' k0 k1 k2 k3 k4
        go_wp2
        go_ret
        exact ⟨by rw [HE.out]; rfl, hb7'⟩
      ·rw [decide_eq_false h6] at hh
       have HE : Hid (chkE s = 1) := if_neg (fun h => h6 h.2.1.2.2)
       go_wp2_with fail
       refine hh.mono ?_
       rintro e w6 ⟨rfl, hb6⟩
       have hb7' := KE.out w6 (Below.transS hb5' hb6)
       clear hh hb6 hb5' k0 k1 k2 k3 k4
       go_wp2
       go_ret
       exact ⟨by rw [HE.out]; rfl, hb7'⟩
     ·rw [decide_eq_false h5] at hm
      have HE : Hid (chkE s = 1) := if_neg (fun h => h5 h.2.1.2.1)
      go_wp2_with fail
      refine hm.mono ?_
      rintro e w5 ⟨rfl, hb5⟩
      have hb7' := KE.out w5 (Below.transS hb4 hb5)
      clear hm hb5 hb4 k0 k1 k2 k3 k4
      go_wp2
      go_ret
      exact ⟨by rw [HE.out]; rfl, hb7'⟩
    ·have h4' : (8 : Int) < ((s.pn + s.hn : Nat) : Int) := by omega
     have HE : Hid (chkE s = 1) := if_neg (fun h => h4 h.2.1.1)
     have hb7' := KE.out w4 hb4
     go_wp2
     go_ret
     exact ⟨by rw [HE.out]; rfl, hb7'⟩
   ·rw [decide_eq_false h3] at hw3
    have HE : Hid (chkE s = 1) := if_neg (fun h => h3 h.1.2.2)
    clear h1 h2 h3 H0
    unfold svv at hb0 hr0 ⊢
    go_enter Tryz.func58, Tryz.ntmps58
    go_wp2_with fail
    refine (hw1 _).mono ?_
    rintro e w1 ⟨rfl, rfl⟩
    go_wp2_with fail
    refine (hw2 _).mono ?_
    rintro e w2 ⟨rfl, rfl⟩
    go_wp2_with fail
    refine (hw3 _).mono ?_
    rintro e w3 ⟨rfl, rfl⟩
    go_wp2
    go_ret
    exact ⟨by rw [HE.out]; rfl, hb0⟩
  ·rw [decide_eq_false h2] at hw2
   have HE : Hid (chkE s = 1) := if_neg (fun h => h2 h.1.2.1)
   clear h1 h2 H0
   unfold svv at hb0 hr0 ⊢
   go_enter Tryz.func58, Tryz.ntmps58
   go_wp2_with fail
   refine (hw1 _).mono ?_
   rintro e w1 ⟨rfl, rfl⟩
   go_wp2_with fail
   refine (hw2 _).mono ?_
   rintro e w2 ⟨rfl, rfl⟩
   go_wp2
   go_ret
   exact ⟨by rw [HE.out]; rfl, hb0⟩
 ·rw [decide_eq_false h1] at hw1
  have HE : Hid (chkE s = 1) := if_neg (fun h => h1 h.1.1)
  clear h1 H0
  unfold svv at hb0 hr0 ⊢
  go_enter Tryz.func58, Tryz.ntmps58
  go_wp2_with fail
  refine (hw1 _).mono ?_
  rintro e w1 ⟨rfl, rfl⟩
  go_wp2
  go_ret
  exact ⟨by rw [HE.out]; rfl, hb0⟩
end Go.Proofs.YtoefgfiabfkfaaaGreatDoor
/- state.next. -/
namespace Go.Proofs.YtoefgfiabfkfaaaGreatDoor
open Go.RowKit

/-- A state that can be changed; with the next number. -/
def Rgt (s : Sv) : Prop := SOk s ∧ s.nu < 1099511627776
instance (s : Sv) : Decidable (Rgt s) := inferInstanceAs (Decidable (_ ∧ _))
def nxt (s : Sv) : Sv := { s with nu := s.nu + 1 }

theorem results_S2 {fn : Func} {p u : Tmp} (h : fn.results = #[.cell p 37, .tmp u]) (tmps : Array Value) (w : World) (g : Nat) (t : TypeId) (c0 c1 c2 c3 c4 : Value) (fr : Nat × Nat)
  (hp : tmps.getD p undef = .pointer (some ⟨g, 0, none⟩)) (hg : w.heap[g]? = some (.cells #[c0, c1, c2, c3, c4] t fr)) :
  (results fn tmps).run Tryz.prog w = .ok (.tuple #[.agg #[c0, c1, c2, c3, c4], tmps.getD u undef]) w := by
 have hp' : tmps[p]?.getD undef = .pointer (some ⟨g, 0, none⟩) := by simpa using hp
 simp [results, h, hp', asAddr, run_loadVar_row w g t 37 #[c0, c1, c2, c3, c4] fr _ hg Tryz.underlying37 rfl szS]
section
variable {w : World} {b : Nat} {x0 x1 x2 x3 x4 u u0 u1 u2 u3 u4 : Value} {t : TypeId}
theorem five_set0 (h : w.heap[b]? = some (.cells #[x0, x1, x2, x3, x4] t (0, 0))) : (w.setCell ⟨b, 0, none⟩ u).heap[b]? = some (.cells #[u, x1, x2, x3, x4] t (0, 0)) := heap_setCell_same w b 0 _ t u h
theorem five_set1 (h : w.heap[b]? = some (.cells #[x0, x1, x2, x3, x4] t (0, 0))) : (w.setCell ⟨b, 1, none⟩ u).heap[b]? = some (.cells #[x0, u, x2, x3, x4] t (0, 0)) := heap_setCell_same w b 1 _ t u h
theorem five_set2 (h : w.heap[b]? = some (.cells #[x0, x1, x2, x3, x4] t (0, 0))) : (w.setCell ⟨b, 2, none⟩ u).heap[b]? = some (.cells #[x0, x1, u, x3, x4] t (0, 0)) := heap_setCell_same w b 2 _ t u h
theorem five_set3 (h : w.heap[b]? = some (.cells #[x0, x1, x2, x3, x4] t (0, 0))) : (w.setCell ⟨b, 3, none⟩ u).heap[b]? = some (.cells #[x0, x1, x2, u, x4] t (0, 0)) := heap_setCell_same w b 3 _ t u h
theorem five_set4 (h : w.heap[b]? = some (.cells #[x0, x1, x2, x3, x4] t (0, 0))) : (w.setCell ⟨b, 4, none⟩ u).heap[b]? = some (.cells #[x0, x1, x2, x3, u] t (0, 0)) := heap_setCell_same w b 4 _ t u h
/-- All five written. -/
theorem five_all (h : w.heap[b]? = some (.cells #[x0, x1, x2, x3, x4] t (0, 0))) : (((((w.setCell ⟨b, 0, none⟩ u0).setCell ⟨b, 1, none⟩ u1).setCell ⟨b, 2, none⟩ u2).setCell ⟨b, 3, none⟩ u3).setCell ⟨b, 4, none⟩ u4).heap[b]? = some (.cells #[u0, u1, u2, u3, u4] t (0, 0)) :=
 five_set4 (five_set3 (five_set2 (five_set1 (five_set0 h))))
/-- What a block of five cells gives a walk. -/
structure Five (w : World) (b : Nat) (x0 x1 x2 x3 x4 : Value) : Prop where
 c0 : w.cell? ⟨b, 0, none⟩ = some x0
 c1 : w.cell? ⟨b, 1, none⟩ = some x1
 c2 : w.cell? ⟨b, 2, none⟩ = some x2
 c3 : w.cell? ⟨b, 3, none⟩ = some x3
 c4 : w.cell? ⟨b, 4, none⟩ = some x4
 f : ∀ o, w.frozen? ⟨b, o, none⟩ = false
theorem five_of (h : w.heap[b]? = some (.cells #[x0, x1, x2, x3, x4] t (0, 0))) : Five w b x0 x1 x2 x3 x4 :=
 ⟨by rw [cell_of_row _ _ 0 _ _ _ h]; rfl, by rw [cell_of_row _ _ 1 _ _ _ h]; rfl, by rw [cell_of_row _ _ 2 _ _ _ h]; rfl, by rw [cell_of_row _ _ 3 _ _ _ h]; rfl, by rw [cell_of_row _ _ 4 _ _ _ h]; rfl, fun o => frozen_of_row _ _ o _ _ h⟩
theorem five_below {B : Nat} {w' : World} (h : Below B w w') (hB : B ≤ b) : Below B w (((((w'.setCell ⟨b, 0, none⟩ u0).setCell ⟨b, 1, none⟩ u1).setCell ⟨b, 2, none⟩ u2).setCell ⟨b, 3, none⟩ u3).setCell ⟨b, 4, none⟩ u4) :=
 ((((h.setCell hB _).setCell hB _).setCell hB _).setCell hB _).setCell hB _
theorem five_other {k : Nat} (h : k ≠ b) : (((((w.setCell ⟨b, 0, none⟩ u0).setCell ⟨b, 1, none⟩ u1).setCell ⟨b, 2, none⟩ u2).setCell ⟨b, 3, none⟩ u3).setCell ⟨b, 4, none⟩ u4).heap[k]? = w.heap[k]? := by
 rw [Below.heap_setCell _ _ _ _ (by exact h), Below.heap_setCell _ _ _ _ (by exact h), Below.heap_setCell _ _ _ _ (by exact h), Below.heap_setCell _ _ _ _ (by exact h), Below.heap_setCell _ _ _ _ (by exact h)]
end
/-- Two blocks at the begin: a state that came, and the one that is told. -/
theorem two_new (w : World) (s : Sv) (p : Pl) (T U : TypeId) :
  ((w.alloc (.cells (svv s p) T)).alloc (.cells (svv sv0 pl0) U)).heap[w.heap.size]? = some (.cells (svv s p) T (0, 0)) ∧
  ((w.alloc (.cells (svv s p) T)).alloc (.cells (svv sv0 pl0) U)).heap[w.heap.size + 1]? = some (.cells (svv sv0 pl0) U (0, 0)) ∧
  ((w.alloc (.cells (svv s p) T)).alloc (.cells (svv sv0 pl0) U)).heap.size = w.heap.size + 2 ∧ Below w.heap.size w ((w.alloc (.cells (svv s p) T)).alloc (.cells (svv sv0 pl0) U)) := by
 refine ⟨?_, ?_, by simp, ((Below.refl _ w).alloc (Nat.le_refl _) _).alloc (by simp) _⟩
 ·rw [Below.heap_alloc _ _ _ (by simp)]; exact heap_alloc_new w _
 ·have := heap_alloc_new (w.alloc (.cells (svv s p) T)) (.cells (svv sv0 pl0) U)
  simpa using this
theorem chk_ok {s : Sv} (h : SOk s) : errV (chkE s) = .nilIface := by rw [chkE, if_pos h]; rfl
theorem chk_bad {s : Sv} (h : ¬ SOk s) : errV (chkE s) = .iface 72 (.int .i64 1) := by rw [chkE, if_neg h]; rfl

set_option maxRecDepth 100000 in
set_option maxHeartbeats 3200000 in
theorem next_bad (s : Sv) (p : Pl) (w : World) (h : SvAt w s p) (hs : s.Small) (hr : ¬ Rgt s) :
  Calls Tryz.prog 38 #[.agg (svv s p)] w fun e w' => e = .returned (.tuple #[.agg (svv sv0 pl0), errV 1]) ∧ Below w.heap.size w w' := by
 obtain ⟨hn0, hn1, hsz, hb0⟩ := two_new w s p 37 37
 have hc := check_any s p _ (h.below hb0) hs
 by_cases hk : SOk s
 ·rw [chk_ok hk] at hc
  have hnu : s.nu = 1099511627776 := by
   have h1 := hk.1.1
   have h2 : ¬ s.nu < 1099511627776 := fun h => hr ⟨hk, h⟩
   omega
  have hq : (s.nu == 1099511627776) = true := by simp [hnu]
  clear hr hk h hs hnu
  unfold svv sv0 pl0 at hn0 hn1 hsz hb0 hc ⊢
  simp only at hn0 hn1 hsz hb0 hc ⊢
  go_enter Tryz.func38, Tryz.ntmps38
  go_wp2_with fail
  generalize ((w.alloc (.cells #[.int .i64 s.nu, .int .i64 s.a, .int .i64 s.b, .slice p.pa s.pn p.pc, .slice p.ha s.hn p.hc] 37)).alloc (.cells #[.int .i64 0, .int .i64 0, .int .i64 0, .slice none 0 0, .slice none 0 0] 37)) = W0 at *
  refine hc.mono ?_
  rintro e w1 ⟨rfl, hb1⟩
  have k0 := hb1.block _ (show w.heap.size < W0.heap.size by omega)
  have k1 := hb1.block _ (show w.heap.size + 1 < W0.heap.size by omega)
  rw [hn0] at k0
  rw [hn1] at k1
  obtain ⟨c0, c1, c2, c3, c4, cf⟩ := five_of k0
  obtain ⟨d0, d1, d2, d3, d4, df⟩ := five_of k1
  have HB : Hid (Below w.heap.size w w1) := hb0.trans (hb1.mono (by omega))
  have HK : Hid (w1.heap[w.heap.size + 1]? = some (.cells #[.int .i64 0, .int .i64 0, .int .i64 0, .slice none 0 0, .slice none 0 0] 37 (0, 0))) := k1
  clear hc hb0 hb1 hn0 hn1 hsz k0 k1
  go_wp2
  exact bodyPost_ret (results_S2 Tryz.results38 _ _ (w.heap.size + 1) 37 _ _ _ _ _ (0, 0) rfl (five_all HK.out)) rfl ⟨rfl, five_below HB.out (by omega)⟩
 ·rw [chk_bad hk] at hc
  clear hr hk h hs
  unfold svv sv0 pl0 at hn0 hn1 hsz hb0 hc ⊢
  simp only at hn0 hn1 hsz hb0 hc ⊢
  go_enter Tryz.func38, Tryz.ntmps38
  go_wp2_with fail
  generalize ((w.alloc (.cells #[.int .i64 s.nu, .int .i64 s.a, .int .i64 s.b, .slice p.pa s.pn p.pc, .slice p.ha s.hn p.hc] 37)).alloc (.cells #[.int .i64 0, .int .i64 0, .int .i64 0, .slice none 0 0, .slice none 0 0] 37)) = W0 at *
  refine hc.mono ?_
  rintro e w1 ⟨rfl, hb1⟩
  have k1 := hb1.block _ (show w.heap.size + 1 < W0.heap.size by omega)
  rw [hn1] at k1
  obtain ⟨d0, d1, d2, d3, d4, df⟩ := five_of k1
  have HB : Hid (Below w.heap.size w w1) := hb0.trans (hb1.mono (by omega))
  have HK : Hid (w1.heap[w.heap.size + 1]? = some (.cells #[.int .i64 0, .int .i64 0, .int .i64 0, .slice none 0 0, .slice none 0 0] 37 (0, 0))) := k1
  clear hc hb0 hb1 hn0 hn1 hsz k1
  go_wp2
  exact bodyPost_ret (results_S2 Tryz.results38 _ _ (w.heap.size + 1) 37 _ _ _ _ _ (0, 0) rfl (five_all HK.out)) rfl ⟨rfl, five_below HB.out (by omega)⟩
end Go.Proofs.YtoefgfiabfkfaaaGreatDoor
