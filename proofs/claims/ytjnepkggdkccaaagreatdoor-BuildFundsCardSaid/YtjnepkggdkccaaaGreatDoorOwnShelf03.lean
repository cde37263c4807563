/- (State).together. -/
import Derived.Test.YtjnepkggdkccaaaGreatDoorOwnShelf01
namespace Go.Proofs.YtjnepkggdkccaaaGreatDoor
open Go.RowKit

theorem sumP_pre {X : Nat → Py} {n : Nat} (h : PsOk X n) (hn : n ≤ 8) : ∀ i, i ≤ n → 0 ≤ sumP X i ∧ sumP X i ≤ 9007199254740992 := fun i hi => by
 have := sumP_bd X i (fun j hj => h j (by omega))
 omega
theorem sumH_pre {X : Nat → Hd} {n : Nat} (h : HsOk X n) (hn : n ≤ 8) : ∀ i, i ≤ n → 0 ≤ sumH X i ∧ sumH X i ≤ 9007199254740992 := fun i hi => by
 have := sumH_bd X i (fun j hj => h j (by omega))
 omega

set_option maxRecDepth 100000 in
set_option maxHeartbeats 3200000 in
theorem together_any (s : Sv) (p : Pl) (w : World) (h : SvAt w s p) (h1 : SNum s) (h2 : SRows s) :
  Calls Tryz.prog 63 #[.agg (svv s p)] w fun e w' => e = .returned (.int .i64 (tot s)) ∧ Below w.heap.size w w' := by
 obtain ⟨nu, a, b, pn, P, hn, H⟩ := s
 obtain ⟨pa, pc, ha, hc⟩ := p
 obtain ⟨py, hd, _, _, _, _⟩ := h
 simp only at py hd
 have HT : Hid (tot ⟨nu, a, b, pn, P, hn, H⟩ = a + b + sumP P pn + sumH H hn) := rfl
 unfold svv
 simp only
 have hab : (0 ≤ a ∧ a ≤ 1125899906842624) ∧ (0 ≤ b ∧ b ≤ 1125899906842624) := ⟨h1.2.1, h1.2.2⟩
 have hp8 : pn + hn ≤ 8 := h2.1
 have HP : Hid (∀ i, i ≤ pn → 0 ≤ sumP P i ∧ sumP P i ≤ 9007199254740992) := sumP_pre h2.2.1 (by omega)
 have HH : Hid (∀ i, i ≤ hn → 0 ≤ sumH H i ∧ sumH H i ≤ 9007199254740992) := sumH_pre h2.2.2 (by omega)
 clear h1 h2
 have hb0 : Below w.heap.size w (w.alloc (.cells #[.int .i64 nu, .int .i64 a, .int .i64 b, .slice pa pn pc, .slice ha hn hc] 45)) := (Below.refl _ w).alloc (Nat.le_refl _) _
 have HPY : Hid (PyAt (w.alloc (.cells #[.int .i64 nu, .int .i64 a, .int .i64 b, .slice pa pn pc, .slice ha hn hc] 45)) pa pn P) := py.below hb0
 have HHD : Hid (HdAt (w.alloc (.cells #[.int .i64 nu, .int .i64 a, .int .i64 b, .slice pa pn pc, .slice ha hn hc] 45)) ha hn H) := hd.below hb0
 clear py hd
 have hr0 := heap_alloc_new w (.cells #[.int .i64 nu, .int .i64 a, .int .i64 b, .slice pa pn pc, .slice ha hn hc] 45)
 go_enter Tryz.func63, Tryz.ntmps63
 go_wp2
 generalize w.alloc (.cells #[.int .i64 nu, .int .i64 a, .int .i64 b, .slice pa pn pc, .slice ha hn hc] 45) = W0 at *
 have hl0 := lt_of_block hr0
 have HB0 : Hid (Below w.heap.size w W0) := hb0
 have hs0 := hb0.size
 have hbr : Below W0.heap.size W0 W0 := Below.refl _ _
 have eab : wrap64 (a + b) = a + b + sumP P 0 := by simp [sumP, wrap64]; omega
 clear hb0
 go_loopw [3, 5, 18] (fun sv _ iv wr => ∃ i : Nat, i ≤ pn ∧ sv = .int .i64 (a + b + sumP P i) ∧ iv = .int .i64 i ∧ Below W0.heap.size W0 wr) (fun _ _ iv _ => pn + 1 - (intOf iv).toNat)
 case atStart => exact ⟨0, by omega, by first | rw [eab] | (simp [sumP]), rfl, hbr⟩
 case round =>
  clear hbr eab
  obtain ⟨i, hi, rfl, rfl, hb⟩ := hrel
  by_cases hlt : i < pn
  ·have hlt' : (i : Int) < pn := by omega
   obtain ⟨bl0, off, rfl, hc0⟩ := HPY.out.at_ (by omega)
   have HR : Hid (wr.rangeAt bl0 (off + i * 36) (pyl (P i))) := range_below (hc0 i hlt) hb
   have b1 := HP.out i (by omega)
   have b2 := HP.out (i + 1) (by omega)
   have HE : Hid (sumP P (i + 1) = sumP P i + (P i).am) := rfl
   have b2' : 0 ≤ sumP P i + (P i).am ∧ sumP P i + (P i).am ≤ 9007199254740992 := b2
   clear b2 hc0
   have HW : Hid (a + b + sumP P i + (P i).am = a + b + sumP P (i + 1)) := by show _ = _; rw [HE.out]; omega
   generalize sumP P i = q at *
   obtain ⟨x, hx⟩ : ∃ x, P i = x := ⟨_, rfl⟩
   rw [hx] at HR HE b2' HW
   clear hx
   go_wp2_with (first | (refine wpList_load_mid rfl 97 _ rfl bl0 (off + i * 36) rfl (pyl x) _ HR.out Tryz.underlying97 rfl (szPl _) ?_) | (refine wpList_allocP rfl rfl ?_) | (refine wpList_storeP _ szP rfl _ _ rfl wr.heap.size rfl x p0 97 rfl (heap_alloc_new wr _) ?_; intro w3 hg3 hf3; have c2 := (pbox_of hg3).c2; have HB3 : Hid (Below wr.heap.size wr w3) := frm_new hf3; clear hf3 hg3) | fail)
   have ew : wrap64 (a + b + q + x.am) = a + b + q + x.am := by simp [wrap64]; omega
   go_roundw
   case rel => exact ⟨i + 1, by omega, by first | rw [HW.out] | (rw [ew, HW.out]) | (rw [← HW.out]), by go_num, hb.trans (HB3.out.mono hb.size)⟩
   case measure => simp [intOf]; omega
  ·obtain rfl : i = pn := by omega
   have hnn : ¬ ((i : Int) < i) := by omega
   have hrb : wr.heap[w.heap.size]? = some (.cells #[.int .i64 nu, .int .i64 a, .int .i64 b, .slice pa i pc, .slice ha hn hc] 45 (0, 0)) := by rw [hb.block _ hl0]; exact hr0
   have c4 : wr.cell? ⟨w.heap.size, 4, none⟩ = some (.slice ha hn hc) := by rw [cell_of_row wr _ 4 _ _ _ hrb]; rfl
   have HB1 : Hid (Below W0.heap.size W0 wr) := hb
   have HHD1 : Hid (HdAt wr ha hn H) := HHD.out.below hb
   have b1 := HP.out i (by omega)
   have hbr : Below wr.heap.size wr wr := Below.refl _ _
   have HQ : Hid (tot ⟨nu, a, b, i, P, hn, H⟩ = a + b + sumP P i + sumH H hn) := HT.out
   generalize sumP P i = q at *
   have e0 : Hid (a + b + q = a + b + q + sumH H 0) := by show _ = _; simp [sumH]
   clear hb hrb HT HP HPY hr0
   generalize wr = wo at *
   go_wp2
   go_loopw [3, 7, 30] (fun sv _ iv wr => ∃ j : Nat, j ≤ hn ∧ sv = .int .i64 (a + b + q + sumH H j) ∧ iv = .int .i64 j ∧ Below wo.heap.size wo wr) (fun _ _ iv _ => hn + 1 - (intOf iv).toNat)
   case atStart => exact ⟨0, by omega, by rw [← e0.out], rfl, hbr⟩
   case round =>
    clear hbr e0
    obtain ⟨j, hj, rfl, rfl, hb⟩ := hrel
    by_cases hlt : j < hn
    ·have hlt' : (j : Int) < hn := by omega
     obtain ⟨bl0, off, rfl, hc0⟩ := HHD1.out.at_ (by omega)
     obtain ⟨ka, kc, hr, _, _⟩ := hc0 j hlt
     obtain ⟨d0, d1, d2⟩ := hd_cells (range_below hr hb)
     have b3 := HH.out j (by omega)
     have b2 := HH.out (j + 1) (by omega)
     have HE : Hid (sumH H (j + 1) = sumH H j + (H j).am) := rfl
     have b2' : 0 ≤ sumH H j + (H j).am ∧ sumH H j + (H j).am ≤ 9007199254740992 := b2
     clear b2 hc0 hr
     have HW : Hid (a + b + q + sumH H j + (H j).am = a + b + q + sumH H (j + 1)) := by show _ = _; rw [HE.out]; omega
     generalize sumH H j = r at *
     obtain ⟨x, hx⟩ : ∃ x, H j = x := ⟨_, rfl⟩
     rw [hx] at HE b2' HW d0 d1 d2
     clear hx
     have hb' := hb.alloc hb.size (.cells #[.int .i64 x.id, .int .i64 x.am, .slice ka x.n kc] 99)
     have ew : wrap64 (a + b + q + r + x.am) = a + b + q + r + x.am := by simp [wrap64]; omega
     go_wp2
     go_roundw
     case rel => exact ⟨j + 1, by omega, by first | rw [HW.out] | (rw [ew, HW.out]) | (rw [← HW.out]), by go_num, hb'⟩
     case measure => simp [intOf]; omega
    ·obtain rfl : j = hn := by omega
     have hnn : ¬ ((j : Int) < j) := by omega
     go_wp2
     go_ret
     refine ⟨by rw [HQ.out]; rfl, ?_⟩
     exact (HB0.out.trans (HB1.out.mono hs0)).trans (hb.mono (by have := HB1.out.size; omega))
end Go.Proofs.YtjnepkggdkccaaaGreatDoor
/- The document's sum. -/
namespace Go.Proofs.YtjnepkggdkccaaaGreatDoor
open Go.RowKit

set_option maxRecDepth 100000 in
set_option maxHeartbeats 3200000 in
theorem rsum_any (s : Sv) (p : Pl) (w : World) (h : SvAt w s p) (h1 : SNum s) (h2 : SRows s) :
  Calls Tryz.prog 67 #[.agg (svv s p)] w fun e w' => e = .returned (.int .i64 (tot s)) ∧ Below w.heap.size w w' := by
 obtain ⟨nu, a, b, pn, P, hn, H⟩ := s
 obtain ⟨pa, pc, ha, hc⟩ := p
 obtain ⟨py, hd, _, _, _, _⟩ := h
 simp only at py hd
 have HT : Hid (tot ⟨nu, a, b, pn, P, hn, H⟩ = a + b + sumP P pn + sumH H hn) := rfl
 unfold svv
 simp only
 have hab : (0 ≤ a ∧ a ≤ 1125899906842624) ∧ (0 ≤ b ∧ b ≤ 1125899906842624) := ⟨h1.2.1, h1.2.2⟩
 have hp8 : pn + hn ≤ 8 := h2.1
 have HP : Hid (∀ i, i ≤ pn → 0 ≤ sumP P i ∧ sumP P i ≤ 9007199254740992) := sumP_pre h2.2.1 (by omega)
 have HH : Hid (∀ i, i ≤ hn → 0 ≤ sumH H i ∧ sumH H i ≤ 9007199254740992) := sumH_pre h2.2.2 (by omega)
 clear h1 h2
 have hb0 : Below w.heap.size w (w.alloc (.cells #[.int .i64 nu, .int .i64 a, .int .i64 b, .slice pa pn pc, .slice ha hn hc] 32)) := (Below.refl _ w).alloc (Nat.le_refl _) _
 have HPY : Hid (PyAt (w.alloc (.cells #[.int .i64 nu, .int .i64 a, .int .i64 b, .slice pa pn pc, .slice ha hn hc] 32)) pa pn P) := py.below hb0
 have HHD : Hid (HdAt (w.alloc (.cells #[.int .i64 nu, .int .i64 a, .int .i64 b, .slice pa pn pc, .slice ha hn hc] 32)) ha hn H) := hd.below hb0
 clear py hd
 have hr0 := heap_alloc_new w (.cells #[.int .i64 nu, .int .i64 a, .int .i64 b, .slice pa pn pc, .slice ha hn hc] 32)
 go_enter Tryz.func67, Tryz.ntmps67
 go_wp2
 generalize w.alloc (.cells #[.int .i64 nu, .int .i64 a, .int .i64 b, .slice pa pn pc, .slice ha hn hc] 32) = W0 at *
 have c3 : W0.cell? ⟨w.heap.size, 3, none⟩ = some (.slice pa pn pc) := by rw [cell_of_row _ _ 3 _ _ _ hr0]; rfl
 have c4 : W0.cell? ⟨w.heap.size, 4, none⟩ = some (.slice ha hn hc) := by rw [cell_of_row _ _ 4 _ _ _ hr0]; rfl
 have HB0 : Hid (Below w.heap.size w W0) := hb0
 have eab : wrap64 (a + b) = a + b + sumP P 0 := by simp [sumP, wrap64]; omega
 clear hb0 hr0
 go_loop [3, 4] (fun sv iv => ∃ i : Nat, i ≤ pn ∧ sv = .int .i64 (a + b + sumP P i) ∧ iv = .int .i64 i) (fun _ iv => pn + 1 - (intOf iv).toNat)
 case atStart => exact ⟨0, by omega, by first | rw [eab] | (simp [sumP]), rfl⟩
 case round =>
  clear eab
  obtain ⟨i, hi, rfl, rfl⟩ := hrel
  by_cases hlt : i < pn
  ·have hlt' : (i : Int) < pn := by omega
   obtain ⟨bl0, off, rfl, hc0⟩ := HPY.out.at_ (by omega)
   have c2 := (py_cells (hc0 i hlt)).2.2.1
   have b1 := HP.out i (by omega)
   have b2' : 0 ≤ sumP P i + (P i).am ∧ sumP P i + (P i).am ≤ 9007199254740992 := HP.out (i + 1) (by omega)
   have HW : Hid (a + b + sumP P i + (P i).am = a + b + sumP P (i + 1)) := by show _ = _; rw [show sumP P (i + 1) = sumP P i + (P i).am from rfl]; omega
   clear hc0
   generalize sumP P i = q at *
   obtain ⟨x, hx⟩ : ∃ x, P i = x := ⟨_, rfl⟩
   rw [hx] at b2' HW c2
   clear hx
   have ew : wrap64 (a + b + q + x.am) = a + b + q + x.am := by simp [wrap64]; omega
   go_wp2
   go_round
   case rel => exact ⟨i + 1, by omega, by first | rw [HW.out] | (rw [ew, HW.out]) | (rw [← HW.out]), by go_num⟩
   case measure => simp [intOf]; omega
  ·obtain rfl : i = pn := by omega
   have hnn : ¬ ((i : Int) < i) := by omega
   have b1 := HP.out i (by omega)
   have HQ : Hid (tot ⟨nu, a, b, i, P, hn, H⟩ = a + b + sumP P i + sumH H hn) := HT.out
   generalize sumP P i = q at *
   have e0 : Hid (a + b + q = a + b + q + sumH H 0) := by show _ = _; simp [sumH]
   clear HT HP HPY
   go_wp2
   go_loop [3, 5] (fun sv iv => ∃ j : Nat, j ≤ hn ∧ sv = .int .i64 (a + b + q + sumH H j) ∧ iv = .int .i64 j) (fun _ iv => hn + 1 - (intOf iv).toNat)
   case atStart => exact ⟨0, by omega, by rw [← e0.out], rfl⟩
   case round =>
    clear e0
    obtain ⟨j, hj, rfl, rfl⟩ := hrel
    by_cases hlt : j < hn
    ·have hlt' : (j : Int) < hn := by omega
     obtain ⟨bl0, off, rfl, hc0⟩ := HHD.out.at_ (by omega)
     obtain ⟨ka, kc, hr, _, _⟩ := hc0 j hlt
     obtain ⟨_, d1, _⟩ := hd_cells hr
     have b3 := HH.out j (by omega)
     have b2' : 0 ≤ sumH H j + (H j).am ∧ sumH H j + (H j).am ≤ 9007199254740992 := HH.out (j + 1) (by omega)
     have HW : Hid (a + b + q + sumH H j + (H j).am = a + b + q + sumH H (j + 1)) := by show _ = _; rw [show sumH H (j + 1) = sumH H j + (H j).am from rfl]; omega
     clear hc0 hr
     generalize sumH H j = r at *
     obtain ⟨x, hx⟩ : ∃ x, H j = x := ⟨_, rfl⟩
     rw [hx] at b2' HW d1
     clear hx
     have ew : wrap64 (a + b + q + r + x.am) = a + b + q + r + x.am := by simp [wrap64]; omega
     go_wp2
     go_round
     case rel => exact ⟨j + 1, by omega, by first | rw [HW.out] | (rw [ew, HW.out]) | (rw [← HW.out]), by go_num⟩
     case measure => simp [intOf]; omega
    ·obtain rfl : j = hn := by omega
     have hnn : ¬ ((j : Int) < j) := by omega
     go_wp2
     go_ret
     exact ⟨by rw [HQ.out]; rfl, HB0.out⟩
end Go.Proofs.YtjnepkggdkccaaaGreatDoor
