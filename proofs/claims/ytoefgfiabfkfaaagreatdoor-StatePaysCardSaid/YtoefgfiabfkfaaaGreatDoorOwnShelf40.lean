/- The document's Add where it adds. -/
import Derived.Test.YtoefgfiabfkfaaaGreatDoorOwnShelf39
import Derived.Deep.CutBlock
import Derived.Deep.DeepCutAuto
namespace Go.Proofs.YtoefgfiabfkfaaaGreatDoor
open Go.RowKit
attribute [local go_sem ↓] Go.wp_at_zero Go.wp_at_succ

/-- What the document's Add answers. -/
def RAdd (s : Sv) (f : Int) (y : Py) (e : Ending) (w' : World) : Prop := ∃ i : Nat, i ≤ s.pn ∧ (∀ j, j < i → (s.P j).id < y.id) ∧ (i < s.pn → y.id ≤ (s.P i).id) ∧ ∃ p', e = .returned (.tuple #[.agg (svv (addY (asideS s f y.am) i y) p'), .int .i64 0]) ∧ SvAt w' (addY (asideS s f y.am) i y) p'
set_option maxRecDepth 100000 in
set_option maxHeartbeats 6400000 in
theorem radd_ok_0 (s : Sv) (p : Pl) (y : Py) (w : World) (h : SvAt w s p) (hs : s.Small) (hy : Zb y.lk) (hfr : y.fr = 0) (hsp : ∀ a, p.pa = some a → ∃ bb off, a = ⟨bb, off, none⟩) (he : raE s 0 y = 0) :
  Calls Tryz.prog 8 #[.agg (svv s p), .agg (pyv y)] w fun e w' => RAdd s 0 y e w' ∧ Below w.heap.size w w' := by
 obtain ⟨hr, _, hd, hm, hb, h8, hh⟩ := asideE_ok he
 have hm := of_decide_eq_true hm
 clear he
 have HFR : Hid (y.fr = 0) := hfr
 have HKP : Hid (PyAt w p.pa s.pn s.P ∧ s.pn ≤ p.pc ∧ (p.pa = none → s.pn = 0 ∧ p.pc = 0)) := ⟨h.py, h.pcap, h.pnil⟩
 have HFIN : Hid (∀ (i : Nat), i ≤ s.pn → ∀ (vx : Option Addr) (vy : Nat) (V : World) (B : Nat), w.heap.size ≤ B → Below w.heap.size w V → V.ownsRow B 30 36 (.slice vx (s.pn + 1) vy) (s.pn + 1) (flatL (pf (insY s.P i y)) (s.pn + 1)) → SvAt V (addY (asideS s 0 y.am) i y) ⟨vx, vy, p.ha, p.hc⟩) := fun i hi vx vy V B hB hb ho => by
  have hv := h.below hb
  have hr := asideS_rows s 0 y.am
  have hrow := py_of_row ho (fun j hj => by
   unfold insY
   by_cases h1 : j < i
   ·simp only [h1, if_true]
    exact h.py.lk j (by omega)
   ·simp only [h1, if_false]
    by_cases h2 : j = i
    ·simp only [h2, if_true]
     exact hy
    ·simp only [h2, if_false]
     exact h.py.lk (j - 1) (by omega))
  refine ⟨?_, ?_, ?_, ?_, ?_, ?_⟩
  ·show PyAt V vx ((asideS s 0 y.am).pn + 1) (insY (asideS s 0 y.am).P i y)
   rw [hr.1, hr.2.1]; exact hrow
  ·show HdAt V p.ha (asideS s 0 y.am).hn (asideS s 0 y.am).H
   rw [hr.2.2.1, hr.2.2.2]; exact hv.hd
  ·show (asideS s 0 y.am).pn + 1 ≤ vy
   rw [hr.1]; exact (own_nil ho).1
  ·show (asideS s 0 y.am).hn ≤ p.hc
   rw [hr.2.2.1]; exact hv.hcap
  ·show vx = none → (asideS s 0 y.am).pn + 1 = 0 ∧ vy = 0
   rw [hr.1]; exact (own_nil ho).2
  ·show p.ha = none → (asideS s 0 y.am).hn = 0 ∧ p.hc = 0
   rw [hr.2.2.1]; exact hv.hnil
 have HSV : Hid (∀ (i : Nat) (vx : Option Addr) (vy : Nat), svv (addY (asideS s 0 y.am) i y) ⟨vx, vy, p.ha, p.hc⟩ = #[.int .i64 (s.nu + 1), .int .i64 (s.a + -y.am), .int .i64 s.b, .slice vx (s.pn + 1) vy, .slice p.ha s.hn p.hc]) := fun i vx vy => by simp [svv, addY, asideS, giv, nxt]
 have HSP : Hid (∀ a, p.pa = some a → ∃ bb off, a = ⟨bb, off, none⟩) := hsp
 clear hsp
 have b0 := hr.1.1.1
 have b1 := hr.1.1.2.1
 have b2 := hr.1.1.2.2
 have b3 := hr.2
 have bam := hm.2.2.2.1
 have HWT : Hid (∀ (pa : Option Addr) (pn pc : Nat) (ha : Option Addr) (hn hc : Nat) (V : World), Calls Tryz.prog 25 #[.agg #[.int .i64 s.nu, .int .i64 s.a, .int .i64 s.b, .slice p.pa s.pn p.pc, .slice p.ha s.hn p.hc], .int .i64 (-y.am), .int .i64 0, .slice pa pn pc, .slice ha hn hc] V fun e w' => e = .returned (.agg #[.int .i64 (s.nu + 1), .int .i64 (s.a + (-y.am)), .int .i64 (s.b + 0), .slice pa pn pc, .slice ha hn hc]) ∧ Below V.heap.size V w') := fun pa pn pc ha hn hc V => rwith_any s p (-y.am) 0 pa pn pc ha hn hc V (by simp [wrap64]; omega) (by simp [wrap64]; omega) (by simp [wrap64]; omega)
 have EN : Hid (wrap64 (-y.am) = -y.am) := by show wrap64 (-y.am) = -y.am; simp [wrap64]; omega
 have hhn8 : s.pn ≤ 8 := by have := hr.1.2.1.1; omega
 clear b0 b1 b2 b3 bam
 obtain ⟨W0, hW0, r0, r1, r2, hsz, hb0⟩ := three_boxesP w s p y
 have HV : Hid (SvAt w s p ∧ s.Small ∧ Zb y.lk) := ⟨h, hs, hy⟩
 have hc := right_any s p W0 (h.below hb0) hs
 have HX0 : Hid (W0.heap[w.heap.size]? = some (.cells (svv s p) 26 (0, 0)) ∧ W0.heap[w.heap.size + 1]? = some (.cells (pyv y) 30 (0, 0)) ∧ W0.heap[w.heap.size + 2]? = some (.cells #[.int .i64 0, .int .i64 0, .int .i64 0, .slice none 0 0, .slice none 0 0] 26 (0, 0)) ∧ W0.heap.size = w.heap.size + 3 ∧ Below w.heap.size w W0) := ⟨r0, r1, r2, hsz, hb0⟩
 clear h hs hy r0 r1 r2 hsz hb0
 subst hW0
 unfold svv at hc HX0 ⊢
 go_enter Tryz.func8, Tryz.ntmps8
 go_wp2_with (first | (refine Go.Great.wpList_boxTo rfl _ _ rfl _ rfl _ rfl (pyv y) rfl ?_) | fail)
 generalize ((w.alloc (.cells #[.int .i64 s.nu, .int .i64 s.a, .int .i64 s.b, .slice p.pa s.pn p.pc, .slice p.ha s.hn p.hc] 26)).alloc (.cells (pyv y) 30)).alloc (.cells #[.int .i64 0, .int .i64 0, .int .i64 0, .slice none 0 0, .slice none 0 0] 26) = W0 at *
 (try rw [show w.heap.size + 1 + 1 = w.heap.size + 2 from rfl])
 refine hc.mono ?_
 rintro e w1 ⟨rfl, hb1⟩
 have HX : Hid (w1.heap[w.heap.size]? = some (.cells #[.int .i64 s.nu, .int .i64 s.a, .int .i64 s.b, .slice p.pa s.pn p.pc, .slice p.ha s.hn p.hc] 26 (0, 0)) ∧ w1.heap[w.heap.size + 1]? = some (.cells (pyv y) 30 (0, 0)) ∧ w1.heap[w.heap.size + 2]? = some (.cells #[.int .i64 0, .int .i64 0, .int .i64 0, .slice none 0 0, .slice none 0 0] 26 (0, 0)) ∧ Below w.heap.size w w1) := ⟨(hb1.block _ (lt_of_block HX0.out.1)).trans HX0.out.1, (hb1.block _ (lt_of_block HX0.out.2.1)).trans HX0.out.2.1, (hb1.block _ (lt_of_block HX0.out.2.2.1)).trans HX0.out.2.2.1, HX0.out.2.2.2.2.trans (hb1.mono HX0.out.2.2.2.2.size)⟩
 clear hc hb1 HX0
 obtain ⟨c0, c1, c2, c3, c4, cf⟩ := five_of HX.out.1
 obtain ⟨k0, k1, k2, k3, kl⟩ := pbox_of HX.out.2.1
 rw [HFR.out] at k1
 clear k3 kl
 obtain ⟨d0, d1, d2, d3, d4, df⟩ := five_of HX.out.2.2.1
 rw [decide_eq_true hr]
 have h8' : ¬ (7 : Int) < (s.pn : Int) + (s.hn : Int) := by omega
 have ew : wrap64 ((s.pn : Int) + (s.hn : Int)) = (s.pn : Int) + (s.hn : Int) := by simp [wrap64]; omega
 have hh' : ¬ s.a < y.am := by have h : y.am ≤ s.a := hh; omega
 clear hh hr
 go_wp2_with (first | (refine wpList_load_mid rfl 30 _ rfl (w.heap.size + 1) 0 rfl (pyl y) _ (pyv_range HX.out.2.1) Tryz.underlying30 rfl (szPrl _) ?_) | fail)
 refine (payMay_any y w1 HV.out.2.2).mono ?_
 rintro e w2 ⟨rfl, hb2⟩
 have HX2 : Hid (w2.heap[w.heap.size]? = some (.cells #[.int .i64 s.nu, .int .i64 s.a, .int .i64 s.b, .slice p.pa s.pn p.pc, .slice p.ha s.hn p.hc] 26 (0, 0)) ∧ w2.heap[w.heap.size + 1]? = some (.cells (pyv y) 30 (0, 0)) ∧ w2.heap[w.heap.size + 2]? = some (.cells #[.int .i64 0, .int .i64 0, .int .i64 0, .slice none 0 0, .slice none 0 0] 26 (0, 0)) ∧ Below w.heap.size w w2) := ⟨(hb2.block _ (lt_of_block HX.out.1)).trans HX.out.1, (hb2.block _ (lt_of_block HX.out.2.1)).trans HX.out.2.1, (hb2.block _ (lt_of_block HX.out.2.2.1)).trans HX.out.2.2.1, HX.out.2.2.2.trans (hb2.mono HX.out.2.2.2.size)⟩
 clear c0 c1 c2 c3 c4 cf k0 k1 k2 d0 d1 d2 d3 d4 df HX hb2
 have HX : Hid (w2.heap[w.heap.size]? = some (.cells #[.int .i64 s.nu, .int .i64 s.a, .int .i64 s.b, .slice p.pa s.pn p.pc, .slice p.ha s.hn p.hc] 26 (0, 0)) ∧ w2.heap[w.heap.size + 1]? = some (.cells (pyv y) 30 (0, 0)) ∧ w2.heap[w.heap.size + 2]? = some (.cells #[.int .i64 0, .int .i64 0, .int .i64 0, .slice none 0 0, .slice none 0 0] 26 (0, 0)) ∧ Below w.heap.size w w2) := HX2.out
 clear HX2
 obtain ⟨c0, c1, c2, c3, c4, cf⟩ := five_of HX.out.1
 obtain ⟨k0, k1, k2, k3, kl⟩ := pbox_of HX.out.2.1
 rw [HFR.out] at k1
 clear k3 kl
 obtain ⟨d0, d1, d2, d3, d4, df⟩ := five_of HX.out.2.2.1
 rw [decide_eq_true hm]
 go_wp2_with fail
 refine (payAt_any p.pa s.pn p.pc s.P y.id w2 (HV.out.1.py.below HX.out.2.2.2) (by have := HV.out.2.1.n; omega)).mono ?_
 rintro e w3 ⟨k, hk, rfl, hw3⟩
 rw [hw3]
 clear hw3
 have HH : Hid (HatR (fun j => (s.P j).id) s.pn y.id k) := hk
 have hkb := hat_hasB hk
 clear hk
 rw [hb] at hkb
 have hk0 : ¬ 0 ≤ k := of_decide_eq_false hkb
 clear hkb HH hb hm h8
 go_wp2_with fail
 have S0 : w2.drew.cell? ⟨w.heap.size, 1, none⟩ = some (.int .i64 s.a) ∧ w2.drew.cell? ⟨w.heap.size + 1, 1, none⟩ = some (.int .i64 0) ∧ w2.drew.cell? ⟨w.heap.size + 1, 2, none⟩ = some (.int .i64 y.am) := ⟨c1, k1, k2⟩
 refine wp_region_noPanic ?_
 refine wp_region_held_drew (S := fun u => u.cell? ⟨w.heap.size, 1, none⟩ = some (.int .i64 s.a) ∧ u.cell? ⟨w.heap.size + 1, 1, none⟩ = some (.int .i64 0) ∧ u.cell? ⟨w.heap.size + 1, 2, none⟩ = some (.int .i64 y.am)) (by kernel_rfl) S0 (fun hHeld => ?_)
 have HBX : Hid (w2.drew.heap[w.heap.size]? = some (.cells #[.int .i64 s.nu, .int .i64 s.a, .int .i64 s.b, .slice p.pa s.pn p.pc, .slice p.ha s.hn p.hc] 26 (0, 0)) ∧ w2.drew.heap[w.heap.size + 1]? = some (.cells (pyv y) 30 (0, 0))) := ⟨HX.out.1, HX.out.2.1⟩
 have HXd : Hid (w2.drew.heap[w.heap.size + 2]? = some (.cells #[.int .i64 0, .int .i64 0, .int .i64 0, .slice none 0 0, .slice none 0 0] 26 (0, 0)) ∧ Below w.heap.size w w2.drew) := ⟨HX.out.2.2.1, HX.out.2.2.2.drew⟩
 clear c0 c1 c2 c3 c4 cf k0 k1 k2 d0 d1 d2 d3 d4 df
 generalize w2.drew = Wd at *
 refine wpV 0 ⟨some 54, .fieldAddr 30 (.tmp 3) 1, 0, _, _, none⟩ rfl ?_
 try simp only [Act.put, sqA, sqB, sqC]
 refine wpV 1 ⟨some 55, .load 3 (.tmp 54), 3, _, _, none⟩ rfl ?_
 try simp only [Act.put, sqA, sqB, sqC]
 refine wpV 2 ⟨some 56, .fieldAddr 26 (.tmp 2) 1, 0, _, _, none⟩ rfl ?_
 try simp only [Act.put, sqA, sqB, sqC]
 refine wpV 3 ⟨some 57, .indexAddr 22 (.tmp 56) (.tmp 55), 0, _, _, none⟩ rfl ?_
 try simp only [Act.put, sqA, sqB, sqC]
 refine wpV 4 ⟨some 58, .load 3 (.tmp 57), 3, _, _, none⟩ rfl ?_
 try simp only [Act.put, sqA, sqB, sqC]
 refine wpV 5 ⟨some 59, .fieldAddr 30 (.tmp 3) 2, 0, _, _, none⟩ rfl ?_
 try simp only [Act.put, sqA, sqB, sqC]
 refine wpV 6 ⟨some 60, .load 3 (.tmp 59), 3, _, _, none⟩ rfl ?_
 try simp only [Act.put, sqA, sqB, sqC]
 refine wpV 7 ⟨some 61, .binOp .lss 3 (.tmp 58) (.tmp 60) 3, 4, _, _, none⟩ rfl ?_
 try simp only [Act.put, sqA, sqB, sqC]
 refine wpV 8 ⟨some 53, .assign (.tmp 61), 4, _, _, none⟩ rfl ?_
 try simp only [Act.put, sqA, sqB, sqC]
 refine wpAnyH_done (by kernel_rfl) (NoPanic.normal ?_) _
 try simp only [Act.put, sqA, sqB, sqC]
 clear hHeld S0
 clear h8' ew hd hk0
 have HX3 : Hid (Wd.heap[w.heap.size]? = some (.cells #[.int .i64 s.nu, .int .i64 s.a, .int .i64 s.b, .slice p.pa s.pn p.pc, .slice p.ha s.hn p.hc] 26 (0, 0)) ∧ Wd.heap[w.heap.size + 1]? = some (.cells (pyv y) 30 (0, 0)) ∧ Wd.heap[w.heap.size + 2]? = some (.cells #[.int .i64 0, .int .i64 0, .int .i64 0, .slice none 0 0, .slice none 0 0] 26 (0, 0)) ∧ Below w.heap.size w Wd) := ⟨HBX.out.1, HBX.out.2, HXd.out.1, HXd.out.2⟩
 clear HXd HBX HX
 go_wp2
 clear hh'
 go_loopw [7] (fun iv wr => ∃ i : Nat, i ≤ s.pn ∧ iv = .int .i64 i ∧ (∀ j, j < i → (s.P j).id < y.id) ∧ wr.heap[w.heap.size]? = some (.cells #[.int .i64 s.nu, .int .i64 s.a, .int .i64 s.b, .slice p.pa s.pn p.pc, .slice p.ha s.hn p.hc] 26 (0, 0)) ∧ wr.heap[w.heap.size + 1]? = some (.cells (pyv y) 30 (0, 0)) ∧ wr.heap[w.heap.size + 2]? = some (.cells #[.int .i64 0, .int .i64 0, .int .i64 0, .slice none 0 0, .slice none 0 0] 26 (0, 0)) ∧ Below w.heap.size w wr) (fun iv _ => s.pn + 1 - (intOf iv).toNat)
 case atStart => exact ⟨0, Nat.zero_le _, rfl, fun j hj => by omega, HX3.out⟩
 case round =>
  clear HX3
  obtain ⟨i, hi, rfl, hlo, hx⟩ := hrel
  have HX : Hid (wr.heap[w.heap.size]? = some (.cells #[.int .i64 s.nu, .int .i64 s.a, .int .i64 s.b, .slice p.pa s.pn p.pc, .slice p.ha s.hn p.hc] 26 (0, 0)) ∧ wr.heap[w.heap.size + 1]? = some (.cells (pyv y) 30 (0, 0)) ∧ wr.heap[w.heap.size + 2]? = some (.cells #[.int .i64 0, .int .i64 0, .int .i64 0, .slice none 0 0, .slice none 0 0] 26 (0, 0)) ∧ Below w.heap.size w wr) := hx
  have HLO : Hid (∀ j, j < i → (s.P j).id < y.id) := hlo
  have HIL : Hid (i ≤ s.pn) := hi
  clear hx hlo
  have HSR : Hid (Src w p.pa s.pn p.pc (flatL (pf s.P) s.pn)) := HKP.out.1.src HKP.out.2.2
  have HCP : Hid (s.pn ≤ p.pc) := HKP.out.2.1
  by_cases hlt : i < s.pn
  ·have hlt' : (i : Int) < s.pn := by omega
   obtain ⟨b, off, hpa, hrg⟩ := HSR.out.1 (by omega)
   obtain ⟨pa, pc, ha, hc⟩ := p
   dsimp only at *
   subst hpa
   have hri := (flatL_range s.pn (pf_len s.P s.pn)).1 hrg i hlt
   have S0 : wr.drew.cell? ⟨w.heap.size, 3, none⟩ = some (.slice (some ⟨b, off, none⟩) s.pn pc) ∧ wr.drew.cell? ⟨b, off + i * 36, none⟩ = some (.int .i64 (s.P i).id) ∧ wr.drew.cell? ⟨w.heap.size + 1, 0, none⟩ = some (.int .i64 y.id) := ⟨(five_of HX.out.1).c3, (py_cells (range_below hri HX.out.2.2.2)).1, (pbox_of HX.out.2.1).c0⟩
   clear hrg hri
   go_upto_region 17 with fail
   refine wp_region_noPanic ?_
   refine wp_region_held_drew (S := fun u => u.cell? ⟨w.heap.size, 3, none⟩ = some (.slice (some ⟨b, off, none⟩) s.pn pc) ∧ u.cell? ⟨b, off + i * 36, none⟩ = some (.int .i64 (s.P i).id) ∧ u.cell? ⟨w.heap.size + 1, 0, none⟩ = some (.int .i64 y.id)) (by kernel_rfl) S0 (fun hHeld => ?_)
   by_cases hid : (s.P i).id < y.id
   ·have HN : Hid (∀ j, j < i + 1 → (s.P j).id < y.id) := fun j hj => by
     by_cases e : j = i
     ·subst e; exact hid
     ·exact HLO.out j (by omega)
    have HX1 : Hid (wr.drew.heap[w.heap.size]? = some (.cells #[.int .i64 s.nu, .int .i64 s.a, .int .i64 s.b, .slice (some ⟨b, off, none⟩) s.pn pc, .slice ha s.hn hc] 26 (0, 0)) ∧ wr.drew.heap[w.heap.size + 1]? = some (.cells (pyv y) 30 (0, 0)) ∧ wr.drew.heap[w.heap.size + 2]? = some (.cells #[.int .i64 0, .int .i64 0, .int .i64 0, .slice none 0 0, .slice none 0 0] 26 (0, 0)) ∧ Below w.heap.size w wr.drew) := ⟨HX.out.1, HX.out.2.1, HX.out.2.2.1, HX.out.2.2.2.drew⟩
    generalize wr.drew = Wd at *
    refine wpV 0 ⟨some 63, .move (.tmp 7), 3, _, _, none⟩ rfl ?_
    try simp only [Act.put, sqA, sqB, sqC]
    refine wpV 1 ⟨some 64, .fieldAddr 26 (.tmp 2) 2, 0, _, _, none⟩ rfl ?_
    try simp only [Act.put, sqA, sqB, sqC]
    refine wpV 2 ⟨some 65, .load 23 (.tmp 64), 23, _, _, none⟩ rfl ?_
    try simp only [Act.put, sqA, sqB, sqC]
    refine wpV 3 ⟨some 66, .call ⟨.builtin .len, #[.tmp 65], #[23]⟩, 3, _, _, none⟩ rfl ?_
    try simp only [Act.put, sqA, sqB, sqC]
    refine wpV 4 ⟨some 67, .binOp .lss 3 (.tmp 63) (.tmp 66) 3, 4, _, _, none⟩ rfl ?_
    try simp only [Act.put, sqA, sqB, sqC]
    refine wpV 5 ⟨some 68, .move (.tmp 67), 4, _, _, none⟩ rfl ?_
    try simp only [Act.put, sqA, sqB, sqC]
    refine wpV 6 ⟨some 69, .fieldAddr 26 (.tmp 2) 2, 0, _, _, some (5, true)⟩ rfl ?_
    try simp only [Act.put, sqA, sqB, sqC]
    refine wpV 7 ⟨some 70, .load 23 (.tmp 69), 23, _, _, some (5, true)⟩ rfl ?_
    try simp only [Act.put, sqA, sqB, sqC]
    refine wpV 8 ⟨some 71, .move (.tmp 7), 3, _, _, some (5, true)⟩ rfl ?_
    try simp only [Act.put, sqA, sqB, sqC]
    refine wpV 9 ⟨some 72, .indexAddr 23 (.tmp 70) (.tmp 71), 0, _, _, some (5, true)⟩ rfl ?_
    try simp only [Act.put, sqA, sqB, sqC]
    refine wpV 10 ⟨some 73, .fieldAddr 30 (.tmp 72) 0, 0, _, _, some (5, true)⟩ rfl ?_
    try simp only [Act.put, sqA, sqB, sqC]
    refine wpV 11 ⟨some 74, .load 3 (.tmp 73), 3, _, _, some (5, true)⟩ rfl ?_
    try simp only [Act.put, sqA, sqB, sqC]
    refine wpV 12 ⟨some 75, .fieldAddr 30 (.tmp 3) 0, 0, _, _, some (5, true)⟩ rfl ?_
    try simp only [Act.put, sqA, sqB, sqC]
    refine wpV 13 ⟨some 76, .load 3 (.tmp 75), 3, _, _, some (5, true)⟩ rfl ?_
    try simp only [Act.put, sqA, sqB, sqC]
    refine wpV 14 ⟨some 77, .binOp .lss 3 (.tmp 74) (.tmp 76) 3, 4, _, _, some (5, true)⟩ rfl ?_
    try simp only [Act.put, sqA, sqB, sqC]
    refine wpV 15 ⟨some 78, .pick (.tmp 68) (.tmp 77) (.const (.bool false)), 4, _, _, none⟩ rfl ?_
    try simp only [Act.put, sqA, sqB, sqC]
    refine wpAnyH_done (by kernel_rfl) (NoPanic.normal ?_) _
    try simp only [Act.put, sqA, sqB, sqC]
    clear hHeld S0 hid HX
    go_wp2
    exact ⟨⟨i + 1, by omega, by go_num, HN.out, HX1.out⟩, by simp [intOf]; omega⟩
   ·have HHI : Hid (i < s.pn → y.id ≤ (s.P i).id) := fun _ => Int.not_lt.1 hid
    refine wpV 0 ⟨some 63, .move (.tmp 7), 3, _, _, none⟩ rfl ?_
    try simp only [Act.put, sqA, sqB, sqC]
    refine wpV 1 ⟨some 64, .fieldAddr 26 (.tmp 2) 2, 0, _, _, none⟩ rfl ?_
    try simp only [Act.put, sqA, sqB, sqC]
    refine wpV 2 ⟨some 65, .load 23 (.tmp 64), 23, _, _, none⟩ rfl ?_
    try simp only [Act.put, sqA, sqB, sqC]
    refine wpV 3 ⟨some 66, .call ⟨.builtin .len, #[.tmp 65], #[23]⟩, 3, _, _, none⟩ rfl ?_
    try simp only [Act.put, sqA, sqB, sqC]
    refine wpV 4 ⟨some 67, .binOp .lss 3 (.tmp 63) (.tmp 66) 3, 4, _, _, none⟩ rfl ?_
    try simp only [Act.put, sqA, sqB, sqC]
    refine wpV 5 ⟨some 68, .move (.tmp 67), 4, _, _, none⟩ rfl ?_
    try simp only [Act.put, sqA, sqB, sqC]
    refine wpV 6 ⟨some 69, .fieldAddr 26 (.tmp 2) 2, 0, _, _, some (5, true)⟩ rfl ?_
    try simp only [Act.put, sqA, sqB, sqC]
    refine wpV 7 ⟨some 70, .load 23 (.tmp 69), 23, _, _, some (5, true)⟩ rfl ?_
    try simp only [Act.put, sqA, sqB, sqC]
    refine wpV 8 ⟨some 71, .move (.tmp 7), 3, _, _, some (5, true)⟩ rfl ?_
    try simp only [Act.put, sqA, sqB, sqC]
    refine wpV 9 ⟨some 72, .indexAddr 23 (.tmp 70) (.tmp 71), 0, _, _, some (5, true)⟩ rfl ?_
    try simp only [Act.put, sqA, sqB, sqC]
    refine wpV 10 ⟨some 73, .fieldAddr 30 (.tmp 72) 0, 0, _, _, some (5, true)⟩ rfl ?_
    try simp only [Act.put, sqA, sqB, sqC]
    refine wpV 11 ⟨some 74, .load 3 (.tmp 73), 3, _, _, some (5, true)⟩ rfl ?_
    try simp only [Act.put, sqA, sqB, sqC]
    refine wpV 12 ⟨some 75, .fieldAddr 30 (.tmp 3) 0, 0, _, _, some (5, true)⟩ rfl ?_
    try simp only [Act.put, sqA, sqB, sqC]
    refine wpV 13 ⟨some 76, .load 3 (.tmp 75), 3, _, _, some (5, true)⟩ rfl ?_
    try simp only [Act.put, sqA, sqB, sqC]
    refine wpV 14 ⟨some 77, .binOp .lss 3 (.tmp 74) (.tmp 76) 3, 4, _, _, some (5, true)⟩ rfl ?_
    try simp only [Act.put, sqA, sqB, sqC]
    refine wpV 15 ⟨some 78, .pick (.tmp 68) (.tmp 77) (.const (.bool false)), 4, _, _, none⟩ rfl ?_
    try simp only [Act.put, sqA, sqB, sqC]
    refine wpAnyH_done (by kernel_rfl) (NoPanic.normal ?_) _
    try simp only [Act.put, sqA, sqB, sqC]
    have HX1 : Hid (wr.drew.drew.heap[w.heap.size]? = some (.cells #[.int .i64 s.nu, .int .i64 s.a, .int .i64 s.b, .slice (some ⟨b, off, none⟩) s.pn pc, .slice ha s.hn hc] 26 (0, 0)) ∧ wr.drew.drew.heap[w.heap.size + 1]? = some (.cells (pyv y) 30 (0, 0)) ∧ wr.drew.drew.heap[w.heap.size + 2]? = some (.cells #[.int .i64 0, .int .i64 0, .int .i64 0, .slice none 0 0, .slice none 0 0] 26 (0, 0)) ∧ Below w.heap.size w wr.drew.drew) := ⟨HX.out.1, HX.out.2.1, HX.out.2.2.1, HX.out.2.2.2.drew.drew⟩
    clear hHeld S0 hid hlt hlt'
    generalize wr.drew = Wy at *
    go_wp2_with fail
    generalize hWd : Wy.drew = Wd at HX1
    have HXr : Hid (Wd.heap[w.heap.size]? = some (.cells #[.int .i64 s.nu, .int .i64 s.a, .int .i64 s.b, .slice (some ⟨b, off, none⟩) s.pn pc, .slice ha s.hn hc] 26 (0, 0)) ∧ Wd.heap[w.heap.size + 1]? = some (.cells (pyv y) 30 (0, 0)) ∧ Wd.heap[w.heap.size + 2]? = some (.cells #[.int .i64 0, .int .i64 0, .int .i64 0, .slice none 0 0, .slice none 0 0] 26 (0, 0)) ∧ Below w.heap.size w Wd) := HX1.out
    have HWS : Hid (w.heap.size + 2 < Wd.heap.size) := lt_of_block HX1.out.2.2.1
    clear HX1 HX
    have HB0 : Hid (Below w.heap.size w Wd) := HXr.out.2.2.2
    have SR : Hid (∀ u, Below Wd.heap.size Wd u → u.rangeAt (w.heap.size + 1) 0 (pyl y) ∧ u.cell? ⟨w.heap.size, 3, none⟩ = some (.slice (some ⟨b, off, none⟩) s.pn pc)) := fun u hb => ⟨range_below (pyv_range HXr.out.2.1) hb, by rw [hb.cell (p := ⟨w.heap.size, 3, none⟩) (lt_of_block HXr.out.1)]; exact (five_of HXr.out.1).c3⟩
    have S0 := SR.out Wd (Below.refl _ _)
    refine wp_region_noPanic ?_
    refine wp_region_held_drew (S := fun u => u.rangeAt (w.heap.size + 1) 0 (pyl y) ∧ u.cell? ⟨w.heap.size, 3, none⟩ = some (.slice (some ⟨b, off, none⟩) s.pn pc)) (by kernel_rfl) (by rw [hWd]; exact S0) (fun hHeld => ?_)
    rw [hWd] at hHeld ⊢
    clear hWd
    obtain ⟨ax, hax⟩ : ∃ ax : Option Addr, (if pc = i then some (⟨b, off, none⟩ : Addr) else some ⟨b, off + i * 36, none⟩) = ax := ⟨_, rfl⟩
    have HAX : Hid ((if pc = i then some (⟨b, off, none⟩ : Addr) else some ⟨b, off + i * 36, none⟩) = ax) := hax
    clear hax
    refine wpV 0 ⟨some 81, .move (.tmp 6), 23, _, _, none⟩ rfl ?_
    try simp only [Act.put, sqA, sqB, sqC]
    refine wpV 1 ⟨some 82, .fieldAddr 26 (.tmp 2) 2, 0, _, _, none⟩ rfl ?_
    try simp only [Act.put, sqA, sqB, sqC]
    refine wpV 2 ⟨some 83, .load 23 (.tmp 82), 23, _, _, none⟩ rfl ?_
    try simp only [Act.put, sqA, sqB, sqC]
    refine wpV 3 ⟨some 84, .move (.tmp 7), 3, _, _, none⟩ rfl ?_
    try simp only [Act.put, sqA, sqB, sqC]
    refine wpU 4 ⟨some 85, .slice 23 (.tmp 83) none (some (.tmp 84)) none, 23, _, _, none⟩ (v := .slice (some ⟨b, off, none⟩) i pc) rfl ?_ ?_
    ·intro wz hSw; (try dsimp only at hSw); go_simp; try (intro hbad; have h1 := HCP.out; omega)
    try simp only [Act.put, sqA, sqB, sqC]
    refine wpAnyH_take (i := 6) (oi := ⟨some 87, .load 30 (.tmp 3), 30, _, _, none⟩) rfl (by kernel_rfl) (by kernel_rfl) (by kernel_rfl) (fun _ _ _ h => h) (yieldsIf_load_mid (by rfl) _ _ rfl (w.heap.size + 1) 0 rfl (pyl y) _ (fun _ h => h.1) Tryz.underlying30 rfl (szPrl _)) (by assumption) ?_
    try simp only [Act.put, sqA, sqB, sqC]
    refine wpV 9 ⟨some 90, .fieldAddr 26 (.tmp 2) 2, 0, _, _, none⟩ rfl ?_
    try simp only [Act.put, sqA, sqB, sqC]
    refine wpV 10 ⟨some 91, .load 23 (.tmp 90), 23, _, _, none⟩ rfl ?_
    try simp only [Act.put, sqA, sqB, sqC]
    refine wpV 11 ⟨some 92, .move (.tmp 7), 3, _, _, none⟩ rfl ?_
    try simp only [Act.put, sqA, sqB, sqC]
    refine wpU 12 ⟨some 93, .slice 23 (.tmp 91) (some (.tmp 92)) none none, 23, _, _, none⟩ (v := .slice ax (s.pn - i) (pc - i)) rfl ?_ ?_
    ·intro wz hSw; (try dsimp only at hSw); rw [← HAX.out]; go_simp; try (intro hbad; have h1 := HCP.out; omega)
    try simp only [Act.put, sqA, sqB, sqC]
    refine wpAnyH_ready (rs := [5, 7]) (by kernel_rfl) (by simp) ?_
    refine (AllReadyH.cons (o := ⟨some 86, .call ⟨.builtin .append, #[.tmp 81, .tmp 85], #[23, 23]⟩, 23, _, _, none⟩) rfl (fun K hK => ?_) (AllReadyH.cons (o := ⟨some 88, .buildSlice 23 1 #[(0, .tmp 87)], 23, _, _, none⟩) rfl (fun K hK => ?_) AllReadyH.nil))
    ·have HBU : Below Wd.heap.size Wd Wd := Below.refl _ _
     refine step_append_RP rfl (.tmp 81) (.tmp 85) rfl Wd.heap.size (.slice none 0 0) 0 [] (some ⟨b, off, none⟩) i pc (flatL (pf s.P) i) (by rfl) (by rfl) (World.ownsRow_nil _ _ _ _) HBU.size (SrcY.take (HSR.out.below (HB0.out.trans (HBU.mono HB0.out.size))) (pf_len _ _) HIL.out (by simp)) (flatL_length i (pf_len _ _)) (pf_one _ _) (by omega) ?_
     intro va vc V1 hown hgr
     rw [Nat.zero_add, List.nil_append] at hown
     have hb1 : Below Wd.heap.size Wd V1 := ⟨hgr.os, hgr.tape, hgr.output, hgr.size, fun k hk => hgr.block k hk (by simp [Value.ownBlock])⟩
     have HO1 : Hid (V1.ownsRow Wd.heap.size 30 36 (.slice va i vc) i (flatL (pf s.P) i)) := hown
     have HBW : Hid (Below Wd.heap.size Wd V1) := Below.transS HBU hb1
     refine hK.out _ _ (SR.out V1 HBW.out) (fun _ => ?_)
     try simp only [Act.put, sqA, sqB, sqC]
     (try rw [Nat.zero_add])
     clear hK K hown hgr
     have HBV : Hid (Below Wd.heap.size Wd V1) := HBW.out
     clear hb1
     refine wpAnyH_ready (rs := [7]) (by kernel_rfl) (by simp) ?_
     refine (AllReadyH.cons (o := ⟨some 88, .buildSlice 23 1 #[(0, .tmp 87)], 23, _, _, none⟩) rfl (fun K hK => ?_) AllReadyH.nil)
     have HBU : Below Wd.heap.size Wd V1 := HBV.out
     refine step_sliceRP rfl (.tmp 87) rfl y (by rfl) ?_
     intro q V2 hq hle hb1
     have HBW : Hid (Below Wd.heap.size Wd V2) := Below.transS HBU hb1
     have HO2 : Hid (V2.ownsRow Wd.heap.size 30 36 (.slice va i vc) i (flatL (pf s.P) i)) := own_below HO1.out hb1
     have HQ : Hid (V2.heap[q]? = some (.cells (pyv y) 30 (0, 0))) := hq
     refine hK.out _ _ (SR.out V2 HBW.out) (fun _ => ?_)
     try simp only [Act.put, sqA, sqB, sqC]
     (try rw [Nat.zero_add])
     clear hK K hq hle hb1 HO1 HBV HBU
     refine wpAnyH_ready (rs := [8]) (by kernel_rfl) (by simp) ?_
     refine (AllReadyH.cons (o := ⟨some 89, .call ⟨.builtin .append, #[.tmp 86, .tmp 88], #[23, 23]⟩, 23, _, _, none⟩) rfl (fun K hK => ?_) AllReadyH.nil)
     refine step_append_RP rfl (.tmp 86) (.tmp 88) rfl Wd.heap.size (.slice va i vc) i (flatL (pf s.P) i) (some ⟨q, 0, none⟩) 1 1 (pyl y) (by rfl) (by rfl) HO2.out HBW.out.size ⟨fun _ => ⟨q, 0, rfl, pyv_range HQ.out⟩, fun e => by cases e⟩ (pyl_length y) (pyl_one y) (by omega) ?_
     intro vb vd V3 hown hgr
     have HO3 : Hid (V3.ownsRow Wd.heap.size 30 36 (.slice vb (i + 1) vd) (i + 1) (flatL (pf s.P) i ++ pyl y)) := hown
     have HB3 : Hid (Below Wd.heap.size Wd V3) := grown_below HO2.out hgr HBW.out (Nat.le_refl _)
     refine hK.out _ _ (SR.out V3 HB3.out) (fun _ => ?_)
     clear hK K hown hgr HO2 HQ HBW
     try simp only [Act.put, sqA, sqB, sqC]
     refine wpAnyH_ready (rs := [13]) (by kernel_rfl) (by simp) ?_
     refine (AllReadyH.cons (o := ⟨some 94, .call ⟨.builtin .append, #[.tmp 89, .tmp 93], #[23, 23]⟩, 23, _, _, none⟩) rfl (fun K hK => ?_) AllReadyH.nil)
     have HBU : Below Wd.heap.size Wd V3 := HB3.out
     refine step_append_RP rfl (.tmp 89) (.tmp 93) rfl Wd.heap.size (.slice vb (i + 1) vd) (i + 1) (flatL (pf s.P) i ++ pyl y) ax (s.pn - i) (pc - i) (flatL (fun j => pf s.P (i + j)) (s.pn - i)) (by rfl) (by rfl) HO3.out HBU.size (by rw [← HAX.out]; exact SrcY.drop (HSR.out.below (HB0.out.trans (HBU.mono HB0.out.size))) (pf_len _ _) HIL.out HCP.out) (flatL_length _ (fun j hj => pyl_length _)) (fun u hu => by
      obtain ⟨j, _, hj⟩ := flatL_mem _ hu
      exact pyl_one _ u hj) (by omega) ?_
     intro vx vy V4 hown hgr
     have em : i + 1 + (s.pn - i) = s.pn + 1 := by omega
     have HB4 : Hid (Below Wd.heap.size Wd V4) := grown_below HO3.out hgr HB3.out (Nat.le_refl _)
     rw [em] at hown
     have HO4 : Hid (V4.ownsRow Wd.heap.size 30 36 (.slice vx (s.pn + 1) vy) (s.pn + 1) (flatL (pf (insY s.P i y)) (s.pn + 1))) := by
      have e0 := insF_mid (pf s.P) i (s.pn - i) (pyl y)
      rw [show i + (s.pn - i) + 1 = s.pn + 1 by omega] at e0
      show V4.ownsRow Wd.heap.size 30 36 (.slice vx (s.pn + 1) vy) (s.pn + 1) (flatL (pf (insY s.P i y)) (s.pn + 1))
      rw [insY_pf, e0, ← List.append_assoc]
      exact hown
     refine hK.out _ _ (SR.out V4 HB4.out) (fun _ => ?_)
     clear hK K hown hgr HO3 HB3 HBU
     try simp only [Act.put, sqA, sqB, sqC]
     rw [em]
     refine wpV 14 ⟨some 6, .assign (.tmp 94), 23, _, _, none⟩ rfl ?_
     try simp only [Act.put, sqA, sqB, sqC]
     refine wpAnyH_done (by kernel_rfl) (NoPanic.normal ?_) _
     try simp only [Act.put, sqA, sqB, sqC]
     clear hHeld S0 SR em
     have HX4 : Hid (V4.heap[w.heap.size]? = some (.cells #[.int .i64 s.nu, .int .i64 s.a, .int .i64 s.b, .slice (some ⟨b, off, none⟩) s.pn pc, .slice ha s.hn hc] 26 (0, 0)) ∧ V4.heap[w.heap.size + 1]? = some (.cells (pyv y) 30 (0, 0)) ∧ V4.heap[w.heap.size + 2]? = some (.cells #[.int .i64 0, .int .i64 0, .int .i64 0, .slice none 0 0, .slice none 0 0] 26 (0, 0)) ∧ Below w.heap.size w V4) := ⟨(HB4.out.block _ (lt_of_block HXr.out.1)).trans HXr.out.1, (HB4.out.block _ (lt_of_block HXr.out.2.1)).trans HXr.out.2.1, (HB4.out.block _ (lt_of_block HXr.out.2.2.1)).trans HXr.out.2.2.1, HB0.out.trans (HB4.out.mono HB0.out.size)⟩
     have HWI : Hid (Calls Tryz.prog 25 #[.agg #[.int .i64 s.nu, .int .i64 s.a, .int .i64 s.b, .slice (some ⟨b, off, none⟩) s.pn pc, .slice ha s.hn hc], .int .i64 (-y.am), .int .i64 0, .slice vx (s.pn + 1) vy, .slice ha s.hn hc] V4 fun e w' => e = .returned (.agg #[.int .i64 (s.nu + 1), .int .i64 (s.a + (-y.am)), .int .i64 (s.b + 0), .slice vx (s.pn + 1) vy, .slice ha s.hn hc]) ∧ Below V4.heap.size V4 w') := HWT.out vx (s.pn + 1) vy ha s.hn hc V4
     clear HXr HB0 HB4
     obtain ⟨c0, c1, c2, c3, c4, cf⟩ := five_of HX4.out.1
     obtain ⟨k0, k1, k2, k3, kl⟩ := pbox_of HX4.out.2.1
     rw [HFR.out] at k1
     clear k3 kl
     have en := EN.out
     go_wp2_with fail
     refine (to_0 (-y.am) V4).mono ?_
     rintro e Vw ⟨rfl, hVw⟩
     rw [hVw]
     clear hVw
     go_wp2_with fail
     refine HWI.out.mono ?_
     rintro e V6 ⟨rfl, hb6⟩
     have HX6 : Hid (V6.heap[w.heap.size + 2]? = some (.cells #[.int .i64 0, .int .i64 0, .int .i64 0, .slice none 0 0, .slice none 0 0] 26 (0, 0)) ∧ Below w.heap.size w V6) := ⟨(hb6.block _ (lt_of_block HX4.out.2.2.1)).trans HX4.out.2.2.1, HX4.out.2.2.2.trans (hb6.mono HX4.out.2.2.2.size)⟩
     have HO6 : Hid (V6.ownsRow Wd.heap.size 30 36 (.slice vx (s.pn + 1) vy) (s.pn + 1) (flatL (pf (insY s.P i y)) (s.pn + 1))) := own_below HO4.out hb6
     clear c0 c1 c2 c3 c4 cf k0 k1 k2 HWI HO4 hb6 HX4 en
     obtain ⟨d0, d1, d2, d3, d4, df⟩ := five_of HX6.out.1
     go_wp2
     refine bodyPost_ret (results_R2 Tryz.results8 _ _ (w.heap.size + 2) 26 _ _ _ _ _ (0, 0) rfl (five_all HX6.out.1)) rfl ⟨⟨i, HIL.out, HLO.out, HHI.out, ⟨vx, vy, ha, hc⟩, by rw [HSV.out]; rfl, ?_⟩, five_below HX6.out.2 (by omega)⟩
     exact HFIN.out i HIL.out vx vy _ Wd.heap.size (by have h1 := HWS.out; omega) (five_below HX6.out.2 (by omega)) (own_keep HO6.out (fun g e => five_other (by have h1 := (HO6.out.lt g e).1; have h2 := HWS.out; omega)))
    ·have HBU : Below Wd.heap.size Wd Wd := Below.refl _ _
     refine step_sliceRP rfl (.tmp 87) rfl y (by rfl) ?_
     intro q V1 hq hle hb1
     have HBW : Hid (Below Wd.heap.size Wd V1) := Below.transS HBU hb1
     have HQ1 : Hid (V1.heap[q]? = some (.cells (pyv y) 30 (0, 0))) := hq
     refine hK.out _ _ (SR.out V1 HBW.out) (fun _ => ?_)
     try simp only [Act.put, sqA, sqB, sqC]
     (try rw [Nat.zero_add])
     clear hK K hq hle
     have HBV : Hid (Below Wd.heap.size Wd V1) := HBW.out
     clear hb1
     refine wpAnyH_ready (rs := [5]) (by kernel_rfl) (by simp) ?_
     refine (AllReadyH.cons (o := ⟨some 86, .call ⟨.builtin .append, #[.tmp 81, .tmp 85], #[23, 23]⟩, 23, _, _, none⟩) rfl (fun K hK => ?_) AllReadyH.nil)
     have HBU : Below Wd.heap.size Wd V1 := HBV.out
     refine step_append_RP rfl (.tmp 81) (.tmp 85) rfl Wd.heap.size (.slice none 0 0) 0 [] (some ⟨b, off, none⟩) i pc (flatL (pf s.P) i) (by rfl) (by rfl) (World.ownsRow_nil _ _ _ _) HBU.size (SrcY.take (HSR.out.below (HB0.out.trans (HBU.mono HB0.out.size))) (pf_len _ _) HIL.out (by simp)) (flatL_length i (pf_len _ _)) (pf_one _ _) (by omega) ?_
     intro va vc V2 hown hgr
     rw [Nat.zero_add, List.nil_append] at hown
     have hb1 : Below V1.heap.size V1 V2 := ⟨hgr.os, hgr.tape, hgr.output, hgr.size, fun k hk => hgr.block k hk (by simp [Value.ownBlock])⟩
     have HO1 : Hid (V2.ownsRow Wd.heap.size 30 36 (.slice va i vc) i (flatL (pf s.P) i)) := hown
     have HBW : Hid (Below Wd.heap.size Wd V2) := Below.transS HBU hb1
     have HQ : Hid (V2.heap[q]? = some (.cells (pyv y) 30 (0, 0))) := (hb1.block _ (lt_of_block HQ1.out)).trans HQ1.out
     have HO2 : Hid (V2.ownsRow Wd.heap.size 30 36 (.slice va i vc) i (flatL (pf s.P) i)) := HO1.out
     refine hK.out _ _ (SR.out V2 HBW.out) (fun _ => ?_)
     try simp only [Act.put, sqA, sqB, sqC]
     (try rw [Nat.zero_add])
     clear hK K hown hgr hb1 HQ1 HO1 HBV HBU
     refine wpAnyH_ready (rs := [8]) (by kernel_rfl) (by simp) ?_
     refine (AllReadyH.cons (o := ⟨some 89, .call ⟨.builtin .append, #[.tmp 86, .tmp 88], #[23, 23]⟩, 23, _, _, none⟩) rfl (fun K hK => ?_) AllReadyH.nil)
     refine step_append_RP rfl (.tmp 86) (.tmp 88) rfl Wd.heap.size (.slice va i vc) i (flatL (pf s.P) i) (some ⟨q, 0, none⟩) 1 1 (pyl y) (by rfl) (by rfl) HO2.out HBW.out.size ⟨fun _ => ⟨q, 0, rfl, pyv_range HQ.out⟩, fun e => by cases e⟩ (pyl_length y) (pyl_one y) (by omega) ?_
     intro vb vd V3 hown hgr
     have HO3 : Hid (V3.ownsRow Wd.heap.size 30 36 (.slice vb (i + 1) vd) (i + 1) (flatL (pf s.P) i ++ pyl y)) := hown
     have HB3 : Hid (Below Wd.heap.size Wd V3) := grown_below HO2.out hgr HBW.out (Nat.le_refl _)
     refine hK.out _ _ (SR.out V3 HB3.out) (fun _ => ?_)
     clear hK K hown hgr HO2 HQ HBW
     try simp only [Act.put, sqA, sqB, sqC]
     refine wpAnyH_ready (rs := [13]) (by kernel_rfl) (by simp) ?_
     refine (AllReadyH.cons (o := ⟨some 94, .call ⟨.builtin .append, #[.tmp 89, .tmp 93], #[23, 23]⟩, 23, _, _, none⟩) rfl (fun K hK => ?_) AllReadyH.nil)
     have HBU : Below Wd.heap.size Wd V3 := HB3.out
     refine step_append_RP rfl (.tmp 89) (.tmp 93) rfl Wd.heap.size (.slice vb (i + 1) vd) (i + 1) (flatL (pf s.P) i ++ pyl y) ax (s.pn - i) (pc - i) (flatL (fun j => pf s.P (i + j)) (s.pn - i)) (by rfl) (by rfl) HO3.out HBU.size (by rw [← HAX.out]; exact SrcY.drop (HSR.out.below (HB0.out.trans (HBU.mono HB0.out.size))) (pf_len _ _) HIL.out HCP.out) (flatL_length _ (fun j hj => pyl_length _)) (fun u hu => by
      obtain ⟨j, _, hj⟩ := flatL_mem _ hu
      exact pyl_one _ u hj) (by omega) ?_
     intro vx vy V4 hown hgr
     have em : i + 1 + (s.pn - i) = s.pn + 1 := by omega
     have HB4 : Hid (Below Wd.heap.size Wd V4) := grown_below HO3.out hgr HB3.out (Nat.le_refl _)
     rw [em] at hown
     have HO4 : Hid (V4.ownsRow Wd.heap.size 30 36 (.slice vx (s.pn + 1) vy) (s.pn + 1) (flatL (pf (insY s.P i y)) (s.pn + 1))) := by
      have e0 := insF_mid (pf s.P) i (s.pn - i) (pyl y)
      rw [show i + (s.pn - i) + 1 = s.pn + 1 by omega] at e0
      show V4.ownsRow Wd.heap.size 30 36 (.slice vx (s.pn + 1) vy) (s.pn + 1) (flatL (pf (insY s.P i y)) (s.pn + 1))
      rw [insY_pf, e0, ← List.append_assoc]
      exact hown
     refine hK.out _ _ (SR.out V4 HB4.out) (fun _ => ?_)
     clear hK K hown hgr HO3 HB3 HBU
     try simp only [Act.put, sqA, sqB, sqC]
     rw [em]
     refine wpV 14 ⟨some 6, .assign (.tmp 94), 23, _, _, none⟩ rfl ?_
     try simp only [Act.put, sqA, sqB, sqC]
     refine wpAnyH_done (by kernel_rfl) (NoPanic.normal ?_) _
     try simp only [Act.put, sqA, sqB, sqC]
     clear hHeld S0 SR em
     have HX4 : Hid (V4.heap[w.heap.size]? = some (.cells #[.int .i64 s.nu, .int .i64 s.a, .int .i64 s.b, .slice (some ⟨b, off, none⟩) s.pn pc, .slice ha s.hn hc] 26 (0, 0)) ∧ V4.heap[w.heap.size + 1]? = some (.cells (pyv y) 30 (0, 0)) ∧ V4.heap[w.heap.size + 2]? = some (.cells #[.int .i64 0, .int .i64 0, .int .i64 0, .slice none 0 0, .slice none 0 0] 26 (0, 0)) ∧ Below w.heap.size w V4) := ⟨(HB4.out.block _ (lt_of_block HXr.out.1)).trans HXr.out.1, (HB4.out.block _ (lt_of_block HXr.out.2.1)).trans HXr.out.2.1, (HB4.out.block _ (lt_of_block HXr.out.2.2.1)).trans HXr.out.2.2.1, HB0.out.trans (HB4.out.mono HB0.out.size)⟩
     have HWI : Hid (Calls Tryz.prog 25 #[.agg #[.int .i64 s.nu, .int .i64 s.a, .int .i64 s.b, .slice (some ⟨b, off, none⟩) s.pn pc, .slice ha s.hn hc], .int .i64 (-y.am), .int .i64 0, .slice vx (s.pn + 1) vy, .slice ha s.hn hc] V4 fun e w' => e = .returned (.agg #[.int .i64 (s.nu + 1), .int .i64 (s.a + (-y.am)), .int .i64 (s.b + 0), .slice vx (s.pn + 1) vy, .slice ha s.hn hc]) ∧ Below V4.heap.size V4 w') := HWT.out vx (s.pn + 1) vy ha s.hn hc V4
     clear HXr HB0 HB4
     obtain ⟨c0, c1, c2, c3, c4, cf⟩ := five_of HX4.out.1
     obtain ⟨k0, k1, k2, k3, kl⟩ := pbox_of HX4.out.2.1
     rw [HFR.out] at k1
     clear k3 kl
     have en := EN.out
     go_wp2_with fail
     refine (to_0 (-y.am) V4).mono ?_
     rintro e Vw ⟨rfl, hVw⟩
     rw [hVw]
     clear hVw
     go_wp2_with fail
     refine HWI.out.mono ?_
     rintro e V6 ⟨rfl, hb6⟩
     have HX6 : Hid (V6.heap[w.heap.size + 2]? = some (.cells #[.int .i64 0, .int .i64 0, .int .i64 0, .slice none 0 0, .slice none 0 0] 26 (0, 0)) ∧ Below w.heap.size w V6) := ⟨(hb6.block _ (lt_of_block HX4.out.2.2.1)).trans HX4.out.2.2.1, HX4.out.2.2.2.trans (hb6.mono HX4.out.2.2.2.size)⟩
     have HO6 : Hid (V6.ownsRow Wd.heap.size 30 36 (.slice vx (s.pn + 1) vy) (s.pn + 1) (flatL (pf (insY s.P i y)) (s.pn + 1))) := own_below HO4.out hb6
     clear c0 c1 c2 c3 c4 cf k0 k1 k2 HWI HO4 hb6 HX4 en
     obtain ⟨d0, d1, d2, d3, d4, df⟩ := five_of HX6.out.1
     go_wp2
     refine bodyPost_ret (results_R2 Tryz.results8 _ _ (w.heap.size + 2) 26 _ _ _ _ _ (0, 0) rfl (five_all HX6.out.1)) rfl ⟨⟨i, HIL.out, HLO.out, HHI.out, ⟨vx, vy, ha, hc⟩, by rw [HSV.out]; rfl, ?_⟩, five_below HX6.out.2 (by omega)⟩
     exact HFIN.out i HIL.out vx vy _ Wd.heap.size (by have h1 := HWS.out; omega) (five_below HX6.out.2 (by omega)) (own_keep HO6.out (fun g e => five_other (by have h1 := (HO6.out.lt g e).1; have h2 := HWS.out; omega)))
  ·have hin : i = s.pn := by omega
   have hnn : ¬ ((i : Int) < s.pn) := by omega
   have HHI : Hid (i < s.pn → y.id ≤ (s.P i).id) := fun h => absurd h hlt
   obtain ⟨pa, pc, ha, hc⟩ := p
   cases pa with
   | none =>
    obtain ⟨hn0, hc0⟩ := HKP.out.2.2 rfl
    dsimp only at hc0
    subst hc0
    obtain rfl : i = 0 := by omega
    clear hin
    dsimp only at *
    have S0 : wr.drew.cell? ⟨w.heap.size, 3, none⟩ = some (.slice none s.pn 0) := (five_of HX.out.1).c3
    go_upto_region 17 with fail
    refine wp_region_noPanic ?_
    refine wp_region_held_drew (S := fun u => u.cell? ⟨w.heap.size, 3, none⟩ = some (.slice none s.pn 0)) (by kernel_rfl) S0 (fun hHeld => ?_)
    refine wpV 0 ⟨some 63, .move (.tmp 7), 3, _, _, none⟩ rfl ?_
    try simp only [Act.put, sqA, sqB, sqC]
    refine wpV 1 ⟨some 64, .fieldAddr 26 (.tmp 2) 2, 0, _, _, none⟩ rfl ?_
    try simp only [Act.put, sqA, sqB, sqC]
    refine wpV 2 ⟨some 65, .load 23 (.tmp 64), 23, _, _, none⟩ rfl ?_
    try simp only [Act.put, sqA, sqB, sqC]
    refine wpV 3 ⟨some 66, .call ⟨.builtin .len, #[.tmp 65], #[23]⟩, 3, _, _, none⟩ rfl ?_
    try simp only [Act.put, sqA, sqB, sqC]
    refine wpV 4 ⟨some 67, .binOp .lss 3 (.tmp 63) (.tmp 66) 3, 4, _, _, none⟩ rfl ?_
    try simp only [Act.put, sqA, sqB, sqC]
    refine wpV 5 ⟨some 68, .move (.tmp 67), 4, _, _, none⟩ rfl ?_
    try simp only [Act.put, sqA, sqB, sqC]
    refine wpX 6 ⟨some 69, .fieldAddr 26 (.tmp 2) 2, 0, _, _, some (5, true)⟩ rfl ?_
    try simp only [Act.put, sqA, sqB, sqC]
    refine wpX 7 ⟨some 70, .load 23 (.tmp 69), 23, _, _, some (5, true)⟩ rfl ?_
    try simp only [Act.put, sqA, sqB, sqC]
    refine wpX 8 ⟨some 71, .move (.tmp 7), 3, _, _, some (5, true)⟩ rfl ?_
    try simp only [Act.put, sqA, sqB, sqC]
    refine wpX 9 ⟨some 72, .indexAddr 23 (.tmp 70) (.tmp 71), 0, _, _, some (5, true)⟩ rfl ?_
    try simp only [Act.put, sqA, sqB, sqC]
    refine wpX 10 ⟨some 73, .fieldAddr 30 (.tmp 72) 0, 0, _, _, some (5, true)⟩ rfl ?_
    try simp only [Act.put, sqA, sqB, sqC]
    refine wpX 11 ⟨some 74, .load 3 (.tmp 73), 3, _, _, some (5, true)⟩ rfl ?_
    try simp only [Act.put, sqA, sqB, sqC]
    refine wpX 12 ⟨some 75, .fieldAddr 30 (.tmp 3) 0, 0, _, _, some (5, true)⟩ rfl ?_
    try simp only [Act.put, sqA, sqB, sqC]
    refine wpX 13 ⟨some 76, .load 3 (.tmp 75), 3, _, _, some (5, true)⟩ rfl ?_
    try simp only [Act.put, sqA, sqB, sqC]
    refine wpX 14 ⟨some 77, .binOp .lss 3 (.tmp 74) (.tmp 76) 3, 4, _, _, some (5, true)⟩ rfl ?_
    try simp only [Act.put, sqA, sqB, sqC]
    refine wpV 15 ⟨some 78, .pick (.tmp 68) (.tmp 77) (.const (.bool false)), 4, _, _, none⟩ rfl ?_
    try simp only [Act.put, sqA, sqB, sqC]
    refine wpAnyH_done (by kernel_rfl) (NoPanic.normal ?_) _
    try simp only [Act.put, sqA, sqB, sqC]
    have HX1 : Hid (wr.drew.drew.heap[w.heap.size]? = some (.cells #[.int .i64 s.nu, .int .i64 s.a, .int .i64 s.b, .slice none s.pn 0, .slice ha s.hn hc] 26 (0, 0)) ∧ wr.drew.drew.heap[w.heap.size + 1]? = some (.cells (pyv y) 30 (0, 0)) ∧ wr.drew.drew.heap[w.heap.size + 2]? = some (.cells #[.int .i64 0, .int .i64 0, .int .i64 0, .slice none 0 0, .slice none 0 0] 26 (0, 0)) ∧ Below w.heap.size w wr.drew.drew) := ⟨HX.out.1, HX.out.2.1, HX.out.2.2.1, HX.out.2.2.2.drew.drew⟩
    have HN0 : Hid (s.pn = 0) := hn0
    clear hHeld S0 hnn hn0
    generalize wr.drew = Wy at *
    go_wp2_with fail
    generalize hWd : Wy.drew = Wd at HX1
    have HXr : Hid (Wd.heap[w.heap.size]? = some (.cells #[.int .i64 s.nu, .int .i64 s.a, .int .i64 s.b, .slice none s.pn 0, .slice ha s.hn hc] 26 (0, 0)) ∧ Wd.heap[w.heap.size + 1]? = some (.cells (pyv y) 30 (0, 0)) ∧ Wd.heap[w.heap.size + 2]? = some (.cells #[.int .i64 0, .int .i64 0, .int .i64 0, .slice none 0 0, .slice none 0 0] 26 (0, 0)) ∧ Below w.heap.size w Wd) := HX1.out
    have HWS : Hid (w.heap.size + 2 < Wd.heap.size) := lt_of_block HX1.out.2.2.1
    clear HX1 HX
    have HB0 : Hid (Below w.heap.size w Wd) := HXr.out.2.2.2
    have SR : Hid (∀ u, Below Wd.heap.size Wd u → u.rangeAt (w.heap.size + 1) 0 (pyl y) ∧ u.cell? ⟨w.heap.size, 3, none⟩ = some (.slice none s.pn 0)) := fun u hb => ⟨range_below (pyv_range HXr.out.2.1) hb, by rw [hb.cell (p := ⟨w.heap.size, 3, none⟩) (lt_of_block HXr.out.1)]; exact (five_of HXr.out.1).c3⟩
    have S0 := SR.out Wd (Below.refl _ _)
    refine wp_region_noPanic ?_
    refine wp_region_held_drew (S := fun u => u.rangeAt (w.heap.size + 1) 0 (pyl y) ∧ u.cell? ⟨w.heap.size, 3, none⟩ = some (.slice none s.pn 0)) (by kernel_rfl) (by rw [hWd]; exact S0) (fun hHeld => ?_)
    rw [hWd] at hHeld ⊢
    clear hWd
    refine wpV 0 ⟨some 81, .move (.tmp 6), 23, _, _, none⟩ rfl ?_
    try simp only [Act.put, sqA, sqB, sqC]
    refine wpV 1 ⟨some 82, .fieldAddr 26 (.tmp 2) 2, 0, _, _, none⟩ rfl ?_
    try simp only [Act.put, sqA, sqB, sqC]
    refine wpV 2 ⟨some 83, .load 23 (.tmp 82), 23, _, _, none⟩ rfl ?_
    try simp only [Act.put, sqA, sqB, sqC]
    refine wpV 3 ⟨some 84, .move (.tmp 7), 3, _, _, none⟩ rfl ?_
    try simp only [Act.put, sqA, sqB, sqC]
    refine wpU 4 ⟨some 85, .slice 23 (.tmp 83) none (some (.tmp 84)) none, 23, _, _, none⟩ (v := .slice none 0 0) rfl ?_ ?_
    ·intro wz hSw; (try dsimp only at hSw); go_simp; try (intro hbad; have h1 := HCP.out; omega)
    try simp only [Act.put, sqA, sqB, sqC]
    refine wpAnyH_take (i := 6) (oi := ⟨some 87, .load 30 (.tmp 3), 30, _, _, none⟩) rfl (by kernel_rfl) (by kernel_rfl) (by kernel_rfl) (fun _ _ _ h => h) (yieldsIf_load_mid (by rfl) _ _ rfl (w.heap.size + 1) 0 rfl (pyl y) _ (fun _ h => h.1) Tryz.underlying30 rfl (szPrl _)) (by assumption) ?_
    try simp only [Act.put, sqA, sqB, sqC]
    refine wpV 9 ⟨some 90, .fieldAddr 26 (.tmp 2) 2, 0, _, _, none⟩ rfl ?_
    try simp only [Act.put, sqA, sqB, sqC]
    refine wpV 10 ⟨some 91, .load 23 (.tmp 90), 23, _, _, none⟩ rfl ?_
    try simp only [Act.put, sqA, sqB, sqC]
    refine wpV 11 ⟨some 92, .move (.tmp 7), 3, _, _, none⟩ rfl ?_
    try simp only [Act.put, sqA, sqB, sqC]
    refine wpU 12 ⟨some 93, .slice 23 (.tmp 91) (some (.tmp 92)) none none, 23, _, _, none⟩ (v := .slice none s.pn 0) rfl ?_ ?_
    ·intro wz hSw; (try dsimp only at hSw); go_simp; try (intro hbad; have h1 := HCP.out; omega)
    try simp only [Act.put, sqA, sqB, sqC]
    refine wpAnyH_ready (rs := [5, 7]) (by kernel_rfl) (by simp) ?_
    refine (AllReadyH.cons (o := ⟨some 86, .call ⟨.builtin .append, #[.tmp 81, .tmp 85], #[23, 23]⟩, 23, _, _, none⟩) rfl (fun K hK => ?_) (AllReadyH.cons (o := ⟨some 88, .buildSlice 23 1 #[(0, .tmp 87)], 23, _, _, none⟩) rfl (fun K hK => ?_) AllReadyH.nil))
    ·have HBU : Below Wd.heap.size Wd Wd := Below.refl _ _
     refine step_append_RP rfl (.tmp 81) (.tmp 85) rfl Wd.heap.size (.slice none 0 0) 0 [] none 0 0 (flatL (pf s.P) 0) (by rfl) (by rfl) (World.ownsRow_nil _ _ _ _) HBU.size ⟨fun h => absurd h (Nat.lt_irrefl _), fun _ => ⟨rfl, rfl⟩⟩ (flatL_length 0 (pf_len _ _)) (pf_one _ _) (by omega) ?_
     intro va vc V1 hown hgr
     rw [Nat.zero_add, List.nil_append] at hown
     have hb1 : Below Wd.heap.size Wd V1 := ⟨hgr.os, hgr.tape, hgr.output, hgr.size, fun k hk => hgr.block k hk (by simp [Value.ownBlock])⟩
     have HO1 : Hid (V1.ownsRow Wd.heap.size 30 36 (.slice va 0 vc) 0 (flatL (pf s.P) 0)) := hown
     have HBW : Hid (Below Wd.heap.size Wd V1) := Below.transS HBU hb1
     refine hK.out _ _ (SR.out V1 HBW.out) (fun _ => ?_)
     try simp only [Act.put, sqA, sqB, sqC]
     (try rw [Nat.zero_add])
     clear hK K hown hgr
     have HBV : Hid (Below Wd.heap.size Wd V1) := HBW.out
     clear hb1
     refine wpAnyH_ready (rs := [7]) (by kernel_rfl) (by simp) ?_
     refine (AllReadyH.cons (o := ⟨some 88, .buildSlice 23 1 #[(0, .tmp 87)], 23, _, _, none⟩) rfl (fun K hK => ?_) AllReadyH.nil)
     have HBU : Below Wd.heap.size Wd V1 := HBV.out
     refine step_sliceRP rfl (.tmp 87) rfl y (by rfl) ?_
     intro q V2 hq hle hb1
     have HBW : Hid (Below Wd.heap.size Wd V2) := Below.transS HBU hb1
     have HO2 : Hid (V2.ownsRow Wd.heap.size 30 36 (.slice va 0 vc) 0 (flatL (pf s.P) 0)) := own_below HO1.out hb1
     have HQ : Hid (V2.heap[q]? = some (.cells (pyv y) 30 (0, 0))) := hq
     refine hK.out _ _ (SR.out V2 HBW.out) (fun _ => ?_)
     try simp only [Act.put, sqA, sqB, sqC]
     (try rw [Nat.zero_add])
     clear hK K hq hle hb1 HO1 HBV HBU
     refine wpAnyH_ready (rs := [8]) (by kernel_rfl) (by simp) ?_
     refine (AllReadyH.cons (o := ⟨some 89, .call ⟨.builtin .append, #[.tmp 86, .tmp 88], #[23, 23]⟩, 23, _, _, none⟩) rfl (fun K hK => ?_) AllReadyH.nil)
     refine step_append_RP rfl (.tmp 86) (.tmp 88) rfl Wd.heap.size (.slice va 0 vc) 0 (flatL (pf s.P) 0) (some ⟨q, 0, none⟩) 1 1 (pyl y) (by rfl) (by rfl) HO2.out HBW.out.size ⟨fun _ => ⟨q, 0, rfl, pyv_range HQ.out⟩, fun e => by cases e⟩ (pyl_length y) (pyl_one y) (by omega) ?_
     intro vb vd V3 hown hgr
     have HO3 : Hid (V3.ownsRow Wd.heap.size 30 36 (.slice vb (0 + 1) vd) (0 + 1) (flatL (pf s.P) 0 ++ pyl y)) := hown
     have HB3 : Hid (Below Wd.heap.size Wd V3) := grown_below HO2.out hgr HBW.out (Nat.le_refl _)
     refine hK.out _ _ (SR.out V3 HB3.out) (fun _ => ?_)
     clear hK K hown hgr HO2 HQ HBW
     try simp only [Act.put, sqA, sqB, sqC]
     refine wpAnyH_ready (rs := [13]) (by kernel_rfl) (by simp) ?_
     refine (AllReadyH.cons (o := ⟨some 94, .call ⟨.builtin .append, #[.tmp 89, .tmp 93], #[23, 23]⟩, 23, _, _, none⟩) rfl (fun K hK => ?_) AllReadyH.nil)
     have HBU : Below Wd.heap.size Wd V3 := HB3.out
     refine step_append_RP rfl (.tmp 89) (.tmp 93) rfl Wd.heap.size (.slice vb (0 + 1) vd) (0 + 1) (flatL (pf s.P) 0 ++ pyl y) none (s.pn) (0) (flatL (fun j => pf s.P (0 + j)) (s.pn)) (by rfl) (by rfl) HO3.out HBU.size ⟨fun h => absurd h (by have := HN0.out; omega), fun _ => ⟨HN0.out, rfl⟩⟩ (flatL_length _ (fun j hj => pyl_length _)) (fun u hu => by
      obtain ⟨j, _, hj⟩ := flatL_mem _ hu
      exact pyl_one _ u hj) (by omega) ?_
     intro vx vy V4 hown hgr
     have em : 0 + 1 + (s.pn) = s.pn + 1 := by omega
     have HB4 : Hid (Below Wd.heap.size Wd V4) := grown_below HO3.out hgr HB3.out (Nat.le_refl _)
     rw [em] at hown
     have HO4 : Hid (V4.ownsRow Wd.heap.size 30 36 (.slice vx (s.pn + 1) vy) (s.pn + 1) (flatL (pf (insY s.P 0 y)) (s.pn + 1))) := by
      have e0 := insF_mid (pf s.P) 0 (s.pn) (pyl y)
      rw [show 0 + (s.pn) + 1 = s.pn + 1 by omega] at e0
      show V4.ownsRow Wd.heap.size 30 36 (.slice vx (s.pn + 1) vy) (s.pn + 1) (flatL (pf (insY s.P 0 y)) (s.pn + 1))
      rw [insY_pf, e0, ← List.append_assoc]
      exact hown
     refine hK.out _ _ (SR.out V4 HB4.out) (fun _ => ?_)
     clear hK K hown hgr HO3 HB3 HBU
     try simp only [Act.put, sqA, sqB, sqC]
     rw [em]
     refine wpV 14 ⟨some 6, .assign (.tmp 94), 23, _, _, none⟩ rfl ?_
     try simp only [Act.put, sqA, sqB, sqC]
     refine wpAnyH_done (by kernel_rfl) (NoPanic.normal ?_) _
     try simp only [Act.put, sqA, sqB, sqC]
     clear hHeld S0 SR em
     have HX4 : Hid (V4.heap[w.heap.size]? = some (.cells #[.int .i64 s.nu, .int .i64 s.a, .int .i64 s.b, .slice none s.pn 0, .slice ha s.hn hc] 26 (0, 0)) ∧ V4.heap[w.heap.size + 1]? = some (.cells (pyv y) 30 (0, 0)) ∧ V4.heap[w.heap.size + 2]? = some (.cells #[.int .i64 0, .int .i64 0, .int .i64 0, .slice none 0 0, .slice none 0 0] 26 (0, 0)) ∧ Below w.heap.size w V4) := ⟨(HB4.out.block _ (lt_of_block HXr.out.1)).trans HXr.out.1, (HB4.out.block _ (lt_of_block HXr.out.2.1)).trans HXr.out.2.1, (HB4.out.block _ (lt_of_block HXr.out.2.2.1)).trans HXr.out.2.2.1, HB0.out.trans (HB4.out.mono HB0.out.size)⟩
     have HWI : Hid (Calls Tryz.prog 25 #[.agg #[.int .i64 s.nu, .int .i64 s.a, .int .i64 s.b, .slice none s.pn 0, .slice ha s.hn hc], .int .i64 (-y.am), .int .i64 0, .slice vx (s.pn + 1) vy, .slice ha s.hn hc] V4 fun e w' => e = .returned (.agg #[.int .i64 (s.nu + 1), .int .i64 (s.a + (-y.am)), .int .i64 (s.b + 0), .slice vx (s.pn + 1) vy, .slice ha s.hn hc]) ∧ Below V4.heap.size V4 w') := HWT.out vx (s.pn + 1) vy ha s.hn hc V4
     clear HXr HB0 HB4
     obtain ⟨c0, c1, c2, c3, c4, cf⟩ := five_of HX4.out.1
     obtain ⟨k0, k1, k2, k3, kl⟩ := pbox_of HX4.out.2.1
     rw [HFR.out] at k1
     clear k3 kl
     have en := EN.out
     go_wp2_with fail
     refine (to_0 (-y.am) V4).mono ?_
     rintro e Vw ⟨rfl, hVw⟩
     rw [hVw]
     clear hVw
     go_wp2_with fail
     refine HWI.out.mono ?_
     rintro e V6 ⟨rfl, hb6⟩
     have HX6 : Hid (V6.heap[w.heap.size + 2]? = some (.cells #[.int .i64 0, .int .i64 0, .int .i64 0, .slice none 0 0, .slice none 0 0] 26 (0, 0)) ∧ Below w.heap.size w V6) := ⟨(hb6.block _ (lt_of_block HX4.out.2.2.1)).trans HX4.out.2.2.1, HX4.out.2.2.2.trans (hb6.mono HX4.out.2.2.2.size)⟩
     have HO6 : Hid (V6.ownsRow Wd.heap.size 30 36 (.slice vx (s.pn + 1) vy) (s.pn + 1) (flatL (pf (insY s.P 0 y)) (s.pn + 1))) := own_below HO4.out hb6
     clear c0 c1 c2 c3 c4 cf k0 k1 k2 HWI HO4 hb6 HX4 en
     obtain ⟨d0, d1, d2, d3, d4, df⟩ := five_of HX6.out.1
     go_wp2
     refine bodyPost_ret (results_R2 Tryz.results8 _ _ (w.heap.size + 2) 26 _ _ _ _ _ (0, 0) rfl (five_all HX6.out.1)) rfl ⟨⟨0, HIL.out, HLO.out, HHI.out, ⟨vx, vy, ha, hc⟩, by rw [HSV.out]; rfl, ?_⟩, five_below HX6.out.2 (by omega)⟩
     exact HFIN.out 0 HIL.out vx vy _ Wd.heap.size (by have h1 := HWS.out; omega) (five_below HX6.out.2 (by omega)) (own_keep HO6.out (fun g e => five_other (by have h1 := (HO6.out.lt g e).1; have h2 := HWS.out; omega)))
    ·have HBU : Below Wd.heap.size Wd Wd := Below.refl _ _
     refine step_sliceRP rfl (.tmp 87) rfl y (by rfl) ?_
     intro q V1 hq hle hb1
     have HBW : Hid (Below Wd.heap.size Wd V1) := Below.transS HBU hb1
     have HQ1 : Hid (V1.heap[q]? = some (.cells (pyv y) 30 (0, 0))) := hq
     refine hK.out _ _ (SR.out V1 HBW.out) (fun _ => ?_)
     try simp only [Act.put, sqA, sqB, sqC]
     (try rw [Nat.zero_add])
     clear hK K hq hle
     have HBV : Hid (Below Wd.heap.size Wd V1) := HBW.out
     clear hb1
     refine wpAnyH_ready (rs := [5]) (by kernel_rfl) (by simp) ?_
     refine (AllReadyH.cons (o := ⟨some 86, .call ⟨.builtin .append, #[.tmp 81, .tmp 85], #[23, 23]⟩, 23, _, _, none⟩) rfl (fun K hK => ?_) AllReadyH.nil)
     have HBU : Below Wd.heap.size Wd V1 := HBV.out
     refine step_append_RP rfl (.tmp 81) (.tmp 85) rfl Wd.heap.size (.slice none 0 0) 0 [] none 0 0 (flatL (pf s.P) 0) (by rfl) (by rfl) (World.ownsRow_nil _ _ _ _) HBU.size ⟨fun h => absurd h (Nat.lt_irrefl _), fun _ => ⟨rfl, rfl⟩⟩ (flatL_length 0 (pf_len _ _)) (pf_one _ _) (by omega) ?_
     intro va vc V2 hown hgr
     rw [Nat.zero_add, List.nil_append] at hown
     have hb1 : Below V1.heap.size V1 V2 := ⟨hgr.os, hgr.tape, hgr.output, hgr.size, fun k hk => hgr.block k hk (by simp [Value.ownBlock])⟩
     have HO1 : Hid (V2.ownsRow Wd.heap.size 30 36 (.slice va 0 vc) 0 (flatL (pf s.P) 0)) := hown
     have HBW : Hid (Below Wd.heap.size Wd V2) := Below.transS HBU hb1
     have HQ : Hid (V2.heap[q]? = some (.cells (pyv y) 30 (0, 0))) := (hb1.block _ (lt_of_block HQ1.out)).trans HQ1.out
     have HO2 : Hid (V2.ownsRow Wd.heap.size 30 36 (.slice va 0 vc) 0 (flatL (pf s.P) 0)) := HO1.out
     refine hK.out _ _ (SR.out V2 HBW.out) (fun _ => ?_)
     try simp only [Act.put, sqA, sqB, sqC]
     (try rw [Nat.zero_add])
     clear hK K hown hgr hb1 HQ1 HO1 HBV HBU
     refine wpAnyH_ready (rs := [8]) (by kernel_rfl) (by simp) ?_
     refine (AllReadyH.cons (o := ⟨some 89, .call ⟨.builtin .append, #[.tmp 86, .tmp 88], #[23, 23]⟩, 23, _, _, none⟩) rfl (fun K hK => ?_) AllReadyH.nil)
     refine step_append_RP rfl (.tmp 86) (.tmp 88) rfl Wd.heap.size (.slice va 0 vc) 0 (flatL (pf s.P) 0) (some ⟨q, 0, none⟩) 1 1 (pyl y) (by rfl) (by rfl) HO2.out HBW.out.size ⟨fun _ => ⟨q, 0, rfl, pyv_range HQ.out⟩, fun e => by cases e⟩ (pyl_length y) (pyl_one y) (by omega) ?_
     intro vb vd V3 hown hgr
     have HO3 : Hid (V3.ownsRow Wd.heap.size 30 36 (.slice vb (0 + 1) vd) (0 + 1) (flatL (pf s.P) 0 ++ pyl y)) := hown
     have HB3 : Hid (Below Wd.heap.size Wd V3) := grown_below HO2.out hgr HBW.out (Nat.le_refl _)
     refine hK.out _ _ (SR.out V3 HB3.out) (fun _ => ?_)
     clear hK K hown hgr HO2 HQ HBW
     try simp only [Act.put, sqA, sqB, sqC]
     refine wpAnyH_ready (rs := [13]) (by kernel_rfl) (by simp) ?_
     refine (AllReadyH.cons (o := ⟨some 94, .call ⟨.builtin .append, #[.tmp 89, .tmp 93], #[23, 23]⟩, 23, _, _, none⟩) rfl (fun K hK => ?_) AllReadyH.nil)
     have HBU : Below Wd.heap.size Wd V3 := HB3.out
     refine step_append_RP rfl (.tmp 89) (.tmp 93) rfl Wd.heap.size (.slice vb (0 + 1) vd) (0 + 1) (flatL (pf s.P) 0 ++ pyl y) none (s.pn) (0) (flatL (fun j => pf s.P (0 + j)) (s.pn)) (by rfl) (by rfl) HO3.out HBU.size ⟨fun h => absurd h (by have := HN0.out; omega), fun _ => ⟨HN0.out, rfl⟩⟩ (flatL_length _ (fun j hj => pyl_length _)) (fun u hu => by
      obtain ⟨j, _, hj⟩ := flatL_mem _ hu
      exact pyl_one _ u hj) (by omega) ?_
     intro vx vy V4 hown hgr
     have em : 0 + 1 + (s.pn) = s.pn + 1 := by omega
     have HB4 : Hid (Below Wd.heap.size Wd V4) := grown_below HO3.out hgr HB3.out (Nat.le_refl _)
     rw [em] at hown
     have HO4 : Hid (V4.ownsRow Wd.heap.size 30 36 (.slice vx (s.pn + 1) vy) (s.pn + 1) (flatL (pf (insY s.P 0 y)) (s.pn + 1))) := by
      have e0 := insF_mid (pf s.P) 0 (s.pn) (pyl y)
      rw [show 0 + (s.pn) + 1 = s.pn + 1 by omega] at e0
      show V4.ownsRow Wd.heap.size 30 36 (.slice vx (s.pn + 1) vy) (s.pn + 1) (flatL (pf (insY s.P 0 y)) (s.pn + 1))
      rw [insY_pf, e0, ← List.append_assoc]
      exact hown
     refine hK.out _ _ (SR.out V4 HB4.out) (fun _ => ?_)
     clear hK K hown hgr HO3 HB3 HBU
     try simp only [Act.put, sqA, sqB, sqC]
     rw [em]
     refine wpV 14 ⟨some 6, .assign (.tmp 94), 23, _, _, none⟩ rfl ?_
     try simp only [Act.put, sqA, sqB, sqC]
     refine wpAnyH_done (by kernel_rfl) (NoPanic.normal ?_) _
     try simp only [Act.put, sqA, sqB, sqC]
     clear hHeld S0 SR em
     have HX4 : Hid (V4.heap[w.heap.size]? = some (.cells #[.int .i64 s.nu, .int .i64 s.a, .int .i64 s.b, .slice none s.pn 0, .slice ha s.hn hc] 26 (0, 0)) ∧ V4.heap[w.heap.size + 1]? = some (.cells (pyv y) 30 (0, 0)) ∧ V4.heap[w.heap.size + 2]? = some (.cells #[.int .i64 0, .int .i64 0, .int .i64 0, .slice none 0 0, .slice none 0 0] 26 (0, 0)) ∧ Below w.heap.size w V4) := ⟨(HB4.out.block _ (lt_of_block HXr.out.1)).trans HXr.out.1, (HB4.out.block _ (lt_of_block HXr.out.2.1)).trans HXr.out.2.1, (HB4.out.block _ (lt_of_block HXr.out.2.2.1)).trans HXr.out.2.2.1, HB0.out.trans (HB4.out.mono HB0.out.size)⟩
     have HWI : Hid (Calls Tryz.prog 25 #[.agg #[.int .i64 s.nu, .int .i64 s.a, .int .i64 s.b, .slice none s.pn 0, .slice ha s.hn hc], .int .i64 (-y.am), .int .i64 0, .slice vx (s.pn + 1) vy, .slice ha s.hn hc] V4 fun e w' => e = .returned (.agg #[.int .i64 (s.nu + 1), .int .i64 (s.a + (-y.am)), .int .i64 (s.b + 0), .slice vx (s.pn + 1) vy, .slice ha s.hn hc]) ∧ Below V4.heap.size V4 w') := HWT.out vx (s.pn + 1) vy ha s.hn hc V4
     clear HXr HB0 HB4
     obtain ⟨c0, c1, c2, c3, c4, cf⟩ := five_of HX4.out.1
     obtain ⟨k0, k1, k2, k3, kl⟩ := pbox_of HX4.out.2.1
     rw [HFR.out] at k1
     clear k3 kl
     have en := EN.out
     go_wp2_with fail
     refine (to_0 (-y.am) V4).mono ?_
     rintro e Vw ⟨rfl, hVw⟩
     rw [hVw]
     clear hVw
     go_wp2_with fail
     refine HWI.out.mono ?_
     rintro e V6 ⟨rfl, hb6⟩
     have HX6 : Hid (V6.heap[w.heap.size + 2]? = some (.cells #[.int .i64 0, .int .i64 0, .int .i64 0, .slice none 0 0, .slice none 0 0] 26 (0, 0)) ∧ Below w.heap.size w V6) := ⟨(hb6.block _ (lt_of_block HX4.out.2.2.1)).trans HX4.out.2.2.1, HX4.out.2.2.2.trans (hb6.mono HX4.out.2.2.2.size)⟩
     have HO6 : Hid (V6.ownsRow Wd.heap.size 30 36 (.slice vx (s.pn + 1) vy) (s.pn + 1) (flatL (pf (insY s.P 0 y)) (s.pn + 1))) := own_below HO4.out hb6
     clear c0 c1 c2 c3 c4 cf k0 k1 k2 HWI HO4 hb6 HX4 en
     obtain ⟨d0, d1, d2, d3, d4, df⟩ := five_of HX6.out.1
     go_wp2
     refine bodyPost_ret (results_R2 Tryz.results8 _ _ (w.heap.size + 2) 26 _ _ _ _ _ (0, 0) rfl (five_all HX6.out.1)) rfl ⟨⟨0, HIL.out, HLO.out, HHI.out, ⟨vx, vy, ha, hc⟩, by rw [HSV.out]; rfl, ?_⟩, five_below HX6.out.2 (by omega)⟩
     exact HFIN.out 0 HIL.out vx vy _ Wd.heap.size (by have h1 := HWS.out; omega) (five_below HX6.out.2 (by omega)) (own_keep HO6.out (fun g e => five_other (by have h1 := (HO6.out.lt g e).1; have h2 := HWS.out; omega)))
   | some a =>
    obtain ⟨b, off, rfl⟩ := HSP.out a rfl
    clear hin
    dsimp only at *
    have S0 : wr.drew.cell? ⟨w.heap.size, 3, none⟩ = some (.slice (some ⟨b, off, none⟩) s.pn pc) := (five_of HX.out.1).c3
    go_upto_region 17 with fail
    refine wp_region_noPanic ?_
    refine wp_region_held_drew (S := fun u => u.cell? ⟨w.heap.size, 3, none⟩ = some (.slice (some ⟨b, off, none⟩) s.pn pc)) (by kernel_rfl) S0 (fun hHeld => ?_)
    refine wpV 0 ⟨some 63, .move (.tmp 7), 3, _, _, none⟩ rfl ?_
    try simp only [Act.put, sqA, sqB, sqC]
    refine wpV 1 ⟨some 64, .fieldAddr 26 (.tmp 2) 2, 0, _, _, none⟩ rfl ?_
    try simp only [Act.put, sqA, sqB, sqC]
    refine wpV 2 ⟨some 65, .load 23 (.tmp 64), 23, _, _, none⟩ rfl ?_
    try simp only [Act.put, sqA, sqB, sqC]
    refine wpV 3 ⟨some 66, .call ⟨.builtin .len, #[.tmp 65], #[23]⟩, 3, _, _, none⟩ rfl ?_
    try simp only [Act.put, sqA, sqB, sqC]
    refine wpV 4 ⟨some 67, .binOp .lss 3 (.tmp 63) (.tmp 66) 3, 4, _, _, none⟩ rfl ?_
    try simp only [Act.put, sqA, sqB, sqC]
    refine wpV 5 ⟨some 68, .move (.tmp 67), 4, _, _, none⟩ rfl ?_
    try simp only [Act.put, sqA, sqB, sqC]
    refine wpX 6 ⟨some 69, .fieldAddr 26 (.tmp 2) 2, 0, _, _, some (5, true)⟩ rfl ?_
    try simp only [Act.put, sqA, sqB, sqC]
    refine wpX 7 ⟨some 70, .load 23 (.tmp 69), 23, _, _, some (5, true)⟩ rfl ?_
    try simp only [Act.put, sqA, sqB, sqC]
    refine wpX 8 ⟨some 71, .move (.tmp 7), 3, _, _, some (5, true)⟩ rfl ?_
    try simp only [Act.put, sqA, sqB, sqC]
    refine wpX 9 ⟨some 72, .indexAddr 23 (.tmp 70) (.tmp 71), 0, _, _, some (5, true)⟩ rfl ?_
    try simp only [Act.put, sqA, sqB, sqC]
    refine wpX 10 ⟨some 73, .fieldAddr 30 (.tmp 72) 0, 0, _, _, some (5, true)⟩ rfl ?_
    try simp only [Act.put, sqA, sqB, sqC]
    refine wpX 11 ⟨some 74, .load 3 (.tmp 73), 3, _, _, some (5, true)⟩ rfl ?_
    try simp only [Act.put, sqA, sqB, sqC]
    refine wpX 12 ⟨some 75, .fieldAddr 30 (.tmp 3) 0, 0, _, _, some (5, true)⟩ rfl ?_
    try simp only [Act.put, sqA, sqB, sqC]
    refine wpX 13 ⟨some 76, .load 3 (.tmp 75), 3, _, _, some (5, true)⟩ rfl ?_
    try simp only [Act.put, sqA, sqB, sqC]
    refine wpX 14 ⟨some 77, .binOp .lss 3 (.tmp 74) (.tmp 76) 3, 4, _, _, some (5, true)⟩ rfl ?_
    try simp only [Act.put, sqA, sqB, sqC]
    refine wpV 15 ⟨some 78, .pick (.tmp 68) (.tmp 77) (.const (.bool false)), 4, _, _, none⟩ rfl ?_
    try simp only [Act.put, sqA, sqB, sqC]
    refine wpAnyH_done (by kernel_rfl) (NoPanic.normal ?_) _
    try simp only [Act.put, sqA, sqB, sqC]
    have HX1 : Hid (wr.drew.drew.heap[w.heap.size]? = some (.cells #[.int .i64 s.nu, .int .i64 s.a, .int .i64 s.b, .slice (some ⟨b, off, none⟩) s.pn pc, .slice ha s.hn hc] 26 (0, 0)) ∧ wr.drew.drew.heap[w.heap.size + 1]? = some (.cells (pyv y) 30 (0, 0)) ∧ wr.drew.drew.heap[w.heap.size + 2]? = some (.cells #[.int .i64 0, .int .i64 0, .int .i64 0, .slice none 0 0, .slice none 0 0] 26 (0, 0)) ∧ Below w.heap.size w wr.drew.drew) := ⟨HX.out.1, HX.out.2.1, HX.out.2.2.1, HX.out.2.2.2.drew.drew⟩
    clear hHeld S0 hnn hlt
    generalize wr.drew = Wy at *
    go_wp2_with fail
    generalize hWd : Wy.drew = Wd at HX1
    have HXr : Hid (Wd.heap[w.heap.size]? = some (.cells #[.int .i64 s.nu, .int .i64 s.a, .int .i64 s.b, .slice (some ⟨b, off, none⟩) s.pn pc, .slice ha s.hn hc] 26 (0, 0)) ∧ Wd.heap[w.heap.size + 1]? = some (.cells (pyv y) 30 (0, 0)) ∧ Wd.heap[w.heap.size + 2]? = some (.cells #[.int .i64 0, .int .i64 0, .int .i64 0, .slice none 0 0, .slice none 0 0] 26 (0, 0)) ∧ Below w.heap.size w Wd) := HX1.out
    have HWS : Hid (w.heap.size + 2 < Wd.heap.size) := lt_of_block HX1.out.2.2.1
    clear HX1 HX
    have HB0 : Hid (Below w.heap.size w Wd) := HXr.out.2.2.2
    have SR : Hid (∀ u, Below Wd.heap.size Wd u → u.rangeAt (w.heap.size + 1) 0 (pyl y) ∧ u.cell? ⟨w.heap.size, 3, none⟩ = some (.slice (some ⟨b, off, none⟩) s.pn pc)) := fun u hb => ⟨range_below (pyv_range HXr.out.2.1) hb, by rw [hb.cell (p := ⟨w.heap.size, 3, none⟩) (lt_of_block HXr.out.1)]; exact (five_of HXr.out.1).c3⟩
    have S0 := SR.out Wd (Below.refl _ _)
    refine wp_region_noPanic ?_
    refine wp_region_held_drew (S := fun u => u.rangeAt (w.heap.size + 1) 0 (pyl y) ∧ u.cell? ⟨w.heap.size, 3, none⟩ = some (.slice (some ⟨b, off, none⟩) s.pn pc)) (by kernel_rfl) (by rw [hWd]; exact S0) (fun hHeld => ?_)
    rw [hWd] at hHeld ⊢
    clear hWd
    obtain ⟨ax, hax⟩ : ∃ ax : Option Addr, (if pc = i then some (⟨b, off, none⟩ : Addr) else some ⟨b, off + i * 36, none⟩) = ax := ⟨_, rfl⟩
    have HAX : Hid ((if pc = i then some (⟨b, off, none⟩ : Addr) else some ⟨b, off + i * 36, none⟩) = ax) := hax
    clear hax
    refine wpV 0 ⟨some 81, .move (.tmp 6), 23, _, _, none⟩ rfl ?_
    try simp only [Act.put, sqA, sqB, sqC]
    refine wpV 1 ⟨some 82, .fieldAddr 26 (.tmp 2) 2, 0, _, _, none⟩ rfl ?_
    try simp only [Act.put, sqA, sqB, sqC]
    refine wpV 2 ⟨some 83, .load 23 (.tmp 82), 23, _, _, none⟩ rfl ?_
    try simp only [Act.put, sqA, sqB, sqC]
    refine wpV 3 ⟨some 84, .move (.tmp 7), 3, _, _, none⟩ rfl ?_
    try simp only [Act.put, sqA, sqB, sqC]
    refine wpU 4 ⟨some 85, .slice 23 (.tmp 83) none (some (.tmp 84)) none, 23, _, _, none⟩ (v := .slice (some ⟨b, off, none⟩) i pc) rfl ?_ ?_
    ·intro wz hSw; (try dsimp only at hSw); go_simp; try (intro hbad; have h1 := HCP.out; omega)
    try simp only [Act.put, sqA, sqB, sqC]
    refine wpAnyH_take (i := 6) (oi := ⟨some 87, .load 30 (.tmp 3), 30, _, _, none⟩) rfl (by kernel_rfl) (by kernel_rfl) (by kernel_rfl) (fun _ _ _ h => h) (yieldsIf_load_mid (by rfl) _ _ rfl (w.heap.size + 1) 0 rfl (pyl y) _ (fun _ h => h.1) Tryz.underlying30 rfl (szPrl _)) (by assumption) ?_
    try simp only [Act.put, sqA, sqB, sqC]
    refine wpV 9 ⟨some 90, .fieldAddr 26 (.tmp 2) 2, 0, _, _, none⟩ rfl ?_
    try simp only [Act.put, sqA, sqB, sqC]
    refine wpV 10 ⟨some 91, .load 23 (.tmp 90), 23, _, _, none⟩ rfl ?_
    try simp only [Act.put, sqA, sqB, sqC]
    refine wpV 11 ⟨some 92, .move (.tmp 7), 3, _, _, none⟩ rfl ?_
    try simp only [Act.put, sqA, sqB, sqC]
    refine wpU 12 ⟨some 93, .slice 23 (.tmp 91) (some (.tmp 92)) none none, 23, _, _, none⟩ (v := .slice ax (s.pn - i) (pc - i)) rfl ?_ ?_
    ·intro wz hSw; (try dsimp only at hSw); rw [← HAX.out]; go_simp; try (intro hbad; have h1 := HCP.out; omega)
    try simp only [Act.put, sqA, sqB, sqC]
    refine wpAnyH_ready (rs := [5, 7]) (by kernel_rfl) (by simp) ?_
    refine (AllReadyH.cons (o := ⟨some 86, .call ⟨.builtin .append, #[.tmp 81, .tmp 85], #[23, 23]⟩, 23, _, _, none⟩) rfl (fun K hK => ?_) (AllReadyH.cons (o := ⟨some 88, .buildSlice 23 1 #[(0, .tmp 87)], 23, _, _, none⟩) rfl (fun K hK => ?_) AllReadyH.nil))
    ·have HBU : Below Wd.heap.size Wd Wd := Below.refl _ _
     refine step_append_RP rfl (.tmp 81) (.tmp 85) rfl Wd.heap.size (.slice none 0 0) 0 [] (some ⟨b, off, none⟩) i pc (flatL (pf s.P) i) (by rfl) (by rfl) (World.ownsRow_nil _ _ _ _) HBU.size (SrcY.take (HSR.out.below (HB0.out.trans (HBU.mono HB0.out.size))) (pf_len _ _) HIL.out (by simp)) (flatL_length i (pf_len _ _)) (pf_one _ _) (by omega) ?_
     intro va vc V1 hown hgr
     rw [Nat.zero_add, List.nil_append] at hown
     have hb1 : Below Wd.heap.size Wd V1 := ⟨hgr.os, hgr.tape, hgr.output, hgr.size, fun k hk => hgr.block k hk (by simp [Value.ownBlock])⟩
     have HO1 : Hid (V1.ownsRow Wd.heap.size 30 36 (.slice va i vc) i (flatL (pf s.P) i)) := hown
     have HBW : Hid (Below Wd.heap.size Wd V1) := Below.transS HBU hb1
     refine hK.out _ _ (SR.out V1 HBW.out) (fun _ => ?_)
     try simp only [Act.put, sqA, sqB, sqC]
     (try rw [Nat.zero_add])
     clear hK K hown hgr
     have HBV : Hid (Below Wd.heap.size Wd V1) := HBW.out
     clear hb1
     refine wpAnyH_ready (rs := [7]) (by kernel_rfl) (by simp) ?_
     refine (AllReadyH.cons (o := ⟨some 88, .buildSlice 23 1 #[(0, .tmp 87)], 23, _, _, none⟩) rfl (fun K hK => ?_) AllReadyH.nil)
     have HBU : Below Wd.heap.size Wd V1 := HBV.out
     refine step_sliceRP rfl (.tmp 87) rfl y (by rfl) ?_
     intro q V2 hq hle hb1
     have HBW : Hid (Below Wd.heap.size Wd V2) := Below.transS HBU hb1
     have HO2 : Hid (V2.ownsRow Wd.heap.size 30 36 (.slice va i vc) i (flatL (pf s.P) i)) := own_below HO1.out hb1
     have HQ : Hid (V2.heap[q]? = some (.cells (pyv y) 30 (0, 0))) := hq
     refine hK.out _ _ (SR.out V2 HBW.out) (fun _ => ?_)
     try simp only [Act.put, sqA, sqB, sqC]
     (try rw [Nat.zero_add])
     clear hK K hq hle hb1 HO1 HBV HBU
     refine wpAnyH_ready (rs := [8]) (by kernel_rfl) (by simp) ?_
     refine (AllReadyH.cons (o := ⟨some 89, .call ⟨.builtin .append, #[.tmp 86, .tmp 88], #[23, 23]⟩, 23, _, _, none⟩) rfl (fun K hK => ?_) AllReadyH.nil)
     refine step_append_RP rfl (.tmp 86) (.tmp 88) rfl Wd.heap.size (.slice va i vc) i (flatL (pf s.P) i) (some ⟨q, 0, none⟩) 1 1 (pyl y) (by rfl) (by rfl) HO2.out HBW.out.size ⟨fun _ => ⟨q, 0, rfl, pyv_range HQ.out⟩, fun e => by cases e⟩ (pyl_length y) (pyl_one y) (by omega) ?_
     intro vb vd V3 hown hgr
     have HO3 : Hid (V3.ownsRow Wd.heap.size 30 36 (.slice vb (i + 1) vd) (i + 1) (flatL (pf s.P) i ++ pyl y)) := hown
     have HB3 : Hid (Below Wd.heap.size Wd V3) := grown_below HO2.out hgr HBW.out (Nat.le_refl _)
     refine hK.out _ _ (SR.out V3 HB3.out) (fun _ => ?_)
     clear hK K hown hgr HO2 HQ HBW
     try simp only [Act.put, sqA, sqB, sqC]
     refine wpAnyH_ready (rs := [13]) (by kernel_rfl) (by simp) ?_
     refine (AllReadyH.cons (o := ⟨some 94, .call ⟨.builtin .append, #[.tmp 89, .tmp 93], #[23, 23]⟩, 23, _, _, none⟩) rfl (fun K hK => ?_) AllReadyH.nil)
     have HBU : Below Wd.heap.size Wd V3 := HB3.out
     refine step_append_RP rfl (.tmp 89) (.tmp 93) rfl Wd.heap.size (.slice vb (i + 1) vd) (i + 1) (flatL (pf s.P) i ++ pyl y) ax (s.pn - i) (pc - i) (flatL (fun j => pf s.P (i + j)) (s.pn - i)) (by rfl) (by rfl) HO3.out HBU.size (by rw [← HAX.out]; exact SrcY.drop (HSR.out.below (HB0.out.trans (HBU.mono HB0.out.size))) (pf_len _ _) HIL.out HCP.out) (flatL_length _ (fun j hj => pyl_length _)) (fun u hu => by
      obtain ⟨j, _, hj⟩ := flatL_mem _ hu
      exact pyl_one _ u hj) (by omega) ?_
     intro vx vy V4 hown hgr
     have em : i + 1 + (s.pn - i) = s.pn + 1 := by omega
     have HB4 : Hid (Below Wd.heap.size Wd V4) := grown_below HO3.out hgr HB3.out (Nat.le_refl _)
     rw [em] at hown
     have HO4 : Hid (V4.ownsRow Wd.heap.size 30 36 (.slice vx (s.pn + 1) vy) (s.pn + 1) (flatL (pf (insY s.P i y)) (s.pn + 1))) := by
      have e0 := insF_mid (pf s.P) i (s.pn - i) (pyl y)
      rw [show i + (s.pn - i) + 1 = s.pn + 1 by omega] at e0
      show V4.ownsRow Wd.heap.size 30 36 (.slice vx (s.pn + 1) vy) (s.pn + 1) (flatL (pf (insY s.P i y)) (s.pn + 1))
      rw [insY_pf, e0, ← List.append_assoc]
      exact hown
     refine hK.out _ _ (SR.out V4 HB4.out) (fun _ => ?_)
     clear hK K hown hgr HO3 HB3 HBU
     try simp only [Act.put, sqA, sqB, sqC]
     rw [em]
     refine wpV 14 ⟨some 6, .assign (.tmp 94), 23, _, _, none⟩ rfl ?_
     try simp only [Act.put, sqA, sqB, sqC]
     refine wpAnyH_done (by kernel_rfl) (NoPanic.normal ?_) _
     try simp only [Act.put, sqA, sqB, sqC]
     clear hHeld S0 SR em
     have HX4 : Hid (V4.heap[w.heap.size]? = some (.cells #[.int .i64 s.nu, .int .i64 s.a, .int .i64 s.b, .slice (some ⟨b, off, none⟩) s.pn pc, .slice ha s.hn hc] 26 (0, 0)) ∧ V4.heap[w.heap.size + 1]? = some (.cells (pyv y) 30 (0, 0)) ∧ V4.heap[w.heap.size + 2]? = some (.cells #[.int .i64 0, .int .i64 0, .int .i64 0, .slice none 0 0, .slice none 0 0] 26 (0, 0)) ∧ Below w.heap.size w V4) := ⟨(HB4.out.block _ (lt_of_block HXr.out.1)).trans HXr.out.1, (HB4.out.block _ (lt_of_block HXr.out.2.1)).trans HXr.out.2.1, (HB4.out.block _ (lt_of_block HXr.out.2.2.1)).trans HXr.out.2.2.1, HB0.out.trans (HB4.out.mono HB0.out.size)⟩
     have HWI : Hid (Calls Tryz.prog 25 #[.agg #[.int .i64 s.nu, .int .i64 s.a, .int .i64 s.b, .slice (some ⟨b, off, none⟩) s.pn pc, .slice ha s.hn hc], .int .i64 (-y.am), .int .i64 0, .slice vx (s.pn + 1) vy, .slice ha s.hn hc] V4 fun e w' => e = .returned (.agg #[.int .i64 (s.nu + 1), .int .i64 (s.a + (-y.am)), .int .i64 (s.b + 0), .slice vx (s.pn + 1) vy, .slice ha s.hn hc]) ∧ Below V4.heap.size V4 w') := HWT.out vx (s.pn + 1) vy ha s.hn hc V4
     clear HXr HB0 HB4
     obtain ⟨c0, c1, c2, c3, c4, cf⟩ := five_of HX4.out.1
     obtain ⟨k0, k1, k2, k3, kl⟩ := pbox_of HX4.out.2.1
     rw [HFR.out] at k1
     clear k3 kl
     have en := EN.out
     go_wp2_with fail
     refine (to_0 (-y.am) V4).mono ?_
     rintro e Vw ⟨rfl, hVw⟩
     rw [hVw]
     clear hVw
     go_wp2_with fail
     refine HWI.out.mono ?_
     rintro e V6 ⟨rfl, hb6⟩
     have HX6 : Hid (V6.heap[w.heap.size + 2]? = some (.cells #[.int .i64 0, .int .i64 0, .int .i64 0, .slice none 0 0, .slice none 0 0] 26 (0, 0)) ∧ Below w.heap.size w V6) := ⟨(hb6.block _ (lt_of_block HX4.out.2.2.1)).trans HX4.out.2.2.1, HX4.out.2.2.2.trans (hb6.mono HX4.out.2.2.2.size)⟩
     have HO6 : Hid (V6.ownsRow Wd.heap.size 30 36 (.slice vx (s.pn + 1) vy) (s.pn + 1) (flatL (pf (insY s.P i y)) (s.pn + 1))) := own_below HO4.out hb6
     clear c0 c1 c2 c3 c4 cf k0 k1 k2 HWI HO4 hb6 HX4 en
     obtain ⟨d0, d1, d2, d3, d4, df⟩ := five_of HX6.out.1
     go_wp2
     refine bodyPost_ret (results_R2 Tryz.results8 _ _ (w.heap.size + 2) 26 _ _ _ _ _ (0, 0) rfl (five_all HX6.out.1)) rfl ⟨⟨i, HIL.out, HLO.out, HHI.out, ⟨vx, vy, ha, hc⟩, by rw [HSV.out]; rfl, ?_⟩, five_below HX6.out.2 (by omega)⟩
     exact HFIN.out i HIL.out vx vy _ Wd.heap.size (by have h1 := HWS.out; omega) (five_below HX6.out.2 (by omega)) (own_keep HO6.out (fun g e => five_other (by have h1 := (HO6.out.lt g e).1; have h2 := HWS.out; omega)))
    ·have HBU : Below Wd.heap.size Wd Wd := Below.refl _ _
     refine step_sliceRP rfl (.tmp 87) rfl y (by rfl) ?_
     intro q V1 hq hle hb1
     have HBW : Hid (Below Wd.heap.size Wd V1) := Below.transS HBU hb1
     have HQ1 : Hid (V1.heap[q]? = some (.cells (pyv y) 30 (0, 0))) := hq
     refine hK.out _ _ (SR.out V1 HBW.out) (fun _ => ?_)
     try simp only [Act.put, sqA, sqB, sqC]
     (try rw [Nat.zero_add])
     clear hK K hq hle
     have HBV : Hid (Below Wd.heap.size Wd V1) := HBW.out
     clear hb1
     refine wpAnyH_ready (rs := [5]) (by kernel_rfl) (by simp) ?_
     refine (AllReadyH.cons (o := ⟨some 86, .call ⟨.builtin .append, #[.tmp 81, .tmp 85], #[23, 23]⟩, 23, _, _, none⟩) rfl (fun K hK => ?_) AllReadyH.nil)
     have HBU : Below Wd.heap.size Wd V1 := HBV.out
     refine step_append_RP rfl (.tmp 81) (.tmp 85) rfl Wd.heap.size (.slice none 0 0) 0 [] (some ⟨b, off, none⟩) i pc (flatL (pf s.P) i) (by rfl) (by rfl) (World.ownsRow_nil _ _ _ _) HBU.size (SrcY.take (HSR.out.below (HB0.out.trans (HBU.mono HB0.out.size))) (pf_len _ _) HIL.out (by simp)) (flatL_length i (pf_len _ _)) (pf_one _ _) (by omega) ?_
     intro va vc V2 hown hgr
     rw [Nat.zero_add, List.nil_append] at hown
     have hb1 : Below V1.heap.size V1 V2 := ⟨hgr.os, hgr.tape, hgr.output, hgr.size, fun k hk => hgr.block k hk (by simp [Value.ownBlock])⟩
     have HO1 : Hid (V2.ownsRow Wd.heap.size 30 36 (.slice va i vc) i (flatL (pf s.P) i)) := hown
     have HBW : Hid (Below Wd.heap.size Wd V2) := Below.transS HBU hb1
     have HQ : Hid (V2.heap[q]? = some (.cells (pyv y) 30 (0, 0))) := (hb1.block _ (lt_of_block HQ1.out)).trans HQ1.out
     have HO2 : Hid (V2.ownsRow Wd.heap.size 30 36 (.slice va i vc) i (flatL (pf s.P) i)) := HO1.out
     refine hK.out _ _ (SR.out V2 HBW.out) (fun _ => ?_)
     try simp only [Act.put, sqA, sqB, sqC]
     (try rw [Nat.zero_add])
     clear hK K hown hgr hb1 HQ1 HO1 HBV HBU
     refine wpAnyH_ready (rs := [8]) (by kernel_rfl) (by simp) ?_
     refine (AllReadyH.cons (o := ⟨some 89, .call ⟨.builtin .append, #[.tmp 86, .tmp 88], #[23, 23]⟩, 23, _, _, none⟩) rfl (fun K hK => ?_) AllReadyH.nil)
     refine step_append_RP rfl (.tmp 86) (.tmp 88) rfl Wd.heap.size (.slice va i vc) i (flatL (pf s.P) i) (some ⟨q, 0, none⟩) 1 1 (pyl y) (by rfl) (by rfl) HO2.out HBW.out.size ⟨fun _ => ⟨q, 0, rfl, pyv_range HQ.out⟩, fun e => by cases e⟩ (pyl_length y) (pyl_one y) (by omega) ?_
     intro vb vd V3 hown hgr
     have HO3 : Hid (V3.ownsRow Wd.heap.size 30 36 (.slice vb (i + 1) vd) (i + 1) (flatL (pf s.P) i ++ pyl y)) := hown
     have HB3 : Hid (Below Wd.heap.size Wd V3) := grown_below HO2.out hgr HBW.out (Nat.le_refl _)
     refine hK.out _ _ (SR.out V3 HB3.out) (fun _ => ?_)
     clear hK K hown hgr HO2 HQ HBW
     try simp only [Act.put, sqA, sqB, sqC]
     refine wpAnyH_ready (rs := [13]) (by kernel_rfl) (by simp) ?_
     refine (AllReadyH.cons (o := ⟨some 94, .call ⟨.builtin .append, #[.tmp 89, .tmp 93], #[23, 23]⟩, 23, _, _, none⟩) rfl (fun K hK => ?_) AllReadyH.nil)
     have HBU : Below Wd.heap.size Wd V3 := HB3.out
     refine step_append_RP rfl (.tmp 89) (.tmp 93) rfl Wd.heap.size (.slice vb (i + 1) vd) (i + 1) (flatL (pf s.P) i ++ pyl y) ax (s.pn - i) (pc - i) (flatL (fun j => pf s.P (i + j)) (s.pn - i)) (by rfl) (by rfl) HO3.out HBU.size (by rw [← HAX.out]; exact SrcY.drop (HSR.out.below (HB0.out.trans (HBU.mono HB0.out.size))) (pf_len _ _) HIL.out HCP.out) (flatL_length _ (fun j hj => pyl_length _)) (fun u hu => by
      obtain ⟨j, _, hj⟩ := flatL_mem _ hu
      exact pyl_one _ u hj) (by omega) ?_
     intro vx vy V4 hown hgr
     have em : i + 1 + (s.pn - i) = s.pn + 1 := by omega
     have HB4 : Hid (Below Wd.heap.size Wd V4) := grown_below HO3.out hgr HB3.out (Nat.le_refl _)
     rw [em] at hown
     have HO4 : Hid (V4.ownsRow Wd.heap.size 30 36 (.slice vx (s.pn + 1) vy) (s.pn + 1) (flatL (pf (insY s.P i y)) (s.pn + 1))) := by
      have e0 := insF_mid (pf s.P) i (s.pn - i) (pyl y)
      rw [show i + (s.pn - i) + 1 = s.pn + 1 by omega] at e0
      show V4.ownsRow Wd.heap.size 30 36 (.slice vx (s.pn + 1) vy) (s.pn + 1) (flatL (pf (insY s.P i y)) (s.pn + 1))
      rw [insY_pf, e0, ← List.append_assoc]
      exact hown
     refine hK.out _ _ (SR.out V4 HB4.out) (fun _ => ?_)
     clear hK K hown hgr HO3 HB3 HBU
     try simp only [Act.put, sqA, sqB, sqC]
     rw [em]
     refine wpV 14 ⟨some 6, .assign (.tmp 94), 23, _, _, none⟩ rfl ?_
     try simp only [Act.put, sqA, sqB, sqC]
     refine wpAnyH_done (by kernel_rfl) (NoPanic.normal ?_) _
     try simp only [Act.put, sqA, sqB, sqC]
     clear hHeld S0 SR em
     have HX4 : Hid (V4.heap[w.heap.size]? = some (.cells #[.int .i64 s.nu, .int .i64 s.a, .int .i64 s.b, .slice (some ⟨b, off, none⟩) s.pn pc, .slice ha s.hn hc] 26 (0, 0)) ∧ V4.heap[w.heap.size + 1]? = some (.cells (pyv y) 30 (0, 0)) ∧ V4.heap[w.heap.size + 2]? = some (.cells #[.int .i64 0, .int .i64 0, .int .i64 0, .slice none 0 0, .slice none 0 0] 26 (0, 0)) ∧ Below w.heap.size w V4) := ⟨(HB4.out.block _ (lt_of_block HXr.out.1)).trans HXr.out.1, (HB4.out.block _ (lt_of_block HXr.out.2.1)).trans HXr.out.2.1, (HB4.out.block _ (lt_of_block HXr.out.2.2.1)).trans HXr.out.2.2.1, HB0.out.trans (HB4.out.mono HB0.out.size)⟩
     have HWI : Hid (Calls Tryz.prog 25 #[.agg #[.int .i64 s.nu, .int .i64 s.a, .int .i64 s.b, .slice (some ⟨b, off, none⟩) s.pn pc, .slice ha s.hn hc], .int .i64 (-y.am), .int .i64 0, .slice vx (s.pn + 1) vy, .slice ha s.hn hc] V4 fun e w' => e = .returned (.agg #[.int .i64 (s.nu + 1), .int .i64 (s.a + (-y.am)), .int .i64 (s.b + 0), .slice vx (s.pn + 1) vy, .slice ha s.hn hc]) ∧ Below V4.heap.size V4 w') := HWT.out vx (s.pn + 1) vy ha s.hn hc V4
     clear HXr HB0 HB4
     obtain ⟨c0, c1, c2, c3, c4, cf⟩ := five_of HX4.out.1
     obtain ⟨k0, k1, k2, k3, kl⟩ := pbox_of HX4.out.2.1
     rw [HFR.out] at k1
     clear k3 kl
     have en := EN.out
     go_wp2_with fail
     refine (to_0 (-y.am) V4).mono ?_
     rintro e Vw ⟨rfl, hVw⟩
     rw [hVw]
     clear hVw
     go_wp2_with fail
     refine HWI.out.mono ?_
     rintro e V6 ⟨rfl, hb6⟩
     have HX6 : Hid (V6.heap[w.heap.size + 2]? = some (.cells #[.int .i64 0, .int .i64 0, .int .i64 0, .slice none 0 0, .slice none 0 0] 26 (0, 0)) ∧ Below w.heap.size w V6) := ⟨(hb6.block _ (lt_of_block HX4.out.2.2.1)).trans HX4.out.2.2.1, HX4.out.2.2.2.trans (hb6.mono HX4.out.2.2.2.size)⟩
     have HO6 : Hid (V6.ownsRow Wd.heap.size 30 36 (.slice vx (s.pn + 1) vy) (s.pn + 1) (flatL (pf (insY s.P i y)) (s.pn + 1))) := own_below HO4.out hb6
     clear c0 c1 c2 c3 c4 cf k0 k1 k2 HWI HO4 hb6 HX4 en
     obtain ⟨d0, d1, d2, d3, d4, df⟩ := five_of HX6.out.1
     go_wp2
     refine bodyPost_ret (results_R2 Tryz.results8 _ _ (w.heap.size + 2) 26 _ _ _ _ _ (0, 0) rfl (five_all HX6.out.1)) rfl ⟨⟨i, HIL.out, HLO.out, HHI.out, ⟨vx, vy, ha, hc⟩, by rw [HSV.out]; rfl, ?_⟩, five_below HX6.out.2 (by omega)⟩
     exact HFIN.out i HIL.out vx vy _ Wd.heap.size (by have h1 := HWS.out; omega) (five_below HX6.out.2 (by omega)) (own_keep HO6.out (fun g e => five_other (by have h1 := (HO6.out.lt g e).1; have h2 := HWS.out; omega)))
set_option maxRecDepth 100000 in
set_option maxHeartbeats 6400000 in
theorem radd_ok_1 (s : Sv) (p : Pl) (y : Py) (w : World) (h : SvAt w s p) (hs : s.Small) (hy : Zb y.lk) (hfr : y.fr = 1) (hsp : ∀ a, p.pa = some a → ∃ bb off, a = ⟨bb, off, none⟩) (he : raE s 1 y = 0) :
  Calls Tryz.prog 8 #[.agg (svv s p), .agg (pyv y)] w fun e w' => RAdd s 1 y e w' ∧ Below w.heap.size w w' := by
 obtain ⟨hr, _, hd, hm, hb, h8, hh⟩ := asideE_ok he
 have hm := of_decide_eq_true hm
 clear he
 have HFR : Hid (y.fr = 1) := hfr
 have HKP : Hid (PyAt w p.pa s.pn s.P ∧ s.pn ≤ p.pc ∧ (p.pa = none → s.pn = 0 ∧ p.pc = 0)) := ⟨h.py, h.pcap, h.pnil⟩
 have HFIN : Hid (∀ (i : Nat), i ≤ s.pn → ∀ (vx : Option Addr) (vy : Nat) (V : World) (B : Nat), w.heap.size ≤ B → Below w.heap.size w V → V.ownsRow B 30 36 (.slice vx (s.pn + 1) vy) (s.pn + 1) (flatL (pf (insY s.P i y)) (s.pn + 1)) → SvAt V (addY (asideS s 1 y.am) i y) ⟨vx, vy, p.ha, p.hc⟩) := fun i hi vx vy V B hB hb ho => by
  have hv := h.below hb
  have hr := asideS_rows s 1 y.am
  have hrow := py_of_row ho (fun j hj => by
   unfold insY
   by_cases h1 : j < i
   ·simp only [h1, if_true]
    exact h.py.lk j (by omega)
   ·simp only [h1, if_false]
    by_cases h2 : j = i
    ·simp only [h2, if_true]
     exact hy
    ·simp only [h2, if_false]
     exact h.py.lk (j - 1) (by omega))
  refine ⟨?_, ?_, ?_, ?_, ?_, ?_⟩
  ·show PyAt V vx ((asideS s 1 y.am).pn + 1) (insY (asideS s 1 y.am).P i y)
   rw [hr.1, hr.2.1]; exact hrow
  ·show HdAt V p.ha (asideS s 1 y.am).hn (asideS s 1 y.am).H
   rw [hr.2.2.1, hr.2.2.2]; exact hv.hd
  ·show (asideS s 1 y.am).pn + 1 ≤ vy
   rw [hr.1]; exact (own_nil ho).1
  ·show (asideS s 1 y.am).hn ≤ p.hc
   rw [hr.2.2.1]; exact hv.hcap
  ·show vx = none → (asideS s 1 y.am).pn + 1 = 0 ∧ vy = 0
   rw [hr.1]; exact (own_nil ho).2
  ·show p.ha = none → (asideS s 1 y.am).hn = 0 ∧ p.hc = 0
   rw [hr.2.2.1]; exact hv.hnil
 have HSV : Hid (∀ (i : Nat) (vx : Option Addr) (vy : Nat), svv (addY (asideS s 1 y.am) i y) ⟨vx, vy, p.ha, p.hc⟩ = #[.int .i64 (s.nu + 1), .int .i64 s.a, .int .i64 (s.b + -y.am), .slice vx (s.pn + 1) vy, .slice p.ha s.hn p.hc]) := fun i vx vy => by simp [svv, addY, asideS, giv, nxt]
 have HSP : Hid (∀ a, p.pa = some a → ∃ bb off, a = ⟨bb, off, none⟩) := hsp
 clear hsp
 have b0 := hr.1.1.1
 have b1 := hr.1.1.2.1
 have b2 := hr.1.1.2.2
 have b3 := hr.2
 have bam := hm.2.2.2.1
 have HWT : Hid (∀ (pa : Option Addr) (pn pc : Nat) (ha : Option Addr) (hn hc : Nat) (V : World), Calls Tryz.prog 25 #[.agg #[.int .i64 s.nu, .int .i64 s.a, .int .i64 s.b, .slice p.pa s.pn p.pc, .slice p.ha s.hn p.hc], .int .i64 0, .int .i64 (-y.am), .slice pa pn pc, .slice ha hn hc] V fun e w' => e = .returned (.agg #[.int .i64 (s.nu + 1), .int .i64 (s.a + 0), .int .i64 (s.b + (-y.am)), .slice pa pn pc, .slice ha hn hc]) ∧ Below V.heap.size V w') := fun pa pn pc ha hn hc V => rwith_any s p 0 (-y.am) pa pn pc ha hn hc V (by simp [wrap64]; omega) (by simp [wrap64]; omega) (by simp [wrap64]; omega)
 have EN : Hid (wrap64 (-y.am) = -y.am) := by show wrap64 (-y.am) = -y.am; simp [wrap64]; omega
 have hhn8 : s.pn ≤ 8 := by have := hr.1.2.1.1; omega
 clear b0 b1 b2 b3 bam
 obtain ⟨W0, hW0, r0, r1, r2, hsz, hb0⟩ := three_boxesP w s p y
 have HV : Hid (SvAt w s p ∧ s.Small ∧ Zb y.lk) := ⟨h, hs, hy⟩
 have hc := right_any s p W0 (h.below hb0) hs
 have HX0 : Hid (W0.heap[w.heap.size]? = some (.cells (svv s p) 26 (0, 0)) ∧ W0.heap[w.heap.size + 1]? = some (.cells (pyv y) 30 (0, 0)) ∧ W0.heap[w.heap.size + 2]? = some (.cells #[.int .i64 0, .int .i64 0, .int .i64 0, .slice none 0 0, .slice none 0 0] 26 (0, 0)) ∧ W0.heap.size = w.heap.size + 3 ∧ Below w.heap.size w W0) := ⟨r0, r1, r2, hsz, hb0⟩
 clear h hs hy r0 r1 r2 hsz hb0
 subst hW0
 unfold svv at hc HX0 ⊢
 go_enter Tryz.func8, Tryz.ntmps8
 go_wp2_with (first | (refine Go.Great.wpList_boxTo rfl _ _ rfl _ rfl _ rfl (pyv y) rfl ?_) | fail)
 generalize ((w.alloc (.cells #[.int .i64 s.nu, .int .i64 s.a, .int .i64 s.b, .slice p.pa s.pn p.pc, .slice p.ha s.hn p.hc] 26)).alloc (.cells (pyv y) 30)).alloc (.cells #[.int .i64 0, .int .i64 0, .int .i64 0, .slice none 0 0, .slice none 0 0] 26) = W0 at *
 (try rw [show w.heap.size + 1 + 1 = w.heap.size + 2 from rfl])
 refine hc.mono ?_
 rintro e w1 ⟨rfl, hb1⟩
 have HX : Hid (w1.heap[w.heap.size]? = some (.cells #[.int .i64 s.nu, .int .i64 s.a, .int .i64 s.b, .slice p.pa s.pn p.pc, .slice p.ha s.hn p.hc] 26 (0, 0)) ∧ w1.heap[w.heap.size + 1]? = some (.cells (pyv y) 30 (0, 0)) ∧ w1.heap[w.heap.size + 2]? = some (.cells #[.int .i64 0, .int .i64 0, .int .i64 0, .slice none 0 0, .slice none 0 0] 26 (0, 0)) ∧ Below w.heap.size w w1) := ⟨(hb1.block _ (lt_of_block HX0.out.1)).trans HX0.out.1, (hb1.block _ (lt_of_block HX0.out.2.1)).trans HX0.out.2.1, (hb1.block _ (lt_of_block HX0.out.2.2.1)).trans HX0.out.2.2.1, HX0.out.2.2.2.2.trans (hb1.mono HX0.out.2.2.2.2.size)⟩
 clear hc hb1 HX0
 obtain ⟨c0, c1, c2, c3, c4, cf⟩ := five_of HX.out.1
 obtain ⟨k0, k1, k2, k3, kl⟩ := pbox_of HX.out.2.1
 rw [HFR.out] at k1
 clear k3 kl
 obtain ⟨d0, d1, d2, d3, d4, df⟩ := five_of HX.out.2.2.1
 rw [decide_eq_true hr]
 have h8' : ¬ (7 : Int) < (s.pn : Int) + (s.hn : Int) := by omega
 have ew : wrap64 ((s.pn : Int) + (s.hn : Int)) = (s.pn : Int) + (s.hn : Int) := by simp [wrap64]; omega
 have hh' : ¬ s.b < y.am := by have h : y.am ≤ s.b := hh; omega
 clear hh hr
 go_wp2_with (first | (refine wpList_load_mid rfl 30 _ rfl (w.heap.size + 1) 0 rfl (pyl y) _ (pyv_range HX.out.2.1) Tryz.underlying30 rfl (szPrl _) ?_) | fail)
 refine (payMay_any y w1 HV.out.2.2).mono ?_
 rintro e w2 ⟨rfl, hb2⟩
 have HX2 : Hid (w2.heap[w.heap.size]? = some (.cells #[.int .i64 s.nu, .int .i64 s.a, .int .i64 s.b, .slice p.pa s.pn p.pc, .slice p.ha s.hn p.hc] 26 (0, 0)) ∧ w2.heap[w.heap.size + 1]? = some (.cells (pyv y) 30 (0, 0)) ∧ w2.heap[w.heap.size + 2]? = some (.cells #[.int .i64 0, .int .i64 0, .int .i64 0, .slice none 0 0, .slice none 0 0] 26 (0, 0)) ∧ Below w.heap.size w w2) := ⟨(hb2.block _ (lt_of_block HX.out.1)).trans HX.out.1, (hb2.block _ (lt_of_block HX.out.2.1)).trans HX.out.2.1, (hb2.block _ (lt_of_block HX.out.2.2.1)).trans HX.out.2.2.1, HX.out.2.2.2.trans (hb2.mono HX.out.2.2.2.size)⟩
 clear c0 c1 c2 c3 c4 cf k0 k1 k2 d0 d1 d2 d3 d4 df HX hb2
 have HX : Hid (w2.heap[w.heap.size]? = some (.cells #[.int .i64 s.nu, .int .i64 s.a, .int .i64 s.b, .slice p.pa s.pn p.pc, .slice p.ha s.hn p.hc] 26 (0, 0)) ∧ w2.heap[w.heap.size + 1]? = some (.cells (pyv y) 30 (0, 0)) ∧ w2.heap[w.heap.size + 2]? = some (.cells #[.int .i64 0, .int .i64 0, .int .i64 0, .slice none 0 0, .slice none 0 0] 26 (0, 0)) ∧ Below w.heap.size w w2) := HX2.out
 clear HX2
 obtain ⟨c0, c1, c2, c3, c4, cf⟩ := five_of HX.out.1
 obtain ⟨k0, k1, k2, k3, kl⟩ := pbox_of HX.out.2.1
 rw [HFR.out] at k1
 clear k3 kl
 obtain ⟨d0, d1, d2, d3, d4, df⟩ := five_of HX.out.2.2.1
 rw [decide_eq_true hm]
 go_wp2_with fail
 refine (payAt_any p.pa s.pn p.pc s.P y.id w2 (HV.out.1.py.below HX.out.2.2.2) (by have := HV.out.2.1.n; omega)).mono ?_
 rintro e w3 ⟨k, hk, rfl, hw3⟩
 rw [hw3]
 clear hw3
 have HH : Hid (HatR (fun j => (s.P j).id) s.pn y.id k) := hk
 have hkb := hat_hasB hk
 clear hk
 rw [hb] at hkb
 have hk0 : ¬ 0 ≤ k := of_decide_eq_false hkb
 clear hkb HH hb hm h8
 go_wp2_with fail
 have S0 : w2.drew.cell? ⟨w.heap.size, 2, none⟩ = some (.int .i64 s.b) ∧ w2.drew.cell? ⟨w.heap.size + 1, 1, none⟩ = some (.int .i64 1) ∧ w2.drew.cell? ⟨w.heap.size + 1, 2, none⟩ = some (.int .i64 y.am) := ⟨c2, k1, k2⟩
 refine wp_region_noPanic ?_
 refine wp_region_held_drew (S := fun u => u.cell? ⟨w.heap.size, 2, none⟩ = some (.int .i64 s.b) ∧ u.cell? ⟨w.heap.size + 1, 1, none⟩ = some (.int .i64 1) ∧ u.cell? ⟨w.heap.size + 1, 2, none⟩ = some (.int .i64 y.am)) (by kernel_rfl) S0 (fun hHeld => ?_)
 have HBX : Hid (w2.drew.heap[w.heap.size]? = some (.cells #[.int .i64 s.nu, .int .i64 s.a, .int .i64 s.b, .slice p.pa s.pn p.pc, .slice p.ha s.hn p.hc] 26 (0, 0)) ∧ w2.drew.heap[w.heap.size + 1]? = some (.cells (pyv y) 30 (0, 0))) := ⟨HX.out.1, HX.out.2.1⟩
 have HXd : Hid (w2.drew.heap[w.heap.size + 2]? = some (.cells #[.int .i64 0, .int .i64 0, .int .i64 0, .slice none 0 0, .slice none 0 0] 26 (0, 0)) ∧ Below w.heap.size w w2.drew) := ⟨HX.out.2.2.1, HX.out.2.2.2.drew⟩
 clear c0 c1 c2 c3 c4 cf k0 k1 k2 d0 d1 d2 d3 d4 df
 generalize w2.drew = Wd at *
 refine wpV 0 ⟨some 54, .fieldAddr 30 (.tmp 3) 1, 0, _, _, none⟩ rfl ?_
 try simp only [Act.put, sqA, sqB, sqC]
 refine wpV 1 ⟨some 55, .load 3 (.tmp 54), 3, _, _, none⟩ rfl ?_
 try simp only [Act.put, sqA, sqB, sqC]
 refine wpV 2 ⟨some 56, .fieldAddr 26 (.tmp 2) 1, 0, _, _, none⟩ rfl ?_
 try simp only [Act.put, sqA, sqB, sqC]
 refine wpV 3 ⟨some 57, .indexAddr 22 (.tmp 56) (.tmp 55), 0, _, _, none⟩ rfl ?_
 try simp only [Act.put, sqA, sqB, sqC]
 refine wpV 4 ⟨some 58, .load 3 (.tmp 57), 3, _, _, none⟩ rfl ?_
 try simp only [Act.put, sqA, sqB, sqC]
 refine wpV 5 ⟨some 59, .fieldAddr 30 (.tmp 3) 2, 0, _, _, none⟩ rfl ?_
 try simp only [Act.put, sqA, sqB, sqC]
 refine wpV 6 ⟨some 60, .load 3 (.tmp 59), 3, _, _, none⟩ rfl ?_
 try simp only [Act.put, sqA, sqB, sqC]
 refine wpV 7 ⟨some 61, .binOp .lss 3 (.tmp 58) (.tmp 60) 3, 4, _, _, none⟩ rfl ?_
 try simp only [Act.put, sqA, sqB, sqC]
 refine wpV 8 ⟨some 53, .assign (.tmp 61), 4, _, _, none⟩ rfl ?_
 try simp only [Act.put, sqA, sqB, sqC]
 refine wpAnyH_done (by kernel_rfl) (NoPanic.normal ?_) _
 try simp only [Act.put, sqA, sqB, sqC]
 clear hHeld S0
 clear h8' ew hd hk0
 have HX3 : Hid (Wd.heap[w.heap.size]? = some (.cells #[.int .i64 s.nu, .int .i64 s.a, .int .i64 s.b, .slice p.pa s.pn p.pc, .slice p.ha s.hn p.hc] 26 (0, 0)) ∧ Wd.heap[w.heap.size + 1]? = some (.cells (pyv y) 30 (0, 0)) ∧ Wd.heap[w.heap.size + 2]? = some (.cells #[.int .i64 0, .int .i64 0, .int .i64 0, .slice none 0 0, .slice none 0 0] 26 (0, 0)) ∧ Below w.heap.size w Wd) := ⟨HBX.out.1, HBX.out.2, HXd.out.1, HXd.out.2⟩
 clear HXd HBX HX
 go_wp2
 clear hh'
 go_loopw [7] (fun iv wr => ∃ i : Nat, i ≤ s.pn ∧ iv = .int .i64 i ∧ (∀ j, j < i → (s.P j).id < y.id) ∧ wr.heap[w.heap.size]? = some (.cells #[.int .i64 s.nu, .int .i64 s.a, .int .i64 s.b, .slice p.pa s.pn p.pc, .slice p.ha s.hn p.hc] 26 (0, 0)) ∧ wr.heap[w.heap.size + 1]? = some (.cells (pyv y) 30 (0, 0)) ∧ wr.heap[w.heap.size + 2]? = some (.cells #[.int .i64 0, .int .i64 0, .int .i64 0, .slice none 0 0, .slice none 0 0] 26 (0, 0)) ∧ Below w.heap.size w wr) (fun iv _ => s.pn + 1 - (intOf iv).toNat)
 case atStart => exact ⟨0, Nat.zero_le _, rfl, fun j hj => by omega, HX3.out⟩
 case round =>
  clear HX3
  obtain ⟨i, hi, rfl, hlo, hx⟩ := hrel
  have HX : Hid (wr.heap[w.heap.size]? = some (.cells #[.int .i64 s.nu, .int .i64 s.a, .int .i64 s.b, .slice p.pa s.pn p.pc, .slice p.ha s.hn p.hc] 26 (0, 0)) ∧ wr.heap[w.heap.size + 1]? = some (.cells (pyv y) 30 (0, 0)) ∧ wr.heap[w.heap.size + 2]? = some (.cells #[.int .i64 0, .int .i64 0, .int .i64 0, .slice none 0 0, .slice none 0 0] 26 (0, 0)) ∧ Below w.heap.size w wr) := hx
  have HLO : Hid (∀ j, j < i → (s.P j).id < y.id) := hlo
  have HIL : Hid (i ≤ s.pn) := hi
  clear hx hlo
  have HSR : Hid (Src w p.pa s.pn p.pc (flatL (pf s.P) s.pn)) := HKP.out.1.src HKP.out.2.2
  have HCP : Hid (s.pn ≤ p.pc) := HKP.out.2.1
  by_cases hlt : i < s.pn
  ·have hlt' : (i : Int) < s.pn := by omega
   obtain ⟨b, off, hpa, hrg⟩ := HSR.out.1 (by omega)
   obtain ⟨pa, pc, ha, hc⟩ := p
   dsimp only at *
   subst hpa
   have hri := (flatL_range s.pn (pf_len s.P s.pn)).1 hrg i hlt
   have S0 : wr.drew.cell? ⟨w.heap.size, 3, none⟩ = some (.slice (some ⟨b, off, none⟩) s.pn pc) ∧ wr.drew.cell? ⟨b, off + i * 36, none⟩ = some (.int .i64 (s.P i).id) ∧ wr.drew.cell? ⟨w.heap.size + 1, 0, none⟩ = some (.int .i64 y.id) := ⟨(five_of HX.out.1).c3, (py_cells (range_below hri HX.out.2.2.2)).1, (pbox_of HX.out.2.1).c0⟩
   clear hrg hri
   go_upto_region 17 with fail
   refine wp_region_noPanic ?_
   refine wp_region_held_drew (S := fun u => u.cell? ⟨w.heap.size, 3, none⟩ = some (.slice (some ⟨b, off, none⟩) s.pn pc) ∧ u.cell? ⟨b, off + i * 36, none⟩ = some (.int .i64 (s.P i).id) ∧ u.cell? ⟨w.heap.size + 1, 0, none⟩ = some (.int .i64 y.id)) (by kernel_rfl) S0 (fun hHeld => ?_)
   by_cases hid : (s.P i).id < y.id
   ·have HN : Hid (∀ j, j < i + 1 → (s.P j).id < y.id) := fun j hj => by
     by_cases e : j = i
     ·subst e; exact hid
     ·exact HLO.out j (by omega)
    have HX1 : Hid (wr.drew.heap[w.heap.size]? = some (.cells #[.int .i64 s.nu, .int .i64 s.a, .int .i64 s.b, .slice (some ⟨b, off, none⟩) s.pn pc, .slice ha s.hn hc] 26 (0, 0)) ∧ wr.drew.heap[w.heap.size + 1]? = some (.cells (pyv y) 30 (0, 0)) ∧ wr.drew.heap[w.heap.size + 2]? = some (.cells #[.int .i64 0, .int .i64 0, .int .i64 0, .slice none 0 0, .slice none 0 0] 26 (0, 0)) ∧ Below w.heap.size w wr.drew) := ⟨HX.out.1, HX.out.2.1, HX.out.2.2.1, HX.out.2.2.2.drew⟩
    generalize wr.drew = Wd at *
    refine wpV 0 ⟨some 63, .move (.tmp 7), 3, _, _, none⟩ rfl ?_
    try simp only [Act.put, sqA, sqB, sqC]
    refine wpV 1 ⟨some 64, .fieldAddr 26 (.tmp 2) 2, 0, _, _, none⟩ rfl ?_
    try simp only [Act.put, sqA, sqB, sqC]
    refine wpV 2 ⟨some 65, .load 23 (.tmp 64), 23, _, _, none⟩ rfl ?_
    try simp only [Act.put, sqA, sqB, sqC]
    refine wpV 3 ⟨some 66, .call ⟨.builtin .len, #[.tmp 65], #[23]⟩, 3, _, _, none⟩ rfl ?_
    try simp only [Act.put, sqA, sqB, sqC]
    refine wpV 4 ⟨some 67, .binOp .lss 3 (.tmp 63) (.tmp 66) 3, 4, _, _, none⟩ rfl ?_
    try simp only [Act.put, sqA, sqB, sqC]
    refine wpV 5 ⟨some 68, .move (.tmp 67), 4, _, _, none⟩ rfl ?_
    try simp only [Act.put, sqA, sqB, sqC]
    refine wpV 6 ⟨some 69, .fieldAddr 26 (.tmp 2) 2, 0, _, _, some (5, true)⟩ rfl ?_
    try simp only [Act.put, sqA, sqB, sqC]
    refine wpV 7 ⟨some 70, .load 23 (.tmp 69), 23, _, _, some (5, true)⟩ rfl ?_
    try simp only [Act.put, sqA, sqB, sqC]
    refine wpV 8 ⟨some 71, .move (.tmp 7), 3, _, _, some (5, true)⟩ rfl ?_
    try simp only [Act.put, sqA, sqB, sqC]
    refine wpV 9 ⟨some 72, .indexAddr 23 (.tmp 70) (.tmp 71), 0, _, _, some (5, true)⟩ rfl ?_
    try simp only [Act.put, sqA, sqB, sqC]
    refine wpV 10 ⟨some 73, .fieldAddr 30 (.tmp 72) 0, 0, _, _, some (5, true)⟩ rfl ?_
    try simp only [Act.put, sqA, sqB, sqC]
    refine wpV 11 ⟨some 74, .load 3 (.tmp 73), 3, _, _, some (5, true)⟩ rfl ?_
    try simp only [Act.put, sqA, sqB, sqC]
    refine wpV 12 ⟨some 75, .fieldAddr 30 (.tmp 3) 0, 0, _, _, some (5, true)⟩ rfl ?_
    try simp only [Act.put, sqA, sqB, sqC]
    refine wpV 13 ⟨some 76, .load 3 (.tmp 75), 3, _, _, some (5, true)⟩ rfl ?_
    try simp only [Act.put, sqA, sqB, sqC]
    refine wpV 14 ⟨some 77, .binOp .lss 3 (.tmp 74) (.tmp 76) 3, 4, _, _, some (5, true)⟩ rfl ?_
    try simp only [Act.put, sqA, sqB, sqC]
    refine wpV 15 ⟨some 78, .pick (.tmp 68) (.tmp 77) (.const (.bool false)), 4, _, _, none⟩ rfl ?_
    try simp only [Act.put, sqA, sqB, sqC]
    refine wpAnyH_done (by kernel_rfl) (NoPanic.normal ?_) _
    try simp only [Act.put, sqA, sqB, sqC]
    clear hHeld S0 hid HX
    go_wp2
    exact ⟨⟨i + 1, by omega, by go_num, HN.out, HX1.out⟩, by simp [intOf]; omega⟩
   ·have HHI : Hid (i < s.pn → y.id ≤ (s.P i).id) := fun _ => Int.not_lt.1 hid
    refine wpV 0 ⟨some 63, .move (.tmp 7), 3, _, _, none⟩ rfl ?_
    try simp only [Act.put, sqA, sqB, sqC]
    refine wpV 1 ⟨some 64, .fieldAddr 26 (.tmp 2) 2, 0, _, _, none⟩ rfl ?_
    try simp only [Act.put, sqA, sqB, sqC]
    refine wpV 2 ⟨some 65, .load 23 (.tmp 64), 23, _, _, none⟩ rfl ?_
    try simp only [Act.put, sqA, sqB, sqC]
    refine wpV 3 ⟨some 66, .call ⟨.builtin .len, #[.tmp 65], #[23]⟩, 3, _, _, none⟩ rfl ?_
    try simp only [Act.put, sqA, sqB, sqC]
    refine wpV 4 ⟨some 67, .binOp .lss 3 (.tmp 63) (.tmp 66) 3, 4, _, _, none⟩ rfl ?_
    try simp only [Act.put, sqA, sqB, sqC]
    refine wpV 5 ⟨some 68, .move (.tmp 67), 4, _, _, none⟩ rfl ?_
    try simp only [Act.put, sqA, sqB, sqC]
    refine wpV 6 ⟨some 69, .fieldAddr 26 (.tmp 2) 2, 0, _, _, some (5, true)⟩ rfl ?_
    try simp only [Act.put, sqA, sqB, sqC]
    refine wpV 7 ⟨some 70, .load 23 (.tmp 69), 23, _, _, some (5, true)⟩ rfl ?_
    try simp only [Act.put, sqA, sqB, sqC]
    refine wpV 8 ⟨some 71, .move (.tmp 7), 3, _, _, some (5, true)⟩ rfl ?_
    try simp only [Act.put, sqA, sqB, sqC]
    refine wpV 9 ⟨some 72, .indexAddr 23 (.tmp 70) (.tmp 71), 0, _, _, some (5, true)⟩ rfl ?_
    try simp only [Act.put, sqA, sqB, sqC]
    refine wpV 10 ⟨some 73, .fieldAddr 30 (.tmp 72) 0, 0, _, _, some (5, true)⟩ rfl ?_
    try simp only [Act.put, sqA, sqB, sqC]
    refine wpV 11 ⟨some 74, .load 3 (.tmp 73), 3, _, _, some (5, true)⟩ rfl ?_
    try simp only [Act.put, sqA, sqB, sqC]
    refine wpV 12 ⟨some 75, .fieldAddr 30 (.tmp 3) 0, 0, _, _, some (5, true)⟩ rfl ?_
    try simp only [Act.put, sqA, sqB, sqC]
    refine wpV 13 ⟨some 76, .load 3 (.tmp 75), 3, _, _, some (5, true)⟩ rfl ?_
    try simp only [Act.put, sqA, sqB, sqC]
    refine wpV 14 ⟨some 77, .binOp .lss 3 (.tmp 74) (.tmp 76) 3, 4, _, _, some (5, true)⟩ rfl ?_
    try simp only [Act.put, sqA, sqB, sqC]
    refine wpV 15 ⟨some 78, .pick (.tmp 68) (.tmp 77) (.const (.bool false)), 4, _, _, none⟩ rfl ?_
    try simp only [Act.put, sqA, sqB, sqC]
    refine wpAnyH_done (by kernel_rfl) (NoPanic.normal ?_) _
    try simp only [Act.put, sqA, sqB, sqC]
    have HX1 : Hid (wr.drew.drew.heap[w.heap.size]? = some (.cells #[.int .i64 s.nu, .int .i64 s.a, .int .i64 s.b, .slice (some ⟨b, off, none⟩) s.pn pc, .slice ha s.hn hc] 26 (0, 0)) ∧ wr.drew.drew.heap[w.heap.size + 1]? = some (.cells (pyv y) 30 (0, 0)) ∧ wr.drew.drew.heap[w.heap.size + 2]? = some (.cells #[.int .i64 0, .int .i64 0, .int .i64 0, .slice none 0 0, .slice none 0 0] 26 (0, 0)) ∧ Below w.heap.size w wr.drew.drew) := ⟨HX.out.1, HX.out.2.1, HX.out.2.2.1, HX.out.2.2.2.drew.drew⟩
    clear hHeld S0 hid hlt hlt'
    generalize wr.drew = Wy at *
    go_wp2_with fail
    generalize hWd : Wy.drew = Wd at HX1
    have HXr : Hid (Wd.heap[w.heap.size]? = some (.cells #[.int .i64 s.nu, .int .i64 s.a, .int .i64 s.b, .slice (some ⟨b, off, none⟩) s.pn pc, .slice ha s.hn hc] 26 (0, 0)) ∧ Wd.heap[w.heap.size + 1]? = some (.cells (pyv y) 30 (0, 0)) ∧ Wd.heap[w.heap.size + 2]? = some (.cells #[.int .i64 0, .int .i64 0, .int .i64 0, .slice none 0 0, .slice none 0 0] 26 (0, 0)) ∧ Below w.heap.size w Wd) := HX1.out
    have HWS : Hid (w.heap.size + 2 < Wd.heap.size) := lt_of_block HX1.out.2.2.1
    clear HX1 HX
    have HB0 : Hid (Below w.heap.size w Wd) := HXr.out.2.2.2
    have SR : Hid (∀ u, Below Wd.heap.size Wd u → u.rangeAt (w.heap.size + 1) 0 (pyl y) ∧ u.cell? ⟨w.heap.size, 3, none⟩ = some (.slice (some ⟨b, off, none⟩) s.pn pc)) := fun u hb => ⟨range_below (pyv_range HXr.out.2.1) hb, by rw [hb.cell (p := ⟨w.heap.size, 3, none⟩) (lt_of_block HXr.out.1)]; exact (five_of HXr.out.1).c3⟩
    have S0 := SR.out Wd (Below.refl _ _)
    refine wp_region_noPanic ?_
    refine wp_region_held_drew (S := fun u => u.rangeAt (w.heap.size + 1) 0 (pyl y) ∧ u.cell? ⟨w.heap.size, 3, none⟩ = some (.slice (some ⟨b, off, none⟩) s.pn pc)) (by kernel_rfl) (by rw [hWd]; exact S0) (fun hHeld => ?_)
    rw [hWd] at hHeld ⊢
    clear hWd
    obtain ⟨ax, hax⟩ : ∃ ax : Option Addr, (if pc = i then some (⟨b, off, none⟩ : Addr) else some ⟨b, off + i * 36, none⟩) = ax := ⟨_, rfl⟩
    have HAX : Hid ((if pc = i then some (⟨b, off, none⟩ : Addr) else some ⟨b, off + i * 36, none⟩) = ax) := hax
    clear hax
    refine wpV 0 ⟨some 81, .move (.tmp 6), 23, _, _, none⟩ rfl ?_
    try simp only [Act.put, sqA, sqB, sqC]
    refine wpV 1 ⟨some 82, .fieldAddr 26 (.tmp 2) 2, 0, _, _, none⟩ rfl ?_
    try simp only [Act.put, sqA, sqB, sqC]
    refine wpV 2 ⟨some 83, .load 23 (.tmp 82), 23, _, _, none⟩ rfl ?_
    try simp only [Act.put, sqA, sqB, sqC]
    refine wpV 3 ⟨some 84, .move (.tmp 7), 3, _, _, none⟩ rfl ?_
    try simp only [Act.put, sqA, sqB, sqC]
    refine wpU 4 ⟨some 85, .slice 23 (.tmp 83) none (some (.tmp 84)) none, 23, _, _, none⟩ (v := .slice (some ⟨b, off, none⟩) i pc) rfl ?_ ?_
    ·intro wz hSw; (try dsimp only at hSw); go_simp; try (intro hbad; have h1 := HCP.out; omega)
    try simp only [Act.put, sqA, sqB, sqC]
    refine wpAnyH_take (i := 6) (oi := ⟨some 87, .load 30 (.tmp 3), 30, _, _, none⟩) rfl (by kernel_rfl) (by kernel_rfl) (by kernel_rfl) (fun _ _ _ h => h) (yieldsIf_load_mid (by rfl) _ _ rfl (w.heap.size + 1) 0 rfl (pyl y) _ (fun _ h => h.1) Tryz.underlying30 rfl (szPrl _)) (by assumption) ?_
    try simp only [Act.put, sqA, sqB, sqC]
    refine wpV 9 ⟨some 90, .fieldAddr 26 (.tmp 2) 2, 0, _, _, none⟩ rfl ?_
    try simp only [Act.put, sqA, sqB, sqC]
    refine wpV 10 ⟨some 91, .load 23 (.tmp 90), 23, _, _, none⟩ rfl ?_
    try simp only [Act.put, sqA, sqB, sqC]
    refine wpV 11 ⟨some 92, .move (.tmp 7), 3, _, _, none⟩ rfl ?_
    try simp only [Act.put, sqA, sqB, sqC]
    refine wpU 12 ⟨some 93, .slice 23 (.tmp 91) (some (.tmp 92)) none none, 23, _, _, none⟩ (v := .slice ax (s.pn - i) (pc - i)) rfl ?_ ?_
    ·intro wz hSw; (try dsimp only at hSw); rw [← HAX.out]; go_simp; try (intro hbad; have h1 := HCP.out; omega)
    try simp only [Act.put, sqA, sqB, sqC]
    refine wpAnyH_ready (rs := [5, 7]) (by kernel_rfl) (by simp) ?_
    refine (AllReadyH.cons (o := ⟨some 86, .call ⟨.builtin .append, #[.tmp 81, .tmp 85], #[23, 23]⟩, 23, _, _, none⟩) rfl (fun K hK => ?_) (AllReadyH.cons (o := ⟨some 88, .buildSlice 23 1 #[(0, .tmp 87)], 23, _, _, none⟩) rfl (fun K hK => ?_) AllReadyH.nil))
    ·have HBU : Below Wd.heap.size Wd Wd := Below.refl _ _
     refine step_append_RP rfl (.tmp 81) (.tmp 85) rfl Wd.heap.size (.slice none 0 0) 0 [] (some ⟨b, off, none⟩) i pc (flatL (pf s.P) i) (by rfl) (by rfl) (World.ownsRow_nil _ _ _ _) HBU.size (SrcY.take (HSR.out.below (HB0.out.trans (HBU.mono HB0.out.size))) (pf_len _ _) HIL.out (by simp)) (flatL_length i (pf_len _ _)) (pf_one _ _) (by omega) ?_
     intro va vc V1 hown hgr
     rw [Nat.zero_add, List.nil_append] at hown
     have hb1 : Below Wd.heap.size Wd V1 := ⟨hgr.os, hgr.tape, hgr.output, hgr.size, fun k hk => hgr.block k hk (by simp [Value.ownBlock])⟩
     have HO1 : Hid (V1.ownsRow Wd.heap.size 30 36 (.slice va i vc) i (flatL (pf s.P) i)) := hown
     have HBW : Hid (Below Wd.heap.size Wd V1) := Below.transS HBU hb1
     refine hK.out _ _ (SR.out V1 HBW.out) (fun _ => ?_)
     try simp only [Act.put, sqA, sqB, sqC]
     (try rw [Nat.zero_add])
     clear hK K hown hgr
     have HBV : Hid (Below Wd.heap.size Wd V1) := HBW.out
     clear hb1
     refine wpAnyH_ready (rs := [7]) (by kernel_rfl) (by simp) ?_
     refine (AllReadyH.cons (o := ⟨some 88, .buildSlice 23 1 #[(0, .tmp 87)], 23, _, _, none⟩) rfl (fun K hK => ?_) AllReadyH.nil)
     have HBU : Below Wd.heap.size Wd V1 := HBV.out
     refine step_sliceRP rfl (.tmp 87) rfl y (by rfl) ?_
     intro q V2 hq hle hb1
     have HBW : Hid (Below Wd.heap.size Wd V2) := Below.transS HBU hb1
     have HO2 : Hid (V2.ownsRow Wd.heap.size 30 36 (.slice va i vc) i (flatL (pf s.P) i)) := own_below HO1.out hb1
     have HQ : Hid (V2.heap[q]? = some (.cells (pyv y) 30 (0, 0))) := hq
     refine hK.out _ _ (SR.out V2 HBW.out) (fun _ => ?_)
     try simp only [Act.put, sqA, sqB, sqC]
     (try rw [Nat.zero_add])
     clear hK K hq hle hb1 HO1 HBV HBU
     refine wpAnyH_ready (rs := [8]) (by kernel_rfl) (by simp) ?_
     refine (AllReadyH.cons (o := ⟨some 89, .call ⟨.builtin .append, #[.tmp 86, .tmp 88], #[23, 23]⟩, 23, _, _, none⟩) rfl (fun K hK => ?_) AllReadyH.nil)
     refine step_append_RP rfl (.tmp 86) (.tmp 88) rfl Wd.heap.size (.slice va i vc) i (flatL (pf s.P) i) (some ⟨q, 0, none⟩) 1 1 (pyl y) (by rfl) (by rfl) HO2.out HBW.out.size ⟨fun _ => ⟨q, 0, rfl, pyv_range HQ.out⟩, fun e => by cases e⟩ (pyl_length y) (pyl_one y) (by omega) ?_
     intro vb vd V3 hown hgr
     have HO3 : Hid (V3.ownsRow Wd.heap.size 30 36 (.slice vb (i + 1) vd) (i + 1) (flatL (pf s.P) i ++ pyl y)) := hown
     have HB3 : Hid (Below Wd.heap.size Wd V3) := grown_below HO2.out hgr HBW.out (Nat.le_refl _)
     refine hK.out _ _ (SR.out V3 HB3.out) (fun _ => ?_)
     clear hK K hown hgr HO2 HQ HBW
     try simp only [Act.put, sqA, sqB, sqC]
     refine wpAnyH_ready (rs := [13]) (by kernel_rfl) (by simp) ?_
     refine (AllReadyH.cons (o := ⟨some 94, .call ⟨.builtin .append, #[.tmp 89, .tmp 93], #[23, 23]⟩, 23, _, _, none⟩) rfl (fun K hK => ?_) AllReadyH.nil)
     have HBU : Below Wd.heap.size Wd V3 := HB3.out
     refine step_append_RP rfl (.tmp 89) (.tmp 93) rfl Wd.heap.size (.slice vb (i + 1) vd) (i + 1) (flatL (pf s.P) i ++ pyl y) ax (s.pn - i) (pc - i) (flatL (fun j => pf s.P (i + j)) (s.pn - i)) (by rfl) (by rfl) HO3.out HBU.size (by rw [← HAX.out]; exact SrcY.drop (HSR.out.below (HB0.out.trans (HBU.mono HB0.out.size))) (pf_len _ _) HIL.out HCP.out) (flatL_length _ (fun j hj => pyl_length _)) (fun u hu => by
      obtain ⟨j, _, hj⟩ := flatL_mem _ hu
      exact pyl_one _ u hj) (by omega) ?_
     intro vx vy V4 hown hgr
     have em : i + 1 + (s.pn - i) = s.pn + 1 := by omega
     have HB4 : Hid (Below Wd.heap.size Wd V4) := grown_below HO3.out hgr HB3.out (Nat.le_refl _)
     rw [em] at hown
     have HO4 : Hid (V4.ownsRow Wd.heap.size 30 36 (.slice vx (s.pn + 1) vy) (s.pn + 1) (flatL (pf (insY s.P i y)) (s.pn + 1))) := by
      have e0 := insF_mid (pf s.P) i (s.pn - i) (pyl y)
      rw [show i + (s.pn - i) + 1 = s.pn + 1 by omega] at e0
      show V4.ownsRow Wd.heap.size 30 36 (.slice vx (s.pn + 1) vy) (s.pn + 1) (flatL (pf (insY s.P i y)) (s.pn + 1))
      rw [insY_pf, e0, ← List.append_assoc]
      exact hown
     refine hK.out _ _ (SR.out V4 HB4.out) (fun _ => ?_)
     clear hK K hown hgr HO3 HB3 HBU
     try simp only [Act.put, sqA, sqB, sqC]
     rw [em]
     refine wpV 14 ⟨some 6, .assign (.tmp 94), 23, _, _, none⟩ rfl ?_
     try simp only [Act.put, sqA, sqB, sqC]
     refine wpAnyH_done (by kernel_rfl) (NoPanic.normal ?_) _
     try simp only [Act.put, sqA, sqB, sqC]
     clear hHeld S0 SR em
     have HX4 : Hid (V4.heap[w.heap.size]? = some (.cells #[.int .i64 s.nu, .int .i64 s.a, .int .i64 s.b, .slice (some ⟨b, off, none⟩) s.pn pc, .slice ha s.hn hc] 26 (0, 0)) ∧ V4.heap[w.heap.size + 1]? = some (.cells (pyv y) 30 (0, 0)) ∧ V4.heap[w.heap.size + 2]? = some (.cells #[.int .i64 0, .int .i64 0, .int .i64 0, .slice none 0 0, .slice none 0 0] 26 (0, 0)) ∧ Below w.heap.size w V4) := ⟨(HB4.out.block _ (lt_of_block HXr.out.1)).trans HXr.out.1, (HB4.out.block _ (lt_of_block HXr.out.2.1)).trans HXr.out.2.1, (HB4.out.block _ (lt_of_block HXr.out.2.2.1)).trans HXr.out.2.2.1, HB0.out.trans (HB4.out.mono HB0.out.size)⟩
     have HWI : Hid (Calls Tryz.prog 25 #[.agg #[.int .i64 s.nu, .int .i64 s.a, .int .i64 s.b, .slice (some ⟨b, off, none⟩) s.pn pc, .slice ha s.hn hc], .int .i64 0, .int .i64 (-y.am), .slice vx (s.pn + 1) vy, .slice ha s.hn hc] V4 fun e w' => e = .returned (.agg #[.int .i64 (s.nu + 1), .int .i64 (s.a + 0), .int .i64 (s.b + (-y.am)), .slice vx (s.pn + 1) vy, .slice ha s.hn hc]) ∧ Below V4.heap.size V4 w') := HWT.out vx (s.pn + 1) vy ha s.hn hc V4
     clear HXr HB0 HB4
     obtain ⟨c0, c1, c2, c3, c4, cf⟩ := five_of HX4.out.1
     obtain ⟨k0, k1, k2, k3, kl⟩ := pbox_of HX4.out.2.1
     rw [HFR.out] at k1
     clear k3 kl
     have en := EN.out
     go_wp2_with fail
     refine (to_1 (-y.am) V4).mono ?_
     rintro e Vw ⟨rfl, hVw⟩
     rw [hVw]
     clear hVw
     go_wp2_with fail
     refine HWI.out.mono ?_
     rintro e V6 ⟨rfl, hb6⟩
     have HX6 : Hid (V6.heap[w.heap.size + 2]? = some (.cells #[.int .i64 0, .int .i64 0, .int .i64 0, .slice none 0 0, .slice none 0 0] 26 (0, 0)) ∧ Below w.heap.size w V6) := ⟨(hb6.block _ (lt_of_block HX4.out.2.2.1)).trans HX4.out.2.2.1, HX4.out.2.2.2.trans (hb6.mono HX4.out.2.2.2.size)⟩
     have HO6 : Hid (V6.ownsRow Wd.heap.size 30 36 (.slice vx (s.pn + 1) vy) (s.pn + 1) (flatL (pf (insY s.P i y)) (s.pn + 1))) := own_below HO4.out hb6
     clear c0 c1 c2 c3 c4 cf k0 k1 k2 HWI HO4 hb6 HX4 en
     obtain ⟨d0, d1, d2, d3, d4, df⟩ := five_of HX6.out.1
     go_wp2
     refine bodyPost_ret (results_R2 Tryz.results8 _ _ (w.heap.size + 2) 26 _ _ _ _ _ (0, 0) rfl (five_all HX6.out.1)) rfl ⟨⟨i, HIL.out, HLO.out, HHI.out, ⟨vx, vy, ha, hc⟩, by rw [HSV.out]; rfl, ?_⟩, five_below HX6.out.2 (by omega)⟩
     exact HFIN.out i HIL.out vx vy _ Wd.heap.size (by have h1 := HWS.out; omega) (five_below HX6.out.2 (by omega)) (own_keep HO6.out (fun g e => five_other (by have h1 := (HO6.out.lt g e).1; have h2 := HWS.out; omega)))
    ·have HBU : Below Wd.heap.size Wd Wd := Below.refl _ _
     refine step_sliceRP rfl (.tmp 87) rfl y (by rfl) ?_
     intro q V1 hq hle hb1
     have HBW : Hid (Below Wd.heap.size Wd V1) := Below.transS HBU hb1
     have HQ1 : Hid (V1.heap[q]? = some (.cells (pyv y) 30 (0, 0))) := hq
     refine hK.out _ _ (SR.out V1 HBW.out) (fun _ => ?_)
     try simp only [Act.put, sqA, sqB, sqC]
     (try rw [Nat.zero_add])
     clear hK K hq hle
     have HBV : Hid (Below Wd.heap.size Wd V1) := HBW.out
     clear hb1
     refine wpAnyH_ready (rs := [5]) (by kernel_rfl) (by simp) ?_
     refine (AllReadyH.cons (o := ⟨some 86, .call ⟨.builtin .append, #[.tmp 81, .tmp 85], #[23, 23]⟩, 23, _, _, none⟩) rfl (fun K hK => ?_) AllReadyH.nil)
     have HBU : Below Wd.heap.size Wd V1 := HBV.out
     refine step_append_RP rfl (.tmp 81) (.tmp 85) rfl Wd.heap.size (.slice none 0 0) 0 [] (some ⟨b, off, none⟩) i pc (flatL (pf s.P) i) (by rfl) (by rfl) (World.ownsRow_nil _ _ _ _) HBU.size (SrcY.take (HSR.out.below (HB0.out.trans (HBU.mono HB0.out.size))) (pf_len _ _) HIL.out (by simp)) (flatL_length i (pf_len _ _)) (pf_one _ _) (by omega) ?_
     intro va vc V2 hown hgr
     rw [Nat.zero_add, List.nil_append] at hown
     have hb1 : Below V1.heap.size V1 V2 := ⟨hgr.os, hgr.tape, hgr.output, hgr.size, fun k hk => hgr.block k hk (by simp [Value.ownBlock])⟩
     have HO1 : Hid (V2.ownsRow Wd.heap.size 30 36 (.slice va i vc) i (flatL (pf s.P) i)) := hown
     have HBW : Hid (Below Wd.heap.size Wd V2) := Below.transS HBU hb1
     have HQ : Hid (V2.heap[q]? = some (.cells (pyv y) 30 (0, 0))) := (hb1.block _ (lt_of_block HQ1.out)).trans HQ1.out
     have HO2 : Hid (V2.ownsRow Wd.heap.size 30 36 (.slice va i vc) i (flatL (pf s.P) i)) := HO1.out
     refine hK.out _ _ (SR.out V2 HBW.out) (fun _ => ?_)
     try simp only [Act.put, sqA, sqB, sqC]
     (try rw [Nat.zero_add])
     clear hK K hown hgr hb1 HQ1 HO1 HBV HBU
     refine wpAnyH_ready (rs := [8]) (by kernel_rfl) (by simp) ?_
     refine (AllReadyH.cons (o := ⟨some 89, .call ⟨.builtin .append, #[.tmp 86, .tmp 88], #[23, 23]⟩, 23, _, _, none⟩) rfl (fun K hK => ?_) AllReadyH.nil)
     refine step_append_RP rfl (.tmp 86) (.tmp 88) rfl Wd.heap.size (.slice va i vc) i (flatL (pf s.P) i) (some ⟨q, 0, none⟩) 1 1 (pyl y) (by rfl) (by rfl) HO2.out HBW.out.size ⟨fun _ => ⟨q, 0, rfl, pyv_range HQ.out⟩, fun e => by cases e⟩ (pyl_length y) (pyl_one y) (by omega) ?_
     intro vb vd V3 hown hgr
     have HO3 : Hid (V3.ownsRow Wd.heap.size 30 36 (.slice vb (i + 1) vd) (i + 1) (flatL (pf s.P) i ++ pyl y)) := hown
     have HB3 : Hid (Below Wd.heap.size Wd V3) := grown_below HO2.out hgr HBW.out (Nat.le_refl _)
     refine hK.out _ _ (SR.out V3 HB3.out) (fun _ => ?_)
     clear hK K hown hgr HO2 HQ HBW
     try simp only [Act.put, sqA, sqB, sqC]
     refine wpAnyH_ready (rs := [13]) (by kernel_rfl) (by simp) ?_
     refine (AllReadyH.cons (o := ⟨some 94, .call ⟨.builtin .append, #[.tmp 89, .tmp 93], #[23, 23]⟩, 23, _, _, none⟩) rfl (fun K hK => ?_) AllReadyH.nil)
     have HBU : Below Wd.heap.size Wd V3 := HB3.out
     refine step_append_RP rfl (.tmp 89) (.tmp 93) rfl Wd.heap.size (.slice vb (i + 1) vd) (i + 1) (flatL (pf s.P) i ++ pyl y) ax (s.pn - i) (pc - i) (flatL (fun j => pf s.P (i + j)) (s.pn - i)) (by rfl) (by rfl) HO3.out HBU.size (by rw [← HAX.out]; exact SrcY.drop (HSR.out.below (HB0.out.trans (HBU.mono HB0.out.size))) (pf_len _ _) HIL.out HCP.out) (flatL_length _ (fun j hj => pyl_length _)) (fun u hu => by
      obtain ⟨j, _, hj⟩ := flatL_mem _ hu
      exact pyl_one _ u hj) (by omega) ?_
     intro vx vy V4 hown hgr
     have em : i + 1 + (s.pn - i) = s.pn + 1 := by omega
     have HB4 : Hid (Below Wd.heap.size Wd V4) := grown_below HO3.out hgr HB3.out (Nat.le_refl _)
     rw [em] at hown
     have HO4 : Hid (V4.ownsRow Wd.heap.size 30 36 (.slice vx (s.pn + 1) vy) (s.pn + 1) (flatL (pf (insY s.P i y)) (s.pn + 1))) := by
      have e0 := insF_mid (pf s.P) i (s.pn - i) (pyl y)
      rw [show i + (s.pn - i) + 1 = s.pn + 1 by omega] at e0
      show V4.ownsRow Wd.heap.size 30 36 (.slice vx (s.pn + 1) vy) (s.pn + 1) (flatL (pf (insY s.P i y)) (s.pn + 1))
      rw [insY_pf, e0, ← List.append_assoc]
      exact hown
     refine hK.out _ _ (SR.out V4 HB4.out) (fun _ => ?_)
     clear hK K hown hgr HO3 HB3 HBU
     try simp only [Act.put, sqA, sqB, sqC]
     rw [em]
     refine wpV 14 ⟨some 6, .assign (.tmp 94), 23, _, _, none⟩ rfl ?_
     try simp only [Act.put, sqA, sqB, sqC]
     refine wpAnyH_done (by kernel_rfl) (NoPanic.normal ?_) _
     try simp only [Act.put, sqA, sqB, sqC]
     clear hHeld S0 SR em
     have HX4 : Hid (V4.heap[w.heap.size]? = some (.cells #[.int .i64 s.nu, .int .i64 s.a, .int .i64 s.b, .slice (some ⟨b, off, none⟩) s.pn pc, .slice ha s.hn hc] 26 (0, 0)) ∧ V4.heap[w.heap.size + 1]? = some (.cells (pyv y) 30 (0, 0)) ∧ V4.heap[w.heap.size + 2]? = some (.cells #[.int .i64 0, .int .i64 0, .int .i64 0, .slice none 0 0, .slice none 0 0] 26 (0, 0)) ∧ Below w.heap.size w V4) := ⟨(HB4.out.block _ (lt_of_block HXr.out.1)).trans HXr.out.1, (HB4.out.block _ (lt_of_block HXr.out.2.1)).trans HXr.out.2.1, (HB4.out.block _ (lt_of_block HXr.out.2.2.1)).trans HXr.out.2.2.1, HB0.out.trans (HB4.out.mono HB0.out.size)⟩
     have HWI : Hid (Calls Tryz.prog 25 #[.agg #[.int .i64 s.nu, .int .i64 s.a, .int .i64 s.b, .slice (some ⟨b, off, none⟩) s.pn pc, .slice ha s.hn hc], .int .i64 0, .int .i64 (-y.am), .slice vx (s.pn + 1) vy, .slice ha s.hn hc] V4 fun e w' => e = .returned (.agg #[.int .i64 (s.nu + 1), .int .i64 (s.a + 0), .int .i64 (s.b + (-y.am)), .slice vx (s.pn + 1) vy, .slice ha s.hn hc]) ∧ Below V4.heap.size V4 w') := HWT.out vx (s.pn + 1) vy ha s.hn hc V4
     clear HXr HB0 HB4
     obtain ⟨c0, c1, c2, c3, c4, cf⟩ := five_of HX4.out.1
     obtain ⟨k0, k1, k2, k3, kl⟩ := pbox_of HX4.out.2.1
     rw [HFR.out] at k1
     clear k3 kl
     have en := EN.out
     go_wp2_with fail
     refine (to_1 (-y.am) V4).mono ?_
     rintro e Vw ⟨rfl, hVw⟩
     rw [hVw]
     clear hVw
     go_wp2_with fail
     refine HWI.out.mono ?_
     rintro e V6 ⟨rfl, hb6⟩
     have HX6 : Hid (V6.heap[w.heap.size + 2]? = some (.cells #[.int .i64 0, .int .i64 0, .int .i64 0, .slice none 0 0, .slice none 0 0] 26 (0, 0)) ∧ Below w.heap.size w V6) := ⟨(hb6.block _ (lt_of_block HX4.out.2.2.1)).trans HX4.out.2.2.1, HX4.out.2.2.2.trans (hb6.mono HX4.out.2.2.2.size)⟩
     have HO6 : Hid (V6.ownsRow Wd.heap.size 30 36 (.slice vx (s.pn + 1) vy) (s.pn + 1) (flatL (pf (insY s.P i y)) (s.pn + 1))) := own_below HO4.out hb6
     clear c0 c1 c2 c3 c4 cf k0 k1 k2 HWI HO4 hb6 HX4 en
     obtain ⟨d0, d1, d2, d3, d4, df⟩ := five_of HX6.out.1
     go_wp2
     refine bodyPost_ret (results_R2 Tryz.results8 _ _ (w.heap.size + 2) 26 _ _ _ _ _ (0, 0) rfl (five_all HX6.out.1)) rfl ⟨⟨i, HIL.out, HLO.out, HHI.out, ⟨vx, vy, ha, hc⟩, by rw [HSV.out]; rfl, ?_⟩, five_below HX6.out.2 (by omega)⟩
     exact HFIN.out i HIL.out vx vy _ Wd.heap.size (by have h1 := HWS.out; omega) (five_below HX6.out.2 (by omega)) (own_keep HO6.out (fun g e => five_other (by have h1 := (HO6.out.lt g e).1; have h2 := HWS.out; omega)))
  ·have hin : i = s.pn := by omega
   have hnn : ¬ ((i : Int) < s.pn) := by omega
   have HHI : Hid (i < s.pn → y.id ≤ (s.P i).id) := fun h => absurd h hlt
   obtain ⟨pa, pc, ha, hc⟩ := p
   cases pa with
   | none =>
    obtain ⟨hn0, hc0⟩ := HKP.out.2.2 rfl
    dsimp only at hc0
    subst hc0
    obtain rfl : i = 0 := by omega
    clear hin
    dsimp only at *
    have S0 : wr.drew.cell? ⟨w.heap.size, 3, none⟩ = some (.slice none s.pn 0) := (five_of HX.out.1).c3
    go_upto_region 17 with fail
    refine wp_region_noPanic ?_
    refine wp_region_held_drew (S := fun u => u.cell? ⟨w.heap.size, 3, none⟩ = some (.slice none s.pn 0)) (by kernel_rfl) S0 (fun hHeld => ?_)
    refine wpV 0 ⟨some 63, .move (.tmp 7), 3, _, _, none⟩ rfl ?_
    try simp only [Act.put, sqA, sqB, sqC]
    refine wpV 1 ⟨some 64, .fieldAddr 26 (.tmp 2) 2, 0, _, _, none⟩ rfl ?_
    try simp only [Act.put, sqA, sqB, sqC]
    refine wpV 2 ⟨some 65, .load 23 (.tmp 64), 23, _, _, none⟩ rfl ?_
    try simp only [Act.put, sqA, sqB, sqC]
    refine wpV 3 ⟨some 66, .call ⟨.builtin .len, #[.tmp 65], #[23]⟩, 3, _, _, none⟩ rfl ?_
    try simp only [Act.put, sqA, sqB, sqC]
    refine wpV 4 ⟨some 67, .binOp .lss 3 (.tmp 63) (.tmp 66) 3, 4, _, _, none⟩ rfl ?_
    try simp only [Act.put, sqA, sqB, sqC]
    refine wpV 5 ⟨some 68, .move (.tmp 67), 4, _, _, none⟩ rfl ?_
    try simp only [Act.put, sqA, sqB, sqC]
    refine wpX 6 ⟨some 69, .fieldAddr 26 (.tmp 2) 2, 0, _, _, some (5, true)⟩ rfl ?_
    try simp only [Act.put, sqA, sqB, sqC]
    refine wpX 7 ⟨some 70, .load 23 (.tmp 69), 23, _, _, some (5, true)⟩ rfl ?_
    try simp only [Act.put, sqA, sqB, sqC]
    refine wpX 8 ⟨some 71, .move (.tmp 7), 3, _, _, some (5, true)⟩ rfl ?_
    try simp only [Act.put, sqA, sqB, sqC]
    refine wpX 9 ⟨some 72, .indexAddr 23 (.tmp 70) (.tmp 71), 0, _, _, some (5, true)⟩ rfl ?_
    try simp only [Act.put, sqA, sqB, sqC]
    refine wpX 10 ⟨some 73, .fieldAddr 30 (.tmp 72) 0, 0, _, _, some (5, true)⟩ rfl ?_
    try simp only [Act.put, sqA, sqB, sqC]
    refine wpX 11 ⟨some 74, .load 3 (.tmp 73), 3, _, _, some (5, true)⟩ rfl ?_
    try simp only [Act.put, sqA, sqB, sqC]
    refine wpX 12 ⟨some 75, .fieldAddr 30 (.tmp 3) 0, 0, _, _, some (5, true)⟩ rfl ?_
    try simp only [Act.put, sqA, sqB, sqC]
    refine wpX 13 ⟨some 76, .load 3 (.tmp 75), 3, _, _, some (5, true)⟩ rfl ?_
    try simp only [Act.put, sqA, sqB, sqC]
    refine wpX 14 ⟨some 77, .binOp .lss 3 (.tmp 74) (.tmp 76) 3, 4, _, _, some (5, true)⟩ rfl ?_
    try simp only [Act.put, sqA, sqB, sqC]
    refine wpV 15 ⟨some 78, .pick (.tmp 68) (.tmp 77) (.const (.bool false)), 4, _, _, none⟩ rfl ?_
    try simp only [Act.put, sqA, sqB, sqC]
    refine wpAnyH_done (by kernel_rfl) (NoPanic.normal ?_) _
    try simp only [Act.put, sqA, sqB, sqC]
    have HX1 : Hid (wr.drew.drew.heap[w.heap.size]? = some (.cells #[.int .i64 s.nu, .int .i64 s.a, .int .i64 s.b, .slice none s.pn 0, .slice ha s.hn hc] 26 (0, 0)) ∧ wr.drew.drew.heap[w.heap.size + 1]? = some (.cells (pyv y) 30 (0, 0)) ∧ wr.drew.drew.heap[w.heap.size + 2]? = some (.cells #[.int .i64 0, .int .i64 0, .int .i64 0, .slice none 0 0, .slice none 0 0] 26 (0, 0)) ∧ Below w.heap.size w wr.drew.drew) := ⟨HX.out.1, HX.out.2.1, HX.out.2.2.1, HX.out.2.2.2.drew.drew⟩
    have HN0 : Hid (s.pn = 0) := hn0
    clear hHeld S0 hnn hn0
    generalize wr.drew = Wy at *
    go_wp2_with fail
    generalize hWd : Wy.drew = Wd at HX1
    have HXr : Hid (Wd.heap[w.heap.size]? = some (.cells #[.int .i64 s.nu, .int .i64 s.a, .int .i64 s.b, .slice none s.pn 0, .slice ha s.hn hc] 26 (0, 0)) ∧ Wd.heap[w.heap.size + 1]? = some (.cells (pyv y) 30 (0, 0)) ∧ Wd.heap[w.heap.size + 2]? = some (.cells #[.int .i64 0, .int .i64 0, .int .i64 0, .slice none 0 0, .slice none 0 0] 26 (0, 0)) ∧ Below w.heap.size w Wd) := HX1.out
    have HWS : Hid (w.heap.size + 2 < Wd.heap.size) := lt_of_block HX1.out.2.2.1
    clear HX1 HX
    have HB0 : Hid (Below w.heap.size w Wd) := HXr.out.2.2.2
    have SR : Hid (∀ u, Below Wd.heap.size Wd u → u.rangeAt (w.heap.size + 1) 0 (pyl y) ∧ u.cell? ⟨w.heap.size, 3, none⟩ = some (.slice none s.pn 0)) := fun u hb => ⟨range_below (pyv_range HXr.out.2.1) hb, by rw [hb.cell (p := ⟨w.heap.size, 3, none⟩) (lt_of_block HXr.out.1)]; exact (five_of HXr.out.1).c3⟩
    have S0 := SR.out Wd (Below.refl _ _)
    refine wp_region_noPanic ?_
    refine wp_region_held_drew (S := fun u => u.rangeAt (w.heap.size + 1) 0 (pyl y) ∧ u.cell? ⟨w.heap.size, 3, none⟩ = some (.slice none s.pn 0)) (by kernel_rfl) (by rw [hWd]; exact S0) (fun hHeld => ?_)
    rw [hWd] at hHeld ⊢
    clear hWd
    refine wpV 0 ⟨some 81, .move (.tmp 6), 23, _, _, none⟩ rfl ?_
    try simp only [Act.put, sqA, sqB, sqC]
    refine wpV 1 ⟨some 82, .fieldAddr 26 (.tmp 2) 2, 0, _, _, none⟩ rfl ?_
    try simp only [Act.put, sqA, sqB, sqC]
    refine wpV 2 ⟨some 83, .load 23 (.tmp 82), 23, _, _, none⟩ rfl ?_
    try simp only [Act.put, sqA, sqB, sqC]
    refine wpV 3 ⟨some 84, .move (.tmp 7), 3, _, _, none⟩ rfl ?_
    try simp only [Act.put, sqA, sqB, sqC]
    refine wpU 4 ⟨some 85, .slice 23 (.tmp 83) none (some (.tmp 84)) none, 23, _, _, none⟩ (v := .slice none 0 0) rfl ?_ ?_
    ·intro wz hSw; (try dsimp only at hSw); go_simp; try (intro hbad; have h1 := HCP.out; omega)
    try simp only [Act.put, sqA, sqB, sqC]
    refine wpAnyH_take (i := 6) (oi := ⟨some 87, .load 30 (.tmp 3), 30, _, _, none⟩) rfl (by kernel_rfl) (by kernel_rfl) (by kernel_rfl) (fun _ _ _ h => h) (yieldsIf_load_mid (by rfl) _ _ rfl (w.heap.size + 1) 0 rfl (pyl y) _ (fun _ h => h.1) Tryz.underlying30 rfl (szPrl _)) (by assumption) ?_
    try simp only [Act.put, sqA, sqB, sqC]
    refine wpV 9 ⟨some 90, .fieldAddr 26 (.tmp 2) 2, 0, _, _, none⟩ rfl ?_
    try simp only [Act.put, sqA, sqB, sqC]
    refine wpV 10 ⟨some 91, .load 23 (.tmp 90), 23, _, _, none⟩ rfl ?_
    try simp only [Act.put, sqA, sqB, sqC]
    refine wpV 11 ⟨some 92, .move (.tmp 7), 3, _, _, none⟩ rfl ?_
    try simp only [Act.put, sqA, sqB, sqC]
    refine wpU 12 ⟨some 93, .slice 23 (.tmp 91) (some (.tmp 92)) none none, 23, _, _, none⟩ (v := .slice none s.pn 0) rfl ?_ ?_
    ·intro wz hSw; (try dsimp only at hSw); go_simp; try (intro hbad; have h1 := HCP.out; omega)
    try simp only [Act.put, sqA, sqB, sqC]
    refine wpAnyH_ready (rs := [5, 7]) (by kernel_rfl) (by simp) ?_
    refine (AllReadyH.cons (o := ⟨some 86, .call ⟨.builtin .append, #[.tmp 81, .tmp 85], #[23, 23]⟩, 23, _, _, none⟩) rfl (fun K hK => ?_) (AllReadyH.cons (o := ⟨some 88, .buildSlice 23 1 #[(0, .tmp 87)], 23, _, _, none⟩) rfl (fun K hK => ?_) AllReadyH.nil))
    ·have HBU : Below Wd.heap.size Wd Wd := Below.refl _ _
     refine step_append_RP rfl (.tmp 81) (.tmp 85) rfl Wd.heap.size (.slice none 0 0) 0 [] none 0 0 (flatL (pf s.P) 0) (by rfl) (by rfl) (World.ownsRow_nil _ _ _ _) HBU.size ⟨fun h => absurd h (Nat.lt_irrefl _), fun _ => ⟨rfl, rfl⟩⟩ (flatL_length 0 (pf_len _ _)) (pf_one _ _) (by omega) ?_
     intro va vc V1 hown hgr
     rw [Nat.zero_add, List.nil_append] at hown
     have hb1 : Below Wd.heap.size Wd V1 := ⟨hgr.os, hgr.tape, hgr.output, hgr.size, fun k hk => hgr.block k hk (by simp [Value.ownBlock])⟩
     have HO1 : Hid (V1.ownsRow Wd.heap.size 30 36 (.slice va 0 vc) 0 (flatL (pf s.P) 0)) := hown
     have HBW : Hid (Below Wd.heap.size Wd V1) := Below.transS HBU hb1
     refine hK.out _ _ (SR.out V1 HBW.out) (fun _ => ?_)
     try simp only [Act.put, sqA, sqB, sqC]
     (try rw [Nat.zero_add])
     clear hK K hown hgr
     have HBV : Hid (Below Wd.heap.size Wd V1) := HBW.out
     clear hb1
     refine wpAnyH_ready (rs := [7]) (by kernel_rfl) (by simp) ?_
     refine (AllReadyH.cons (o := ⟨some 88, .buildSlice 23 1 #[(0, .tmp 87)], 23, _, _, none⟩) rfl (fun K hK => ?_) AllReadyH.nil)
     have HBU : Below Wd.heap.size Wd V1 := HBV.out
     refine step_sliceRP rfl (.tmp 87) rfl y (by rfl) ?_
     intro q V2 hq hle hb1
     have HBW : Hid (Below Wd.heap.size Wd V2) := Below.transS HBU hb1
     have HO2 : Hid (V2.ownsRow Wd.heap.size 30 36 (.slice va 0 vc) 0 (flatL (pf s.P) 0)) := own_below HO1.out hb1
     have HQ : Hid (V2.heap[q]? = some (.cells (pyv y) 30 (0, 0))) := hq
     refine hK.out _ _ (SR.out V2 HBW.out) (fun _ => ?_)
     try simp only [Act.put, sqA, sqB, sqC]
     (try rw [Nat.zero_add])
     clear hK K hq hle hb1 HO1 HBV HBU
     refine wpAnyH_ready (rs := [8]) (by kernel_rfl) (by simp) ?_
     refine (AllReadyH.cons (o := ⟨some 89, .call ⟨.builtin .append, #[.tmp 86, .tmp 88], #[23, 23]⟩, 23, _, _, none⟩) rfl (fun K hK => ?_) AllReadyH.nil)
     refine step_append_RP rfl (.tmp 86) (.tmp 88) rfl Wd.heap.size (.slice va 0 vc) 0 (flatL (pf s.P) 0) (some ⟨q, 0, none⟩) 1 1 (pyl y) (by rfl) (by rfl) HO2.out HBW.out.size ⟨fun _ => ⟨q, 0, rfl, pyv_range HQ.out⟩, fun e => by cases e⟩ (pyl_length y) (pyl_one y) (by omega) ?_
     intro vb vd V3 hown hgr
     have HO3 : Hid (V3.ownsRow Wd.heap.size 30 36 (.slice vb (0 + 1) vd) (0 + 1) (flatL (pf s.P) 0 ++ pyl y)) := hown
     have HB3 : Hid (Below Wd.heap.size Wd V3) := grown_below HO2.out hgr HBW.out (Nat.le_refl _)
     refine hK.out _ _ (SR.out V3 HB3.out) (fun _ => ?_)
     clear hK K hown hgr HO2 HQ HBW
     try simp only [Act.put, sqA, sqB, sqC]
     refine wpAnyH_ready (rs := [13]) (by kernel_rfl) (by simp) ?_
     refine (AllReadyH.cons (o := ⟨some 94, .call ⟨.builtin .append, #[.tmp 89, .tmp 93], #[23, 23]⟩, 23, _, _, none⟩) rfl (fun K hK => ?_) AllReadyH.nil)
     have HBU : Below Wd.heap.size Wd V3 := HB3.out
     refine step_append_RP rfl (.tmp 89) (.tmp 93) rfl Wd.heap.size (.slice vb (0 + 1) vd) (0 + 1) (flatL (pf s.P) 0 ++ pyl y) none (s.pn) (0) (flatL (fun j => pf s.P (0 + j)) (s.pn)) (by rfl) (by rfl) HO3.out HBU.size ⟨fun h => absurd h (by have := HN0.out; omega), fun _ => ⟨HN0.out, rfl⟩⟩ (flatL_length _ (fun j hj => pyl_length _)) (fun u hu => by
      obtain ⟨j, _, hj⟩ := flatL_mem _ hu
      exact pyl_one _ u hj) (by omega) ?_
     intro vx vy V4 hown hgr
     have em : 0 + 1 + (s.pn) = s.pn + 1 := by omega
     have HB4 : Hid (Below Wd.heap.size Wd V4) := grown_below HO3.out hgr HB3.out (Nat.le_refl _)
     rw [em] at hown
     have HO4 : Hid (V4.ownsRow Wd.heap.size 30 36 (.slice vx (s.pn + 1) vy) (s.pn + 1) (flatL (pf (insY s.P 0 y)) (s.pn + 1))) := by
      have e0 := insF_mid (pf s.P) 0 (s.pn) (pyl y)
      rw [show 0 + (s.pn) + 1 = s.pn + 1 by omega] at e0
      show V4.ownsRow Wd.heap.size 30 36 (.slice vx (s.pn + 1) vy) (s.pn + 1) (flatL (pf (insY s.P 0 y)) (s.pn + 1))
      rw [insY_pf, e0, ← List.append_assoc]
      exact hown
     refine hK.out _ _ (SR.out V4 HB4.out) (fun _ => ?_)
     clear hK K hown hgr HO3 HB3 HBU
     try simp only [Act.put, sqA, sqB, sqC]
     rw [em]
     refine wpV 14 ⟨some 6, .assign (.tmp 94), 23, _, _, none⟩ rfl ?_
     try simp only [Act.put, sqA, sqB, sqC]
     refine wpAnyH_done (by kernel_rfl) (NoPanic.normal ?_) _
     try simp only [Act.put, sqA, sqB, sqC]
     clear hHeld S0 SR em
     have HX4 : Hid (V4.heap[w.heap.size]? = some (.cells #[.int .i64 s.nu, .int .i64 s.a, .int .i64 s.b, .slice none s.pn 0, .slice ha s.hn hc] 26 (0, 0)) ∧ V4.heap[w.heap.size + 1]? = some (.cells (pyv y) 30 (0, 0)) ∧ V4.heap[w.heap.size + 2]? = some (.cells #[.int .i64 0, .int .i64 0, .int .i64 0, .slice none 0 0, .slice none 0 0] 26 (0, 0)) ∧ Below w.heap.size w V4) := ⟨(HB4.out.block _ (lt_of_block HXr.out.1)).trans HXr.out.1, (HB4.out.block _ (lt_of_block HXr.out.2.1)).trans HXr.out.2.1, (HB4.out.block _ (lt_of_block HXr.out.2.2.1)).trans HXr.out.2.2.1, HB0.out.trans (HB4.out.mono HB0.out.size)⟩
     have HWI : Hid (Calls Tryz.prog 25 #[.agg #[.int .i64 s.nu, .int .i64 s.a, .int .i64 s.b, .slice none s.pn 0, .slice ha s.hn hc], .int .i64 0, .int .i64 (-y.am), .slice vx (s.pn + 1) vy, .slice ha s.hn hc] V4 fun e w' => e = .returned (.agg #[.int .i64 (s.nu + 1), .int .i64 (s.a + 0), .int .i64 (s.b + (-y.am)), .slice vx (s.pn + 1) vy, .slice ha s.hn hc]) ∧ Below V4.heap.size V4 w') := HWT.out vx (s.pn + 1) vy ha s.hn hc V4
     clear HXr HB0 HB4
     obtain ⟨c0, c1, c2, c3, c4, cf⟩ := five_of HX4.out.1
     obtain ⟨k0, k1, k2, k3, kl⟩ := pbox_of HX4.out.2.1
     rw [HFR.out] at k1
     clear k3 kl
     have en := EN.out
     go_wp2_with fail
     refine (to_1 (-y.am) V4).mono ?_
     rintro e Vw ⟨rfl, hVw⟩
     rw [hVw]
     clear hVw
     go_wp2_with fail
     refine HWI.out.mono ?_
     rintro e V6 ⟨rfl, hb6⟩
     have HX6 : Hid (V6.heap[w.heap.size + 2]? = some (.cells #[.int .i64 0, .int .i64 0, .int .i64 0, .slice none 0 0, .slice none 0 0] 26 (0, 0)) ∧ Below w.heap.size w V6) := ⟨(hb6.block _ (lt_of_block HX4.out.2.2.1)).trans HX4.out.2.2.1, HX4.out.2.2.2.trans (hb6.mono HX4.out.2.2.2.size)⟩
     have HO6 : Hid (V6.ownsRow Wd.heap.size 30 36 (.slice vx (s.pn + 1) vy) (s.pn + 1) (flatL (pf (insY s.P 0 y)) (s.pn + 1))) := own_below HO4.out hb6
     clear c0 c1 c2 c3 c4 cf k0 k1 k2 HWI HO4 hb6 HX4 en
     obtain ⟨d0, d1, d2, d3, d4, df⟩ := five_of HX6.out.1
     go_wp2
     refine bodyPost_ret (results_R2 Tryz.results8 _ _ (w.heap.size + 2) 26 _ _ _ _ _ (0, 0) rfl (five_all HX6.out.1)) rfl ⟨⟨0, HIL.out, HLO.out, HHI.out, ⟨vx, vy, ha, hc⟩, by rw [HSV.out]; rfl, ?_⟩, five_below HX6.out.2 (by omega)⟩
     exact HFIN.out 0 HIL.out vx vy _ Wd.heap.size (by have h1 := HWS.out; omega) (five_below HX6.out.2 (by omega)) (own_keep HO6.out (fun g e => five_other (by have h1 := (HO6.out.lt g e).1; have h2 := HWS.out; omega)))
    ·have HBU : Below Wd.heap.size Wd Wd := Below.refl _ _
     refine step_sliceRP rfl (.tmp 87) rfl y (by rfl) ?_
     intro q V1 hq hle hb1
     have HBW : Hid (Below Wd.heap.size Wd V1) := Below.transS HBU hb1
     have HQ1 : Hid (V1.heap[q]? = some (.cells (pyv y) 30 (0, 0))) := hq
     refine hK.out _ _ (SR.out V1 HBW.out) (fun _ => ?_)
     try simp only [Act.put, sqA, sqB, sqC]
     (try rw [Nat.zero_add])
     clear hK K hq hle
     have HBV : Hid (Below Wd.heap.size Wd V1) := HBW.out
     clear hb1
     refine wpAnyH_ready (rs := [5]) (by kernel_rfl) (by simp) ?_
     refine (AllReadyH.cons (o := ⟨some 86, .call ⟨.builtin .append, #[.tmp 81, .tmp 85], #[23, 23]⟩, 23, _, _, none⟩) rfl (fun K hK => ?_) AllReadyH.nil)
     have HBU : Below Wd.heap.size Wd V1 := HBV.out
     refine step_append_RP rfl (.tmp 81) (.tmp 85) rfl Wd.heap.size (.slice none 0 0) 0 [] none 0 0 (flatL (pf s.P) 0) (by rfl) (by rfl) (World.ownsRow_nil _ _ _ _) HBU.size ⟨fun h => absurd h (Nat.lt_irrefl _), fun _ => ⟨rfl, rfl⟩⟩ (flatL_length 0 (pf_len _ _)) (pf_one _ _) (by omega) ?_
     intro va vc V2 hown hgr
     rw [Nat.zero_add, List.nil_append] at hown
     have hb1 : Below V1.heap.size V1 V2 := ⟨hgr.os, hgr.tape, hgr.output, hgr.size, fun k hk => hgr.block k hk (by simp [Value.ownBlock])⟩
     have HO1 : Hid (V2.ownsRow Wd.heap.size 30 36 (.slice va 0 vc) 0 (flatL (pf s.P) 0)) := hown
     have HBW : Hid (Below Wd.heap.size Wd V2) := Below.transS HBU hb1
     have HQ : Hid (V2.heap[q]? = some (.cells (pyv y) 30 (0, 0))) := (hb1.block _ (lt_of_block HQ1.out)).trans HQ1.out
     have HO2 : Hid (V2.ownsRow Wd.heap.size 30 36 (.slice va 0 vc) 0 (flatL (pf s.P) 0)) := HO1.out
     refine hK.out _ _ (SR.out V2 HBW.out) (fun _ => ?_)
     try simp only [Act.put, sqA, sqB, sqC]
     (try rw [Nat.zero_add])
     clear hK K hown hgr hb1 HQ1 HO1 HBV HBU
     refine wpAnyH_ready (rs := [8]) (by kernel_rfl) (by simp) ?_
     refine (AllReadyH.cons (o := ⟨some 89, .call ⟨.builtin .append, #[.tmp 86, .tmp 88], #[23, 23]⟩, 23, _, _, none⟩) rfl (fun K hK => ?_) AllReadyH.nil)
     refine step_append_RP rfl (.tmp 86) (.tmp 88) rfl Wd.heap.size (.slice va 0 vc) 0 (flatL (pf s.P) 0) (some ⟨q, 0, none⟩) 1 1 (pyl y) (by rfl) (by rfl) HO2.out HBW.out.size ⟨fun _ => ⟨q, 0, rfl, pyv_range HQ.out⟩, fun e => by cases e⟩ (pyl_length y) (pyl_one y) (by omega) ?_
     intro vb vd V3 hown hgr
     have HO3 : Hid (V3.ownsRow Wd.heap.size 30 36 (.slice vb (0 + 1) vd) (0 + 1) (flatL (pf s.P) 0 ++ pyl y)) := hown
     have HB3 : Hid (Below Wd.heap.size Wd V3) := grown_below HO2.out hgr HBW.out (Nat.le_refl _)
     refine hK.out _ _ (SR.out V3 HB3.out) (fun _ => ?_)
     clear hK K hown hgr HO2 HQ HBW
     try simp only [Act.put, sqA, sqB, sqC]
     refine wpAnyH_ready (rs := [13]) (by kernel_rfl) (by simp) ?_
     refine (AllReadyH.cons (o := ⟨some 94, .call ⟨.builtin .append, #[.tmp 89, .tmp 93], #[23, 23]⟩, 23, _, _, none⟩) rfl (fun K hK => ?_) AllReadyH.nil)
     have HBU : Below Wd.heap.size Wd V3 := HB3.out
     refine step_append_RP rfl (.tmp 89) (.tmp 93) rfl Wd.heap.size (.slice vb (0 + 1) vd) (0 + 1) (flatL (pf s.P) 0 ++ pyl y) none (s.pn) (0) (flatL (fun j => pf s.P (0 + j)) (s.pn)) (by rfl) (by rfl) HO3.out HBU.size ⟨fun h => absurd h (by have := HN0.out; omega), fun _ => ⟨HN0.out, rfl⟩⟩ (flatL_length _ (fun j hj => pyl_length _)) (fun u hu => by
      obtain ⟨j, _, hj⟩ := flatL_mem _ hu
      exact pyl_one _ u hj) (by omega) ?_
     intro vx vy V4 hown hgr
     have em : 0 + 1 + (s.pn) = s.pn + 1 := by omega
     have HB4 : Hid (Below Wd.heap.size Wd V4) := grown_below HO3.out hgr HB3.out (Nat.le_refl _)
     rw [em] at hown
     have HO4 : Hid (V4.ownsRow Wd.heap.size 30 36 (.slice vx (s.pn + 1) vy) (s.pn + 1) (flatL (pf (insY s.P 0 y)) (s.pn + 1))) := by
      have e0 := insF_mid (pf s.P) 0 (s.pn) (pyl y)
      rw [show 0 + (s.pn) + 1 = s.pn + 1 by omega] at e0
      show V4.ownsRow Wd.heap.size 30 36 (.slice vx (s.pn + 1) vy) (s.pn + 1) (flatL (pf (insY s.P 0 y)) (s.pn + 1))
      rw [insY_pf, e0, ← List.append_assoc]
      exact hown
     refine hK.out _ _ (SR.out V4 HB4.out) (fun _ => ?_)
     clear hK K hown hgr HO3 HB3 HBU
     try simp only [Act.put, sqA, sqB, sqC]
     rw [em]
     refine wpV 14 ⟨some 6, .assign (.tmp 94), 23, _, _, none⟩ rfl ?_
     try simp only [Act.put, sqA, sqB, sqC]
     refine wpAnyH_done (by kernel_rfl) (NoPanic.normal ?_) _
     try simp only [Act.put, sqA, sqB, sqC]
     clear hHeld S0 SR em
     have HX4 : Hid (V4.heap[w.heap.size]? = some (.cells #[.int .i64 s.nu, .int .i64 s.a, .int .i64 s.b, .slice none s.pn 0, .slice ha s.hn hc] 26 (0, 0)) ∧ V4.heap[w.heap.size + 1]? = some (.cells (pyv y) 30 (0, 0)) ∧ V4.heap[w.heap.size + 2]? = some (.cells #[.int .i64 0, .int .i64 0, .int .i64 0, .slice none 0 0, .slice none 0 0] 26 (0, 0)) ∧ Below w.heap.size w V4) := ⟨(HB4.out.block _ (lt_of_block HXr.out.1)).trans HXr.out.1, (HB4.out.block _ (lt_of_block HXr.out.2.1)).trans HXr.out.2.1, (HB4.out.block _ (lt_of_block HXr.out.2.2.1)).trans HXr.out.2.2.1, HB0.out.trans (HB4.out.mono HB0.out.size)⟩
     have HWI : Hid (Calls Tryz.prog 25 #[.agg #[.int .i64 s.nu, .int .i64 s.a, .int .i64 s.b, .slice none s.pn 0, .slice ha s.hn hc], .int .i64 0, .int .i64 (-y.am), .slice vx (s.pn + 1) vy, .slice ha s.hn hc] V4 fun e w' => e = .returned (.agg #[.int .i64 (s.nu + 1), .int .i64 (s.a + 0), .int .i64 (s.b + (-y.am)), .slice vx (s.pn + 1) vy, .slice ha s.hn hc]) ∧ Below V4.heap.size V4 w') := HWT.out vx (s.pn + 1) vy ha s.hn hc V4
     clear HXr HB0 HB4
     obtain ⟨c0, c1, c2, c3, c4, cf⟩ := five_of HX4.out.1
     obtain ⟨k0, k1, k2, k3, kl⟩ := pbox_of HX4.out.2.1
     rw [HFR.out] at k1
     clear k3 kl
     have en := EN.out
     go_wp2_with fail
     refine (to_1 (-y.am) V4).mono ?_
     rintro e Vw ⟨rfl, hVw⟩
     rw [hVw]
     clear hVw
     go_wp2_with fail
     refine HWI.out.mono ?_
     rintro e V6 ⟨rfl, hb6⟩
     have HX6 : Hid (V6.heap[w.heap.size + 2]? = some (.cells #[.int .i64 0, .int .i64 0, .int .i64 0, .slice none 0 0, .slice none 0 0] 26 (0, 0)) ∧ Below w.heap.size w V6) := ⟨(hb6.block _ (lt_of_block HX4.out.2.2.1)).trans HX4.out.2.2.1, HX4.out.2.2.2.trans (hb6.mono HX4.out.2.2.2.size)⟩
     have HO6 : Hid (V6.ownsRow Wd.heap.size 30 36 (.slice vx (s.pn + 1) vy) (s.pn + 1) (flatL (pf (insY s.P 0 y)) (s.pn + 1))) := own_below HO4.out hb6
     clear c0 c1 c2 c3 c4 cf k0 k1 k2 HWI HO4 hb6 HX4 en
     obtain ⟨d0, d1, d2, d3, d4, df⟩ := five_of HX6.out.1
     go_wp2
     refine bodyPost_ret (results_R2 Tryz.results8 _ _ (w.heap.size + 2) 26 _ _ _ _ _ (0, 0) rfl (five_all HX6.out.1)) rfl ⟨⟨0, HIL.out, HLO.out, HHI.out, ⟨vx, vy, ha, hc⟩, by rw [HSV.out]; rfl, ?_⟩, five_below HX6.out.2 (by omega)⟩
     exact HFIN.out 0 HIL.out vx vy _ Wd.heap.size (by have h1 := HWS.out; omega) (five_below HX6.out.2 (by omega)) (own_keep HO6.out (fun g e => five_other (by have h1 := (HO6.out.lt g e).1; have h2 := HWS.out; omega)))
   | some a =>
    obtain ⟨b, off, rfl⟩ := HSP.out a rfl
    clear hin
    dsimp only at *
    have S0 : wr.drew.cell? ⟨w.heap.size, 3, none⟩ = some (.slice (some ⟨b, off, none⟩) s.pn pc) := (five_of HX.out.1).c3
    go_upto_region 17 with fail
    refine wp_region_noPanic ?_
    refine wp_region_held_drew (S := fun u => u.cell? ⟨w.heap.size, 3, none⟩ = some (.slice (some ⟨b, off, none⟩) s.pn pc)) (by kernel_rfl) S0 (fun hHeld => ?_)
    refine wpV 0 ⟨some 63, .move (.tmp 7), 3, _, _, none⟩ rfl ?_
    try simp only [Act.put, sqA, sqB, sqC]
    refine wpV 1 ⟨some 64, .fieldAddr 26 (.tmp 2) 2, 0, _, _, none⟩ rfl ?_
    try simp only [Act.put, sqA, sqB, sqC]
    refine wpV 2 ⟨some 65, .load 23 (.tmp 64), 23, _, _, none⟩ rfl ?_
    try simp only [Act.put, sqA, sqB, sqC]
    refine wpV 3 ⟨some 66, .call ⟨.builtin .len, #[.tmp 65], #[23]⟩, 3, _, _, none⟩ rfl ?_
    try simp only [Act.put, sqA, sqB, sqC]
    refine wpV 4 ⟨some 67, .binOp .lss 3 (.tmp 63) (.tmp 66) 3, 4, _, _, none⟩ rfl ?_
    try simp only [Act.put, sqA, sqB, sqC]
    refine wpV 5 ⟨some 68, .move (.tmp 67), 4, _, _, none⟩ rfl ?_
    try simp only [Act.put, sqA, sqB, sqC]
    refine wpX 6 ⟨some 69, .fieldAddr 26 (.tmp 2) 2, 0, _, _, some (5, true)⟩ rfl ?_
    try simp only [Act.put, sqA, sqB, sqC]
    refine wpX 7 ⟨some 70, .load 23 (.tmp 69), 23, _, _, some (5, true)⟩ rfl ?_
    try simp only [Act.put, sqA, sqB, sqC]
    refine wpX 8 ⟨some 71, .move (.tmp 7), 3, _, _, some (5, true)⟩ rfl ?_
    try simp only [Act.put, sqA, sqB, sqC]
    refine wpX 9 ⟨some 72, .indexAddr 23 (.tmp 70) (.tmp 71), 0, _, _, some (5, true)⟩ rfl ?_
    try simp only [Act.put, sqA, sqB, sqC]
    refine wpX 10 ⟨some 73, .fieldAddr 30 (.tmp 72) 0, 0, _, _, some (5, true)⟩ rfl ?_
    try simp only [Act.put, sqA, sqB, sqC]
    refine wpX 11 ⟨some 74, .load 3 (.tmp 73), 3, _, _, some (5, true)⟩ rfl ?_
    try simp only [Act.put, sqA, sqB, sqC]
    refine wpX 12 ⟨some 75, .fieldAddr 30 (.tmp 3) 0, 0, _, _, some (5, true)⟩ rfl ?_
    try simp only [Act.put, sqA, sqB, sqC]
    refine wpX 13 ⟨some 76, .load 3 (.tmp 75), 3, _, _, some (5, true)⟩ rfl ?_
    try simp only [Act.put, sqA, sqB, sqC]
    refine wpX 14 ⟨some 77, .binOp .lss 3 (.tmp 74) (.tmp 76) 3, 4, _, _, some (5, true)⟩ rfl ?_
    try simp only [Act.put, sqA, sqB, sqC]
    refine wpV 15 ⟨some 78, .pick (.tmp 68) (.tmp 77) (.const (.bool false)), 4, _, _, none⟩ rfl ?_
    try simp only [Act.put, sqA, sqB, sqC]
    refine wpAnyH_done (by kernel_rfl) (NoPanic.normal ?_) _
    try simp only [Act.put, sqA, sqB, sqC]
    have HX1 : Hid (wr.drew.drew.heap[w.heap.size]? = some (.cells #[.int .i64 s.nu, .int .i64 s.a, .int .i64 s.b, .slice (some ⟨b, off, none⟩) s.pn pc, .slice ha s.hn hc] 26 (0, 0)) ∧ wr.drew.drew.heap[w.heap.size + 1]? = some (.cells (pyv y) 30 (0, 0)) ∧ wr.drew.drew.heap[w.heap.size + 2]? = some (.cells #[.int .i64 0, .int .i64 0, .int .i64 0, .slice none 0 0, .slice none 0 0] 26 (0, 0)) ∧ Below w.heap.size w wr.drew.drew) := ⟨HX.out.1, HX.out.2.1, HX.out.2.2.1, HX.out.2.2.2.drew.drew⟩
    clear hHeld S0 hnn hlt
    generalize wr.drew = Wy at *
    go_wp2_with fail
    generalize hWd : Wy.drew = Wd at HX1
    have HXr : Hid (Wd.heap[w.heap.size]? = some (.cells #[.int .i64 s.nu, .int .i64 s.a, .int .i64 s.b, .slice (some ⟨b, off, none⟩) s.pn pc, .slice ha s.hn hc] 26 (0, 0)) ∧ Wd.heap[w.heap.size + 1]? = some (.cells (pyv y) 30 (0, 0)) ∧ Wd.heap[w.heap.size + 2]? = some (.cells #[.int .i64 0, .int .i64 0, .int .i64 0, .slice none 0 0, .slice none 0 0] 26 (0, 0)) ∧ Below w.heap.size w Wd) := HX1.out
    have HWS : Hid (w.heap.size + 2 < Wd.heap.size) := lt_of_block HX1.out.2.2.1
    clear HX1 HX
    have HB0 : Hid (Below w.heap.size w Wd) := HXr.out.2.2.2
    have SR : Hid (∀ u, Below Wd.heap.size Wd u → u.rangeAt (w.heap.size + 1) 0 (pyl y) ∧ u.cell? ⟨w.heap.size, 3, none⟩ = some (.slice (some ⟨b, off, none⟩) s.pn pc)) := fun u hb => ⟨range_below (pyv_range HXr.out.2.1) hb, by rw [hb.cell (p := ⟨w.heap.size, 3, none⟩) (lt_of_block HXr.out.1)]; exact (five_of HXr.out.1).c3⟩
    have S0 := SR.out Wd (Below.refl _ _)
    refine wp_region_noPanic ?_
    refine wp_region_held_drew (S := fun u => u.rangeAt (w.heap.size + 1) 0 (pyl y) ∧ u.cell? ⟨w.heap.size, 3, none⟩ = some (.slice (some ⟨b, off, none⟩) s.pn pc)) (by kernel_rfl) (by rw [hWd]; exact S0) (fun hHeld => ?_)
    rw [hWd] at hHeld ⊢
    clear hWd
    obtain ⟨ax, hax⟩ : ∃ ax : Option Addr, (if pc = i then some (⟨b, off, none⟩ : Addr) else some ⟨b, off + i * 36, none⟩) = ax := ⟨_, rfl⟩
    have HAX : Hid ((if pc = i then some (⟨b, off, none⟩ : Addr) else some ⟨b, off + i * 36, none⟩) = ax) := hax
    clear hax
    refine wpV 0 ⟨some 81, .move (.tmp 6), 23, _, _, none⟩ rfl ?_
    try simp only [Act.put, sqA, sqB, sqC]
    refine wpV 1 ⟨some 82, .fieldAddr 26 (.tmp 2) 2, 0, _, _, none⟩ rfl ?_
    try simp only [Act.put, sqA, sqB, sqC]
    refine wpV 2 ⟨some 83, .load 23 (.tmp 82), 23, _, _, none⟩ rfl ?_
    try simp only [Act.put, sqA, sqB, sqC]
    refine wpV 3 ⟨some 84, .move (.tmp 7), 3, _, _, none⟩ rfl ?_
    try simp only [Act.put, sqA, sqB, sqC]
    refine wpU 4 ⟨some 85, .slice 23 (.tmp 83) none (some (.tmp 84)) none, 23, _, _, none⟩ (v := .slice (some ⟨b, off, none⟩) i pc) rfl ?_ ?_
    ·intro wz hSw; (try dsimp only at hSw); go_simp; try (intro hbad; have h1 := HCP.out; omega)
    try simp only [Act.put, sqA, sqB, sqC]
    refine wpAnyH_take (i := 6) (oi := ⟨some 87, .load 30 (.tmp 3), 30, _, _, none⟩) rfl (by kernel_rfl) (by kernel_rfl) (by kernel_rfl) (fun _ _ _ h => h) (yieldsIf_load_mid (by rfl) _ _ rfl (w.heap.size + 1) 0 rfl (pyl y) _ (fun _ h => h.1) Tryz.underlying30 rfl (szPrl _)) (by assumption) ?_
    try simp only [Act.put, sqA, sqB, sqC]
    refine wpV 9 ⟨some 90, .fieldAddr 26 (.tmp 2) 2, 0, _, _, none⟩ rfl ?_
    try simp only [Act.put, sqA, sqB, sqC]
    refine wpV 10 ⟨some 91, .load 23 (.tmp 90), 23, _, _, none⟩ rfl ?_
    try simp only [Act.put, sqA, sqB, sqC]
    refine wpV 11 ⟨some 92, .move (.tmp 7), 3, _, _, none⟩ rfl ?_
    try simp only [Act.put, sqA, sqB, sqC]
    refine wpU 12 ⟨some 93, .slice 23 (.tmp 91) (some (.tmp 92)) none none, 23, _, _, none⟩ (v := .slice ax (s.pn - i) (pc - i)) rfl ?_ ?_
    ·intro wz hSw; (try dsimp only at hSw); rw [← HAX.out]; go_simp; try (intro hbad; have h1 := HCP.out; omega)
    try simp only [Act.put, sqA, sqB, sqC]
    refine wpAnyH_ready (rs := [5, 7]) (by kernel_rfl) (by simp) ?_
    refine (AllReadyH.cons (o := ⟨some 86, .call ⟨.builtin .append, #[.tmp 81, .tmp 85], #[23, 23]⟩, 23, _, _, none⟩) rfl (fun K hK => ?_) (AllReadyH.cons (o := ⟨some 88, .buildSlice 23 1 #[(0, .tmp 87)], 23, _, _, none⟩) rfl (fun K hK => ?_) AllReadyH.nil))
    ·have HBU : Below Wd.heap.size Wd Wd := Below.refl _ _
     refine step_append_RP rfl (.tmp 81) (.tmp 85) rfl Wd.heap.size (.slice none 0 0) 0 [] (some ⟨b, off, none⟩) i pc (flatL (pf s.P) i) (by rfl) (by rfl) (World.ownsRow_nil _ _ _ _) HBU.size (SrcY.take (HSR.out.below (HB0.out.trans (HBU.mono HB0.out.size))) (pf_len _ _) HIL.out (by simp)) (flatL_length i (pf_len _ _)) (pf_one _ _) (by omega) ?_
     intro va vc V1 hown hgr
     rw [Nat.zero_add, List.nil_append] at hown
     have hb1 : Below Wd.heap.size Wd V1 := ⟨hgr.os, hgr.tape, hgr.output, hgr.size, fun k hk => hgr.block k hk (by simp [Value.ownBlock])⟩
     have HO1 : Hid (V1.ownsRow Wd.heap.size 30 36 (.slice va i vc) i (flatL (pf s.P) i)) := hown
     have HBW : Hid (Below Wd.heap.size Wd V1) := Below.transS HBU hb1
     refine hK.out _ _ (SR.out V1 HBW.out) (fun _ => ?_)
     try simp only [Act.put, sqA, sqB, sqC]
     (try rw [Nat.zero_add])
     clear hK K hown hgr
     have HBV : Hid (Below Wd.heap.size Wd V1) := HBW.out
     clear hb1
     refine wpAnyH_ready (rs := [7]) (by kernel_rfl) (by simp) ?_
     refine (AllReadyH.cons (o := ⟨some 88, .buildSlice 23 1 #[(0, .tmp 87)], 23, _, _, none⟩) rfl (fun K hK => ?_) AllReadyH.nil)
     have HBU : Below Wd.heap.size Wd V1 := HBV.out
     refine step_sliceRP rfl (.tmp 87) rfl y (by rfl) ?_
     intro q V2 hq hle hb1
     have HBW : Hid (Below Wd.heap.size Wd V2) := Below.transS HBU hb1
     have HO2 : Hid (V2.ownsRow Wd.heap.size 30 36 (.slice va i vc) i (flatL (pf s.P) i)) := own_below HO1.out hb1
     have HQ : Hid (V2.heap[q]? = some (.cells (pyv y) 30 (0, 0))) := hq
     refine hK.out _ _ (SR.out V2 HBW.out) (fun _ => ?_)
     try simp only [Act.put, sqA, sqB, sqC]
     (try rw [Nat.zero_add])
     clear hK K hq hle hb1 HO1 HBV HBU
     refine wpAnyH_ready (rs := [8]) (by kernel_rfl) (by simp) ?_
     refine (AllReadyH.cons (o := ⟨some 89, .call ⟨.builtin .append, #[.tmp 86, .tmp 88], #[23, 23]⟩, 23, _, _, none⟩) rfl (fun K hK => ?_) AllReadyH.nil)
     refine step_append_RP rfl (.tmp 86) (.tmp 88) rfl Wd.heap.size (.slice va i vc) i (flatL (pf s.P) i) (some ⟨q, 0, none⟩) 1 1 (pyl y) (by rfl) (by rfl) HO2.out HBW.out.size ⟨fun _ => ⟨q, 0, rfl, pyv_range HQ.out⟩, fun e => by cases e⟩ (pyl_length y) (pyl_one y) (by omega) ?_
     intro vb vd V3 hown hgr
     have HO3 : Hid (V3.ownsRow Wd.heap.size 30 36 (.slice vb (i + 1) vd) (i + 1) (flatL (pf s.P) i ++ pyl y)) := hown
     have HB3 : Hid (Below Wd.heap.size Wd V3) := grown_below HO2.out hgr HBW.out (Nat.le_refl _)
     refine hK.out _ _ (SR.out V3 HB3.out) (fun _ => ?_)
     clear hK K hown hgr HO2 HQ HBW
     try simp only [Act.put, sqA, sqB, sqC]
     refine wpAnyH_ready (rs := [13]) (by kernel_rfl) (by simp) ?_
     refine (AllReadyH.cons (o := ⟨some 94, .call ⟨.builtin .append, #[.tmp 89, .tmp 93], #[23, 23]⟩, 23, _, _, none⟩) rfl (fun K hK => ?_) AllReadyH.nil)
     have HBU : Below Wd.heap.size Wd V3 := HB3.out
     refine step_append_RP rfl (.tmp 89) (.tmp 93) rfl Wd.heap.size (.slice vb (i + 1) vd) (i + 1) (flatL (pf s.P) i ++ pyl y) ax (s.pn - i) (pc - i) (flatL (fun j => pf s.P (i + j)) (s.pn - i)) (by rfl) (by rfl) HO3.out HBU.size (by rw [← HAX.out]; exact SrcY.drop (HSR.out.below (HB0.out.trans (HBU.mono HB0.out.size))) (pf_len _ _) HIL.out HCP.out) (flatL_length _ (fun j hj => pyl_length _)) (fun u hu => by
      obtain ⟨j, _, hj⟩ := flatL_mem _ hu
      exact pyl_one _ u hj) (by omega) ?_
     intro vx vy V4 hown hgr
     have em : i + 1 + (s.pn - i) = s.pn + 1 := by omega
     have HB4 : Hid (Below Wd.heap.size Wd V4) := grown_below HO3.out hgr HB3.out (Nat.le_refl _)
     rw [em] at hown
     have HO4 : Hid (V4.ownsRow Wd.heap.size 30 36 (.slice vx (s.pn + 1) vy) (s.pn + 1) (flatL (pf (insY s.P i y)) (s.pn + 1))) := by
      have e0 := insF_mid (pf s.P) i (s.pn - i) (pyl y)
      rw [show i + (s.pn - i) + 1 = s.pn + 1 by omega] at e0
      show V4.ownsRow Wd.heap.size 30 36 (.slice vx (s.pn + 1) vy) (s.pn + 1) (flatL (pf (insY s.P i y)) (s.pn + 1))
      rw [insY_pf, e0, ← List.append_assoc]
      exact hown
     refine hK.out _ _ (SR.out V4 HB4.out) (fun _ => ?_)
     clear hK K hown hgr HO3 HB3 HBU
     try simp only [Act.put, sqA, sqB, sqC]
     rw [em]
     refine wpV 14 ⟨some 6, .assign (.tmp 94), 23, _, _, none⟩ rfl ?_
     try simp only [Act.put, sqA, sqB, sqC]
     refine wpAnyH_done (by kernel_rfl) (NoPanic.normal ?_) _
     try simp only [Act.put, sqA, sqB, sqC]
     clear hHeld S0 SR em
     have HX4 : Hid (V4.heap[w.heap.size]? = some (.cells #[.int .i64 s.nu, .int .i64 s.a, .int .i64 s.b, .slice (some ⟨b, off, none⟩) s.pn pc, .slice ha s.hn hc] 26 (0, 0)) ∧ V4.heap[w.heap.size + 1]? = some (.cells (pyv y) 30 (0, 0)) ∧ V4.heap[w.heap.size + 2]? = some (.cells #[.int .i64 0, .int .i64 0, .int .i64 0, .slice none 0 0, .slice none 0 0] 26 (0, 0)) ∧ Below w.heap.size w V4) := ⟨(HB4.out.block _ (lt_of_block HXr.out.1)).trans HXr.out.1, (HB4.out.block _ (lt_of_block HXr.out.2.1)).trans HXr.out.2.1, (HB4.out.block _ (lt_of_block HXr.out.2.2.1)).trans HXr.out.2.2.1, HB0.out.trans (HB4.out.mono HB0.out.size)⟩
     have HWI : Hid (Calls Tryz.prog 25 #[.agg #[.int .i64 s.nu, .int .i64 s.a, .int .i64 s.b, .slice (some ⟨b, off, none⟩) s.pn pc, .slice ha s.hn hc], .int .i64 0, .int .i64 (-y.am), .slice vx (s.pn + 1) vy, .slice ha s.hn hc] V4 fun e w' => e = .returned (.agg #[.int .i64 (s.nu + 1), .int .i64 (s.a + 0), .int .i64 (s.b + (-y.am)), .slice vx (s.pn + 1) vy, .slice ha s.hn hc]) ∧ Below V4.heap.size V4 w') := HWT.out vx (s.pn + 1) vy ha s.hn hc V4
     clear HXr HB0 HB4
     obtain ⟨c0, c1, c2, c3, c4, cf⟩ := five_of HX4.out.1
     obtain ⟨k0, k1, k2, k3, kl⟩ := pbox_of HX4.out.2.1
     rw [HFR.out] at k1
     clear k3 kl
     have en := EN.out
     go_wp2_with fail
     refine (to_1 (-y.am) V4).mono ?_
     rintro e Vw ⟨rfl, hVw⟩
     rw [hVw]
     clear hVw
     go_wp2_with fail
     refine HWI.out.mono ?_
     rintro e V6 ⟨rfl, hb6⟩
     have HX6 : Hid (V6.heap[w.heap.size + 2]? = some (.cells #[.int .i64 0, .int .i64 0, .int .i64 0, .slice none 0 0, .slice none 0 0] 26 (0, 0)) ∧ Below w.heap.size w V6) := ⟨(hb6.block _ (lt_of_block HX4.out.2.2.1)).trans HX4.out.2.2.1, HX4.out.2.2.2.trans (hb6.mono HX4.out.2.2.2.size)⟩
     have HO6 : Hid (V6.ownsRow Wd.heap.size 30 36 (.slice vx (s.pn + 1) vy) (s.pn + 1) (flatL (pf (insY s.P i y)) (s.pn + 1))) := own_below HO4.out hb6
     clear c0 c1 c2 c3 c4 cf k0 k1 k2 HWI HO4 hb6 HX4 en
     obtain ⟨d0, d1, d2, d3, d4, df⟩ := five_of HX6.out.1
     go_wp2
     refine bodyPost_ret (results_R2 Tryz.results8 _ _ (w.heap.size + 2) 26 _ _ _ _ _ (0, 0) rfl (five_all HX6.out.1)) rfl ⟨⟨i, HIL.out, HLO.out, HHI.out, ⟨vx, vy, ha, hc⟩, by rw [HSV.out]; rfl, ?_⟩, five_below HX6.out.2 (by omega)⟩
     exact HFIN.out i HIL.out vx vy _ Wd.heap.size (by have h1 := HWS.out; omega) (five_below HX6.out.2 (by omega)) (own_keep HO6.out (fun g e => five_other (by have h1 := (HO6.out.lt g e).1; have h2 := HWS.out; omega)))
    ·have HBU : Below Wd.heap.size Wd Wd := Below.refl _ _
     refine step_sliceRP rfl (.tmp 87) rfl y (by rfl) ?_
     intro q V1 hq hle hb1
     have HBW : Hid (Below Wd.heap.size Wd V1) := Below.transS HBU hb1
     have HQ1 : Hid (V1.heap[q]? = some (.cells (pyv y) 30 (0, 0))) := hq
     refine hK.out _ _ (SR.out V1 HBW.out) (fun _ => ?_)
     try simp only [Act.put, sqA, sqB, sqC]
     (try rw [Nat.zero_add])
     clear hK K hq hle
     have HBV : Hid (Below Wd.heap.size Wd V1) := HBW.out
     clear hb1
     refine wpAnyH_ready (rs := [5]) (by kernel_rfl) (by simp) ?_
     refine (AllReadyH.cons (o := ⟨some 86, .call ⟨.builtin .append, #[.tmp 81, .tmp 85], #[23, 23]⟩, 23, _, _, none⟩) rfl (fun K hK => ?_) AllReadyH.nil)
     have HBU : Below Wd.heap.size Wd V1 := HBV.out
     refine step_append_RP rfl (.tmp 81) (.tmp 85) rfl Wd.heap.size (.slice none 0 0) 0 [] (some ⟨b, off, none⟩) i pc (flatL (pf s.P) i) (by rfl) (by rfl) (World.ownsRow_nil _ _ _ _) HBU.size (SrcY.take (HSR.out.below (HB0.out.trans (HBU.mono HB0.out.size))) (pf_len _ _) HIL.out (by simp)) (flatL_length i (pf_len _ _)) (pf_one _ _) (by omega) ?_
     intro va vc V2 hown hgr
     rw [Nat.zero_add, List.nil_append] at hown
     have hb1 : Below V1.heap.size V1 V2 := ⟨hgr.os, hgr.tape, hgr.output, hgr.size, fun k hk => hgr.block k hk (by simp [Value.ownBlock])⟩
     have HO1 : Hid (V2.ownsRow Wd.heap.size 30 36 (.slice va i vc) i (flatL (pf s.P) i)) := hown
     have HBW : Hid (Below Wd.heap.size Wd V2) := Below.transS HBU hb1
     have HQ : Hid (V2.heap[q]? = some (.cells (pyv y) 30 (0, 0))) := (hb1.block _ (lt_of_block HQ1.out)).trans HQ1.out
     have HO2 : Hid (V2.ownsRow Wd.heap.size 30 36 (.slice va i vc) i (flatL (pf s.P) i)) := HO1.out
     refine hK.out _ _ (SR.out V2 HBW.out) (fun _ => ?_)
     try simp only [Act.put, sqA, sqB, sqC]
     (try rw [Nat.zero_add])
     clear hK K hown hgr hb1 HQ1 HO1 HBV HBU
     refine wpAnyH_ready (rs := [8]) (by kernel_rfl) (by simp) ?_
     refine (AllReadyH.cons (o := ⟨some 89, .call ⟨.builtin .append, #[.tmp 86, .tmp 88], #[23, 23]⟩, 23, _, _, none⟩) rfl (fun K hK => ?_) AllReadyH.nil)
     refine step_append_RP rfl (.tmp 86) (.tmp 88) rfl Wd.heap.size (.slice va i vc) i (flatL (pf s.P) i) (some ⟨q, 0, none⟩) 1 1 (pyl y) (by rfl) (by rfl) HO2.out HBW.out.size ⟨fun _ => ⟨q, 0, rfl, pyv_range HQ.out⟩, fun e => by cases e⟩ (pyl_length y) (pyl_one y) (by omega) ?_
     intro vb vd V3 hown hgr
     have HO3 : Hid (V3.ownsRow Wd.heap.size 30 36 (.slice vb (i + 1) vd) (i + 1) (flatL (pf s.P) i ++ pyl y)) := hown
     have HB3 : Hid (Below Wd.heap.size Wd V3) := grown_below HO2.out hgr HBW.out (Nat.le_refl _)
     refine hK.out _ _ (SR.out V3 HB3.out) (fun _ => ?_)
     clear hK K hown hgr HO2 HQ HBW
     try simp only [Act.put, sqA, sqB, sqC]
     refine wpAnyH_ready (rs := [13]) (by kernel_rfl) (by simp) ?_
     refine (AllReadyH.cons (o := ⟨some 94, .call ⟨.builtin .append, #[.tmp 89, .tmp 93], #[23, 23]⟩, 23, _, _, none⟩) rfl (fun K hK => ?_) AllReadyH.nil)
     have HBU : Below Wd.heap.size Wd V3 := HB3.out
     refine step_append_RP rfl (.tmp 89) (.tmp 93) rfl Wd.heap.size (.slice vb (i + 1) vd) (i + 1) (flatL (pf s.P) i ++ pyl y) ax (s.pn - i) (pc - i) (flatL (fun j => pf s.P (i + j)) (s.pn - i)) (by rfl) (by rfl) HO3.out HBU.size (by rw [← HAX.out]; exact SrcY.drop (HSR.out.below (HB0.out.trans (HBU.mono HB0.out.size))) (pf_len _ _) HIL.out HCP.out) (flatL_length _ (fun j hj => pyl_length _)) (fun u hu => by
      obtain ⟨j, _, hj⟩ := flatL_mem _ hu
      exact pyl_one _ u hj) (by omega) ?_
     intro vx vy V4 hown hgr
     have em : i + 1 + (s.pn - i) = s.pn + 1 := by omega
     have HB4 : Hid (Below Wd.heap.size Wd V4) := grown_below HO3.out hgr HB3.out (Nat.le_refl _)
     rw [em] at hown
     have HO4 : Hid (V4.ownsRow Wd.heap.size 30 36 (.slice vx (s.pn + 1) vy) (s.pn + 1) (flatL (pf (insY s.P i y)) (s.pn + 1))) := by
      have e0 := insF_mid (pf s.P) i (s.pn - i) (pyl y)
      rw [show i + (s.pn - i) + 1 = s.pn + 1 by omega] at e0
      show V4.ownsRow Wd.heap.size 30 36 (.slice vx (s.pn + 1) vy) (s.pn + 1) (flatL (pf (insY s.P i y)) (s.pn + 1))
      rw [insY_pf, e0, ← List.append_assoc]
      exact hown
     refine hK.out _ _ (SR.out V4 HB4.out) (fun _ => ?_)
     clear hK K hown hgr HO3 HB3 HBU
     try simp only [Act.put, sqA, sqB, sqC]
     rw [em]
     refine wpV 14 ⟨some 6, .assign (.tmp 94), 23, _, _, none⟩ rfl ?_
     try simp only [Act.put, sqA, sqB, sqC]
     refine wpAnyH_done (by kernel_rfl) (NoPanic.normal ?_) _
     try simp only [Act.put, sqA, sqB, sqC]
     clear hHeld S0 SR em
     have HX4 : Hid (V4.heap[w.heap.size]? = some (.cells #[.int .i64 s.nu, .int .i64 s.a, .int .i64 s.b, .slice (some ⟨b, off, none⟩) s.pn pc, .slice ha s.hn hc] 26 (0, 0)) ∧ V4.heap[w.heap.size + 1]? = some (.cells (pyv y) 30 (0, 0)) ∧ V4.heap[w.heap.size + 2]? = some (.cells #[.int .i64 0, .int .i64 0, .int .i64 0, .slice none 0 0, .slice none 0 0] 26 (0, 0)) ∧ Below w.heap.size w V4) := ⟨(HB4.out.block _ (lt_of_block HXr.out.1)).trans HXr.out.1, (HB4.out.block _ (lt_of_block HXr.out.2.1)).trans HXr.out.2.1, (HB4.out.block _ (lt_of_block HXr.out.2.2.1)).trans HXr.out.2.2.1, HB0.out.trans (HB4.out.mono HB0.out.size)⟩
     have HWI : Hid (Calls Tryz.prog 25 #[.agg #[.int .i64 s.nu, .int .i64 s.a, .int .i64 s.b, .slice (some ⟨b, off, none⟩) s.pn pc, .slice ha s.hn hc], .int .i64 0, .int .i64 (-y.am), .slice vx (s.pn + 1) vy, .slice ha s.hn hc] V4 fun e w' => e = .returned (.agg #[.int .i64 (s.nu + 1), .int .i64 (s.a + 0), .int .i64 (s.b + (-y.am)), .slice vx (s.pn + 1) vy, .slice ha s.hn hc]) ∧ Below V4.heap.size V4 w') := HWT.out vx (s.pn + 1) vy ha s.hn hc V4
     clear HXr HB0 HB4
     obtain ⟨c0, c1, c2, c3, c4, cf⟩ := five_of HX4.out.1
     obtain ⟨k0, k1, k2, k3, kl⟩ := pbox_of HX4.out.2.1
     rw [HFR.out] at k1
     clear k3 kl
     have en := EN.out
     go_wp2_with fail
     refine (to_1 (-y.am) V4).mono ?_
     rintro e Vw ⟨rfl, hVw⟩
     rw [hVw]
     clear hVw
     go_wp2_with fail
     refine HWI.out.mono ?_
     rintro e V6 ⟨rfl, hb6⟩
     have HX6 : Hid (V6.heap[w.heap.size + 2]? = some (.cells #[.int .i64 0, .int .i64 0, .int .i64 0, .slice none 0 0, .slice none 0 0] 26 (0, 0)) ∧ Below w.heap.size w V6) := ⟨(hb6.block _ (lt_of_block HX4.out.2.2.1)).trans HX4.out.2.2.1, HX4.out.2.2.2.trans (hb6.mono HX4.out.2.2.2.size)⟩
     have HO6 : Hid (V6.ownsRow Wd.heap.size 30 36 (.slice vx (s.pn + 1) vy) (s.pn + 1) (flatL (pf (insY s.P i y)) (s.pn + 1))) := own_below HO4.out hb6
     clear c0 c1 c2 c3 c4 cf k0 k1 k2 HWI HO4 hb6 HX4 en
     obtain ⟨d0, d1, d2, d3, d4, df⟩ := five_of HX6.out.1
     go_wp2
     refine bodyPost_ret (results_R2 Tryz.results8 _ _ (w.heap.size + 2) 26 _ _ _ _ _ (0, 0) rfl (five_all HX6.out.1)) rfl ⟨⟨i, HIL.out, HLO.out, HHI.out, ⟨vx, vy, ha, hc⟩, by rw [HSV.out]; rfl, ?_⟩, five_below HX6.out.2 (by omega)⟩
     exact HFIN.out i HIL.out vx vy _ Wd.heap.size (by have h1 := HWS.out; omega) (five_below HX6.out.2 (by omega)) (own_keep HO6.out (fun g e => five_other (by have h1 := (HO6.out.lt g e).1; have h2 := HWS.out; omega)))
end Go.Proofs.YtoefgfiabfkfaaaGreatDoor
