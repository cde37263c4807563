/- The document's Fail and Settle. -/
import Derived.Test.YtoefgfiabfkfaaaGreatDoorOwnShelf32
import Derived.Test.YtoefgfiabfkfaaaGreatDoorOwnShelf31
import Derived.Test.YtoefgfiabfkfaaaGreatDoorOwnShelf30
import Derived.Test.YtoefgfiabfkfaaaGreatDoorOwnShelf36
namespace Go.Proofs.YtoefgfiabfkfaaaGreatDoor
open Go.RowKit

theorem szHb0 : (Tryz.prog.info? 28).map (·.size) = some 32 := by kernel_rfl
theorem szHb (z : Nat → Int) : (Tryz.prog.info? 28).map (·.size) = some (bl z 32).length := by
 rw [bl_length]; exact szHb0
theorem guardHs3 : Tryz.prog.eqGuardType Tryz.prog.depth 28 = false := by kernel_rfl
/-- Two sums told apart. -/
theorem exec_neP {a : Act} {o : Oper} (x y : Operand) (ho : o.op = .binOp .neq 28 x y 28) {z u : Nat → Int} (hz : Zb z) (hu : Zb u) (hx : a.eval x = .agg (hv z)) (hy : a.eval y = .agg (hv u)) {c : Bool} (hc : hq z u = !c) (w : World) :
  (execOp a.eval o).run Tryz.prog w = .ok (.value (.bool c)) w := by
 have e0 := eql_hv hz hu w
 have e1 : (binOp .neq 28 (.agg (hv z)) (.agg (hv u))).run Tryz.prog w = .ok (.bool c) w := by
  simp only [binOp, Sem.run_bind] at e0 ⊢
  revert e0
  cases hh : Sem.run Tryz.prog (Op.equal 28 (.agg (hv z)) (.agg (hv u))) w with
  | ok b w2 => simp [Result.andThen, hc]
  | halt hx w2 => simp [Result.andThen]
 unfold execOp
 simp only [ho, hx, hy, Sem.run_bind, run_eqGuard_agg w .neq 28 x y _ _ guardHs3, e1, Result.andThen_ok, Sem.run_pure]
/-- A payment given to the other side. -/
def opnY (s : Sv) (i : Nat) : Sv := if (s.P i).fr = 0 then { subY (nxt s) i with b := s.b + (s.P i).am } else { subY (nxt s) i with a := s.a + (s.P i).am }
/-- What the document's Fail answers. -/
def RFai (s : Sv) (k : Int) (e : Ending) (w' : World) : Prop :=
 (¬ Rgt s ∧ e = .returned (.tuple #[.agg #[.int .i64 0, .int .i64 0, .int .i64 0, .slice none 0 0, .slice none 0 0], .int .i64 1])) ∨ (Rgt s ∧ k < 0 ∧ e = .returned (.tuple #[.agg #[.int .i64 0, .int .i64 0, .int .i64 0, .slice none 0 0, .slice none 0 0], .int .i64 8])) ∨
 (Rgt s ∧ ∃ i : Nat, k = i ∧ i < s.pn ∧ ∃ p', e = .returned (.tuple #[.agg (svv (bakY s i) p'), .int .i64 0]) ∧ SvAt w' (bakY s i) p')
/-- What the document's Settle answers. -/
def RSet (s : Sv) (sb : List Nat) (k : Int) (e : Ending) (w' : World) : Prop :=
 (¬ Rgt s ∧ e = .returned (.tuple #[.agg #[.int .i64 0, .int .i64 0, .int .i64 0, .slice none 0 0, .slice none 0 0], .int .i64 1])) ∨ (Rgt s ∧ k < 0 ∧ e = .returned (.tuple #[.agg #[.int .i64 0, .int .i64 0, .int .i64 0, .slice none 0 0, .slice none 0 0], .int .i64 8])) ∨
 (Rgt s ∧ ∃ i : Nat, k = i ∧ i < s.pn ∧ hq (sZ (sumF sb)) (s.P i).lk = false ∧ e = .returned (.tuple #[.agg #[.int .i64 0, .int .i64 0, .int .i64 0, .slice none 0 0, .slice none 0 0], .int .i64 22])) ∨
 (Rgt s ∧ ∃ i : Nat, k = i ∧ i < s.pn ∧ hq (sZ (sumF sb)) (s.P i).lk = true ∧ ∃ p', e = .returned (.tuple #[.agg (svv (opnY s i) p'), .int .i64 0]) ∧ SvAt w' (opnY s i) p')
/-- The row without a payment, read anew. -/
theorem sub_at {w W : World} {s t : Sv} {b off pc : Nat} {ha : Option Addr} {hc i B : Nat} {vb : Option Addr} {vd : Nat} (h : SvAt w s ⟨some ⟨b, off, none⟩, pc, ha, hc⟩) (hb : Below w.heap.size w W) (hi : i < s.pn) (ho : W.ownsRow B 30 36 (.slice vb (s.pn - 1) vd) (s.pn - 1) (flatL (delF (pf s.P) i) (s.pn - 1))) (h1 : t.pn = s.pn - 1) (h2 : t.P = delY s.P i) (h3 : t.hn = s.hn) (h4 : t.H = s.H) : SvAt W t ⟨vb, vd, ha, hc⟩ := by
 obtain ⟨nu', a', b', pn', P', hn', H'⟩ := t
 simp only at h1 h2 h3 h4
 subst h1 h2 h3 h4
 have hv := h.below hb
 have hz : ∀ j, j < s.pn - 1 → Zb (delY s.P i j).lk := fun j hj => by
  unfold delY
  split
  ·exact h.py.lk j (by omega)
  ·exact h.py.lk _ (by omega)
 rw [← delY_pf] at ho
 exact ⟨py_of_row ho hz, hv.hd, (own_nil ho).1, hv.hcap, (own_nil ho).2, hv.hnil⟩
set_option maxRecDepth 100000 in
set_option maxHeartbeats 6400000 in
theorem rfailP_any (s : Sv) (p : Pl) (id : Int) (w : World) (h : SvAt w s p) (hs : s.Small) (hsp : ∀ a, p.pa = some a → ∃ bb off, a = ⟨bb, off, none⟩) :
  Calls Tryz.prog 12 #[.agg (svv s p), .int .i64 id] w fun e w' => (∃ k, HatR (fun j => (s.P j).id) s.pn id k ∧ RFai s k e w') ∧ Below w.heap.size w w' := by
 obtain ⟨hn0, hn1, hsz, hb0⟩ := two_new w s p 26 26
 have hc := right_any s p _ (h.below hb0) hs
 have hat := payAt_any p.pa s.pn p.pc s.P id _ (h.py.below hb0) (by have := hs.n; omega)
 have HV : Hid (SvAt w s p) := h
 have hsn := hs.n
 clear h hs
 unfold svv sv0 pl0 at hn0 hn1 hsz hb0 hc hat
 unfold svv
 simp only at hn0 hn1 hsz hb0 hc hat
 have k3 := (five_of hn0).c3
 go_enter Tryz.func12, Tryz.ntmps12
 go_wp2_with fail
 generalize ((w.alloc (.cells #[.int .i64 s.nu, .int .i64 s.a, .int .i64 s.b, .slice p.pa s.pn p.pc, .slice p.ha s.hn p.hc] 26)).alloc (.cells #[.int .i64 0, .int .i64 0, .int .i64 0, .slice none 0 0, .slice none 0 0] 26)) = W0 at *
 refine hat.mono ?_
 rintro e w0 ⟨k, hk, rfl, rfl⟩
 have HH : Hid (HatR (fun j => (s.P j).id) s.pn id k) := hk
 clear hat hk k3
 obtain ⟨c0, c1, c2, c3, c4, cf⟩ := five_of hn0
 go_wp2_with fail
 refine hc.mono ?_
 rintro e w1 ⟨rfl, hb1⟩
 have HB : Hid (Below w.heap.size w w1) := hb0.trans (hb1.mono (by omega))
 have k0 := hb1.block _ (show w.heap.size < w0.heap.size by omega)
 rw [hn0] at k0
 have k1 := hb1.block _ (show w.heap.size + 1 < w0.heap.size by omega)
 rw [hn1] at k1
 have hl1 : w.heap.size + 1 < w1.heap.size := by have := hb1.size; omega
 clear hc hb0 hb1 hn0 hn1 hsz c0 c1 c2 c3 c4 cf
 obtain ⟨c0, c1, c2, c3, c4, cf⟩ := five_of k0
 obtain ⟨d0, d1, d2, d3, d4, df⟩ := five_of k1
 have HK : Hid (w1.heap[w.heap.size + 1]? = some (.cells #[.int .i64 0, .int .i64 0, .int .i64 0, .slice none 0 0, .slice none 0 0] 26 (0, 0))) := k1
 have HC : Hid (w1.heap[w.heap.size]? = some (.cells #[.int .i64 s.nu, .int .i64 s.a, .int .i64 s.b, .slice p.pa s.pn p.pc, .slice p.ha s.hn p.hc] 26 (0, 0))) := k0
 clear k0 k1
 by_cases hr : Rgt s
 ·rw [decide_eq_true hr]
  have HR : Hid (Rgt s) := hr
  rcases HH.out with ⟨rfl, hno⟩ | ⟨i, rfl, hi, hhit, hfst⟩
  ·clear hr hno
   go_wp2
   exact bodyPost_ret (results_R2 Tryz.results12 _ _ (w.heap.size + 1) 26 _ _ _ _ _ (0, 0) rfl (five_all HK.out)) rfl ⟨⟨_, HH.out, .inr (.inl ⟨HR.out, by decide, rfl⟩)⟩, five_below HB.out (by omega)⟩
  ·have hi' : (i : Int) < s.pn := by omega
   have hpos : ¬ ((i : Int) < 0) := by omega
   have hone := (hr.1.2.1.2.1 i hi).2
   have ham := hone.2.2.1
   have hfr := hone.2.1
   have ba := hr.1.1.2.1
   have bb := hr.1.1.2.2
   have E1 : Hid (wrap64 (s.nu + 1) = s.nu + 1) := by show wrap64 (s.nu + 1) = _; have := hr.1.1.1; have := hr.2; simp [wrap64]; omega
   have hpn8 : s.pn ≤ 8 := by have := hr.1.2.1.1; omega
   have HSR : Hid (Src w p.pa s.pn p.pc (flatL (pf s.P) s.pn)) := HV.out.py.src HV.out.pnil
   have HLK : Hid (Zb (s.P i).lk) := HV.out.py.lk i hi
   obtain ⟨b, off, hpa, hrg⟩ := HSR.out.1 (by omega)
   obtain ⟨pa, pc, ha, hc⟩ := p
   dsimp only at *
   subst hpa
   have hri : w.rangeAt b (off + i * 36) (pyl (s.P i)) := (flatL_range s.pn (pf_len s.P s.pn)).1 hrg i hi
   have HRI : Hid (w.rangeAt b (off + i * 36) (pyl (s.P i))) := hri
   have hcap := HV.out.pcap
   dsimp only at hcap
   clear hr hsp hhit hfst hrg hri hone c0 c1 c2 c3 c4 cf
   have hbl : b < w.heap.size := World.block_lt_of_cell? w ⟨b, off + i * 36, none⟩ (py_cells HRI.out).1
   obtain ⟨y, hy⟩ : ∃ y, s.P i = y := ⟨_, rfl⟩
   have HYY : Hid (s.P i = y) := hy
   rw [hy] at ham hfr HRI HLK
   clear hy
   obtain ⟨c0, c1, c2, c3, c4, cf⟩ := five_of HC.out
   rcases hfr with hfr | hfr
   ·have HFR : Hid (y.fr = 0) := hfr
    have HBK : Hid (bakY s i = { subY (nxt s) i with a := s.a + y.am }) := by
     show bakY s i = _
     unfold bakY
     rw [HYY.out, if_pos hfr]
    have E2 : Hid (wrap64 (s.a + y.am) = s.a + y.am) := by show wrap64 (s.a + y.am) = s.a + y.am; simp [wrap64]; omega
    have E3 : Hid (wrap64 (s.b + 0) = s.b + 0) := by show wrap64 (s.b + 0) = s.b + 0; simp [wrap64]; omega
    go_wp2_with fail
    have SA : Hid (∀ u : World, Below w1.heap.size w1 u → u.cell? ⟨w.heap.size, 3, none⟩ = some (.slice (some ⟨b, off, none⟩) s.pn pc) ∧ u.cell? ⟨b, off + i * 36 + 1, none⟩ = some (.int .i64 0) ∧ u.cell? ⟨b, off + i * 36 + 2, none⟩ = some (.int .i64 y.am)) := fun u hb => by
     have hri := range_below (range_below HRI.out HB.out) hb
     have h2 := py_cells hri
     refine ⟨by rw [hb.cell (p := ⟨w.heap.size, 3, none⟩) (lt_of_block HC.out)]; exact (five_of HC.out).c3, ?_, h2.2.2.1⟩
     rw [← HFR.out]
     exact h2.2.1
    have S0 := SA.out w1.drew (Below.refl _ _).drew
    refine wp_region_noPanic ?_
    refine wp_region_held_drew (S := fun u => u.cell? ⟨w.heap.size, 3, none⟩ = some (.slice (some ⟨b, off, none⟩) s.pn pc) ∧ u.cell? ⟨b, off + i * 36 + 1, none⟩ = some (.int .i64 0) ∧ u.cell? ⟨b, off + i * 36 + 2, none⟩ = some (.int .i64 y.am)) (by kernel_rfl) S0 (fun hHeld => ?_)
    have HBd : Hid (Below w1.heap.size w1 w1.drew) := (Below.refl _ _).drew
    have HB1 : Hid (Below w.heap.size w w1.drew) := HB.out.drew
    have HK1 : Hid (w1.drew.heap[w.heap.size + 1]? = some (.cells #[.int .i64 0, .int .i64 0, .int .i64 0, .slice none 0 0, .slice none 0 0] 26 (0, 0))) := HK.out
    have HC1 : Hid (w1.drew.heap[w.heap.size]? = some (.cells #[.int .i64 s.nu, .int .i64 s.a, .int .i64 s.b, .slice (some ⟨b, off, none⟩) s.pn pc, .slice ha s.hn hc] 26 (0, 0))) := HC.out
    have hld : w.heap.size + 1 < w1.drew.heap.size := hl1
    clear d0 d1 d2 d3 d4 df SA HB HK HC hl1
    generalize w1.drew = Wd at *
    refine wpV 0 ⟨some 23, .fieldAddr 26 (.tmp 2) 2, 0, _, _, none⟩ rfl ?_
    try simp only [Act.put, sqA, sqB, sqC]
    refine wpV 1 ⟨some 24, .load 23 (.tmp 23), 23, _, _, none⟩ rfl ?_
    try simp only [Act.put, sqA, sqB, sqC]
    refine wpV 2 ⟨some 25, .move (.tmp 6), 3, _, _, none⟩ rfl ?_
    try simp only [Act.put, sqA, sqB, sqC]
    refine wpV 3 ⟨some 26, .indexAddr 23 (.tmp 24) (.tmp 25), 0, _, _, none⟩ rfl ?_
    try simp only [Act.put, sqA, sqB, sqC]
    refine wpV 4 ⟨some 27, .fieldAddr 30 (.tmp 26) 1, 0, _, _, none⟩ rfl ?_
    try simp only [Act.put, sqA, sqB, sqC]
    refine wpV 5 ⟨some 28, .load 3 (.tmp 27), 3, _, _, none⟩ rfl ?_
    try simp only [Act.put, sqA, sqB, sqC]
    refine wpV 6 ⟨some 29, .fieldAddr 26 (.tmp 2) 2, 0, _, _, none⟩ rfl ?_
    try simp only [Act.put, sqA, sqB, sqC]
    refine wpV 7 ⟨some 30, .load 23 (.tmp 29), 23, _, _, none⟩ rfl ?_
    try simp only [Act.put, sqA, sqB, sqC]
    refine wpV 8 ⟨some 31, .move (.tmp 6), 3, _, _, none⟩ rfl ?_
    try simp only [Act.put, sqA, sqB, sqC]
    refine wpV 9 ⟨some 32, .indexAddr 23 (.tmp 30) (.tmp 31), 0, _, _, none⟩ rfl ?_
    try simp only [Act.put, sqA, sqB, sqC]
    refine wpV 10 ⟨some 33, .fieldAddr 30 (.tmp 32) 2, 0, _, _, none⟩ rfl ?_
    try simp only [Act.put, sqA, sqB, sqC]
    refine wpV 11 ⟨some 34, .load 3 (.tmp 33), 3, _, _, none⟩ rfl ?_
    try simp only [Act.put, sqA, sqB, sqC]
    refine wpAnyH_ready (rs := [12]) (by kernel_rfl) (by simp) ?_
    refine (AllReadyH.cons (o := ⟨some 35, .call ⟨.value (.func 24), #[.tmp 28, .tmp 34], #[3, 3]⟩, 66, _, _, none⟩) rfl (fun K hK => ?_) AllReadyH.nil)
    go_simp
    refine (to_0 y.am Wd).mono ?_
    rintro e Vw ⟨rfl, hVw⟩
    rw [hVw]
    clear hVw
    refine hK.out _ _ S0 (fun _ => ?_)
    clear hK K
    try simp only [Act.put, sqA, sqB, sqC]
    refine wpV 13 ⟨some 22, .move (.tmp 35), 66, _, _, none⟩ rfl ?_
    try simp only [Act.put, sqA, sqB, sqC]
    refine wpV 14 ⟨some 36, .extract (.tmp 22) 0, 3, _, _, none⟩ rfl ?_
    try simp only [Act.put, sqA, sqB, sqC]
    refine wpV 15 ⟨some 37, .extract (.tmp 22) 1, 3, _, _, none⟩ rfl ?_
    try simp only [Act.put, sqA, sqB, sqC]
    refine wpV 16 ⟨some 7, .assign (.tmp 36), 3, _, _, none⟩ rfl ?_
    try simp only [Act.put, sqA, sqB, sqC]
    refine wpV 17 ⟨some 8, .assign (.tmp 37), 3, _, _, none⟩ rfl ?_
    try simp only [Act.put, sqA, sqB, sqC]
    refine wpAnyH_done (by kernel_rfl) (NoPanic.normal ?_) _
    try simp only [Act.put, sqA, sqB, sqC]
    clear hHeld S0
    go_wp2_with fail
    have SB : Hid (∀ u : World, Below Wd.heap.size Wd u → u.rangeAt w.heap.size 0 ([.int .i64 s.nu, .int .i64 s.a, .int .i64 s.b, .slice (some ⟨b, off, none⟩) s.pn pc, .slice ha s.hn hc]) ∧ u.cell? ⟨w.heap.size, 3, none⟩ = some (.slice (some ⟨b, off, none⟩) s.pn pc) ∧ u.cell? ⟨w.heap.size, 4, none⟩ = some (.slice ha s.hn hc)) := fun u hb => by
     have h0 : u.heap[w.heap.size]? = some (.cells #[.int .i64 s.nu, .int .i64 s.a, .int .i64 s.b, .slice (some ⟨b, off, none⟩) s.pn pc, .slice ha s.hn hc] 26 (0, 0)) := by rw [hb.block _ (lt_of_block HC1.out)]; exact HC1.out
     have h1 := five_of h0
     exact ⟨svq_range (s := s) (p := ⟨some ⟨b, off, none⟩, pc, ha, hc⟩) h0, h1.c3, h1.c4⟩
    have HBe : Hid (Below Wd.heap.size Wd Wd.drew) := (Below.refl _ _).drew
    have S0 := SB.out Wd.drew HBe.out
    refine wp_region_noPanic ?_
    refine wp_region_held_drew (S := fun u => u.rangeAt w.heap.size 0 ([.int .i64 s.nu, .int .i64 s.a, .int .i64 s.b, .slice (some ⟨b, off, none⟩) s.pn pc, .slice ha s.hn hc]) ∧ u.cell? ⟨w.heap.size, 3, none⟩ = some (.slice (some ⟨b, off, none⟩) s.pn pc) ∧ u.cell? ⟨w.heap.size, 4, none⟩ = some (.slice ha s.hn hc)) (by kernel_rfl) S0 (fun hHeld => ?_)
    generalize Wd.drew = We at *
    refine wpAnyH_take (i := 0) (oi := ⟨some 38, .load 26 (.tmp 2), 26, _, _, none⟩) rfl (by kernel_rfl) (by kernel_rfl) (by kernel_rfl) (fun _ _ _ h => h) (yieldsIf_load_mid (by rfl) _ _ rfl w.heap.size 0 rfl ([.int .i64 s.nu, .int .i64 s.a, .int .i64 s.b, .slice (some ⟨b, off, none⟩) s.pn pc, .slice ha s.hn hc]) _ (fun _ h => h.1) Tryz.underlying26 rfl szSr) (by assumption) ?_
    try simp only [Act.put, sqA, sqB, sqC]
    refine wpV 1 ⟨some 39, .move (.tmp 7), 3, _, _, none⟩ rfl ?_
    try simp only [Act.put, sqA, sqB, sqC]
    refine wpV 2 ⟨some 40, .move (.tmp 8), 3, _, _, none⟩ rfl ?_
    try simp only [Act.put, sqA, sqB, sqC]
    refine wpV 3 ⟨some 41, .fieldAddr 26 (.tmp 2) 2, 0, _, _, none⟩ rfl ?_
    try simp only [Act.put, sqA, sqB, sqC]
    refine wpV 4 ⟨some 42, .load 23 (.tmp 41), 23, _, _, none⟩ rfl ?_
    try simp only [Act.put, sqA, sqB, sqC]
    refine wpV 5 ⟨some 43, .move (.tmp 6), 3, _, _, none⟩ rfl ?_
    try simp only [Act.put, sqA, sqB, sqC]
    refine wpV 7 ⟨some 45, .fieldAddr 26 (.tmp 2) 3, 0, _, _, none⟩ rfl ?_
    try simp only [Act.put, sqA, sqB, sqC]
    refine wpV 8 ⟨some 46, .load 24 (.tmp 45), 24, _, _, none⟩ rfl ?_
    try simp only [Act.put, sqA, sqB, sqC]
    have HDR : Hid (Calls Tryz.prog 29 #[.slice (some ⟨b, off, none⟩) s.pn pc, .int .i64 (i : Int)] We fun e w' => (∃ vb vd, e = .returned (.slice vb (s.pn - 1) vd) ∧ w'.ownsRow We.heap.size 30 36 (.slice vb (s.pn - 1) vd) (s.pn - 1) (flatL (delF (pf s.P) i) (s.pn - 1))) ∧ Below We.heap.size We w') := rdrop_any b off s.pn pc s.P i We ((HSR.out.below HB1.out).below HBe.out) hi hcap (by omega)
    refine wpAnyH_ready (rs := [6]) (by kernel_rfl) (by simp) ?_
    refine (AllReadyH.cons (o := ⟨some 44, .call ⟨.value (.func 29), #[.tmp 42, .tmp 43], #[23, 3]⟩, 23, _, _, none⟩) rfl (fun K hK => ?_) AllReadyH.nil)
    go_simp
    refine HDR.out.mono ?_
    rintro e V1 ⟨⟨vb, vd, rfl, hO1⟩, hb1⟩
    have HO1 : Hid (V1.ownsRow We.heap.size 30 36 (.slice vb (s.pn - 1) vd) (s.pn - 1) (flatL (delF (pf s.P) i) (s.pn - 1))) := hO1
    have HBV : Hid (Below Wd.heap.size Wd V1 ∧ We.heap.size ≤ V1.heap.size) := ⟨Below.transS HBe.out hb1, hb1.size⟩
    have S1 := SB.out V1 HBV.out.1
    clear hb1 hO1 HDR
    refine hK.out _ _ S1 (fun _ => ?_)
    clear hK K
    try simp only [Act.put, sqA, sqB, sqC]
    have HWI : Hid (Calls Tryz.prog 25 #[.agg #[.int .i64 s.nu, .int .i64 s.a, .int .i64 s.b, .slice (some ⟨b, off, none⟩) s.pn pc, .slice ha s.hn hc], .int .i64 y.am, .int .i64 0, .slice vb (s.pn - 1) vd, .slice ha s.hn hc] V1 fun e w' => e = .returned (.agg #[.int .i64 (s.nu + 1), .int .i64 (s.a + y.am), .int .i64 (s.b + 0), .slice vb (s.pn - 1) vd, .slice ha s.hn hc]) ∧ Below V1.heap.size V1 w') := rwith_any s ⟨some ⟨b, off, none⟩, pc, ha, hc⟩ y.am 0 vb (s.pn - 1) vd ha s.hn hc V1 E1.out E2.out E3.out
    refine wpAnyH_ready (rs := [9]) (by kernel_rfl) (by simp) ?_
    refine (AllReadyH.cons (o := ⟨some 47, .call ⟨.value (.func 25), #[.tmp 38, .tmp 39, .tmp 40, .tmp 44, .tmp 46], #[26, 3, 3, 23, 24]⟩, 26, _, _, none⟩) rfl (fun K hK => ?_) AllReadyH.nil)
    go_simp
    refine HWI.out.mono ?_
    rintro e V3 ⟨rfl, hb3⟩
    have HB3 : Hid (Below Wd.heap.size Wd V3 ∧ V1.heap.size ≤ V3.heap.size) := ⟨Below.transS HBV.out.1 hb3, hb3.size⟩
    have HO3 : Hid (V3.ownsRow We.heap.size 30 36 (.slice vb (s.pn - 1) vd) (s.pn - 1) (flatL (delF (pf s.P) i) (s.pn - 1))) := own_below HO1.out hb3
    have HK3 : Hid (V3.heap[w.heap.size + 1]? = some (.cells #[.int .i64 0, .int .i64 0, .int .i64 0, .slice none 0 0, .slice none 0 0] 26 (0, 0))) := by
     show V3.heap[w.heap.size + 1]? = some (.cells #[.int .i64 0, .int .i64 0, .int .i64 0, .slice none 0 0, .slice none 0 0] 26 (0, 0))
     rw [HB3.out.1.block _ (lt_of_block HK1.out)]
     exact HK1.out
    have S2 := SB.out V3 HB3.out.1
    refine hK.out _ _ S2 (fun _ => ?_)
    clear hK K hb3 HWI HO1 S0 S1
    try simp only [Act.put, sqA, sqB, sqC]
    refine wpAnyH_ready (rs := [10]) (by kernel_rfl) (by simp) ?_
    refine (AllReadyH.cons (o := ⟨none, .store 26 (.tmp 4) (.tmp 47), 0, _, _, none⟩) rfl (fun K hK => ?_) AllReadyH.nil)
    refine step_storeR rfl (.tmp 4) (.tmp 47) rfl (w.heap.size + 1) (by rfl) (s.nu + 1) (s.a + y.am) (s.b + 0) vb (s.pn - 1) vd ha s.hn hc (by rfl) HK3.out ?_
    intro V4 hx hfr
    have h0 : V4.heap[w.heap.size]? = some (.cells #[.int .i64 s.nu, .int .i64 s.a, .int .i64 s.b, .slice (some ⟨b, off, none⟩) s.pn pc, .slice ha s.hn hc] 26 (0, 0)) := by
     have h1 : V3.heap[w.heap.size]? = some (.cells #[.int .i64 s.nu, .int .i64 s.a, .int .i64 s.b, .slice (some ⟨b, off, none⟩) s.pn pc, .slice ha s.hn hc] 26 (0, 0)) := by rw [HB3.out.1.block _ (lt_of_block HC1.out)]; exact HC1.out
     rw [hfr.block _ (lt_of_block h1) (by simp)]
     exact h1
    have S3 : (fun u : World => u.rangeAt w.heap.size 0 ([.int .i64 s.nu, .int .i64 s.a, .int .i64 s.b, .slice (some ⟨b, off, none⟩) s.pn pc, .slice ha s.hn hc]) ∧ u.cell? ⟨w.heap.size, 3, none⟩ = some (.slice (some ⟨b, off, none⟩) s.pn pc) ∧ u.cell? ⟨w.heap.size, 4, none⟩ = some (.slice ha s.hn hc)) V4 := ⟨svq_range (s := s) (p := ⟨some ⟨b, off, none⟩, pc, ha, hc⟩) h0, (five_of h0).c3, (five_of h0).c4⟩
    have HX : Hid (V4.heap[w.heap.size + 1]? = some (.cells #[.int .i64 (s.nu + 1), .int .i64 (s.a + y.am), .int .i64 (s.b + 0), .slice vb (s.pn - 1) vd, .slice ha s.hn hc] 26 (0, 0))) := hx
    have hWD : w.heap.size ≤ Wd.heap.size := HB1.out.size
    have hWE : Wd.heap.size ≤ We.heap.size := HBe.out.size
    have HB4 : Hid (Below w.heap.size w V4) := (HB1.out.trans (HB3.out.1.mono hWD)).trans (hfr.below (by have := HB3.out.1.size; omega) (fun k hk => by rw [List.mem_singleton.1 hk]; omega))
    have HO4 : Hid (V4.ownsRow We.heap.size 30 36 (.slice vb (s.pn - 1) vd) (s.pn - 1) (flatL (delF (pf s.P) i) (s.pn - 1))) := own_keep HO3.out (fun g e => hfr.block g (HO3.out.lt g e).2 (fun e2 => by
     have h1 := (HO3.out.lt g e).1
     rw [List.mem_singleton.1 e2] at h1
     omega))
    refine hK.out _ _ S3 (fun _ => ?_)
    clear hK K hx hfr h0 S2 S3 HO3 HB3 HK3 HBV
    try simp only [Act.put]
    refine wpV 11 ⟨some 5, .assign (.const (.int .i64 0)), 3, _, _, none⟩ rfl ?_
    try simp only [Act.put, sqA, sqB, sqC]
    refine wpAnyH_done (by kernel_rfl) (NoPanic.normal ?_) _
    try simp only [Act.put, sqA, sqB, sqC]
    clear hHeld
    go_wp2
    refine bodyPost_ret (results_R2 Tryz.results12 _ _ (w.heap.size + 1) 26 _ _ _ _ _ (0, 0) rfl HX.out) rfl ⟨⟨_, HH.out, .inr (.inr ⟨HR.out, i, rfl, hi, ⟨vb, vd, ha, hc⟩, by rw [HBK.out]; simp [svv, subY, nxt], ?_⟩)⟩, HB4.out⟩
    rw [HBK.out]
    exact sub_at HV.out HB4.out hi HO4.out rfl rfl rfl rfl
   ·have HFR : Hid (y.fr = 1) := hfr
    have HBK : Hid (bakY s i = { subY (nxt s) i with b := s.b + y.am }) := by
     show bakY s i = _
     unfold bakY
     rw [HYY.out, if_neg (by omega)]
    have E2 : Hid (wrap64 (s.a + 0) = s.a + 0) := by show wrap64 (s.a + 0) = s.a + 0; simp [wrap64]; omega
    have E3 : Hid (wrap64 (s.b + y.am) = s.b + y.am) := by show wrap64 (s.b + y.am) = s.b + y.am; simp [wrap64]; omega
    go_wp2_with fail
    have SA : Hid (∀ u : World, Below w1.heap.size w1 u → u.cell? ⟨w.heap.size, 3, none⟩ = some (.slice (some ⟨b, off, none⟩) s.pn pc) ∧ u.cell? ⟨b, off + i * 36 + 1, none⟩ = some (.int .i64 1) ∧ u.cell? ⟨b, off + i * 36 + 2, none⟩ = some (.int .i64 y.am)) := fun u hb => by
     have hri := range_below (range_below HRI.out HB.out) hb
     have h2 := py_cells hri
     refine ⟨by rw [hb.cell (p := ⟨w.heap.size, 3, none⟩) (lt_of_block HC.out)]; exact (five_of HC.out).c3, ?_, h2.2.2.1⟩
     rw [← HFR.out]
     exact h2.2.1
    have S0 := SA.out w1.drew (Below.refl _ _).drew
    refine wp_region_noPanic ?_
    refine wp_region_held_drew (S := fun u => u.cell? ⟨w.heap.size, 3, none⟩ = some (.slice (some ⟨b, off, none⟩) s.pn pc) ∧ u.cell? ⟨b, off + i * 36 + 1, none⟩ = some (.int .i64 1) ∧ u.cell? ⟨b, off + i * 36 + 2, none⟩ = some (.int .i64 y.am)) (by kernel_rfl) S0 (fun hHeld => ?_)
    have HBd : Hid (Below w1.heap.size w1 w1.drew) := (Below.refl _ _).drew
    have HB1 : Hid (Below w.heap.size w w1.drew) := HB.out.drew
    have HK1 : Hid (w1.drew.heap[w.heap.size + 1]? = some (.cells #[.int .i64 0, .int .i64 0, .int .i64 0, .slice none 0 0, .slice none 0 0] 26 (0, 0))) := HK.out
    have HC1 : Hid (w1.drew.heap[w.heap.size]? = some (.cells #[.int .i64 s.nu, .int .i64 s.a, .int .i64 s.b, .slice (some ⟨b, off, none⟩) s.pn pc, .slice ha s.hn hc] 26 (0, 0))) := HC.out
    have hld : w.heap.size + 1 < w1.drew.heap.size := hl1
    clear d0 d1 d2 d3 d4 df SA HB HK HC hl1
    generalize w1.drew = Wd at *
    refine wpV 0 ⟨some 23, .fieldAddr 26 (.tmp 2) 2, 0, _, _, none⟩ rfl ?_
    try simp only [Act.put, sqA, sqB, sqC]
    refine wpV 1 ⟨some 24, .load 23 (.tmp 23), 23, _, _, none⟩ rfl ?_
    try simp only [Act.put, sqA, sqB, sqC]
    refine wpV 2 ⟨some 25, .move (.tmp 6), 3, _, _, none⟩ rfl ?_
    try simp only [Act.put, sqA, sqB, sqC]
    refine wpV 3 ⟨some 26, .indexAddr 23 (.tmp 24) (.tmp 25), 0, _, _, none⟩ rfl ?_
    try simp only [Act.put, sqA, sqB, sqC]
    refine wpV 4 ⟨some 27, .fieldAddr 30 (.tmp 26) 1, 0, _, _, none⟩ rfl ?_
    try simp only [Act.put, sqA, sqB, sqC]
    refine wpV 5 ⟨some 28, .load 3 (.tmp 27), 3, _, _, none⟩ rfl ?_
    try simp only [Act.put, sqA, sqB, sqC]
    refine wpV 6 ⟨some 29, .fieldAddr 26 (.tmp 2) 2, 0, _, _, none⟩ rfl ?_
    try simp only [Act.put, sqA, sqB, sqC]
    refine wpV 7 ⟨some 30, .load 23 (.tmp 29), 23, _, _, none⟩ rfl ?_
    try simp only [Act.put, sqA, sqB, sqC]
    refine wpV 8 ⟨some 31, .move (.tmp 6), 3, _, _, none⟩ rfl ?_
    try simp only [Act.put, sqA, sqB, sqC]
    refine wpV 9 ⟨some 32, .indexAddr 23 (.tmp 30) (.tmp 31), 0, _, _, none⟩ rfl ?_
    try simp only [Act.put, sqA, sqB, sqC]
    refine wpV 10 ⟨some 33, .fieldAddr 30 (.tmp 32) 2, 0, _, _, none⟩ rfl ?_
    try simp only [Act.put, sqA, sqB, sqC]
    refine wpV 11 ⟨some 34, .load 3 (.tmp 33), 3, _, _, none⟩ rfl ?_
    try simp only [Act.put, sqA, sqB, sqC]
    refine wpAnyH_ready (rs := [12]) (by kernel_rfl) (by simp) ?_
    refine (AllReadyH.cons (o := ⟨some 35, .call ⟨.value (.func 24), #[.tmp 28, .tmp 34], #[3, 3]⟩, 66, _, _, none⟩) rfl (fun K hK => ?_) AllReadyH.nil)
    go_simp
    refine (to_1 y.am Wd).mono ?_
    rintro e Vw ⟨rfl, hVw⟩
    rw [hVw]
    clear hVw
    refine hK.out _ _ S0 (fun _ => ?_)
    clear hK K
    try simp only [Act.put, sqA, sqB, sqC]
    refine wpV 13 ⟨some 22, .move (.tmp 35), 66, _, _, none⟩ rfl ?_
    try simp only [Act.put, sqA, sqB, sqC]
    refine wpV 14 ⟨some 36, .extract (.tmp 22) 0, 3, _, _, none⟩ rfl ?_
    try simp only [Act.put, sqA, sqB, sqC]
    refine wpV 15 ⟨some 37, .extract (.tmp 22) 1, 3, _, _, none⟩ rfl ?_
    try simp only [Act.put, sqA, sqB, sqC]
    refine wpV 16 ⟨some 7, .assign (.tmp 36), 3, _, _, none⟩ rfl ?_
    try simp only [Act.put, sqA, sqB, sqC]
    refine wpV 17 ⟨some 8, .assign (.tmp 37), 3, _, _, none⟩ rfl ?_
    try simp only [Act.put, sqA, sqB, sqC]
    refine wpAnyH_done (by kernel_rfl) (NoPanic.normal ?_) _
    try simp only [Act.put, sqA, sqB, sqC]
    clear hHeld S0
    go_wp2_with fail
    have SB : Hid (∀ u : World, Below Wd.heap.size Wd u → u.rangeAt w.heap.size 0 ([.int .i64 s.nu, .int .i64 s.a, .int .i64 s.b, .slice (some ⟨b, off, none⟩) s.pn pc, .slice ha s.hn hc]) ∧ u.cell? ⟨w.heap.size, 3, none⟩ = some (.slice (some ⟨b, off, none⟩) s.pn pc) ∧ u.cell? ⟨w.heap.size, 4, none⟩ = some (.slice ha s.hn hc)) := fun u hb => by
     have h0 : u.heap[w.heap.size]? = some (.cells #[.int .i64 s.nu, .int .i64 s.a, .int .i64 s.b, .slice (some ⟨b, off, none⟩) s.pn pc, .slice ha s.hn hc] 26 (0, 0)) := by rw [hb.block _ (lt_of_block HC1.out)]; exact HC1.out
     have h1 := five_of h0
     exact ⟨svq_range (s := s) (p := ⟨some ⟨b, off, none⟩, pc, ha, hc⟩) h0, h1.c3, h1.c4⟩
    have HBe : Hid (Below Wd.heap.size Wd Wd.drew) := (Below.refl _ _).drew
    have S0 := SB.out Wd.drew HBe.out
    refine wp_region_noPanic ?_
    refine wp_region_held_drew (S := fun u => u.rangeAt w.heap.size 0 ([.int .i64 s.nu, .int .i64 s.a, .int .i64 s.b, .slice (some ⟨b, off, none⟩) s.pn pc, .slice ha s.hn hc]) ∧ u.cell? ⟨w.heap.size, 3, none⟩ = some (.slice (some ⟨b, off, none⟩) s.pn pc) ∧ u.cell? ⟨w.heap.size, 4, none⟩ = some (.slice ha s.hn hc)) (by kernel_rfl) S0 (fun hHeld => ?_)
    generalize Wd.drew = We at *
    refine wpAnyH_take (i := 0) (oi := ⟨some 38, .load 26 (.tmp 2), 26, _, _, none⟩) rfl (by kernel_rfl) (by kernel_rfl) (by kernel_rfl) (fun _ _ _ h => h) (yieldsIf_load_mid (by rfl) _ _ rfl w.heap.size 0 rfl ([.int .i64 s.nu, .int .i64 s.a, .int .i64 s.b, .slice (some ⟨b, off, none⟩) s.pn pc, .slice ha s.hn hc]) _ (fun _ h => h.1) Tryz.underlying26 rfl szSr) (by assumption) ?_
    try simp only [Act.put, sqA, sqB, sqC]
    refine wpV 1 ⟨some 39, .move (.tmp 7), 3, _, _, none⟩ rfl ?_
    try simp only [Act.put, sqA, sqB, sqC]
    refine wpV 2 ⟨some 40, .move (.tmp 8), 3, _, _, none⟩ rfl ?_
    try simp only [Act.put, sqA, sqB, sqC]
    refine wpV 3 ⟨some 41, .fieldAddr 26 (.tmp 2) 2, 0, _, _, none⟩ rfl ?_
    try simp only [Act.put, sqA, sqB, sqC]
    refine wpV 4 ⟨some 42, .load 23 (.tmp 41), 23, _, _, none⟩ rfl ?_
    try simp only [Act.put, sqA, sqB, sqC]
    refine wpV 5 ⟨some 43, .move (.tmp 6), 3, _, _, none⟩ rfl ?_
    try simp only [Act.put, sqA, sqB, sqC]
    refine wpV 7 ⟨some 45, .fieldAddr 26 (.tmp 2) 3, 0, _, _, none⟩ rfl ?_
    try simp only [Act.put, sqA, sqB, sqC]
    refine wpV 8 ⟨some 46, .load 24 (.tmp 45), 24, _, _, none⟩ rfl ?_
    try simp only [Act.put, sqA, sqB, sqC]
    have HDR : Hid (Calls Tryz.prog 29 #[.slice (some ⟨b, off, none⟩) s.pn pc, .int .i64 (i : Int)] We fun e w' => (∃ vb vd, e = .returned (.slice vb (s.pn - 1) vd) ∧ w'.ownsRow We.heap.size 30 36 (.slice vb (s.pn - 1) vd) (s.pn - 1) (flatL (delF (pf s.P) i) (s.pn - 1))) ∧ Below We.heap.size We w') := rdrop_any b off s.pn pc s.P i We ((HSR.out.below HB1.out).below HBe.out) hi hcap (by omega)
    refine wpAnyH_ready (rs := [6]) (by kernel_rfl) (by simp) ?_
    refine (AllReadyH.cons (o := ⟨some 44, .call ⟨.value (.func 29), #[.tmp 42, .tmp 43], #[23, 3]⟩, 23, _, _, none⟩) rfl (fun K hK => ?_) AllReadyH.nil)
    go_simp
    refine HDR.out.mono ?_
    rintro e V1 ⟨⟨vb, vd, rfl, hO1⟩, hb1⟩
    have HO1 : Hid (V1.ownsRow We.heap.size 30 36 (.slice vb (s.pn - 1) vd) (s.pn - 1) (flatL (delF (pf s.P) i) (s.pn - 1))) := hO1
    have HBV : Hid (Below Wd.heap.size Wd V1 ∧ We.heap.size ≤ V1.heap.size) := ⟨Below.transS HBe.out hb1, hb1.size⟩
    have S1 := SB.out V1 HBV.out.1
    clear hb1 hO1 HDR
    refine hK.out _ _ S1 (fun _ => ?_)
    clear hK K
    try simp only [Act.put, sqA, sqB, sqC]
    have HWI : Hid (Calls Tryz.prog 25 #[.agg #[.int .i64 s.nu, .int .i64 s.a, .int .i64 s.b, .slice (some ⟨b, off, none⟩) s.pn pc, .slice ha s.hn hc], .int .i64 0, .int .i64 y.am, .slice vb (s.pn - 1) vd, .slice ha s.hn hc] V1 fun e w' => e = .returned (.agg #[.int .i64 (s.nu + 1), .int .i64 (s.a + 0), .int .i64 (s.b + y.am), .slice vb (s.pn - 1) vd, .slice ha s.hn hc]) ∧ Below V1.heap.size V1 w') := rwith_any s ⟨some ⟨b, off, none⟩, pc, ha, hc⟩ 0 y.am vb (s.pn - 1) vd ha s.hn hc V1 E1.out E2.out E3.out
    refine wpAnyH_ready (rs := [9]) (by kernel_rfl) (by simp) ?_
    refine (AllReadyH.cons (o := ⟨some 47, .call ⟨.value (.func 25), #[.tmp 38, .tmp 39, .tmp 40, .tmp 44, .tmp 46], #[26, 3, 3, 23, 24]⟩, 26, _, _, none⟩) rfl (fun K hK => ?_) AllReadyH.nil)
    go_simp
    refine HWI.out.mono ?_
    rintro e V3 ⟨rfl, hb3⟩
    have HB3 : Hid (Below Wd.heap.size Wd V3 ∧ V1.heap.size ≤ V3.heap.size) := ⟨Below.transS HBV.out.1 hb3, hb3.size⟩
    have HO3 : Hid (V3.ownsRow We.heap.size 30 36 (.slice vb (s.pn - 1) vd) (s.pn - 1) (flatL (delF (pf s.P) i) (s.pn - 1))) := own_below HO1.out hb3
    have HK3 : Hid (V3.heap[w.heap.size + 1]? = some (.cells #[.int .i64 0, .int .i64 0, .int .i64 0, .slice none 0 0, .slice none 0 0] 26 (0, 0))) := by
     show V3.heap[w.heap.size + 1]? = some (.cells #[.int .i64 0, .int .i64 0, .int .i64 0, .slice none 0 0, .slice none 0 0] 26 (0, 0))
     rw [HB3.out.1.block _ (lt_of_block HK1.out)]
     exact HK1.out
    have S2 := SB.out V3 HB3.out.1
    refine hK.out _ _ S2 (fun _ => ?_)
    clear hK K hb3 HWI HO1 S0 S1
    try simp only [Act.put, sqA, sqB, sqC]
    refine wpAnyH_ready (rs := [10]) (by kernel_rfl) (by simp) ?_
    refine (AllReadyH.cons (o := ⟨none, .store 26 (.tmp 4) (.tmp 47), 0, _, _, none⟩) rfl (fun K hK => ?_) AllReadyH.nil)
    refine step_storeR rfl (.tmp 4) (.tmp 47) rfl (w.heap.size + 1) (by rfl) (s.nu + 1) (s.a + 0) (s.b + y.am) vb (s.pn - 1) vd ha s.hn hc (by rfl) HK3.out ?_
    intro V4 hx hfr
    have h0 : V4.heap[w.heap.size]? = some (.cells #[.int .i64 s.nu, .int .i64 s.a, .int .i64 s.b, .slice (some ⟨b, off, none⟩) s.pn pc, .slice ha s.hn hc] 26 (0, 0)) := by
     have h1 : V3.heap[w.heap.size]? = some (.cells #[.int .i64 s.nu, .int .i64 s.a, .int .i64 s.b, .slice (some ⟨b, off, none⟩) s.pn pc, .slice ha s.hn hc] 26 (0, 0)) := by rw [HB3.out.1.block _ (lt_of_block HC1.out)]; exact HC1.out
     rw [hfr.block _ (lt_of_block h1) (by simp)]
     exact h1
    have S3 : (fun u : World => u.rangeAt w.heap.size 0 ([.int .i64 s.nu, .int .i64 s.a, .int .i64 s.b, .slice (some ⟨b, off, none⟩) s.pn pc, .slice ha s.hn hc]) ∧ u.cell? ⟨w.heap.size, 3, none⟩ = some (.slice (some ⟨b, off, none⟩) s.pn pc) ∧ u.cell? ⟨w.heap.size, 4, none⟩ = some (.slice ha s.hn hc)) V4 := ⟨svq_range (s := s) (p := ⟨some ⟨b, off, none⟩, pc, ha, hc⟩) h0, (five_of h0).c3, (five_of h0).c4⟩
    have HX : Hid (V4.heap[w.heap.size + 1]? = some (.cells #[.int .i64 (s.nu + 1), .int .i64 (s.a + 0), .int .i64 (s.b + y.am), .slice vb (s.pn - 1) vd, .slice ha s.hn hc] 26 (0, 0))) := hx
    have hWD : w.heap.size ≤ Wd.heap.size := HB1.out.size
    have hWE : Wd.heap.size ≤ We.heap.size := HBe.out.size
    have HB4 : Hid (Below w.heap.size w V4) := (HB1.out.trans (HB3.out.1.mono hWD)).trans (hfr.below (by have := HB3.out.1.size; omega) (fun k hk => by rw [List.mem_singleton.1 hk]; omega))
    have HO4 : Hid (V4.ownsRow We.heap.size 30 36 (.slice vb (s.pn - 1) vd) (s.pn - 1) (flatL (delF (pf s.P) i) (s.pn - 1))) := own_keep HO3.out (fun g e => hfr.block g (HO3.out.lt g e).2 (fun e2 => by
     have h1 := (HO3.out.lt g e).1
     rw [List.mem_singleton.1 e2] at h1
     omega))
    refine hK.out _ _ S3 (fun _ => ?_)
    clear hK K hx hfr h0 S2 S3 HO3 HB3 HK3 HBV
    try simp only [Act.put]
    refine wpV 11 ⟨some 5, .assign (.const (.int .i64 0)), 3, _, _, none⟩ rfl ?_
    try simp only [Act.put, sqA, sqB, sqC]
    refine wpAnyH_done (by kernel_rfl) (NoPanic.normal ?_) _
    try simp only [Act.put, sqA, sqB, sqC]
    clear hHeld
    go_wp2
    refine bodyPost_ret (results_R2 Tryz.results12 _ _ (w.heap.size + 1) 26 _ _ _ _ _ (0, 0) rfl HX.out) rfl ⟨⟨_, HH.out, .inr (.inr ⟨HR.out, i, rfl, hi, ⟨vb, vd, ha, hc⟩, by rw [HBK.out]; simp [svv, subY, nxt], ?_⟩)⟩, HB4.out⟩
    rw [HBK.out]
    exact sub_at HV.out HB4.out hi HO4.out rfl rfl rfl rfl
 ·rw [decide_eq_false hr]
  have HR : Hid (¬ Rgt s) := hr
  clear hr c0 c1 c2 c3 c4 cf
  go_wp2
  exact bodyPost_ret (results_R2 Tryz.results12 _ _ (w.heap.size + 1) 26 _ _ _ _ _ (0, 0) rfl (five_all HK.out)) rfl ⟨⟨_, HH.out, .inl ⟨HR.out, rfl⟩⟩, five_below HB.out (by omega)⟩
set_option maxRecDepth 100000 in
set_option maxHeartbeats 6400000 in
theorem rsettle_any (s : Sv) (p : Pl) (id : Int) (sa : Option Addr) (sc : Nat) (sb : List Nat) (hsn0 : sa = none → sb.length = 0) (hsb : ∀ i, sb.getD i 0 < 256) (hsl : sb.length ≤ 140737488351232) (w : World) (hS : SlB w sa sb) (h : SvAt w s p) (hs : s.Small) (hsp : ∀ a, p.pa = some a → ∃ bb off, a = ⟨bb, off, none⟩) :
  Calls Tryz.prog 10 #[.agg (svv s p), .int .i64 id, .slice sa sb.length sc] w fun e w' => (∃ k, HatR (fun j => (s.P j).id) s.pn id k ∧ RSet s sb k e w') ∧ Below w.heap.size w w' := by
 obtain ⟨hn0, hn1, hsz, hb0⟩ := two_new w s p 26 26
 have hc := right_any s p _ (h.below hb0) hs
 have hat := payAt_any p.pa s.pn p.pc s.P id _ (h.py.below hb0) (by have := hs.n; omega)
 have HV : Hid (SvAt w s p) := h
 have HSB : Hid (SlB w sa sb ∧ (sa = none → sb.length = 0) ∧ (∀ i, sb.getD i 0 < 256) ∧ sb.length ≤ 140737488351232) := ⟨hS, hsn0, hsb, hsl⟩
 clear hS hsn0 hsb hsl
 have hsn := hs.n
 clear h hs
 unfold svv sv0 pl0 at hn0 hn1 hsz hb0 hc hat
 unfold svv
 simp only at hn0 hn1 hsz hb0 hc hat
 have k3 := (five_of hn0).c3
 go_enter Tryz.func10, Tryz.ntmps10
 go_wp2_with fail
 generalize ((w.alloc (.cells #[.int .i64 s.nu, .int .i64 s.a, .int .i64 s.b, .slice p.pa s.pn p.pc, .slice p.ha s.hn p.hc] 26)).alloc (.cells #[.int .i64 0, .int .i64 0, .int .i64 0, .slice none 0 0, .slice none 0 0] 26)) = W0 at *
 refine hat.mono ?_
 rintro e w0 ⟨k, hk, rfl, rfl⟩
 have HH : Hid (HatR (fun j => (s.P j).id) s.pn id k) := hk
 clear hat hk k3
 obtain ⟨c0, c1, c2, c3, c4, cf⟩ := five_of hn0
 go_wp2_with fail
 refine hc.mono ?_
 rintro e w1 ⟨rfl, hb1⟩
 have HB : Hid (Below w.heap.size w w1) := hb0.trans (hb1.mono (by omega))
 have k0 := hb1.block _ (show w.heap.size < w0.heap.size by omega)
 rw [hn0] at k0
 have k1 := hb1.block _ (show w.heap.size + 1 < w0.heap.size by omega)
 rw [hn1] at k1
 have hl1 : w.heap.size + 1 < w1.heap.size := by have := hb1.size; omega
 clear hc hb0 hb1 hn0 hn1 hsz c0 c1 c2 c3 c4 cf
 obtain ⟨c0, c1, c2, c3, c4, cf⟩ := five_of k0
 obtain ⟨d0, d1, d2, d3, d4, df⟩ := five_of k1
 have HK : Hid (w1.heap[w.heap.size + 1]? = some (.cells #[.int .i64 0, .int .i64 0, .int .i64 0, .slice none 0 0, .slice none 0 0] 26 (0, 0))) := k1
 have HC : Hid (w1.heap[w.heap.size]? = some (.cells #[.int .i64 s.nu, .int .i64 s.a, .int .i64 s.b, .slice p.pa s.pn p.pc, .slice p.ha s.hn p.hc] 26 (0, 0))) := k0
 clear k0 k1
 by_cases hr : Rgt s
 ·rw [decide_eq_true hr]
  have HR : Hid (Rgt s) := hr
  rcases HH.out with ⟨rfl, hno⟩ | ⟨i, rfl, hi, hhit, hfst⟩
  ·clear hr hno
   go_wp2
   exact bodyPost_ret (results_R2 Tryz.results10 _ _ (w.heap.size + 1) 26 _ _ _ _ _ (0, 0) rfl (five_all HK.out)) rfl ⟨⟨_, HH.out, .inr (.inl ⟨HR.out, by decide, rfl⟩)⟩, five_below HB.out (by omega)⟩
  ·have hi' : (i : Int) < s.pn := by omega
   have hpos : ¬ ((i : Int) < 0) := by omega
   have hone := (hr.1.2.1.2.1 i hi).2
   have ham := hone.2.2.1
   have hfr := hone.2.1
   have ba := hr.1.1.2.1
   have bb := hr.1.1.2.2
   have E1 : Hid (wrap64 (s.nu + 1) = s.nu + 1) := by show wrap64 (s.nu + 1) = _; have := hr.1.1.1; have := hr.2; simp [wrap64]; omega
   have hpn8 : s.pn ≤ 8 := by have := hr.1.2.1.1; omega
   have HSR : Hid (Src w p.pa s.pn p.pc (flatL (pf s.P) s.pn)) := HV.out.py.src HV.out.pnil
   have HLK : Hid (Zb (s.P i).lk) := HV.out.py.lk i hi
   obtain ⟨b, off, hpa, hrg⟩ := HSR.out.1 (by omega)
   obtain ⟨pa, pc, ha, hc⟩ := p
   dsimp only at *
   subst hpa
   have hri : w.rangeAt b (off + i * 36) (pyl (s.P i)) := (flatL_range s.pn (pf_len s.P s.pn)).1 hrg i hi
   have HRI : Hid (w.rangeAt b (off + i * 36) (pyl (s.P i))) := hri
   have hcap := HV.out.pcap
   dsimp only at hcap
   clear hr hsp hhit hfst hrg hri hone c0 c1 c2 c3 c4 cf
   have hbl : b < w.heap.size := World.block_lt_of_cell? w ⟨b, off + i * 36, none⟩ (py_cells HRI.out).1
   obtain ⟨y, hy⟩ : ∃ y, s.P i = y := ⟨_, rfl⟩
   have HYY : Hid (s.P i = y) := hy
   rw [hy] at ham hfr HRI HLK
   clear hy
   obtain ⟨c0, c1, c2, c3, c4, cf⟩ := five_of HC.out
   go_wp2_with fail
   have SC0 : Hid (∀ u : World, Below w1.heap.size w1 u → u.cell? ⟨w.heap.size, 3, none⟩ = some (.slice (some ⟨b, off, none⟩) s.pn pc) ∧ u.rangeAt b (off + i * 36 + 4) (bl y.lk 32)) := fun u hb => by
    have hri := range_below (range_below HRI.out HB.out) hb
    exact ⟨by rw [hb.cell (p := ⟨w.heap.size, 3, none⟩) (lt_of_block HC.out)]; exact (five_of HC.out).c3, (py_cells hri).2.2.2.2⟩
   have HBd : Hid (Below w1.heap.size w1 w1.drew) := (Below.refl _ _).drew
   have S0 := SC0.out w1.drew HBd.out
   refine wp_region_noPanic ?_
   refine wp_region_held_drew (S := fun u => u.cell? ⟨w.heap.size, 3, none⟩ = some (.slice (some ⟨b, off, none⟩) s.pn pc) ∧ u.rangeAt b (off + i * 36 + 4) (bl y.lk 32)) (by kernel_rfl) S0 (fun hHeld => ?_)
   have HB0 : Hid (Below w.heap.size w w1.drew) := HB.out.drew
   have HK0 : Hid (w1.drew.heap[w.heap.size + 1]? = some (.cells #[.int .i64 0, .int .i64 0, .int .i64 0, .slice none 0 0, .slice none 0 0] 26 (0, 0))) := HK.out
   have HC0 : Hid (w1.drew.heap[w.heap.size]? = some (.cells #[.int .i64 s.nu, .int .i64 s.a, .int .i64 s.b, .slice (some ⟨b, off, none⟩) s.pn pc, .slice ha s.hn hc] 26 (0, 0))) := HC.out
   have HSM : Hid (Calls Tryz.prog 28 #[.slice sa sb.length sc] w1.drew fun e w' => e = .returned (.agg (hv (sZ (sumF sb)))) ∧ Below w1.drew.heap.size w1.drew w') := by
    show Calls Tryz.prog _ _ _ _
    have hRl : (sumF sb).length = 32 := endL_len _
    rw [← sv_sZ hRl]
    exact rbsum_any sa sc sb w1.drew (fun h0 => by obtain ⟨g, o, e1, hr⟩ := HSB.out.1 h0; exact ⟨g, o, e1, range_below hr HB0.out⟩) HSB.out.2.1 HSB.out.2.2.1 HSB.out.2.2.2
   clear c0 c1 c2 c3 c4 cf d0 d1 d2 d3 d4 df
   generalize w1.drew = Wx at *
   refine wpV 0 ⟨some 25, .move (.tmp 2), 31, _, _, none⟩ rfl ?_
   try simp only [Act.put, sqA, sqB, sqC]
   refine wpV 2 ⟨some 27, .fieldAddr 26 (.tmp 3) 2, 0, _, _, none⟩ rfl ?_
   try simp only [Act.put, sqA, sqB, sqC]
   refine wpV 3 ⟨some 28, .load 23 (.tmp 27), 23, _, _, none⟩ rfl ?_
   try simp only [Act.put, sqA, sqB, sqC]
   refine wpV 4 ⟨some 29, .move (.tmp 8), 3, _, _, none⟩ rfl ?_
   try simp only [Act.put, sqA, sqB, sqC]
   refine wpV 5 ⟨some 30, .indexAddr 23 (.tmp 28) (.tmp 29), 0, _, _, none⟩ rfl ?_
   try simp only [Act.put, sqA, sqB, sqC]
   refine wpV 6 ⟨some 31, .fieldAddr 30 (.tmp 30) 4, 0, _, _, none⟩ rfl ?_
   try simp only [Act.put, sqA, sqB, sqC]
   refine wpAnyH_take (i := 7) (oi := ⟨some 32, .load 28 (.tmp 31), 28, _, _, none⟩) rfl (by kernel_rfl) (by kernel_rfl) (by kernel_rfl) (fun _ _ _ h => h) (yieldsIf_load_mid (by rfl) _ _ rfl b (off + i * 36 + 4) rfl (bl y.lk 32) _ (fun _ h => h.2) Tryz.underlying28 rfl (szHb _)) (by assumption) ?_
   try simp only [Act.put, sqA, sqB, sqC]
   refine wpAnyH_ready (rs := [1]) (by kernel_rfl) (by simp) ?_
   refine (AllReadyH.cons (o := ⟨some 26, .call ⟨.value (.func 28), #[.tmp 25], #[31]⟩, 28, _, _, none⟩) rfl (fun K hK => ?_) AllReadyH.nil)
   go_simp
   refine HSM.out.mono ?_
   rintro e w2 ⟨rfl, hb2⟩
   have HB2 : Hid (Below w1.heap.size w1 w2) := Below.transS HBd.out hb2
   have HBW : Hid (Below w.heap.size w w2) := HB.out.trans (HB2.out.mono HB.out.size)
   have HK2 : Hid (w2.heap[w.heap.size + 1]? = some (.cells #[.int .i64 0, .int .i64 0, .int .i64 0, .slice none 0 0, .slice none 0 0] 26 (0, 0))) := by
    show w2.heap[w.heap.size + 1]? = _
    rw [HB2.out.block _ (lt_of_block HK.out)]; exact HK.out
   have HC2 : Hid (w2.heap[w.heap.size]? = some (.cells #[.int .i64 s.nu, .int .i64 s.a, .int .i64 s.b, .slice (some ⟨b, off, none⟩) s.pn pc, .slice ha s.hn hc] 26 (0, 0))) := by
    show w2.heap[w.heap.size]? = _
    rw [HB2.out.block _ (lt_of_block HC.out)]; exact HC.out
   have S1 := SC0.out w2 HB2.out
   refine hK.out _ _ S1 (fun _ => ?_)
   clear hK K hb2 HSM
   try simp only [Act.put, sqA, sqB, sqC]
   by_cases hqq : hq (sZ (sumF sb)) y.lk = true
   ·have HQ : Hid (hq (sZ (sumF sb)) y.lk = true) := hqq
    refine wpU 8 ⟨some 33, .binOp .neq 28 (.tmp 26) (.tmp 32) 28, 4, _, _, none⟩ (v := .bool false) rfl ?_ ?_
    ·intro wz hSw; (try dsimp only at hSw); exact exec_neP _ _ rfl (sZ_bd sb) HLK.out rfl rfl (by rw [hqq]; rfl) wz
    try simp only [Act.put, sqA, sqB, sqC]
    refine wpV 9 ⟨some 24, .assign (.tmp 33), 4, _, _, none⟩ rfl ?_
    try simp only [Act.put, sqA, sqB, sqC]
    refine wpAnyH_done (by kernel_rfl) (NoPanic.normal ?_) _
    try simp only [Act.put, sqA, sqB, sqC]
    clear hHeld S0 S1 SC0 hqq HBd HB0 HK0 HC0 HB HK HC HB2
    have hl1 : w.heap.size + 1 < w2.heap.size := lt_of_block HK2.out
    obtain ⟨d0, d1, d2, d3, d4, df⟩ := five_of HK2.out
    go_wp2_with fail
    generalize w2 = w1 at *
    have HB : Hid (Below w.heap.size w w1) := HBW.out
    have HK : Hid (w1.heap[w.heap.size + 1]? = some (.cells #[.int .i64 0, .int .i64 0, .int .i64 0, .slice none 0 0, .slice none 0 0] 26 (0, 0))) := HK2.out
    have HC : Hid (w1.heap[w.heap.size]? = some (.cells #[.int .i64 s.nu, .int .i64 s.a, .int .i64 s.b, .slice (some ⟨b, off, none⟩) s.pn pc, .slice ha s.hn hc] 26 (0, 0))) := HC2.out
    clear HBW HK2 HC2
    rcases hfr with hfr | hfr
    ·have HFR : Hid (y.fr = 0) := hfr
     have HBK : Hid (opnY s i = { subY (nxt s) i with b := s.b + y.am }) := by
      show opnY s i = _
      unfold opnY
      rw [HYY.out, if_pos hfr]
     have E2 : Hid (wrap64 (s.a + 0) = s.a + 0) := by show wrap64 (s.a + 0) = s.a + 0; simp [wrap64]; omega
     have E3 : Hid (wrap64 (s.b + y.am) = s.b + y.am) := by show wrap64 (s.b + y.am) = s.b + y.am; simp [wrap64]; omega
     have SA : Hid (∀ u : World, Below w1.heap.size w1 u → u.cell? ⟨w.heap.size, 3, none⟩ = some (.slice (some ⟨b, off, none⟩) s.pn pc) ∧ u.cell? ⟨b, off + i * 36 + 1, none⟩ = some (.int .i64 0) ∧ u.cell? ⟨b, off + i * 36 + 2, none⟩ = some (.int .i64 y.am)) := fun u hb => by
      have hri := range_below (range_below HRI.out HB.out) hb
      have h2 := py_cells hri
      refine ⟨by rw [hb.cell (p := ⟨w.heap.size, 3, none⟩) (lt_of_block HC.out)]; exact (five_of HC.out).c3, ?_, h2.2.2.1⟩
      rw [← HFR.out]
      exact h2.2.1
     have S0 := SA.out w1.drew (Below.refl _ _).drew
     refine wp_region_noPanic ?_
     refine wp_region_held_drew (S := fun u => u.cell? ⟨w.heap.size, 3, none⟩ = some (.slice (some ⟨b, off, none⟩) s.pn pc) ∧ u.cell? ⟨b, off + i * 36 + 1, none⟩ = some (.int .i64 0) ∧ u.cell? ⟨b, off + i * 36 + 2, none⟩ = some (.int .i64 y.am)) (by kernel_rfl) S0 (fun hHeld => ?_)
     have HBd : Hid (Below w1.heap.size w1 w1.drew) := (Below.refl _ _).drew
     have HB1 : Hid (Below w.heap.size w w1.drew) := HB.out.drew
     have HK1 : Hid (w1.drew.heap[w.heap.size + 1]? = some (.cells #[.int .i64 0, .int .i64 0, .int .i64 0, .slice none 0 0, .slice none 0 0] 26 (0, 0))) := HK.out
     have HC1 : Hid (w1.drew.heap[w.heap.size]? = some (.cells #[.int .i64 s.nu, .int .i64 s.a, .int .i64 s.b, .slice (some ⟨b, off, none⟩) s.pn pc, .slice ha s.hn hc] 26 (0, 0))) := HC.out
     have hld : w.heap.size + 1 < w1.drew.heap.size := hl1
     clear d0 d1 d2 d3 d4 df SA HB HK HC hl1
     generalize w1.drew = Wd at *
     refine wpV 0 ⟨some 36, .fieldAddr 26 (.tmp 3) 2, 0, _, _, none⟩ rfl ?_
     try simp only [Act.put, sqA, sqB, sqC]
     refine wpV 1 ⟨some 37, .load 23 (.tmp 36), 23, _, _, none⟩ rfl ?_
     try simp only [Act.put, sqA, sqB, sqC]
     refine wpV 2 ⟨some 38, .move (.tmp 8), 3, _, _, none⟩ rfl ?_
     try simp only [Act.put, sqA, sqB, sqC]
     refine wpV 3 ⟨some 39, .indexAddr 23 (.tmp 37) (.tmp 38), 0, _, _, none⟩ rfl ?_
     try simp only [Act.put, sqA, sqB, sqC]
     refine wpV 4 ⟨some 40, .fieldAddr 30 (.tmp 39) 1, 0, _, _, none⟩ rfl ?_
     try simp only [Act.put, sqA, sqB, sqC]
     refine wpV 5 ⟨some 41, .load 3 (.tmp 40), 3, _, _, none⟩ rfl ?_
     try simp only [Act.put, sqA, sqB, sqC]
     refine wpV 6 ⟨some 42, .binOp .sub 3 (.const (.int .i64 1)) (.tmp 41) 3, 3, _, _, none⟩ rfl ?_
     try simp only [Act.put, sqA, sqB, sqC]
     refine wpV 7 ⟨some 43, .fieldAddr 26 (.tmp 3) 2, 0, _, _, none⟩ rfl ?_
     try simp only [Act.put, sqA, sqB, sqC]
     refine wpV 8 ⟨some 44, .load 23 (.tmp 43), 23, _, _, none⟩ rfl ?_
     try simp only [Act.put, sqA, sqB, sqC]
     refine wpV 9 ⟨some 45, .move (.tmp 8), 3, _, _, none⟩ rfl ?_
     try simp only [Act.put, sqA, sqB, sqC]
     refine wpV 10 ⟨some 46, .indexAddr 23 (.tmp 44) (.tmp 45), 0, _, _, none⟩ rfl ?_
     try simp only [Act.put, sqA, sqB, sqC]
     refine wpV 11 ⟨some 47, .fieldAddr 30 (.tmp 46) 2, 0, _, _, none⟩ rfl ?_
     try simp only [Act.put, sqA, sqB, sqC]
     refine wpV 12 ⟨some 48, .load 3 (.tmp 47), 3, _, _, none⟩ rfl ?_
     try simp only [Act.put, sqA, sqB, sqC]
     refine wpAnyH_ready (rs := [13]) (by kernel_rfl) (by simp) ?_
     refine (AllReadyH.cons (o := ⟨some 49, .call ⟨.value (.func 24), #[.tmp 42, .tmp 48], #[3, 3]⟩, 66, _, _, none⟩) rfl (fun K hK => ?_) AllReadyH.nil)
     go_simp
     refine (to_1 y.am Wd).mono ?_
     rintro e Vw ⟨rfl, hVw⟩
     rw [hVw]
     clear hVw
     refine hK.out _ _ S0 (fun _ => ?_)
     clear hK K
     try simp only [Act.put, sqA, sqB, sqC]
     refine wpV 14 ⟨some 35, .move (.tmp 49), 66, _, _, none⟩ rfl ?_
     try simp only [Act.put, sqA, sqB, sqC]
     refine wpV 15 ⟨some 50, .extract (.tmp 35) 0, 3, _, _, none⟩ rfl ?_
     try simp only [Act.put, sqA, sqB, sqC]
     refine wpV 16 ⟨some 51, .extract (.tmp 35) 1, 3, _, _, none⟩ rfl ?_
     try simp only [Act.put, sqA, sqB, sqC]
     refine wpV 17 ⟨some 9, .assign (.tmp 50), 3, _, _, none⟩ rfl ?_
     try simp only [Act.put, sqA, sqB, sqC]
     refine wpV 18 ⟨some 10, .assign (.tmp 51), 3, _, _, none⟩ rfl ?_
     try simp only [Act.put, sqA, sqB, sqC]
     refine wpAnyH_done (by kernel_rfl) (NoPanic.normal ?_) _
     try simp only [Act.put, sqA, sqB, sqC]
     clear hHeld S0
     go_wp2_with fail
     have SB : Hid (∀ u : World, Below Wd.heap.size Wd u → u.rangeAt w.heap.size 0 ([.int .i64 s.nu, .int .i64 s.a, .int .i64 s.b, .slice (some ⟨b, off, none⟩) s.pn pc, .slice ha s.hn hc]) ∧ u.cell? ⟨w.heap.size, 3, none⟩ = some (.slice (some ⟨b, off, none⟩) s.pn pc) ∧ u.cell? ⟨w.heap.size, 4, none⟩ = some (.slice ha s.hn hc)) := fun u hb => by
      have h0 : u.heap[w.heap.size]? = some (.cells #[.int .i64 s.nu, .int .i64 s.a, .int .i64 s.b, .slice (some ⟨b, off, none⟩) s.pn pc, .slice ha s.hn hc] 26 (0, 0)) := by rw [hb.block _ (lt_of_block HC1.out)]; exact HC1.out
      have h1 := five_of h0
      exact ⟨svq_range (s := s) (p := ⟨some ⟨b, off, none⟩, pc, ha, hc⟩) h0, h1.c3, h1.c4⟩
     have HBe : Hid (Below Wd.heap.size Wd Wd.drew) := (Below.refl _ _).drew
     have S0 := SB.out Wd.drew HBe.out
     refine wp_region_noPanic ?_
     refine wp_region_held_drew (S := fun u => u.rangeAt w.heap.size 0 ([.int .i64 s.nu, .int .i64 s.a, .int .i64 s.b, .slice (some ⟨b, off, none⟩) s.pn pc, .slice ha s.hn hc]) ∧ u.cell? ⟨w.heap.size, 3, none⟩ = some (.slice (some ⟨b, off, none⟩) s.pn pc) ∧ u.cell? ⟨w.heap.size, 4, none⟩ = some (.slice ha s.hn hc)) (by kernel_rfl) S0 (fun hHeld => ?_)
     generalize Wd.drew = We at *
     refine wpAnyH_take (i := 0) (oi := ⟨some 52, .load 26 (.tmp 3), 26, _, _, none⟩) rfl (by kernel_rfl) (by kernel_rfl) (by kernel_rfl) (fun _ _ _ h => h) (yieldsIf_load_mid (by rfl) _ _ rfl w.heap.size 0 rfl ([.int .i64 s.nu, .int .i64 s.a, .int .i64 s.b, .slice (some ⟨b, off, none⟩) s.pn pc, .slice ha s.hn hc]) _ (fun _ h => h.1) Tryz.underlying26 rfl szSr) (by assumption) ?_
     try simp only [Act.put, sqA, sqB, sqC]
     refine wpV 1 ⟨some 53, .move (.tmp 9), 3, _, _, none⟩ rfl ?_
     try simp only [Act.put, sqA, sqB, sqC]
     refine wpV 2 ⟨some 54, .move (.tmp 10), 3, _, _, none⟩ rfl ?_
     try simp only [Act.put, sqA, sqB, sqC]
     refine wpV 3 ⟨some 55, .fieldAddr 26 (.tmp 3) 2, 0, _, _, none⟩ rfl ?_
     try simp only [Act.put, sqA, sqB, sqC]
     refine wpV 4 ⟨some 56, .load 23 (.tmp 55), 23, _, _, none⟩ rfl ?_
     try simp only [Act.put, sqA, sqB, sqC]
     refine wpV 5 ⟨some 57, .move (.tmp 8), 3, _, _, none⟩ rfl ?_
     try simp only [Act.put, sqA, sqB, sqC]
     refine wpV 7 ⟨some 59, .fieldAddr 26 (.tmp 3) 3, 0, _, _, none⟩ rfl ?_
     try simp only [Act.put, sqA, sqB, sqC]
     refine wpV 8 ⟨some 60, .load 24 (.tmp 59), 24, _, _, none⟩ rfl ?_
     try simp only [Act.put, sqA, sqB, sqC]
     have HDR : Hid (Calls Tryz.prog 29 #[.slice (some ⟨b, off, none⟩) s.pn pc, .int .i64 (i : Int)] We fun e w' => (∃ vb vd, e = .returned (.slice vb (s.pn - 1) vd) ∧ w'.ownsRow We.heap.size 30 36 (.slice vb (s.pn - 1) vd) (s.pn - 1) (flatL (delF (pf s.P) i) (s.pn - 1))) ∧ Below We.heap.size We w') := rdrop_any b off s.pn pc s.P i We ((HSR.out.below HB1.out).below HBe.out) hi hcap (by omega)
     refine wpAnyH_ready (rs := [6]) (by kernel_rfl) (by simp) ?_
     refine (AllReadyH.cons (o := ⟨some 58, .call ⟨.value (.func 29), #[.tmp 56, .tmp 57], #[23, 3]⟩, 23, _, _, none⟩) rfl (fun K hK => ?_) AllReadyH.nil)
     go_simp
     refine HDR.out.mono ?_
     rintro e V1 ⟨⟨vb, vd, rfl, hO1⟩, hb1⟩
     have HO1 : Hid (V1.ownsRow We.heap.size 30 36 (.slice vb (s.pn - 1) vd) (s.pn - 1) (flatL (delF (pf s.P) i) (s.pn - 1))) := hO1
     have HBV : Hid (Below Wd.heap.size Wd V1 ∧ We.heap.size ≤ V1.heap.size) := ⟨Below.transS HBe.out hb1, hb1.size⟩
     have S1 := SB.out V1 HBV.out.1
     clear hb1 hO1 HDR
     refine hK.out _ _ S1 (fun _ => ?_)
     clear hK K
     try simp only [Act.put, sqA, sqB, sqC]
     have HWI : Hid (Calls Tryz.prog 25 #[.agg #[.int .i64 s.nu, .int .i64 s.a, .int .i64 s.b, .slice (some ⟨b, off, none⟩) s.pn pc, .slice ha s.hn hc], .int .i64 0, .int .i64 y.am, .slice vb (s.pn - 1) vd, .slice ha s.hn hc] V1 fun e w' => e = .returned (.agg #[.int .i64 (s.nu + 1), .int .i64 (s.a + 0), .int .i64 (s.b + y.am), .slice vb (s.pn - 1) vd, .slice ha s.hn hc]) ∧ Below V1.heap.size V1 w') := rwith_any s ⟨some ⟨b, off, none⟩, pc, ha, hc⟩ 0 y.am vb (s.pn - 1) vd ha s.hn hc V1 E1.out E2.out E3.out
     refine wpAnyH_ready (rs := [9]) (by kernel_rfl) (by simp) ?_
     refine (AllReadyH.cons (o := ⟨some 61, .call ⟨.value (.func 25), #[.tmp 52, .tmp 53, .tmp 54, .tmp 58, .tmp 60], #[26, 3, 3, 23, 24]⟩, 26, _, _, none⟩) rfl (fun K hK => ?_) AllReadyH.nil)
     go_simp
     refine HWI.out.mono ?_
     rintro e V3 ⟨rfl, hb3⟩
     have HB3 : Hid (Below Wd.heap.size Wd V3 ∧ V1.heap.size ≤ V3.heap.size) := ⟨Below.transS HBV.out.1 hb3, hb3.size⟩
     have HO3 : Hid (V3.ownsRow We.heap.size 30 36 (.slice vb (s.pn - 1) vd) (s.pn - 1) (flatL (delF (pf s.P) i) (s.pn - 1))) := own_below HO1.out hb3
     have HK3 : Hid (V3.heap[w.heap.size + 1]? = some (.cells #[.int .i64 0, .int .i64 0, .int .i64 0, .slice none 0 0, .slice none 0 0] 26 (0, 0))) := by
      show V3.heap[w.heap.size + 1]? = some (.cells #[.int .i64 0, .int .i64 0, .int .i64 0, .slice none 0 0, .slice none 0 0] 26 (0, 0))
      rw [HB3.out.1.block _ (lt_of_block HK1.out)]
      exact HK1.out
     have S2 := SB.out V3 HB3.out.1
     refine hK.out _ _ S2 (fun _ => ?_)
     clear hK K hb3 HWI HO1 S0 S1
     try simp only [Act.put, sqA, sqB, sqC]
     refine wpAnyH_ready (rs := [10]) (by kernel_rfl) (by simp) ?_
     refine (AllReadyH.cons (o := ⟨none, .store 26 (.tmp 6) (.tmp 61), 0, _, _, none⟩) rfl (fun K hK => ?_) AllReadyH.nil)
     refine step_storeR rfl (.tmp 6) (.tmp 61) rfl (w.heap.size + 1) (by rfl) (s.nu + 1) (s.a + 0) (s.b + y.am) vb (s.pn - 1) vd ha s.hn hc (by rfl) HK3.out ?_
     intro V4 hx hfr
     have h0 : V4.heap[w.heap.size]? = some (.cells #[.int .i64 s.nu, .int .i64 s.a, .int .i64 s.b, .slice (some ⟨b, off, none⟩) s.pn pc, .slice ha s.hn hc] 26 (0, 0)) := by
      have h1 : V3.heap[w.heap.size]? = some (.cells #[.int .i64 s.nu, .int .i64 s.a, .int .i64 s.b, .slice (some ⟨b, off, none⟩) s.pn pc, .slice ha s.hn hc] 26 (0, 0)) := by rw [HB3.out.1.block _ (lt_of_block HC1.out)]; exact HC1.out
      rw [hfr.block _ (lt_of_block h1) (by simp)]
      exact h1
     have S3 : (fun u : World => u.rangeAt w.heap.size 0 ([.int .i64 s.nu, .int .i64 s.a, .int .i64 s.b, .slice (some ⟨b, off, none⟩) s.pn pc, .slice ha s.hn hc]) ∧ u.cell? ⟨w.heap.size, 3, none⟩ = some (.slice (some ⟨b, off, none⟩) s.pn pc) ∧ u.cell? ⟨w.heap.size, 4, none⟩ = some (.slice ha s.hn hc)) V4 := ⟨svq_range (s := s) (p := ⟨some ⟨b, off, none⟩, pc, ha, hc⟩) h0, (five_of h0).c3, (five_of h0).c4⟩
     have HX : Hid (V4.heap[w.heap.size + 1]? = some (.cells #[.int .i64 (s.nu + 1), .int .i64 (s.a + 0), .int .i64 (s.b + y.am), .slice vb (s.pn - 1) vd, .slice ha s.hn hc] 26 (0, 0))) := hx
     have hWD : w.heap.size ≤ Wd.heap.size := HB1.out.size
     have hWE : Wd.heap.size ≤ We.heap.size := HBe.out.size
     have HB4 : Hid (Below w.heap.size w V4) := (HB1.out.trans (HB3.out.1.mono hWD)).trans (hfr.below (by have := HB3.out.1.size; omega) (fun k hk => by rw [List.mem_singleton.1 hk]; omega))
     have HO4 : Hid (V4.ownsRow We.heap.size 30 36 (.slice vb (s.pn - 1) vd) (s.pn - 1) (flatL (delF (pf s.P) i) (s.pn - 1))) := own_keep HO3.out (fun g e => hfr.block g (HO3.out.lt g e).2 (fun e2 => by
      have h1 := (HO3.out.lt g e).1
      rw [List.mem_singleton.1 e2] at h1
      omega))
     refine hK.out _ _ S3 (fun _ => ?_)
     clear hK K hx hfr h0 S2 S3 HO3 HB3 HK3 HBV
     try simp only [Act.put]
     refine wpV 11 ⟨some 7, .assign (.const (.int .i64 0)), 3, _, _, none⟩ rfl ?_
     try simp only [Act.put, sqA, sqB, sqC]
     refine wpAnyH_done (by kernel_rfl) (NoPanic.normal ?_) _
     try simp only [Act.put, sqA, sqB, sqC]
     clear hHeld
     go_wp2
     refine bodyPost_ret (results_R2 Tryz.results10 _ _ (w.heap.size + 1) 26 _ _ _ _ _ (0, 0) rfl HX.out) rfl ⟨⟨_, HH.out, .inr (.inr (.inr ⟨HR.out, i, rfl, hi, by rw [HYY.out]; exact HQ.out, ⟨vb, vd, ha, hc⟩, by rw [HBK.out]; simp [svv, subY, nxt], ?_⟩))⟩, HB4.out⟩
     rw [HBK.out]
     exact sub_at HV.out HB4.out hi HO4.out rfl rfl rfl rfl
    ·have HFR : Hid (y.fr = 1) := hfr
     have HBK : Hid (opnY s i = { subY (nxt s) i with a := s.a + y.am }) := by
      show opnY s i = _
      unfold opnY
      rw [HYY.out, if_neg (by omega)]
     have E2 : Hid (wrap64 (s.a + y.am) = s.a + y.am) := by show wrap64 (s.a + y.am) = s.a + y.am; simp [wrap64]; omega
     have E3 : Hid (wrap64 (s.b + 0) = s.b + 0) := by show wrap64 (s.b + 0) = s.b + 0; simp [wrap64]; omega
     have SA : Hid (∀ u : World, Below w1.heap.size w1 u → u.cell? ⟨w.heap.size, 3, none⟩ = some (.slice (some ⟨b, off, none⟩) s.pn pc) ∧ u.cell? ⟨b, off + i * 36 + 1, none⟩ = some (.int .i64 1) ∧ u.cell? ⟨b, off + i * 36 + 2, none⟩ = some (.int .i64 y.am)) := fun u hb => by
      have hri := range_below (range_below HRI.out HB.out) hb
      have h2 := py_cells hri
      refine ⟨by rw [hb.cell (p := ⟨w.heap.size, 3, none⟩) (lt_of_block HC.out)]; exact (five_of HC.out).c3, ?_, h2.2.2.1⟩
      rw [← HFR.out]
      exact h2.2.1
     have S0 := SA.out w1.drew (Below.refl _ _).drew
     refine wp_region_noPanic ?_
     refine wp_region_held_drew (S := fun u => u.cell? ⟨w.heap.size, 3, none⟩ = some (.slice (some ⟨b, off, none⟩) s.pn pc) ∧ u.cell? ⟨b, off + i * 36 + 1, none⟩ = some (.int .i64 1) ∧ u.cell? ⟨b, off + i * 36 + 2, none⟩ = some (.int .i64 y.am)) (by kernel_rfl) S0 (fun hHeld => ?_)
     have HBd : Hid (Below w1.heap.size w1 w1.drew) := (Below.refl _ _).drew
     have HB1 : Hid (Below w.heap.size w w1.drew) := HB.out.drew
     have HK1 : Hid (w1.drew.heap[w.heap.size + 1]? = some (.cells #[.int .i64 0, .int .i64 0, .int .i64 0, .slice none 0 0, .slice none 0 0] 26 (0, 0))) := HK.out
     have HC1 : Hid (w1.drew.heap[w.heap.size]? = some (.cells #[.int .i64 s.nu, .int .i64 s.a, .int .i64 s.b, .slice (some ⟨b, off, none⟩) s.pn pc, .slice ha s.hn hc] 26 (0, 0))) := HC.out
     have hld : w.heap.size + 1 < w1.drew.heap.size := hl1
     clear d0 d1 d2 d3 d4 df SA HB HK HC hl1
     generalize w1.drew = Wd at *
     refine wpV 0 ⟨some 36, .fieldAddr 26 (.tmp 3) 2, 0, _, _, none⟩ rfl ?_
     try simp only [Act.put, sqA, sqB, sqC]
     refine wpV 1 ⟨some 37, .load 23 (.tmp 36), 23, _, _, none⟩ rfl ?_
     try simp only [Act.put, sqA, sqB, sqC]
     refine wpV 2 ⟨some 38, .move (.tmp 8), 3, _, _, none⟩ rfl ?_
     try simp only [Act.put, sqA, sqB, sqC]
     refine wpV 3 ⟨some 39, .indexAddr 23 (.tmp 37) (.tmp 38), 0, _, _, none⟩ rfl ?_
     try simp only [Act.put, sqA, sqB, sqC]
     refine wpV 4 ⟨some 40, .fieldAddr 30 (.tmp 39) 1, 0, _, _, none⟩ rfl ?_
     try simp only [Act.put, sqA, sqB, sqC]
     refine wpV 5 ⟨some 41, .load 3 (.tmp 40), 3, _, _, none⟩ rfl ?_
     try simp only [Act.put, sqA, sqB, sqC]
     refine wpV 6 ⟨some 42, .binOp .sub 3 (.const (.int .i64 1)) (.tmp 41) 3, 3, _, _, none⟩ rfl ?_
     try simp only [Act.put, sqA, sqB, sqC]
     refine wpV 7 ⟨some 43, .fieldAddr 26 (.tmp 3) 2, 0, _, _, none⟩ rfl ?_
     try simp only [Act.put, sqA, sqB, sqC]
     refine wpV 8 ⟨some 44, .load 23 (.tmp 43), 23, _, _, none⟩ rfl ?_
     try simp only [Act.put, sqA, sqB, sqC]
     refine wpV 9 ⟨some 45, .move (.tmp 8), 3, _, _, none⟩ rfl ?_
     try simp only [Act.put, sqA, sqB, sqC]
     refine wpV 10 ⟨some 46, .indexAddr 23 (.tmp 44) (.tmp 45), 0, _, _, none⟩ rfl ?_
     try simp only [Act.put, sqA, sqB, sqC]
     refine wpV 11 ⟨some 47, .fieldAddr 30 (.tmp 46) 2, 0, _, _, none⟩ rfl ?_
     try simp only [Act.put, sqA, sqB, sqC]
     refine wpV 12 ⟨some 48, .load 3 (.tmp 47), 3, _, _, none⟩ rfl ?_
     try simp only [Act.put, sqA, sqB, sqC]
     refine wpAnyH_ready (rs := [13]) (by kernel_rfl) (by simp) ?_
     refine (AllReadyH.cons (o := ⟨some 49, .call ⟨.value (.func 24), #[.tmp 42, .tmp 48], #[3, 3]⟩, 66, _, _, none⟩) rfl (fun K hK => ?_) AllReadyH.nil)
     go_simp
     refine (to_0 y.am Wd).mono ?_
     rintro e Vw ⟨rfl, hVw⟩
     rw [hVw]
     clear hVw
     refine hK.out _ _ S0 (fun _ => ?_)
     clear hK K
     try simp only [Act.put, sqA, sqB, sqC]
     refine wpV 14 ⟨some 35, .move (.tmp 49), 66, _, _, none⟩ rfl ?_
     try simp only [Act.put, sqA, sqB, sqC]
     refine wpV 15 ⟨some 50, .extract (.tmp 35) 0, 3, _, _, none⟩ rfl ?_
     try simp only [Act.put, sqA, sqB, sqC]
     refine wpV 16 ⟨some 51, .extract (.tmp 35) 1, 3, _, _, none⟩ rfl ?_
     try simp only [Act.put, sqA, sqB, sqC]
     refine wpV 17 ⟨some 9, .assign (.tmp 50), 3, _, _, none⟩ rfl ?_
     try simp only [Act.put, sqA, sqB, sqC]
     refine wpV 18 ⟨some 10, .assign (.tmp 51), 3, _, _, none⟩ rfl ?_
     try simp only [Act.put, sqA, sqB, sqC]
     refine wpAnyH_done (by kernel_rfl) (NoPanic.normal ?_) _
     try simp only [Act.put, sqA, sqB, sqC]
     clear hHeld S0
     go_wp2_with fail
     have SB : Hid (∀ u : World, Below Wd.heap.size Wd u → u.rangeAt w.heap.size 0 ([.int .i64 s.nu, .int .i64 s.a, .int .i64 s.b, .slice (some ⟨b, off, none⟩) s.pn pc, .slice ha s.hn hc]) ∧ u.cell? ⟨w.heap.size, 3, none⟩ = some (.slice (some ⟨b, off, none⟩) s.pn pc) ∧ u.cell? ⟨w.heap.size, 4, none⟩ = some (.slice ha s.hn hc)) := fun u hb => by
      have h0 : u.heap[w.heap.size]? = some (.cells #[.int .i64 s.nu, .int .i64 s.a, .int .i64 s.b, .slice (some ⟨b, off, none⟩) s.pn pc, .slice ha s.hn hc] 26 (0, 0)) := by rw [hb.block _ (lt_of_block HC1.out)]; exact HC1.out
      have h1 := five_of h0
      exact ⟨svq_range (s := s) (p := ⟨some ⟨b, off, none⟩, pc, ha, hc⟩) h0, h1.c3, h1.c4⟩
     have HBe : Hid (Below Wd.heap.size Wd Wd.drew) := (Below.refl _ _).drew
     have S0 := SB.out Wd.drew HBe.out
     refine wp_region_noPanic ?_
     refine wp_region_held_drew (S := fun u => u.rangeAt w.heap.size 0 ([.int .i64 s.nu, .int .i64 s.a, .int .i64 s.b, .slice (some ⟨b, off, none⟩) s.pn pc, .slice ha s.hn hc]) ∧ u.cell? ⟨w.heap.size, 3, none⟩ = some (.slice (some ⟨b, off, none⟩) s.pn pc) ∧ u.cell? ⟨w.heap.size, 4, none⟩ = some (.slice ha s.hn hc)) (by kernel_rfl) S0 (fun hHeld => ?_)
     generalize Wd.drew = We at *
     refine wpAnyH_take (i := 0) (oi := ⟨some 52, .load 26 (.tmp 3), 26, _, _, none⟩) rfl (by kernel_rfl) (by kernel_rfl) (by kernel_rfl) (fun _ _ _ h => h) (yieldsIf_load_mid (by rfl) _ _ rfl w.heap.size 0 rfl ([.int .i64 s.nu, .int .i64 s.a, .int .i64 s.b, .slice (some ⟨b, off, none⟩) s.pn pc, .slice ha s.hn hc]) _ (fun _ h => h.1) Tryz.underlying26 rfl szSr) (by assumption) ?_
     try simp only [Act.put, sqA, sqB, sqC]
     refine wpV 1 ⟨some 53, .move (.tmp 9), 3, _, _, none⟩ rfl ?_
     try simp only [Act.put, sqA, sqB, sqC]
     refine wpV 2 ⟨some 54, .move (.tmp 10), 3, _, _, none⟩ rfl ?_
     try simp only [Act.put, sqA, sqB, sqC]
     refine wpV 3 ⟨some 55, .fieldAddr 26 (.tmp 3) 2, 0, _, _, none⟩ rfl ?_
     try simp only [Act.put, sqA, sqB, sqC]
     refine wpV 4 ⟨some 56, .load 23 (.tmp 55), 23, _, _, none⟩ rfl ?_
     try simp only [Act.put, sqA, sqB, sqC]
     refine wpV 5 ⟨some 57, .move (.tmp 8), 3, _, _, none⟩ rfl ?_
     try simp only [Act.put, sqA, sqB, sqC]
     refine wpV 7 ⟨some 59, .fieldAddr 26 (.tmp 3) 3, 0, _, _, none⟩ rfl ?_
     try simp only [Act.put, sqA, sqB, sqC]
     refine wpV 8 ⟨some 60, .load 24 (.tmp 59), 24, _, _, none⟩ rfl ?_
     try simp only [Act.put, sqA, sqB, sqC]
     have HDR : Hid (Calls Tryz.prog 29 #[.slice (some ⟨b, off, none⟩) s.pn pc, .int .i64 (i : Int)] We fun e w' => (∃ vb vd, e = .returned (.slice vb (s.pn - 1) vd) ∧ w'.ownsRow We.heap.size 30 36 (.slice vb (s.pn - 1) vd) (s.pn - 1) (flatL (delF (pf s.P) i) (s.pn - 1))) ∧ Below We.heap.size We w') := rdrop_any b off s.pn pc s.P i We ((HSR.out.below HB1.out).below HBe.out) hi hcap (by omega)
     refine wpAnyH_ready (rs := [6]) (by kernel_rfl) (by simp) ?_
     refine (AllReadyH.cons (o := ⟨some 58, .call ⟨.value (.func 29), #[.tmp 56, .tmp 57], #[23, 3]⟩, 23, _, _, none⟩) rfl (fun K hK => ?_) AllReadyH.nil)
     go_simp
     refine HDR.out.mono ?_
     rintro e V1 ⟨⟨vb, vd, rfl, hO1⟩, hb1⟩
     have HO1 : Hid (V1.ownsRow We.heap.size 30 36 (.slice vb (s.pn - 1) vd) (s.pn - 1) (flatL (delF (pf s.P) i) (s.pn - 1))) := hO1
     have HBV : Hid (Below Wd.heap.size Wd V1 ∧ We.heap.size ≤ V1.heap.size) := ⟨Below.transS HBe.out hb1, hb1.size⟩
     have S1 := SB.out V1 HBV.out.1
     clear hb1 hO1 HDR
     refine hK.out _ _ S1 (fun _ => ?_)
     clear hK K
     try simp only [Act.put, sqA, sqB, sqC]
     have HWI : Hid (Calls Tryz.prog 25 #[.agg #[.int .i64 s.nu, .int .i64 s.a, .int .i64 s.b, .slice (some ⟨b, off, none⟩) s.pn pc, .slice ha s.hn hc], .int .i64 y.am, .int .i64 0, .slice vb (s.pn - 1) vd, .slice ha s.hn hc] V1 fun e w' => e = .returned (.agg #[.int .i64 (s.nu + 1), .int .i64 (s.a + y.am), .int .i64 (s.b + 0), .slice vb (s.pn - 1) vd, .slice ha s.hn hc]) ∧ Below V1.heap.size V1 w') := rwith_any s ⟨some ⟨b, off, none⟩, pc, ha, hc⟩ y.am 0 vb (s.pn - 1) vd ha s.hn hc V1 E1.out E2.out E3.out
     refine wpAnyH_ready (rs := [9]) (by kernel_rfl) (by simp) ?_
     refine (AllReadyH.cons (o := ⟨some 61, .call ⟨.value (.func 25), #[.tmp 52, .tmp 53, .tmp 54, .tmp 58, .tmp 60], #[26, 3, 3, 23, 24]⟩, 26, _, _, none⟩) rfl (fun K hK => ?_) AllReadyH.nil)
     go_simp
     refine HWI.out.mono ?_
     rintro e V3 ⟨rfl, hb3⟩
     have HB3 : Hid (Below Wd.heap.size Wd V3 ∧ V1.heap.size ≤ V3.heap.size) := ⟨Below.transS HBV.out.1 hb3, hb3.size⟩
     have HO3 : Hid (V3.ownsRow We.heap.size 30 36 (.slice vb (s.pn - 1) vd) (s.pn - 1) (flatL (delF (pf s.P) i) (s.pn - 1))) := own_below HO1.out hb3
     have HK3 : Hid (V3.heap[w.heap.size + 1]? = some (.cells #[.int .i64 0, .int .i64 0, .int .i64 0, .slice none 0 0, .slice none 0 0] 26 (0, 0))) := by
      show V3.heap[w.heap.size + 1]? = some (.cells #[.int .i64 0, .int .i64 0, .int .i64 0, .slice none 0 0, .slice none 0 0] 26 (0, 0))
      rw [HB3.out.1.block _ (lt_of_block HK1.out)]
      exact HK1.out
     have S2 := SB.out V3 HB3.out.1
     refine hK.out _ _ S2 (fun _ => ?_)
     clear hK K hb3 HWI HO1 S0 S1
     try simp only [Act.put, sqA, sqB, sqC]
     refine wpAnyH_ready (rs := [10]) (by kernel_rfl) (by simp) ?_
     refine (AllReadyH.cons (o := ⟨none, .store 26 (.tmp 6) (.tmp 61), 0, _, _, none⟩) rfl (fun K hK => ?_) AllReadyH.nil)
     refine step_storeR rfl (.tmp 6) (.tmp 61) rfl (w.heap.size + 1) (by rfl) (s.nu + 1) (s.a + y.am) (s.b + 0) vb (s.pn - 1) vd ha s.hn hc (by rfl) HK3.out ?_
     intro V4 hx hfr
     have h0 : V4.heap[w.heap.size]? = some (.cells #[.int .i64 s.nu, .int .i64 s.a, .int .i64 s.b, .slice (some ⟨b, off, none⟩) s.pn pc, .slice ha s.hn hc] 26 (0, 0)) := by
      have h1 : V3.heap[w.heap.size]? = some (.cells #[.int .i64 s.nu, .int .i64 s.a, .int .i64 s.b, .slice (some ⟨b, off, none⟩) s.pn pc, .slice ha s.hn hc] 26 (0, 0)) := by rw [HB3.out.1.block _ (lt_of_block HC1.out)]; exact HC1.out
      rw [hfr.block _ (lt_of_block h1) (by simp)]
      exact h1
     have S3 : (fun u : World => u.rangeAt w.heap.size 0 ([.int .i64 s.nu, .int .i64 s.a, .int .i64 s.b, .slice (some ⟨b, off, none⟩) s.pn pc, .slice ha s.hn hc]) ∧ u.cell? ⟨w.heap.size, 3, none⟩ = some (.slice (some ⟨b, off, none⟩) s.pn pc) ∧ u.cell? ⟨w.heap.size, 4, none⟩ = some (.slice ha s.hn hc)) V4 := ⟨svq_range (s := s) (p := ⟨some ⟨b, off, none⟩, pc, ha, hc⟩) h0, (five_of h0).c3, (five_of h0).c4⟩
     have HX : Hid (V4.heap[w.heap.size + 1]? = some (.cells #[.int .i64 (s.nu + 1), .int .i64 (s.a + y.am), .int .i64 (s.b + 0), .slice vb (s.pn - 1) vd, .slice ha s.hn hc] 26 (0, 0))) := hx
     have hWD : w.heap.size ≤ Wd.heap.size := HB1.out.size
     have hWE : Wd.heap.size ≤ We.heap.size := HBe.out.size
     have HB4 : Hid (Below w.heap.size w V4) := (HB1.out.trans (HB3.out.1.mono hWD)).trans (hfr.below (by have := HB3.out.1.size; omega) (fun k hk => by rw [List.mem_singleton.1 hk]; omega))
     have HO4 : Hid (V4.ownsRow We.heap.size 30 36 (.slice vb (s.pn - 1) vd) (s.pn - 1) (flatL (delF (pf s.P) i) (s.pn - 1))) := own_keep HO3.out (fun g e => hfr.block g (HO3.out.lt g e).2 (fun e2 => by
      have h1 := (HO3.out.lt g e).1
      rw [List.mem_singleton.1 e2] at h1
      omega))
     refine hK.out _ _ S3 (fun _ => ?_)
     clear hK K hx hfr h0 S2 S3 HO3 HB3 HK3 HBV
     try simp only [Act.put]
     refine wpV 11 ⟨some 7, .assign (.const (.int .i64 0)), 3, _, _, none⟩ rfl ?_
     try simp only [Act.put, sqA, sqB, sqC]
     refine wpAnyH_done (by kernel_rfl) (NoPanic.normal ?_) _
     try simp only [Act.put, sqA, sqB, sqC]
     clear hHeld
     go_wp2
     refine bodyPost_ret (results_R2 Tryz.results10 _ _ (w.heap.size + 1) 26 _ _ _ _ _ (0, 0) rfl HX.out) rfl ⟨⟨_, HH.out, .inr (.inr (.inr ⟨HR.out, i, rfl, hi, by rw [HYY.out]; exact HQ.out, ⟨vb, vd, ha, hc⟩, by rw [HBK.out]; simp [svv, subY, nxt], ?_⟩))⟩, HB4.out⟩
     rw [HBK.out]
     exact sub_at HV.out HB4.out hi HO4.out rfl rfl rfl rfl
   ·have hqf : hq (sZ (sumF sb)) y.lk = false := by simpa using hqq
    have HQ : Hid (hq (sZ (sumF sb)) y.lk = false) := hqf
    refine wpU 8 ⟨some 33, .binOp .neq 28 (.tmp 26) (.tmp 32) 28, 4, _, _, none⟩ (v := .bool true) rfl ?_ ?_
    ·intro wz hSw; (try dsimp only at hSw); exact exec_neP _ _ rfl (sZ_bd sb) HLK.out rfl rfl (by rw [hqf]; rfl) wz
    try simp only [Act.put, sqA, sqB, sqC]
    refine wpV 9 ⟨some 24, .assign (.tmp 33), 4, _, _, none⟩ rfl ?_
    try simp only [Act.put, sqA, sqB, sqC]
    refine wpAnyH_done (by kernel_rfl) (NoPanic.normal ?_) _
    try simp only [Act.put, sqA, sqB, sqC]
    clear hHeld S0 S1 SC0 hqq hqf HBd HB0 HK0 HC0 HB HK HC HB2
    obtain ⟨d0, d1, d2, d3, d4, df⟩ := five_of HK2.out
    go_wp2
    exact bodyPost_ret (results_R2 Tryz.results10 _ _ (w.heap.size + 1) 26 _ _ _ _ _ (0, 0) rfl (five_all HK2.out)) rfl ⟨⟨_, HH.out, .inr (.inr (.inl ⟨HR.out, i, rfl, hi, by rw [HYY.out]; exact HQ.out, rfl⟩))⟩, five_below HBW.out (by omega)⟩
 ·rw [decide_eq_false hr]
  have HR : Hid (¬ Rgt s) := hr
  clear hr c0 c1 c2 c3 c4 cf
  go_wp2
  exact bodyPost_ret (results_R2 Tryz.results10 _ _ (w.heap.size + 1) 26 _ _ _ _ _ (0, 0) rfl (five_all HK.out)) rfl ⟨⟨_, HH.out, .inl ⟨HR.out, rfl⟩⟩, five_below HB.out (by omega)⟩
end Go.Proofs.YtoefgfiabfkfaaaGreatDoor
