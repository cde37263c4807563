/- state.Settle. -/
import Derived.Test.YtoefgfiabfkfaaaGreatDoorOwnShelf31
import Derived.Test.YtoefgfiabfkfaaaGreatDoorOwnShelf37
namespace Go.Proofs.YtoefgfiabfkfaaaGreatDoor
open Go.RowKit

/-- What the program's Settle answers. -/
def SetR (s : Sv) (id : Int) (sb : List Nat) (w : World) (e : Ending) (w' : World) : Prop := ∃ (i : Nat) (b : Bool), FndR (fun j => (s.P j).id) s.pn id i b ∧ ((b = false ∧ e = .returned (.tuple #[.agg #[.int .i64 0, .int .i64 0, .int .i64 0, .slice none 0 0, .slice none 0 0], .iface 72 (.int .i64 8)])) ∨ (b = true ∧ hq (sZ (sumF sb)) (s.P i).lk = false ∧ e = .returned (.tuple #[.agg #[.int .i64 0, .int .i64 0, .int .i64 0, .slice none 0 0, .slice none 0 0], .iface 72 (.int .i64 22)])) ∨ (b = true ∧ hq (sZ (sumF sb)) (s.P i).lk = true ∧ ∃ p' A, e = .returned (.tuple #[.agg (svv (opnY s i) p'), .nilIface]) ∧ SvOw w.heap.size w' (opnY s i) p' A))
set_option maxRecDepth 100000 in
set_option maxHeartbeats 3200000 in
theorem settle_1 (s : Sv) (p : Pl) (id : Int) (sa : Option Addr) (sn sc : Nat) (w : World) (h : SvAt w s p) (hs : s.Small) (hr : ¬ Rgt s) :
  Calls Tryz.prog 9 #[.agg (svv s p), .int .i64 id, .slice sa sn sc] w fun e w' => e = .returned (.tuple #[.agg #[.int .i64 0, .int .i64 0, .int .i64 0, .slice none 0 0, .slice none 0 0], errV 1]) ∧ Below w.heap.size w w' := by
 obtain ⟨hn0, hn1, hsz, hb0⟩ := two_new w s p 37 37
 have hc := take_1 s p id _ (h.below hb0) hs hr
 clear h
 unfold svv sv0 pl0 at hn0 hn1 hsz hb0 hc
 unfold svv
 simp only at hn0 hn1 hsz hb0 hc
 go_enter Tryz.func9, Tryz.ntmps9
 go_wp2_with fail
 generalize (w.alloc (.cells #[.int .i64 s.nu, .int .i64 s.a, .int .i64 s.b, .slice p.pa s.pn p.pc, .slice p.ha s.hn p.hc] 37)).alloc (.cells #[.int .i64 0, .int .i64 0, .int .i64 0, .slice none 0 0, .slice none 0 0] 37) = W0 at *
 refine hc.mono ?_
 rintro e w1 ⟨rfl, hb1⟩
 have HB : Hid (Below w.heap.size w w1) := hb0.trans (hb1.mono (by omega))
 have k1 := hb1.block _ (show w.heap.size + 1 < W0.heap.size by omega)
 rw [hn1] at k1
 have hl1 : w.heap.size + 1 < w1.heap.size := by have := hb1.size; omega
 obtain ⟨hbA, ha1, ha2, hasz⟩ := two_vars w1
 have HA : Hid (((w1.alloc (.cells #[.int .i64 0, .int .i64 0, .int .i64 0, .slice none 0 0, .slice none 0 0] 37)).alloc (.cells (pyv p0) 43)).heap[w1.heap.size]? = some (.cells #[.int .i64 0, .int .i64 0, .int .i64 0, .slice none 0 0, .slice none 0 0] 37 (0, 0)) ∧ ((w1.alloc (.cells #[.int .i64 0, .int .i64 0, .int .i64 0, .slice none 0 0, .slice none 0 0] 37)).alloc (.cells (pyv p0) 43)).heap[w1.heap.size + 1]? = some (.cells (pyv p0) 43 (0, 0)) ∧ Below w1.heap.size w1 ((w1.alloc (.cells #[.int .i64 0, .int .i64 0, .int .i64 0, .slice none 0 0, .slice none 0 0] 37)).alloc (.cells (pyv p0) 43)) ∧ ((w1.alloc (.cells #[.int .i64 0, .int .i64 0, .int .i64 0, .slice none 0 0, .slice none 0 0] 37)).alloc (.cells (pyv p0) 43)).heap[w.heap.size + 1]? = some (.cells #[.int .i64 0, .int .i64 0, .int .i64 0, .slice none 0 0, .slice none 0 0] 37 (0, 0))) := ⟨ha1, ha2, hbA, by rw [hbA.block _ hl1]; exact k1⟩
 have HSZ : Hid (W0.heap.size = w.heap.size + 2) := hsz
 clear hc hb0 hb1 hn0 hn1 hsz k1 hbA ha1 ha2 hasz
 have e1 : errV 1 = .iface 72 (.int .i64 1) := rfl
 rw [e1]
 clear hs hr
 go_wp2_with (first | (refine wpList_allocP rfl rfl ?_; generalize (w1.alloc (.cells #[.int .i64 0, .int .i64 0, .int .i64 0, .slice none 0 0, .slice none 0 0] 37)).alloc (.cells (pyv p0) 43) = Wa at *; have hx1 := HA.out.1; obtain ⟨x0, x1, x2, x3, x4, xf⟩ := five_of hx1; clear hx1) | (refine wpList_storeP _ szP rfl _ _ rfl (w1.heap.size + 1) rfl p0 p0 43 rfl (by rw [five_other (by omega)]; exact HA.out.2.1) ?_; intro w3 hg3 hf3; have H3 : Hid (w3.heap[w1.heap.size + 1]? = some (.cells (pyv p0) 43 (0, 0)) ∧ w3.heap[w1.heap.size]? = some (.cells #[.int .i64 0, .int .i64 0, .int .i64 0, .slice none 0 0, .slice none 0 0] 37 (0, 0)) ∧ w3.heap[w.heap.size + 1]? = some (.cells #[.int .i64 0, .int .i64 0, .int .i64 0, .slice none 0 0, .slice none 0 0] 37 (0, 0)) ∧ Below w1.heap.size w1 w3) := ⟨hg3, by rw [hf3.block _ (by simpa [World.setCell] using lt_of_block HA.out.1) (by simp)]; exact five_all HA.out.1, by rw [hf3.block _ (by simpa [World.setCell] using lt_of_block HA.out.2.2.2) (by simp; omega), five_other (by omega)]; exact HA.out.2.2.2, (five_below HA.out.2.2.1 (by omega)).trans (hf3.below (by simpa [World.setCell] using HA.out.2.2.1.size) (fun k hk => by rw [List.mem_singleton.1 hk]; omega))⟩; clear hg3 hf3 x0 x1 x2 x3 x4 xf; have hy3 := H3.out.2.2.1; obtain ⟨d0, d1, d2, d3, d4, df⟩ := five_of hy3; clear hy3) | fail)
 exact bodyPost_ret (results_S2 Tryz.results9 _ _ (w.heap.size + 1) 37 _ _ _ _ _ (0, 0) rfl (five_all H3.out.2.2.1)) rfl ⟨rfl, five_below (HB.out.trans (H3.out.2.2.2.mono HB.out.size)) (by omega)⟩
set_option maxRecDepth 100000 in
set_option maxHeartbeats 6400000 in
theorem settle_any (s : Sv) (p : Pl) (id : Int) (sa : Option Addr) (sc : Nat) (sb : List Nat) (w : World) (hT : Tab w) (hgl : 3 ≤ w.heap.size) (hS : SlB w sa sb) (hsb : ∀ i, sb.getD i 0 < 256) (hsc : sb.length ≤ sc) (hsl : sb.length ≤ 140737488355328) (h : SvAt w s p) (hs : s.Small) (hr : Rgt s) :
  Calls Tryz.prog 9 #[.agg (svv s p), .int .i64 id, .slice sa sb.length sc] w fun e w' => SetR s id sb w e w' ∧ Below w.heap.size w w' := by
 have HSB : Hid (Tab w ∧ 3 ≤ w.heap.size ∧ SlB w sa sb ∧ (∀ i, sb.getD i 0 < 256) ∧ sb.length ≤ sc ∧ sb.length ≤ 140737488355328) := ⟨hT, hgl, hS, hsb, hsc, hsl⟩
 have HLK : Hid (∀ j, j < s.pn → Zb (s.P j).lk) := h.py.lk
 clear hT hgl hS hsb hsc hsl
 obtain ⟨hn0, hn1, hsz, hb0⟩ := two_new w s p 37 37
 have hc := take_any s p id _ (h.below hb0) hs hr
 clear h
 unfold svv sv0 pl0 at hn0 hn1 hsz hb0 hc
 unfold svv
 simp only at hn0 hn1 hsz hb0 hc
 go_enter Tryz.func9, Tryz.ntmps9
 go_wp2_with fail
 generalize (w.alloc (.cells #[.int .i64 s.nu, .int .i64 s.a, .int .i64 s.b, .slice p.pa s.pn p.pc, .slice p.ha s.hn p.hc] 37)).alloc (.cells #[.int .i64 0, .int .i64 0, .int .i64 0, .slice none 0 0, .slice none 0 0] 37) = W0 at *
 refine hc.mono ?_
 rintro e w1 ⟨⟨i, b, hF, hT⟩, hb1⟩
 have HB : Hid (Below w.heap.size w w1) := hb0.trans (hb1.mono (by omega))
 have k1 := hb1.block _ (show w.heap.size + 1 < W0.heap.size by omega)
 rw [hn1] at k1
 have hl1 : w.heap.size + 1 < w1.heap.size := by have := hb1.size; omega
 obtain ⟨hbA, ha1, ha2, hasz⟩ := two_vars w1
 have HA : Hid (((w1.alloc (.cells #[.int .i64 0, .int .i64 0, .int .i64 0, .slice none 0 0, .slice none 0 0] 37)).alloc (.cells (pyv p0) 43)).heap[w1.heap.size]? = some (.cells #[.int .i64 0, .int .i64 0, .int .i64 0, .slice none 0 0, .slice none 0 0] 37 (0, 0)) ∧ ((w1.alloc (.cells #[.int .i64 0, .int .i64 0, .int .i64 0, .slice none 0 0, .slice none 0 0] 37)).alloc (.cells (pyv p0) 43)).heap[w1.heap.size + 1]? = some (.cells (pyv p0) 43 (0, 0)) ∧ Below w1.heap.size w1 ((w1.alloc (.cells #[.int .i64 0, .int .i64 0, .int .i64 0, .slice none 0 0, .slice none 0 0] 37)).alloc (.cells (pyv p0) 43)) ∧ ((w1.alloc (.cells #[.int .i64 0, .int .i64 0, .int .i64 0, .slice none 0 0, .slice none 0 0] 37)).alloc (.cells (pyv p0) 43)).heap[w.heap.size + 1]? = some (.cells #[.int .i64 0, .int .i64 0, .int .i64 0, .slice none 0 0, .slice none 0 0] 37 (0, 0))) := ⟨ha1, ha2, hbA, by rw [hbA.block _ hl1]; exact k1⟩
 have HSZ : Hid (W0.heap.size = w.heap.size + 2) := hsz
 clear hc hb0 hb1 hn0 hn1 hsz k1 hbA ha1 ha2 hasz
 have HF : Hid (FndR (fun j => (s.P j).id) s.pn id i b) := hF
 clear hF
 rcases hT with ⟨rfl, rfl⟩ | ⟨rfl, p', A, rfl, hO⟩
 ·clear hs hr
  go_wp2_with (first | (refine wpList_allocP rfl rfl ?_; generalize (w1.alloc (.cells #[.int .i64 0, .int .i64 0, .int .i64 0, .slice none 0 0, .slice none 0 0] 37)).alloc (.cells (pyv p0) 43) = Wa at *; have hx1 := HA.out.1; obtain ⟨x0, x1, x2, x3, x4, xf⟩ := five_of hx1; clear hx1) | (refine wpList_storeP _ szP rfl _ _ rfl (w1.heap.size + 1) rfl p0 p0 43 rfl (by rw [five_other (by omega)]; exact HA.out.2.1) ?_; intro w3 hg3 hf3; have H3 : Hid (w3.heap[w1.heap.size + 1]? = some (.cells (pyv p0) 43 (0, 0)) ∧ w3.heap[w1.heap.size]? = some (.cells #[.int .i64 0, .int .i64 0, .int .i64 0, .slice none 0 0, .slice none 0 0] 37 (0, 0)) ∧ w3.heap[w.heap.size + 1]? = some (.cells #[.int .i64 0, .int .i64 0, .int .i64 0, .slice none 0 0, .slice none 0 0] 37 (0, 0)) ∧ Below w1.heap.size w1 w3) := ⟨hg3, by rw [hf3.block _ (by simpa [World.setCell] using lt_of_block HA.out.1) (by simp)]; exact five_all HA.out.1, by rw [hf3.block _ (by simpa [World.setCell] using lt_of_block HA.out.2.2.2) (by simp; omega), five_other (by omega)]; exact HA.out.2.2.2, (five_below HA.out.2.2.1 (by omega)).trans (hf3.below (by simpa [World.setCell] using HA.out.2.2.1.size) (fun k hk => by rw [List.mem_singleton.1 hk]; omega))⟩; clear hg3 hf3 x0 x1 x2 x3 x4 xf; have hy3 := H3.out.2.2.1; obtain ⟨d0, d1, d2, d3, d4, df⟩ := five_of hy3; clear hy3) | fail)
  exact bodyPost_ret (results_S2 Tryz.results9 _ _ (w.heap.size + 1) 37 _ _ _ _ _ (0, 0) rfl (five_all H3.out.2.2.1)) rfl ⟨⟨i, false, HF.out, .inl ⟨rfl, rfl⟩⟩, five_below (HB.out.trans (H3.out.2.2.2.mono HB.out.size)) (by omega)⟩
 ·have hhit : i < s.pn ∧ (s.P i).id = id := of_decide_eq_true HF.out.hit.symm
  have hone := (hr.1.2.1.2.1 i hhit.1).2
  have b1 := hr.1.1.2.1
  have b2 := hr.1.1.2.2
  have HO : Hid (SvOw (w.heap.size + 2) w1 (subY (nxt s) i) p' A) := hO.low (by rw [HSZ.out]; omega)
  clear hO hs hr hhit
  have ham := hone.2.2.1
  unfold svv subY nxt
  dsimp only
  rcases hone.2.1 with hfr | hfr
  ·have HBK : Hid (opnY s i = { subY (nxt s) i with b := s.b + (s.P i).am }) := by
    show opnY s i = _
    unfold opnY
    rw [if_pos hfr]
   obtain ⟨y, hy⟩ : ∃ y, s.P i = y := ⟨_, rfl⟩
   have HYY : Hid (s.P i = y) := hy
   rw [hy] at hfr ham HBK ⊢
   have ea : wrap64 (s.b + y.am) = s.b + y.am := by simp [wrap64]; omega
   have eai : IntKind.i64.wrap (s.b + y.am) = s.b + y.am := by rw [IntKind.wrap_i64]; omega
   clear hone hy
   have HYZ : Hid (Zb y.lk) := by
    have hh : i < s.pn ∧ (s.P i).id = id := of_decide_eq_true HF.out.hit.symm
    have := HLK.out i hh.1
    rw [HYY.out] at this
    exact this
   go_wp2_with (first | (refine wpList_allocP rfl rfl ?_; generalize (w1.alloc (.cells #[.int .i64 0, .int .i64 0, .int .i64 0, .slice none 0 0, .slice none 0 0] 37)).alloc (.cells (pyv p0) 43) = Wa at *; have hx1 := HA.out.1; obtain ⟨x0, x1, x2, x3, x4, xf⟩ := five_of hx1; clear hx1) | (refine wpList_storeP _ szP rfl _ _ rfl (w1.heap.size + 1) rfl y p0 43 rfl (by rw [five_other (by omega)]; exact HA.out.2.1) ?_; intro w3 hg3 hf3; have H3 : Hid (w3.heap[w1.heap.size + 1]? = some (.cells (pyv y) 43 (0, 0)) ∧ w3.heap[w1.heap.size]? = some (.cells #[.int .i64 (s.nu + 1), .int .i64 s.a, .int .i64 s.b, .slice p'.pa (s.pn - 1) p'.pc, .slice p'.ha s.hn p'.hc] 37 (0, 0)) ∧ w3.heap[w.heap.size + 1]? = some (.cells #[.int .i64 0, .int .i64 0, .int .i64 0, .slice none 0 0, .slice none 0 0] 37 (0, 0)) ∧ Below w1.heap.size w1 w3) := ⟨hg3, by rw [hf3.block _ (by simpa [World.setCell] using lt_of_block HA.out.1) (by simp)]; exact five_all HA.out.1, by rw [hf3.block _ (by simpa [World.setCell] using lt_of_block HA.out.2.2.2) (by simp; omega), five_other (by omega)]; exact HA.out.2.2.2, (five_below HA.out.2.2.1 (by omega)).trans (hf3.below (by simpa [World.setCell] using HA.out.2.2.1.size) (fun k hk => by rw [List.mem_singleton.1 hk]; omega))⟩; clear hg3 hf3 x0 x1 x2 x3 x4 xf; have hy3 := H3.out.2.2.1; obtain ⟨d0, d1, d2, d3, d4, df⟩ := five_of hy3; clear hy3) | fail)
   have hwn : w.heap.size + 1 < w1.heap.size := hl1
   have SH : Hid (∀ u, Below w3.heap.size w3 u → u.rangeAt (w1.heap.size + 1) 4 (bl y.lk 32)) := fun u hb => range_below (pbox_of H3.out.1).lk hb
   have S0 := SH.out w3.drew (Below.refl _ _).drew
   refine wp_region_noPanic ?_
   refine wp_region_held_drew (S := fun u => u.rangeAt (w1.heap.size + 1) 4 (bl y.lk 32)) (by kernel_rfl) S0 (fun hHeld => ?_)
   have HD3 : Hid (Below w3.heap.size w3 w3.drew) := (Below.refl _ _).drew
   have HSM : Hid (Calls Tryz.prog 27 #[.slice sa sb.length sc] w3.drew fun e w' => e = .returned (.agg (hv (sZ (sumF sb)))) ∧ Below w3.drew.heap.size w3.drew w') := by
    have hRl : (sumF sb).length = 32 := endL_len _
    rw [← sv_sZ hRl]
    have hbA : Below w.heap.size w w3.drew := (HB.out.trans (H3.out.2.2.2.mono HB.out.size)).drew
    exact sum_any sa sc sb w3.drew (HSB.out.1.frm (S := []) (Frm.ofBelow hbA) (fun k hk => by cases hk)) (Nat.le_trans HSB.out.2.1 hbA.size) (fun h0 => by obtain ⟨g, o, e1, hr⟩ := HSB.out.2.2.1 h0; exact ⟨g, o, e1, range_below hr hbA⟩) HSB.out.2.2.2.1 HSB.out.2.2.2.2.1 HSB.out.2.2.2.2.2
   clear d0 d1 d2 d3 d4 df
   generalize w3.drew = Wx at *
   refine wpV 0 ⟨some 22, .move (.tmp 2), 31, _, _, none⟩ rfl ?_
   try simp only [Act.put, sqA, sqB, sqC]
   refine wpV 2 ⟨some 24, .fieldAddr 43 (.tmp 9) 4, 0, _, _, none⟩ rfl ?_
   try simp only [Act.put, sqA, sqB, sqC]
   refine wpAnyH_take (i := 3) (oi := ⟨some 25, .load 28 (.tmp 24), 28, _, _, none⟩) rfl (by kernel_rfl) (by kernel_rfl) (by kernel_rfl) (fun _ _ _ h => h) (yieldsIf_load_mid (by rfl) _ _ rfl (w1.heap.size + 1) 4 rfl (bl y.lk 32) _ (fun _ h => h) Tryz.underlying28 rfl (szHb _)) (by assumption) ?_
   try simp only [Act.put, sqA, sqB, sqC]
   refine wpAnyH_ready (rs := [1]) (by kernel_rfl) (by simp) ?_
   refine (AllReadyH.cons (o := ⟨some 23, .call ⟨.value (.func 27), #[.tmp 22], #[31]⟩, 28, _, _, none⟩) rfl (fun K hK => ?_) AllReadyH.nil)
   go_simp
   refine HSM.out.mono ?_
   rintro e w4 ⟨rfl, hb4⟩
   have HB4 : Hid (Below w3.heap.size w3 w4) := Below.transS HD3.out hb4
   have S1 := SH.out w4 HB4.out
   refine hK.out _ _ S1 (fun _ => ?_)
   clear hK K hb4 HSM
   try simp only [Act.put, sqA, sqB, sqC]
   have HP3 : Hid (w4.heap[w1.heap.size + 1]? = some (.cells (pyv y) 43 (0, 0)) ∧ w4.heap[w1.heap.size]? = some (.cells #[.int .i64 (s.nu + 1), .int .i64 s.a, .int .i64 s.b, .slice p'.pa (s.pn - 1) p'.pc, .slice p'.ha s.hn p'.hc] 37 (0, 0)) ∧ w4.heap[w.heap.size + 1]? = some (.cells #[.int .i64 0, .int .i64 0, .int .i64 0, .slice none 0 0, .slice none 0 0] 37 (0, 0)) ∧ Below w1.heap.size w1 w4) := ⟨(HB4.out.block _ (lt_of_block H3.out.1)).trans H3.out.1, (HB4.out.block _ (lt_of_block H3.out.2.1)).trans H3.out.2.1, (HB4.out.block _ (lt_of_block H3.out.2.2.1)).trans H3.out.2.2.1, H3.out.2.2.2.trans (HB4.out.mono H3.out.2.2.2.size)⟩
   by_cases hqq : hq (sZ (sumF sb)) y.lk = true
   ·have HSQ : Hid (hq (sZ (sumF sb)) y.lk = true) := hqq
    refine wpU 4 ⟨some 26, .binOp .neq 28 (.tmp 23) (.tmp 25) 28, 4, _, _, none⟩ (v := .bool false) rfl ?_ ?_
    ·intro wz hSw; (try dsimp only at hSw); exact exec_neP _ _ rfl (sZ_bd sb) HYZ.out rfl rfl (by rw [hqq]; rfl) wz
    try simp only [Act.put, sqA, sqB, sqC]
    refine wpAnyH_done (by kernel_rfl) (NoPanic.normal ?_) _
    try simp only [Act.put, sqA, sqB, sqC]
    clear hHeld S0 S1 SH hqq HD3 H3 HB4
    generalize w4 = w3 at *
    have H3 : Hid (w3.heap[w1.heap.size + 1]? = some (.cells (pyv y) 43 (0, 0)) ∧ w3.heap[w1.heap.size]? = some (.cells #[.int .i64 (s.nu + 1), .int .i64 s.a, .int .i64 s.b, .slice p'.pa (s.pn - 1) p'.pc, .slice p'.ha s.hn p'.hc] 37 (0, 0)) ∧ w3.heap[w.heap.size + 1]? = some (.cells #[.int .i64 0, .int .i64 0, .int .i64 0, .slice none 0 0, .slice none 0 0] 37 (0, 0)) ∧ Below w1.heap.size w1 w3) := HP3.out
    clear HP3
    obtain ⟨d0, d1, d2, d3, d4, df⟩ := five_of H3.out.2.2.1
    go_wp2_with fail
    have hp3 := H3.out.1
    obtain ⟨_, f1, f2, _, _⟩ := pbox_of hp3
    have ht3 := H3.out.2.1
    obtain ⟨t0, t1, t2, t3, t4, tf⟩ := five_of ht3
    rw [hfr] at f1
    have S0 : w3.drew.cell? ⟨w1.heap.size + 1, 1, none⟩ = some (.int .i64 0) ∧ w3.drew.cell? ⟨w1.heap.size + 1, 2, none⟩ = some (.int .i64 y.am) ∧ w3.drew.cell? ⟨w1.heap.size, 2, none⟩ = some (.int .i64 s.b) := ⟨f1, f2, t2⟩
    clear hp3 ht3
    refine wp_region_noPanic ?_
    refine wp_region_K (S := fun u => u.cell? ⟨w1.heap.size + 1, 1, none⟩ = some (.int .i64 0) ∧ u.cell? ⟨w1.heap.size + 1, 2, none⟩ = some (.int .i64 y.am) ∧ u.cell? ⟨w1.heap.size, 2, none⟩ = some (.int .i64 s.b)) 11 (by kernel_rfl) S0 (fun hHeld => ?_)
    have tfd : ∀ o, w3.drew.frozen? ⟨w1.heap.size, o, none⟩ = false := tf
    have tod : w3.drew.cell? ⟨w1.heap.size, 2, none⟩ = some (.int .i64 s.b) := t2
    have HD : Hid (w3.drew.heap[w1.heap.size]? = some (.cells #[.int .i64 (s.nu + 1), .int .i64 s.a, .int .i64 s.b, .slice p'.pa (s.pn - 1) p'.pc, .slice p'.ha s.hn p'.hc] 37 (0, 0)) ∧ w3.drew.heap[w.heap.size + 1]? = some (.cells #[.int .i64 0, .int .i64 0, .int .i64 0, .slice none 0 0, .slice none 0 0] 37 (0, 0)) ∧ Below w1.heap.size w1 w3.drew) := ⟨H3.out.2.1, H3.out.2.2.1, H3.out.2.2.2.drew⟩
    clear t0 t1 t2 t3 t4 tf f1 f2 d0 d1 d2 d3 d4 df H3
    generalize w3.drew = Wd at *
    refine wpAnyK_take (by kernel_rfl) (i := 0) (oi := ⟨some 29, .fieldAddr 43 (.tmp 9) 1, 0, _, _, none⟩) (v := ?_) rfl (by kernel_rfl) (by kernel_rfl) (by kernel_rfl) (fun _ _ _ h => h) (Or.inl ⟨by rfl, ?_⟩) (by assumption) ?_
    rotate_left
    ·intro wz hSw; (try dsimp only at hSw); go_simp; (try with_reducible rfl)
    try simp only [Act.put, sqA, sqB, sqC]
    refine wpAnyK_take (by kernel_rfl) (i := 1) (oi := ⟨some 30, .load 3 (.tmp 29), 3, _, _, none⟩) (v := ?_) rfl (by kernel_rfl) (by kernel_rfl) (by kernel_rfl) (fun _ _ _ h => h) (Or.inl ⟨by rfl, ?_⟩) (by assumption) ?_
    rotate_left
    ·intro wz hSw; (try dsimp only at hSw); go_simp; (try with_reducible rfl)
    try simp only [Act.put, sqA, sqB, sqC]
    refine wpAnyK_take (by kernel_rfl) (i := 2) (oi := ⟨some 31, .binOp .sub 3 (.const (.int .i64 1)) (.tmp 30) 3, 3, _, _, none⟩) (v := .int .i64 1) rfl (by kernel_rfl) (by kernel_rfl) (by kernel_rfl) (fun _ _ _ h => h) (Or.inl ⟨by rfl, ?_⟩) (by assumption) ?_
    ·intro wz hSw; (try dsimp only at hSw); go_simp; try rfl
    try simp only [Act.put, sqA, sqB, sqC]
    refine wpAnyK_take (by kernel_rfl) (i := 3) (oi := ⟨some 32, .fieldAddr 37 (.tmp 8) 1, 0, _, _, none⟩) (v := ?_) rfl (by kernel_rfl) (by kernel_rfl) (by kernel_rfl) (fun _ _ _ h => h) (Or.inl ⟨by rfl, ?_⟩) (by assumption) ?_
    rotate_left
    ·intro wz hSw; (try dsimp only at hSw); go_simp; (try with_reducible rfl)
    try simp only [Act.put, sqA, sqB, sqC]
    refine wpAnyK_take (by kernel_rfl) (i := 4) (oi := ⟨some 33, .indexAddr 22 (.tmp 32) (.tmp 31), 0, _, _, none⟩) (v := ?_) rfl (by kernel_rfl) (by kernel_rfl) (by kernel_rfl) (fun _ _ _ h => h) (Or.inl ⟨by rfl, ?_⟩) (by assumption) ?_
    rotate_left
    ·intro wz hSw; (try dsimp only at hSw); go_simp; (try with_reducible rfl)
    try simp only [Act.put, sqA, sqB, sqC]
    refine wpAnyK_take (by kernel_rfl) (i := 5) (oi := ⟨some 34, .load 3 (.tmp 33), 3, _, _, none⟩) (v := ?_) rfl (by kernel_rfl) (by kernel_rfl) (by kernel_rfl) (fun _ _ _ h => h) (Or.inl ⟨by rfl, ?_⟩) (by assumption) ?_
    rotate_left
    ·intro wz hSw; (try dsimp only at hSw); go_simp; (try with_reducible rfl)
    try simp only [Act.put, sqA, sqB, sqC]
    refine wpAnyK_take (by kernel_rfl) (i := 6) (oi := ⟨some 35, .fieldAddr 43 (.tmp 9) 2, 0, _, _, none⟩) (v := ?_) rfl (by kernel_rfl) (by kernel_rfl) (by kernel_rfl) (fun _ _ _ h => h) (Or.inl ⟨by rfl, ?_⟩) (by assumption) ?_
    rotate_left
    ·intro wz hSw; (try dsimp only at hSw); go_simp; (try with_reducible rfl)
    try simp only [Act.put, sqA, sqB, sqC]
    refine wpAnyK_take (by kernel_rfl) (i := 7) (oi := ⟨some 36, .load 3 (.tmp 35), 3, _, _, none⟩) (v := ?_) rfl (by kernel_rfl) (by kernel_rfl) (by kernel_rfl) (fun _ _ _ h => h) (Or.inl ⟨by rfl, ?_⟩) (by assumption) ?_
    rotate_left
    ·intro wz hSw; (try dsimp only at hSw); go_simp; (try with_reducible rfl)
    try simp only [Act.put, sqA, sqB, sqC]
    refine wpAnyK_take (by kernel_rfl) (i := 8) (oi := ⟨some 37, .binOp .add 3 (.tmp 34) (.tmp 36) 3, 3, _, _, none⟩) (v := .int .i64 (s.b + y.am)) rfl (by kernel_rfl) (by kernel_rfl) (by kernel_rfl) (fun _ _ _ h => h) (Or.inl ⟨by rfl, ?_⟩) (by assumption) ?_
    ·intro wz hSw; (try dsimp only at hSw); go_simp; try (rw [eai]); try rfl
    try simp only [Act.put, sqA, sqB, sqC]
    refine wpAnyK_ready (rs := [9]) (by kernel_rfl) (by simp) ?_
    refine (AllReadyK.cons (o := ⟨some 38, .fieldAddr 37 (.tmp 8) 1, 0, _, _, none⟩) rfl (fun K hK => ?_) AllReadyK.nil)
    go_simp
    refine hK.out _ _ (fun _ => S0) (fun _ => ?_)
    clear hK K
    refine wpAnyK_take (by kernel_rfl) (i := 10) (oi := ⟨some 39, .indexAddr 22 (.tmp 38) (.tmp 31), 0, _, _, none⟩) (v := ?_) rfl (by kernel_rfl) (by kernel_rfl) (by kernel_rfl) (fun _ _ _ h => h) (Or.inl ⟨by rfl, ?_⟩) (by assumption) ?_
    rotate_left
    ·intro wz hSw; (try dsimp only at hSw); go_simp; (try with_reducible rfl)
    try simp only [Act.put, sqA, sqB, sqC]
    refine wpAnyK_ready (rs := [11]) (by kernel_rfl) (by simp) ?_
    refine (AllReadyK.cons (o := ⟨none, .store 3 (.tmp 39) (.tmp 37), 0, _, _, none⟩) rfl (fun K hK => ?_) AllReadyK.nil)
    go_simp
    refine hK.out _ _ (fun h => absurd rfl h) (fun _ => ?_)
    clear hK K
    try simp only [Act.put]
    refine wpAnyK_done (by kernel_rfl) (NoPanic.normal ?_) _
    try simp only [Act.put, sqA, sqB, sqC]
    have q1 : (Wd.setCell ⟨w1.heap.size, 2, none⟩ (.int .i64 (s.b + y.am))).heap[w1.heap.size]? = some (.cells #[.int .i64 (s.nu + 1), .int .i64 s.a, .int .i64 (s.b + y.am), .slice p'.pa (s.pn - 1) p'.pc, .slice p'.ha s.hn p'.hc] 37 (0, 0)) := five_set2 HD.out.1
    have q2 : (Wd.setCell ⟨w1.heap.size, 2, none⟩ (.int .i64 (s.b + y.am))).heap[w.heap.size + 1]? = some (.cells #[.int .i64 0, .int .i64 0, .int .i64 0, .slice none 0 0, .slice none 0 0] 37 (0, 0)) := by rw [Below.heap_setCell _ _ _ _ (by show w.heap.size + 1 ≠ w1.heap.size; omega)]; exact HD.out.2.1
    have HQ : Hid ((Wd.setCell ⟨w1.heap.size, 2, none⟩ (.int .i64 (s.b + y.am))).heap[w.heap.size + 1]? = some (.cells #[.int .i64 0, .int .i64 0, .int .i64 0, .slice none 0 0, .slice none 0 0] 37 (0, 0))) := q2
    have HO3 : Hid (SvOw (w.heap.size + 2) (Wd.setCell ⟨w1.heap.size, 2, none⟩ (.int .i64 (s.b + y.am))) (subY (nxt s) i) p' A) := HO.out.frm (fun k h1 h2 => by rw [Below.heap_setCell _ _ _ _ (by show k ≠ w1.heap.size; omega)]; exact HD.out.2.2.block k h1)
    have HB3 : Hid (Below w.heap.size w (Wd.setCell ⟨w1.heap.size, 2, none⟩ (.int .i64 (s.b + y.am)))) := (HB.out.trans (HD.out.2.2.mono HB.out.size)).setCell (by show w.heap.size ≤ w1.heap.size; omega) _
    clear hHeld S0 tfd tod
    generalize Wd.setCell ⟨w1.heap.size, 2, none⟩ (.int .i64 (s.b + y.am)) = W4 at *
    obtain ⟨t0, t1, t2, t3, t4, tf⟩ := five_of q1
    obtain ⟨d0, d1, d2, d3, d4, df⟩ := five_of q2
    clear q1 q2
    go_wp2
    refine bodyPost_ret (results_S2 Tryz.results9 _ _ (w.heap.size + 1) 37 _ _ _ _ _ (0, 0) rfl (five_all HQ.out)) rfl ⟨⟨i, true, HF.out, .inr (.inr ⟨rfl, by rw [HYY.out]; exact HSQ.out, p', A, by rw [HBK.out]; rfl, ?_⟩)⟩, five_below HB3.out (by omega)⟩
    rw [HBK.out]
    exact ((HO3.out.off HQ.out (fun k hk => five_other hk)).low (by omega)).alike rfl rfl rfl rfl
   ·have hqf : hq (sZ (sumF sb)) y.lk = false := by simpa using hqq
    have HQ : Hid (hq (sZ (sumF sb)) y.lk = false) := hqf
    refine wpU 4 ⟨some 26, .binOp .neq 28 (.tmp 23) (.tmp 25) 28, 4, _, _, none⟩ (v := .bool true) rfl ?_ ?_
    ·intro wz hSw; (try dsimp only at hSw); exact exec_neP _ _ rfl (sZ_bd sb) HYZ.out rfl rfl (by rw [hqf]; rfl) wz
    try simp only [Act.put, sqA, sqB, sqC]
    refine wpAnyH_done (by kernel_rfl) (NoPanic.normal ?_) _
    try simp only [Act.put, sqA, sqB, sqC]
    clear hHeld S0 S1 SH hqq hqf HD3 H3 HB4
    obtain ⟨d0, d1, d2, d3, d4, df⟩ := five_of HP3.out.2.2.1
    go_wp2
    exact bodyPost_ret (results_S2 Tryz.results9 _ _ (w.heap.size + 1) 37 _ _ _ _ _ (0, 0) rfl (five_all HP3.out.2.2.1)) rfl ⟨⟨i, true, HF.out, .inr (.inl ⟨rfl, by rw [HYY.out]; exact HQ.out, rfl⟩)⟩, five_below (HB.out.trans (HP3.out.2.2.2.mono HB.out.size)) (by omega)⟩
  ·have HBK : Hid (opnY s i = { subY (nxt s) i with a := s.a + (s.P i).am }) := by
    show opnY s i = _
    unfold opnY
    rw [if_neg (by omega)]
   obtain ⟨y, hy⟩ : ∃ y, s.P i = y := ⟨_, rfl⟩
   have HYY : Hid (s.P i = y) := hy
   rw [hy] at hfr ham HBK ⊢
   have ea : wrap64 (s.a + y.am) = s.a + y.am := by simp [wrap64]; omega
   have eai : IntKind.i64.wrap (s.a + y.am) = s.a + y.am := by rw [IntKind.wrap_i64]; omega
   clear hone hy
   have HYZ : Hid (Zb y.lk) := by
    have hh : i < s.pn ∧ (s.P i).id = id := of_decide_eq_true HF.out.hit.symm
    have := HLK.out i hh.1
    rw [HYY.out] at this
    exact this
   go_wp2_with (first | (refine wpList_allocP rfl rfl ?_; generalize (w1.alloc (.cells #[.int .i64 0, .int .i64 0, .int .i64 0, .slice none 0 0, .slice none 0 0] 37)).alloc (.cells (pyv p0) 43) = Wa at *; have hx1 := HA.out.1; obtain ⟨x0, x1, x2, x3, x4, xf⟩ := five_of hx1; clear hx1) | (refine wpList_storeP _ szP rfl _ _ rfl (w1.heap.size + 1) rfl y p0 43 rfl (by rw [five_other (by omega)]; exact HA.out.2.1) ?_; intro w3 hg3 hf3; have H3 : Hid (w3.heap[w1.heap.size + 1]? = some (.cells (pyv y) 43 (0, 0)) ∧ w3.heap[w1.heap.size]? = some (.cells #[.int .i64 (s.nu + 1), .int .i64 s.a, .int .i64 s.b, .slice p'.pa (s.pn - 1) p'.pc, .slice p'.ha s.hn p'.hc] 37 (0, 0)) ∧ w3.heap[w.heap.size + 1]? = some (.cells #[.int .i64 0, .int .i64 0, .int .i64 0, .slice none 0 0, .slice none 0 0] 37 (0, 0)) ∧ Below w1.heap.size w1 w3) := ⟨hg3, by rw [hf3.block _ (by simpa [World.setCell] using lt_of_block HA.out.1) (by simp)]; exact five_all HA.out.1, by rw [hf3.block _ (by simpa [World.setCell] using lt_of_block HA.out.2.2.2) (by simp; omega), five_other (by omega)]; exact HA.out.2.2.2, (five_below HA.out.2.2.1 (by omega)).trans (hf3.below (by simpa [World.setCell] using HA.out.2.2.1.size) (fun k hk => by rw [List.mem_singleton.1 hk]; omega))⟩; clear hg3 hf3 x0 x1 x2 x3 x4 xf; have hy3 := H3.out.2.2.1; obtain ⟨d0, d1, d2, d3, d4, df⟩ := five_of hy3; clear hy3) | fail)
   have hwn : w.heap.size + 1 < w1.heap.size := hl1
   have SH : Hid (∀ u, Below w3.heap.size w3 u → u.rangeAt (w1.heap.size + 1) 4 (bl y.lk 32)) := fun u hb => range_below (pbox_of H3.out.1).lk hb
   have S0 := SH.out w3.drew (Below.refl _ _).drew
   refine wp_region_noPanic ?_
   refine wp_region_held_drew (S := fun u => u.rangeAt (w1.heap.size + 1) 4 (bl y.lk 32)) (by kernel_rfl) S0 (fun hHeld => ?_)
   have HD3 : Hid (Below w3.heap.size w3 w3.drew) := (Below.refl _ _).drew
   have HSM : Hid (Calls Tryz.prog 27 #[.slice sa sb.length sc] w3.drew fun e w' => e = .returned (.agg (hv (sZ (sumF sb)))) ∧ Below w3.drew.heap.size w3.drew w') := by
    have hRl : (sumF sb).length = 32 := endL_len _
    rw [← sv_sZ hRl]
    have hbA : Below w.heap.size w w3.drew := (HB.out.trans (H3.out.2.2.2.mono HB.out.size)).drew
    exact sum_any sa sc sb w3.drew (HSB.out.1.frm (S := []) (Frm.ofBelow hbA) (fun k hk => by cases hk)) (Nat.le_trans HSB.out.2.1 hbA.size) (fun h0 => by obtain ⟨g, o, e1, hr⟩ := HSB.out.2.2.1 h0; exact ⟨g, o, e1, range_below hr hbA⟩) HSB.out.2.2.2.1 HSB.out.2.2.2.2.1 HSB.out.2.2.2.2.2
   clear d0 d1 d2 d3 d4 df
   generalize w3.drew = Wx at *
   refine wpV 0 ⟨some 22, .move (.tmp 2), 31, _, _, none⟩ rfl ?_
   try simp only [Act.put, sqA, sqB, sqC]
   refine wpV 2 ⟨some 24, .fieldAddr 43 (.tmp 9) 4, 0, _, _, none⟩ rfl ?_
   try simp only [Act.put, sqA, sqB, sqC]
   refine wpAnyH_take (i := 3) (oi := ⟨some 25, .load 28 (.tmp 24), 28, _, _, none⟩) rfl (by kernel_rfl) (by kernel_rfl) (by kernel_rfl) (fun _ _ _ h => h) (yieldsIf_load_mid (by rfl) _ _ rfl (w1.heap.size + 1) 4 rfl (bl y.lk 32) _ (fun _ h => h) Tryz.underlying28 rfl (szHb _)) (by assumption) ?_
   try simp only [Act.put, sqA, sqB, sqC]
   refine wpAnyH_ready (rs := [1]) (by kernel_rfl) (by simp) ?_
   refine (AllReadyH.cons (o := ⟨some 23, .call ⟨.value (.func 27), #[.tmp 22], #[31]⟩, 28, _, _, none⟩) rfl (fun K hK => ?_) AllReadyH.nil)
   go_simp
   refine HSM.out.mono ?_
   rintro e w4 ⟨rfl, hb4⟩
   have HB4 : Hid (Below w3.heap.size w3 w4) := Below.transS HD3.out hb4
   have S1 := SH.out w4 HB4.out
   refine hK.out _ _ S1 (fun _ => ?_)
   clear hK K hb4 HSM
   try simp only [Act.put, sqA, sqB, sqC]
   have HP3 : Hid (w4.heap[w1.heap.size + 1]? = some (.cells (pyv y) 43 (0, 0)) ∧ w4.heap[w1.heap.size]? = some (.cells #[.int .i64 (s.nu + 1), .int .i64 s.a, .int .i64 s.b, .slice p'.pa (s.pn - 1) p'.pc, .slice p'.ha s.hn p'.hc] 37 (0, 0)) ∧ w4.heap[w.heap.size + 1]? = some (.cells #[.int .i64 0, .int .i64 0, .int .i64 0, .slice none 0 0, .slice none 0 0] 37 (0, 0)) ∧ Below w1.heap.size w1 w4) := ⟨(HB4.out.block _ (lt_of_block H3.out.1)).trans H3.out.1, (HB4.out.block _ (lt_of_block H3.out.2.1)).trans H3.out.2.1, (HB4.out.block _ (lt_of_block H3.out.2.2.1)).trans H3.out.2.2.1, H3.out.2.2.2.trans (HB4.out.mono H3.out.2.2.2.size)⟩
   by_cases hqq : hq (sZ (sumF sb)) y.lk = true
   ·have HSQ : Hid (hq (sZ (sumF sb)) y.lk = true) := hqq
    refine wpU 4 ⟨some 26, .binOp .neq 28 (.tmp 23) (.tmp 25) 28, 4, _, _, none⟩ (v := .bool false) rfl ?_ ?_
    ·intro wz hSw; (try dsimp only at hSw); exact exec_neP _ _ rfl (sZ_bd sb) HYZ.out rfl rfl (by rw [hqq]; rfl) wz
    try simp only [Act.put, sqA, sqB, sqC]
    refine wpAnyH_done (by kernel_rfl) (NoPanic.normal ?_) _
    try simp only [Act.put, sqA, sqB, sqC]
    clear hHeld S0 S1 SH hqq HD3 H3 HB4
    generalize w4 = w3 at *
    have H3 : Hid (w3.heap[w1.heap.size + 1]? = some (.cells (pyv y) 43 (0, 0)) ∧ w3.heap[w1.heap.size]? = some (.cells #[.int .i64 (s.nu + 1), .int .i64 s.a, .int .i64 s.b, .slice p'.pa (s.pn - 1) p'.pc, .slice p'.ha s.hn p'.hc] 37 (0, 0)) ∧ w3.heap[w.heap.size + 1]? = some (.cells #[.int .i64 0, .int .i64 0, .int .i64 0, .slice none 0 0, .slice none 0 0] 37 (0, 0)) ∧ Below w1.heap.size w1 w3) := HP3.out
    clear HP3
    obtain ⟨d0, d1, d2, d3, d4, df⟩ := five_of H3.out.2.2.1
    go_wp2_with fail
    have hp3 := H3.out.1
    obtain ⟨_, f1, f2, _, _⟩ := pbox_of hp3
    have ht3 := H3.out.2.1
    obtain ⟨t0, t1, t2, t3, t4, tf⟩ := five_of ht3
    rw [hfr] at f1
    have S0 : w3.drew.cell? ⟨w1.heap.size + 1, 1, none⟩ = some (.int .i64 1) ∧ w3.drew.cell? ⟨w1.heap.size + 1, 2, none⟩ = some (.int .i64 y.am) ∧ w3.drew.cell? ⟨w1.heap.size, 1, none⟩ = some (.int .i64 s.a) := ⟨f1, f2, t1⟩
    clear hp3 ht3
    refine wp_region_noPanic ?_
    refine wp_region_K (S := fun u => u.cell? ⟨w1.heap.size + 1, 1, none⟩ = some (.int .i64 1) ∧ u.cell? ⟨w1.heap.size + 1, 2, none⟩ = some (.int .i64 y.am) ∧ u.cell? ⟨w1.heap.size, 1, none⟩ = some (.int .i64 s.a)) 11 (by kernel_rfl) S0 (fun hHeld => ?_)
    have tfd : ∀ o, w3.drew.frozen? ⟨w1.heap.size, o, none⟩ = false := tf
    have tod : w3.drew.cell? ⟨w1.heap.size, 1, none⟩ = some (.int .i64 s.a) := t1
    have HD : Hid (w3.drew.heap[w1.heap.size]? = some (.cells #[.int .i64 (s.nu + 1), .int .i64 s.a, .int .i64 s.b, .slice p'.pa (s.pn - 1) p'.pc, .slice p'.ha s.hn p'.hc] 37 (0, 0)) ∧ w3.drew.heap[w.heap.size + 1]? = some (.cells #[.int .i64 0, .int .i64 0, .int .i64 0, .slice none 0 0, .slice none 0 0] 37 (0, 0)) ∧ Below w1.heap.size w1 w3.drew) := ⟨H3.out.2.1, H3.out.2.2.1, H3.out.2.2.2.drew⟩
    clear t0 t1 t2 t3 t4 tf f1 f2 d0 d1 d2 d3 d4 df H3
    generalize w3.drew = Wd at *
    refine wpAnyK_take (by kernel_rfl) (i := 0) (oi := ⟨some 29, .fieldAddr 43 (.tmp 9) 1, 0, _, _, none⟩) (v := ?_) rfl (by kernel_rfl) (by kernel_rfl) (by kernel_rfl) (fun _ _ _ h => h) (Or.inl ⟨by rfl, ?_⟩) (by assumption) ?_
    rotate_left
    ·intro wz hSw; (try dsimp only at hSw); go_simp; (try with_reducible rfl)
    try simp only [Act.put, sqA, sqB, sqC]
    refine wpAnyK_take (by kernel_rfl) (i := 1) (oi := ⟨some 30, .load 3 (.tmp 29), 3, _, _, none⟩) (v := ?_) rfl (by kernel_rfl) (by kernel_rfl) (by kernel_rfl) (fun _ _ _ h => h) (Or.inl ⟨by rfl, ?_⟩) (by assumption) ?_
    rotate_left
    ·intro wz hSw; (try dsimp only at hSw); go_simp; (try with_reducible rfl)
    try simp only [Act.put, sqA, sqB, sqC]
    refine wpAnyK_take (by kernel_rfl) (i := 2) (oi := ⟨some 31, .binOp .sub 3 (.const (.int .i64 1)) (.tmp 30) 3, 3, _, _, none⟩) (v := .int .i64 0) rfl (by kernel_rfl) (by kernel_rfl) (by kernel_rfl) (fun _ _ _ h => h) (Or.inl ⟨by rfl, ?_⟩) (by assumption) ?_
    ·intro wz hSw; (try dsimp only at hSw); go_simp; try rfl
    try simp only [Act.put, sqA, sqB, sqC]
    refine wpAnyK_take (by kernel_rfl) (i := 3) (oi := ⟨some 32, .fieldAddr 37 (.tmp 8) 1, 0, _, _, none⟩) (v := ?_) rfl (by kernel_rfl) (by kernel_rfl) (by kernel_rfl) (fun _ _ _ h => h) (Or.inl ⟨by rfl, ?_⟩) (by assumption) ?_
    rotate_left
    ·intro wz hSw; (try dsimp only at hSw); go_simp; (try with_reducible rfl)
    try simp only [Act.put, sqA, sqB, sqC]
    refine wpAnyK_take (by kernel_rfl) (i := 4) (oi := ⟨some 33, .indexAddr 22 (.tmp 32) (.tmp 31), 0, _, _, none⟩) (v := ?_) rfl (by kernel_rfl) (by kernel_rfl) (by kernel_rfl) (fun _ _ _ h => h) (Or.inl ⟨by rfl, ?_⟩) (by assumption) ?_
    rotate_left
    ·intro wz hSw; (try dsimp only at hSw); go_simp; (try with_reducible rfl)
    try simp only [Act.put, sqA, sqB, sqC]
    refine wpAnyK_take (by kernel_rfl) (i := 5) (oi := ⟨some 34, .load 3 (.tmp 33), 3, _, _, none⟩) (v := ?_) rfl (by kernel_rfl) (by kernel_rfl) (by kernel_rfl) (fun _ _ _ h => h) (Or.inl ⟨by rfl, ?_⟩) (by assumption) ?_
    rotate_left
    ·intro wz hSw; (try dsimp only at hSw); go_simp; (try with_reducible rfl)
    try simp only [Act.put, sqA, sqB, sqC]
    refine wpAnyK_take (by kernel_rfl) (i := 6) (oi := ⟨some 35, .fieldAddr 43 (.tmp 9) 2, 0, _, _, none⟩) (v := ?_) rfl (by kernel_rfl) (by kernel_rfl) (by kernel_rfl) (fun _ _ _ h => h) (Or.inl ⟨by rfl, ?_⟩) (by assumption) ?_
    rotate_left
    ·intro wz hSw; (try dsimp only at hSw); go_simp; (try with_reducible rfl)
    try simp only [Act.put, sqA, sqB, sqC]
    refine wpAnyK_take (by kernel_rfl) (i := 7) (oi := ⟨some 36, .load 3 (.tmp 35), 3, _, _, none⟩) (v := ?_) rfl (by kernel_rfl) (by kernel_rfl) (by kernel_rfl) (fun _ _ _ h => h) (Or.inl ⟨by rfl, ?_⟩) (by assumption) ?_
    rotate_left
    ·intro wz hSw; (try dsimp only at hSw); go_simp; (try with_reducible rfl)
    try simp only [Act.put, sqA, sqB, sqC]
    refine wpAnyK_take (by kernel_rfl) (i := 8) (oi := ⟨some 37, .binOp .add 3 (.tmp 34) (.tmp 36) 3, 3, _, _, none⟩) (v := .int .i64 (s.a + y.am)) rfl (by kernel_rfl) (by kernel_rfl) (by kernel_rfl) (fun _ _ _ h => h) (Or.inl ⟨by rfl, ?_⟩) (by assumption) ?_
    ·intro wz hSw; (try dsimp only at hSw); go_simp; try (rw [eai]); try rfl
    try simp only [Act.put, sqA, sqB, sqC]
    refine wpAnyK_ready (rs := [9]) (by kernel_rfl) (by simp) ?_
    refine (AllReadyK.cons (o := ⟨some 38, .fieldAddr 37 (.tmp 8) 1, 0, _, _, none⟩) rfl (fun K hK => ?_) AllReadyK.nil)
    go_simp
    refine hK.out _ _ (fun _ => S0) (fun _ => ?_)
    clear hK K
    refine wpAnyK_take (by kernel_rfl) (i := 10) (oi := ⟨some 39, .indexAddr 22 (.tmp 38) (.tmp 31), 0, _, _, none⟩) (v := ?_) rfl (by kernel_rfl) (by kernel_rfl) (by kernel_rfl) (fun _ _ _ h => h) (Or.inl ⟨by rfl, ?_⟩) (by assumption) ?_
    rotate_left
    ·intro wz hSw; (try dsimp only at hSw); go_simp; (try with_reducible rfl)
    try simp only [Act.put, sqA, sqB, sqC]
    refine wpAnyK_ready (rs := [11]) (by kernel_rfl) (by simp) ?_
    refine (AllReadyK.cons (o := ⟨none, .store 3 (.tmp 39) (.tmp 37), 0, _, _, none⟩) rfl (fun K hK => ?_) AllReadyK.nil)
    go_simp
    refine hK.out _ _ (fun h => absurd rfl h) (fun _ => ?_)
    clear hK K
    try simp only [Act.put]
    refine wpAnyK_done (by kernel_rfl) (NoPanic.normal ?_) _
    try simp only [Act.put, sqA, sqB, sqC]
    have q1 : (Wd.setCell ⟨w1.heap.size, 1, none⟩ (.int .i64 (s.a + y.am))).heap[w1.heap.size]? = some (.cells #[.int .i64 (s.nu + 1), .int .i64 (s.a + y.am), .int .i64 s.b, .slice p'.pa (s.pn - 1) p'.pc, .slice p'.ha s.hn p'.hc] 37 (0, 0)) := five_set1 HD.out.1
    have q2 : (Wd.setCell ⟨w1.heap.size, 1, none⟩ (.int .i64 (s.a + y.am))).heap[w.heap.size + 1]? = some (.cells #[.int .i64 0, .int .i64 0, .int .i64 0, .slice none 0 0, .slice none 0 0] 37 (0, 0)) := by rw [Below.heap_setCell _ _ _ _ (by show w.heap.size + 1 ≠ w1.heap.size; omega)]; exact HD.out.2.1
    have HQ : Hid ((Wd.setCell ⟨w1.heap.size, 1, none⟩ (.int .i64 (s.a + y.am))).heap[w.heap.size + 1]? = some (.cells #[.int .i64 0, .int .i64 0, .int .i64 0, .slice none 0 0, .slice none 0 0] 37 (0, 0))) := q2
    have HO3 : Hid (SvOw (w.heap.size + 2) (Wd.setCell ⟨w1.heap.size, 1, none⟩ (.int .i64 (s.a + y.am))) (subY (nxt s) i) p' A) := HO.out.frm (fun k h1 h2 => by rw [Below.heap_setCell _ _ _ _ (by show k ≠ w1.heap.size; omega)]; exact HD.out.2.2.block k h1)
    have HB3 : Hid (Below w.heap.size w (Wd.setCell ⟨w1.heap.size, 1, none⟩ (.int .i64 (s.a + y.am)))) := (HB.out.trans (HD.out.2.2.mono HB.out.size)).setCell (by show w.heap.size ≤ w1.heap.size; omega) _
    clear hHeld S0 tfd tod
    generalize Wd.setCell ⟨w1.heap.size, 1, none⟩ (.int .i64 (s.a + y.am)) = W4 at *
    obtain ⟨t0, t1, t2, t3, t4, tf⟩ := five_of q1
    obtain ⟨d0, d1, d2, d3, d4, df⟩ := five_of q2
    clear q1 q2
    go_wp2
    refine bodyPost_ret (results_S2 Tryz.results9 _ _ (w.heap.size + 1) 37 _ _ _ _ _ (0, 0) rfl (five_all HQ.out)) rfl ⟨⟨i, true, HF.out, .inr (.inr ⟨rfl, by rw [HYY.out]; exact HSQ.out, p', A, by rw [HBK.out]; rfl, ?_⟩)⟩, five_below HB3.out (by omega)⟩
    rw [HBK.out]
    exact ((HO3.out.off HQ.out (fun k hk => five_other hk)).low (by omega)).alike rfl rfl rfl rfl
   ·have hqf : hq (sZ (sumF sb)) y.lk = false := by simpa using hqq
    have HQ : Hid (hq (sZ (sumF sb)) y.lk = false) := hqf
    refine wpU 4 ⟨some 26, .binOp .neq 28 (.tmp 23) (.tmp 25) 28, 4, _, _, none⟩ (v := .bool true) rfl ?_ ?_
    ·intro wz hSw; (try dsimp only at hSw); exact exec_neP _ _ rfl (sZ_bd sb) HYZ.out rfl rfl (by rw [hqf]; rfl) wz
    try simp only [Act.put, sqA, sqB, sqC]
    refine wpAnyH_done (by kernel_rfl) (NoPanic.normal ?_) _
    try simp only [Act.put, sqA, sqB, sqC]
    clear hHeld S0 S1 SH hqq hqf HD3 H3 HB4
    obtain ⟨d0, d1, d2, d3, d4, df⟩ := five_of HP3.out.2.2.1
    go_wp2
    exact bodyPost_ret (results_S2 Tryz.results9 _ _ (w.heap.size + 1) 37 _ _ _ _ _ (0, 0) rfl (five_all HP3.out.2.2.1)) rfl ⟨⟨i, true, HF.out, .inr (.inl ⟨rfl, by rw [HYY.out]; exact HQ.out, rfl⟩)⟩, five_below (HB.out.trans (HP3.out.2.2.2.mono HB.out.size)) (by omega)⟩
end Go.Proofs.YtoefgfiabfkfaaaGreatDoor
