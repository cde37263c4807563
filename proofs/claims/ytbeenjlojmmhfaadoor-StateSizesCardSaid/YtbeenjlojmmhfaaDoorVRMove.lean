/- The document's right, with and Move. -/
import Derived.Test.YtbeenjlojmmhfaaDoorVRChk
import Derived.Test.YtbeenjlojmmhfaaDoorVMove
namespace Go.Proofs.YtbeenjlojmmhfaaDoor
open Go.RowKit

theorem results_R2 {fn : Func} {p u : Tmp} (h : fn.results = #[.cell p 26, .tmp u]) (tmps : Array Value) (w : World) (g : Nat) (t : TypeId) (c0 c1 c2 c3 c4 : Value) (fr : Nat × Nat)
    (hp : tmps.getD p undef = .pointer (some ⟨g, 0, none⟩)) (hg : w.heap[g]? = some (.cells #[c0, c1, c2, c3, c4] t fr)) :
    (results fn tmps).run Tryd.prog w = .ok (.tuple #[.agg #[c0, c1, c2, c3, c4], tmps.getD u undef]) w := by
  have hp' : tmps[p]?.getD undef = .pointer (some ⟨g, 0, none⟩) := by simpa using hp
  simp [results, h, hp', asAddr, run_loadVar_row w g t 26 #[c0, c1, c2, c3, c4] fr _ hg Tryd.underlying26 rfl szSr]
set_option maxRecDepth 100000 in
set_option maxHeartbeats 1600000 in
theorem right_any (s : Sv) (p : Pl) (w : World) (h : SvAt w s p) (hs : s.Small) :
    Calls Tryd.prog 27 #[.agg (svv s p)] w fun e w' => e = .returned (.bool (decide (Rgt s))) ∧ Below w.heap.size w w' := by
  have hb0 : Below w.heap.size w (w.alloc (.cells (svv s p) 26)) := (Below.refl _ w).alloc (Nat.le_refl _) _
  have hr0 := heap_alloc_new w (.cells (svv s p) 26)
  have hc := rcheck_any s p _ (h.below hb0) hs
  clear h hs
  by_cases hk : SOk s
  · have e0 : chkE s = 0 := if_pos hk
    have HE : Hid (decide (Rgt s) = decide (s.nu < 1099511627776)) := decide_eq_decide.2 ⟨fun h => h.2, fun h => ⟨hk, h⟩⟩
    rw [e0] at hc
    rw [HE.out]
    clear hk e0
    unfold svv at hb0 hr0 hc ⊢
    go_enter Tryd.func27, Tryd.ntmps27
    go_wp2_with fail
    generalize w.alloc (.cells #[.int .i64 s.nu, .int .i64 s.a, .int .i64 s.b, .slice p.pa s.pn p.pc, .slice p.ha s.hn p.hc] 26) = W0 at *
    refine hc.mono ?_
    rintro e w1 ⟨rfl, hb1⟩
    have k0 := hb1.block _ (lt_of_block hr0)
    rw [hr0] at k0
    obtain ⟨c0, c1, c2, c3, c4, cf⟩ := five_of k0
    have HB : Hid (Below w.heap.size w w1) := hb0.trans (hb1.mono hb0.size)
    clear hc hb0 hb1 hr0 k0
    go_wp2
    go_ret
    exact ⟨rfl, HB.out⟩
  · have e0 : chkE s = 1 := if_neg hk
    have HE : Hid (decide (Rgt s) = false) := decide_eq_false (fun h => hk h.1)
    rw [e0] at hc
    rw [HE.out]
    clear hk e0
    unfold svv at hb0 hr0 hc ⊢
    go_enter Tryd.func27, Tryd.ntmps27
    go_wp2_with fail
    generalize w.alloc (.cells #[.int .i64 s.nu, .int .i64 s.a, .int .i64 s.b, .slice p.pa s.pn p.pc, .slice p.ha s.hn p.hc] 26) = W0 at *
    refine hc.mono ?_
    rintro e w1 ⟨rfl, hb1⟩
    have k0 := hb1.block _ (lt_of_block hr0)
    rw [hr0] at k0
    obtain ⟨c0, c1, c2, c3, c4, cf⟩ := five_of k0
    have HB : Hid (Below w.heap.size w w1) := hb0.trans (hb1.mono hb0.size)
    clear hc hb0 hb1 hr0 k0
    go_wp2
    go_ret
    exact ⟨rfl, HB.out⟩
set_option maxRecDepth 100000 in
set_option maxHeartbeats 1600000 in
theorem rwith_any (s : Sv) (p : Pl) (x y : Int) (pa : Option Addr) (pn pc : Nat) (ha : Option Addr) (hn hc : Nat) (w : World) (e1 : wrap64 (s.nu + 1) = s.nu + 1) (e2 : wrap64 (s.a + x) = s.a + x) (e3 : wrap64 (s.b + y) = s.b + y) :
    Calls Tryd.prog 28 #[.agg (#[.int .i64 s.nu, .int .i64 s.a, .int .i64 s.b, .slice p.pa s.pn p.pc, .slice p.ha s.hn p.hc]), .int .i64 x, .int .i64 y, .slice pa pn pc, .slice ha hn hc] w fun e w' => e = .returned (.agg #[.int .i64 (s.nu + 1), .int .i64 (s.a + x), .int .i64 (s.b + y), .slice pa pn pc, .slice ha hn hc]) ∧ Below w.heap.size w w' := by
  have hE := heap_alloc_new (w.alloc (.cells #[.int .i64 s.nu, .int .i64 s.a, .int .i64 s.b, .slice p.pa s.pn p.pc, .slice p.ha s.hn p.hc] 26)) (.cells #[.int .i64 (s.nu + 1), .int .i64 (s.a + x), .int .i64 (s.b + y), .slice pa pn pc, .slice ha hn hc] 26)
  have e0 : (w.alloc (.cells #[.int .i64 s.nu, .int .i64 s.a, .int .i64 s.b, .slice p.pa s.pn p.pc, .slice p.ha s.hn p.hc] 26)).heap.size = w.heap.size + 1 := by simp
  rw [e0] at hE
  have HE : Hid _ := hE
  clear hE e0
  go_enter Tryd.func28, Tryd.ntmps28
  go_wp2
  exact bodyPost_ret (results_cell_row Tryd.results28 _ _ (w.heap.size + 1) 26 _ (0, 0) _ rfl HE.out Tryd.underlying26 rfl szSr) rfl ⟨rfl, ((Below.refl _ w).alloc (Nat.le_refl _) _).alloc (by simp) _⟩
set_option maxRecDepth 100000 in
set_option maxHeartbeats 1600000 in
theorem rmove_1 (s : Sv) (p : Pl) (f n : Int) (w : World) (h : SvAt w s p) (hs : s.Small) (hr : ¬ Rgt s) :
    Calls Tryd.prog 11 #[.agg (svv s p), .int .i64 f, .int .i64 n] w fun e w' => e = .returned (.tuple #[.agg #[.int .i64 0, .int .i64 0, .int .i64 0, .slice none 0 0, .slice none 0 0], .int .i64 1]) ∧ Below w.heap.size w w' := by
  obtain ⟨hn0, hn1, hsz, hb0⟩ := two_new w s p 26 26
  have hc := right_any s p _ (h.below hb0) hs
  rw [decide_eq_false hr] at hc
  clear h hs
  unfold svv sv0 pl0 at hn0 hn1 hsz hb0 hc
  unfold svv
  simp only at hn0 hn1 hsz hb0 hc
  go_enter Tryd.func11, Tryd.ntmps11
  go_wp2_with fail
  generalize ((w.alloc (.cells #[.int .i64 s.nu, .int .i64 s.a, .int .i64 s.b, .slice p.pa s.pn p.pc, .slice p.ha s.hn p.hc] 26)).alloc (.cells #[.int .i64 0, .int .i64 0, .int .i64 0, .slice none 0 0, .slice none 0 0] 26)) = W0 at *
  refine hc.mono ?_
  rintro e w1 ⟨rfl, hb1⟩
  have HB : Hid (Below w.heap.size w w1) := hb0.trans (hb1.mono (by omega))
  have k0 := hb1.block _ (show w.heap.size < W0.heap.size by omega)
  rw [hn0] at k0
  have k1 := hb1.block _ (show w.heap.size + 1 < W0.heap.size by omega)
  rw [hn1] at k1
  have hl1 : w.heap.size + 1 < w1.heap.size := by have := hb1.size; omega
  clear hc hb0 hb1 hn0 hn1 hsz
  obtain ⟨c0, c1, c2, c3, c4, cf⟩ := five_of k0
  obtain ⟨d0, d1, d2, d3, d4, df⟩ := five_of k1
  have HK : Hid (w1.heap[w.heap.size + 1]? = some (.cells #[.int .i64 0, .int .i64 0, .int .i64 0, .slice none 0 0, .slice none 0 0] 26 (0, 0))) := k1
  clear k0 k1
  go_wp2
  exact bodyPost_ret (results_R2 Tryd.results11 _ _ (w.heap.size + 1) 26 _ _ _ _ _ (0, 0) rfl (five_all HK.out)) rfl ⟨rfl, five_below HB.out (by omega)⟩
set_option maxRecDepth 100000 in
set_option maxHeartbeats 1600000 in
theorem rmove_33 (s : Sv) (p : Pl) (f n : Int) (w : World) (h : SvAt w s p) (hs : s.Small) (hr : Rgt s) (hf : ¬ Side f) :
    Calls Tryd.prog 11 #[.agg (svv s p), .int .i64 f, .int .i64 n] w fun e w' => e = .returned (.tuple #[.agg #[.int .i64 0, .int .i64 0, .int .i64 0, .slice none 0 0, .slice none 0 0], .int .i64 33]) ∧ Below w.heap.size w w' := by
  obtain ⟨hn0, hn1, hsz, hb0⟩ := two_new w s p 26 26
  have hc := right_any s p _ (h.below hb0) hs
  rw [decide_eq_true hr] at hc
  clear h hs
  unfold svv sv0 pl0 at hn0 hn1 hsz hb0 hc
  unfold svv
  simp only at hn0 hn1 hsz hb0 hc
  go_enter Tryd.func11, Tryd.ntmps11
  go_wp2_with fail
  generalize ((w.alloc (.cells #[.int .i64 s.nu, .int .i64 s.a, .int .i64 s.b, .slice p.pa s.pn p.pc, .slice p.ha s.hn p.hc] 26)).alloc (.cells #[.int .i64 0, .int .i64 0, .int .i64 0, .slice none 0 0, .slice none 0 0] 26)) = W0 at *
  refine hc.mono ?_
  rintro e w1 ⟨rfl, hb1⟩
  have HB : Hid (Below w.heap.size w w1) := hb0.trans (hb1.mono (by omega))
  have k0 := hb1.block _ (show w.heap.size < W0.heap.size by omega)
  rw [hn0] at k0
  have k1 := hb1.block _ (show w.heap.size + 1 < W0.heap.size by omega)
  rw [hn1] at k1
  have hl1 : w.heap.size + 1 < w1.heap.size := by have := hb1.size; omega
  clear hc hb0 hb1 hn0 hn1 hsz
  obtain ⟨c0, c1, c2, c3, c4, cf⟩ := five_of k0
  obtain ⟨d0, d1, d2, d3, d4, df⟩ := five_of k1
  have HK : Hid (w1.heap[w.heap.size + 1]? = some (.cells #[.int .i64 0, .int .i64 0, .int .i64 0, .slice none 0 0, .slice none 0 0] 26 (0, 0))) := k1
  clear k0 k1
  have g0 : ¬ f = 0 := fun h => hf (.inl h)
  have g1 : ¬ f = 1 := fun h => hf (.inr h)
  have f0 : (f != 0) = true := by simpa using g0
  have f1 : (f != 1) = true := by simpa using g1
  clear g0 g1
  go_wp2
  exact bodyPost_ret (results_R2 Tryd.results11 _ _ (w.heap.size + 1) 26 _ _ _ _ _ (0, 0) rfl (five_all HK.out)) rfl ⟨rfl, five_below HB.out (by omega)⟩
set_option maxRecDepth 100000 in
set_option maxHeartbeats 1600000 in
theorem rmove_27_0 (s : Sv) (p : Pl) (n : Int) (w : World) (h : SvAt w s p) (hs : s.Small) (hr : Rgt s) (hn : n < 1) :
    Calls Tryd.prog 11 #[.agg (svv s p), .int .i64 0, .int .i64 n] w fun e w' => e = .returned (.tuple #[.agg #[.int .i64 0, .int .i64 0, .int .i64 0, .slice none 0 0, .slice none 0 0], .int .i64 27]) ∧ Below w.heap.size w w' := by
  obtain ⟨hn0, hn1, hsz, hb0⟩ := two_new w s p 26 26
  have hc := right_any s p _ (h.below hb0) hs
  rw [decide_eq_true hr] at hc
  clear h hs
  unfold svv sv0 pl0 at hn0 hn1 hsz hb0 hc
  unfold svv
  simp only at hn0 hn1 hsz hb0 hc
  go_enter Tryd.func11, Tryd.ntmps11
  go_wp2_with fail
  generalize ((w.alloc (.cells #[.int .i64 s.nu, .int .i64 s.a, .int .i64 s.b, .slice p.pa s.pn p.pc, .slice p.ha s.hn p.hc] 26)).alloc (.cells #[.int .i64 0, .int .i64 0, .int .i64 0, .slice none 0 0, .slice none 0 0] 26)) = W0 at *
  refine hc.mono ?_
  rintro e w1 ⟨rfl, hb1⟩
  have HB : Hid (Below w.heap.size w w1) := hb0.trans (hb1.mono (by omega))
  have k0 := hb1.block _ (show w.heap.size < W0.heap.size by omega)
  rw [hn0] at k0
  have k1 := hb1.block _ (show w.heap.size + 1 < W0.heap.size by omega)
  rw [hn1] at k1
  have hl1 : w.heap.size + 1 < w1.heap.size := by have := hb1.size; omega
  clear hc hb0 hb1 hn0 hn1 hsz
  obtain ⟨c0, c1, c2, c3, c4, cf⟩ := five_of k0
  obtain ⟨d0, d1, d2, d3, d4, df⟩ := five_of k1
  have HK : Hid (w1.heap[w.heap.size + 1]? = some (.cells #[.int .i64 0, .int .i64 0, .int .i64 0, .slice none 0 0, .slice none 0 0] 26 (0, 0))) := k1
  clear k0 k1
  go_wp2
  exact bodyPost_ret (results_R2 Tryd.results11 _ _ (w.heap.size + 1) 26 _ _ _ _ _ (0, 0) rfl (five_all HK.out)) rfl ⟨rfl, five_below HB.out (by omega)⟩
set_option maxRecDepth 100000 in
set_option maxHeartbeats 1600000 in
theorem rmove_27_1 (s : Sv) (p : Pl) (n : Int) (w : World) (h : SvAt w s p) (hs : s.Small) (hr : Rgt s) (hn : n < 1) :
    Calls Tryd.prog 11 #[.agg (svv s p), .int .i64 1, .int .i64 n] w fun e w' => e = .returned (.tuple #[.agg #[.int .i64 0, .int .i64 0, .int .i64 0, .slice none 0 0, .slice none 0 0], .int .i64 27]) ∧ Below w.heap.size w w' := by
  obtain ⟨hn0, hn1, hsz, hb0⟩ := two_new w s p 26 26
  have hc := right_any s p _ (h.below hb0) hs
  rw [decide_eq_true hr] at hc
  clear h hs
  unfold svv sv0 pl0 at hn0 hn1 hsz hb0 hc
  unfold svv
  simp only at hn0 hn1 hsz hb0 hc
  go_enter Tryd.func11, Tryd.ntmps11
  go_wp2_with fail
  generalize ((w.alloc (.cells #[.int .i64 s.nu, .int .i64 s.a, .int .i64 s.b, .slice p.pa s.pn p.pc, .slice p.ha s.hn p.hc] 26)).alloc (.cells #[.int .i64 0, .int .i64 0, .int .i64 0, .slice none 0 0, .slice none 0 0] 26)) = W0 at *
  refine hc.mono ?_
  rintro e w1 ⟨rfl, hb1⟩
  have HB : Hid (Below w.heap.size w w1) := hb0.trans (hb1.mono (by omega))
  have k0 := hb1.block _ (show w.heap.size < W0.heap.size by omega)
  rw [hn0] at k0
  have k1 := hb1.block _ (show w.heap.size + 1 < W0.heap.size by omega)
  rw [hn1] at k1
  have hl1 : w.heap.size + 1 < w1.heap.size := by have := hb1.size; omega
  clear hc hb0 hb1 hn0 hn1 hsz
  obtain ⟨c0, c1, c2, c3, c4, cf⟩ := five_of k0
  obtain ⟨d0, d1, d2, d3, d4, df⟩ := five_of k1
  have HK : Hid (w1.heap[w.heap.size + 1]? = some (.cells #[.int .i64 0, .int .i64 0, .int .i64 0, .slice none 0 0, .slice none 0 0] 26 (0, 0))) := k1
  clear k0 k1
  go_wp2
  exact bodyPost_ret (results_R2 Tryd.results11 _ _ (w.heap.size + 1) 26 _ _ _ _ _ (0, 0) rfl (five_all HK.out)) rfl ⟨rfl, five_below HB.out (by omega)⟩
set_option maxRecDepth 100000 in
set_option maxHeartbeats 1600000 in
theorem rmove_20_0 (s : Sv) (p : Pl) (n : Int) (w : World) (h : SvAt w s p) (hs : s.Small) (hr : Rgt s) (hn : ¬ n < 1) (hh : s.a < n) :
    Calls Tryd.prog 11 #[.agg (svv s p), .int .i64 0, .int .i64 n] w fun e w' => e = .returned (.tuple #[.agg #[.int .i64 0, .int .i64 0, .int .i64 0, .slice none 0 0, .slice none 0 0], .int .i64 20]) ∧ Below w.heap.size w w' := by
  obtain ⟨hn0, hn1, hsz, hb0⟩ := two_new w s p 26 26
  have hc := right_any s p _ (h.below hb0) hs
  rw [decide_eq_true hr] at hc
  clear h hs
  unfold svv sv0 pl0 at hn0 hn1 hsz hb0 hc
  unfold svv
  simp only at hn0 hn1 hsz hb0 hc
  go_enter Tryd.func11, Tryd.ntmps11
  go_wp2_with fail
  generalize ((w.alloc (.cells #[.int .i64 s.nu, .int .i64 s.a, .int .i64 s.b, .slice p.pa s.pn p.pc, .slice p.ha s.hn p.hc] 26)).alloc (.cells #[.int .i64 0, .int .i64 0, .int .i64 0, .slice none 0 0, .slice none 0 0] 26)) = W0 at *
  refine hc.mono ?_
  rintro e w1 ⟨rfl, hb1⟩
  have HB : Hid (Below w.heap.size w w1) := hb0.trans (hb1.mono (by omega))
  have k0 := hb1.block _ (show w.heap.size < W0.heap.size by omega)
  rw [hn0] at k0
  have k1 := hb1.block _ (show w.heap.size + 1 < W0.heap.size by omega)
  rw [hn1] at k1
  have hl1 : w.heap.size + 1 < w1.heap.size := by have := hb1.size; omega
  clear hc hb0 hb1 hn0 hn1 hsz
  obtain ⟨c0, c1, c2, c3, c4, cf⟩ := five_of k0
  obtain ⟨d0, d1, d2, d3, d4, df⟩ := five_of k1
  have HK : Hid (w1.heap[w.heap.size + 1]? = some (.cells #[.int .i64 0, .int .i64 0, .int .i64 0, .slice none 0 0, .slice none 0 0] 26 (0, 0))) := k1
  clear k0 k1
  go_wp2
  exact bodyPost_ret (results_R2 Tryd.results11 _ _ (w.heap.size + 1) 26 _ _ _ _ _ (0, 0) rfl (five_all HK.out)) rfl ⟨rfl, five_below HB.out (by omega)⟩
set_option maxRecDepth 100000 in
set_option maxHeartbeats 1600000 in
theorem rmove_20_1 (s : Sv) (p : Pl) (n : Int) (w : World) (h : SvAt w s p) (hs : s.Small) (hr : Rgt s) (hn : ¬ n < 1) (hh : s.b < n) :
    Calls Tryd.prog 11 #[.agg (svv s p), .int .i64 1, .int .i64 n] w fun e w' => e = .returned (.tuple #[.agg #[.int .i64 0, .int .i64 0, .int .i64 0, .slice none 0 0, .slice none 0 0], .int .i64 20]) ∧ Below w.heap.size w w' := by
  obtain ⟨hn0, hn1, hsz, hb0⟩ := two_new w s p 26 26
  have hc := right_any s p _ (h.below hb0) hs
  rw [decide_eq_true hr] at hc
  clear h hs
  unfold svv sv0 pl0 at hn0 hn1 hsz hb0 hc
  unfold svv
  simp only at hn0 hn1 hsz hb0 hc
  go_enter Tryd.func11, Tryd.ntmps11
  go_wp2_with fail
  generalize ((w.alloc (.cells #[.int .i64 s.nu, .int .i64 s.a, .int .i64 s.b, .slice p.pa s.pn p.pc, .slice p.ha s.hn p.hc] 26)).alloc (.cells #[.int .i64 0, .int .i64 0, .int .i64 0, .slice none 0 0, .slice none 0 0] 26)) = W0 at *
  refine hc.mono ?_
  rintro e w1 ⟨rfl, hb1⟩
  have HB : Hid (Below w.heap.size w w1) := hb0.trans (hb1.mono (by omega))
  have k0 := hb1.block _ (show w.heap.size < W0.heap.size by omega)
  rw [hn0] at k0
  have k1 := hb1.block _ (show w.heap.size + 1 < W0.heap.size by omega)
  rw [hn1] at k1
  have hl1 : w.heap.size + 1 < w1.heap.size := by have := hb1.size; omega
  clear hc hb0 hb1 hn0 hn1 hsz
  obtain ⟨c0, c1, c2, c3, c4, cf⟩ := five_of k0
  obtain ⟨d0, d1, d2, d3, d4, df⟩ := five_of k1
  have HK : Hid (w1.heap[w.heap.size + 1]? = some (.cells #[.int .i64 0, .int .i64 0, .int .i64 0, .slice none 0 0, .slice none 0 0] 26 (0, 0))) := k1
  clear k0 k1
  go_wp2
  exact bodyPost_ret (results_R2 Tryd.results11 _ _ (w.heap.size + 1) 26 _ _ _ _ _ (0, 0) rfl (five_all HK.out)) rfl ⟨rfl, five_below HB.out (by omega)⟩
set_option maxRecDepth 100000 in
set_option maxHeartbeats 1600000 in
theorem rmove_ok_0 (s : Sv) (p : Pl) (n : Int) (w : World) (h : SvAt w s p) (hs : s.Small) (hr : Rgt s) (hn : ¬ n < 1) (hh : ¬ s.a < n) :
    Calls Tryd.prog 11 #[.agg (svv s p), .int .i64 0, .int .i64 n] w fun e w' => e = .returned (.tuple #[.agg #[.int .i64 (s.nu + 1), .int .i64 (s.a + (-n)), .int .i64 (s.b + n), .slice p.pa s.pn p.pc, .slice p.ha s.hn p.hc], .int .i64 0]) ∧ Below w.heap.size w w' := by
  have b0 := hr.1.1.1
  have b1 := hr.1.1.2.1
  have b2 := hr.1.1.2.2
  have en : wrap64 (-n) = -n := by simp [wrap64]; omega
  have e1 : wrap64 (s.nu + 1) = s.nu + 1 := by simp [wrap64]; omega
  have e2 : wrap64 (s.a + (-n)) = s.a + (-n) := by simp [wrap64]; omega
  have e3 : wrap64 (s.b + n) = s.b + n := by simp [wrap64]; omega
  obtain ⟨hn0, hn1, hsz, hb0⟩ := two_new w s p 26 26
  have hc := right_any s p _ (h.below hb0) hs
  rw [decide_eq_true hr] at hc
  clear h hs
  unfold svv sv0 pl0 at hn0 hn1 hsz hb0 hc
  unfold svv
  simp only at hn0 hn1 hsz hb0 hc
  go_enter Tryd.func11, Tryd.ntmps11
  go_wp2_with fail
  generalize ((w.alloc (.cells #[.int .i64 s.nu, .int .i64 s.a, .int .i64 s.b, .slice p.pa s.pn p.pc, .slice p.ha s.hn p.hc] 26)).alloc (.cells #[.int .i64 0, .int .i64 0, .int .i64 0, .slice none 0 0, .slice none 0 0] 26)) = W0 at *
  refine hc.mono ?_
  rintro e w1 ⟨rfl, hb1⟩
  have HB : Hid (Below w.heap.size w w1) := hb0.trans (hb1.mono (by omega))
  have k0 := hb1.block _ (show w.heap.size < W0.heap.size by omega)
  rw [hn0] at k0
  have k1 := hb1.block _ (show w.heap.size + 1 < W0.heap.size by omega)
  rw [hn1] at k1
  have hl1 : w.heap.size + 1 < w1.heap.size := by have := hb1.size; omega
  clear hc hb0 hb1 hn0 hn1 hsz
  obtain ⟨c0, c1, c2, c3, c4, cf⟩ := five_of k0
  obtain ⟨d0, d1, d2, d3, d4, df⟩ := five_of k1
  have HK : Hid (w1.heap[w.heap.size + 1]? = some (.cells #[.int .i64 0, .int .i64 0, .int .i64 0, .slice none 0 0, .slice none 0 0] 26 (0, 0))) := k1
  clear k0 k1
  go_wp2_with fail
  refine (rwith_any s p (-n) n p.pa s.pn p.pc p.ha s.hn p.hc w1 e1 e2 e3).mono ?_
  rintro e w2 ⟨rfl, hb2⟩
  have HB2 : Hid (Below w.heap.size w w2) := HB.out.trans (hb2.mono HB.out.size)
  have k1 := hb2.block _ hl1
  rw [HK.out] at k1
  clear HB HK c0 c1 c2 c3 c4 cf d0 d1 d2 d3 d4 df hb2
  obtain ⟨d0, d1, d2, d3, d4, df⟩ := five_of k1
  have HK : Hid (w2.heap[w.heap.size + 1]? = some (.cells #[.int .i64 0, .int .i64 0, .int .i64 0, .slice none 0 0, .slice none 0 0] 26 (0, 0))) := k1
  clear k1
  go_wp2
  exact bodyPost_ret (results_R2 Tryd.results11 _ _ (w.heap.size + 1) 26 _ _ _ _ _ (0, 0) rfl (five_all HK.out)) rfl ⟨rfl, five_below HB2.out (by omega)⟩
set_option maxRecDepth 100000 in
set_option maxHeartbeats 1600000 in
theorem rmove_ok_1 (s : Sv) (p : Pl) (n : Int) (w : World) (h : SvAt w s p) (hs : s.Small) (hr : Rgt s) (hn : ¬ n < 1) (hh : ¬ s.b < n) :
    Calls Tryd.prog 11 #[.agg (svv s p), .int .i64 1, .int .i64 n] w fun e w' => e = .returned (.tuple #[.agg #[.int .i64 (s.nu + 1), .int .i64 (s.a + n), .int .i64 (s.b + (-n)), .slice p.pa s.pn p.pc, .slice p.ha s.hn p.hc], .int .i64 0]) ∧ Below w.heap.size w w' := by
  have b0 := hr.1.1.1
  have b1 := hr.1.1.2.1
  have b2 := hr.1.1.2.2
  have en : wrap64 (-n) = -n := by simp [wrap64]; omega
  have e1 : wrap64 (s.nu + 1) = s.nu + 1 := by simp [wrap64]; omega
  have e2 : wrap64 (s.a + n) = s.a + n := by simp [wrap64]; omega
  have e3 : wrap64 (s.b + (-n)) = s.b + (-n) := by simp [wrap64]; omega
  obtain ⟨hn0, hn1, hsz, hb0⟩ := two_new w s p 26 26
  have hc := right_any s p _ (h.below hb0) hs
  rw [decide_eq_true hr] at hc
  clear h hs
  unfold svv sv0 pl0 at hn0 hn1 hsz hb0 hc
  unfold svv
  simp only at hn0 hn1 hsz hb0 hc
  go_enter Tryd.func11, Tryd.ntmps11
  go_wp2_with fail
  generalize ((w.alloc (.cells #[.int .i64 s.nu, .int .i64 s.a, .int .i64 s.b, .slice p.pa s.pn p.pc, .slice p.ha s.hn p.hc] 26)).alloc (.cells #[.int .i64 0, .int .i64 0, .int .i64 0, .slice none 0 0, .slice none 0 0] 26)) = W0 at *
  refine hc.mono ?_
  rintro e w1 ⟨rfl, hb1⟩
  have HB : Hid (Below w.heap.size w w1) := hb0.trans (hb1.mono (by omega))
  have k0 := hb1.block _ (show w.heap.size < W0.heap.size by omega)
  rw [hn0] at k0
  have k1 := hb1.block _ (show w.heap.size + 1 < W0.heap.size by omega)
  rw [hn1] at k1
  have hl1 : w.heap.size + 1 < w1.heap.size := by have := hb1.size; omega
  clear hc hb0 hb1 hn0 hn1 hsz
  obtain ⟨c0, c1, c2, c3, c4, cf⟩ := five_of k0
  obtain ⟨d0, d1, d2, d3, d4, df⟩ := five_of k1
  have HK : Hid (w1.heap[w.heap.size + 1]? = some (.cells #[.int .i64 0, .int .i64 0, .int .i64 0, .slice none 0 0, .slice none 0 0] 26 (0, 0))) := k1
  clear k0 k1
  go_wp2_with fail
  refine (rwith_any s p n (-n) p.pa s.pn p.pc p.ha s.hn p.hc w1 e1 e2 e3).mono ?_
  rintro e w2 ⟨rfl, hb2⟩
  have HB2 : Hid (Below w.heap.size w w2) := HB.out.trans (hb2.mono HB.out.size)
  have k1 := hb2.block _ hl1
  rw [HK.out] at k1
  clear HB HK c0 c1 c2 c3 c4 cf d0 d1 d2 d3 d4 df hb2
  obtain ⟨d0, d1, d2, d3, d4, df⟩ := five_of k1
  have HK : Hid (w2.heap[w.heap.size + 1]? = some (.cells #[.int .i64 0, .int .i64 0, .int .i64 0, .slice none 0 0, .slice none 0 0] 26 (0, 0))) := k1
  clear k1
  go_wp2
  exact bodyPost_ret (results_R2 Tryd.results11 _ _ (w.heap.size + 1) 26 _ _ _ _ _ (0, 0) rfl (five_all HK.out)) rfl ⟨rfl, five_below HB2.out (by omega)⟩
theorem SvAt.alike {w : World} {s s' : Sv} {p : Pl} (h : SvAt w s p) (h1 : s'.pn = s.pn) (h2 : s'.P = s.P) (h3 : s'.hn = s.hn) (h4 : s'.H = s.H) : SvAt w s' p := by
  obtain ⟨nu, a, b, pn, P, hn, H⟩ := s
  obtain ⟨nu', a', b', pn', P', hn', H'⟩ := s'
  simp only at h1 h2 h3 h4
  subst h1 h2 h3 h4
  exact ⟨h.py, h.hd, h.pcap, h.hcap, h.pnil, h.hnil⟩
theorem rmove_any (s : Sv) (p : Pl) (f n : Int) (w : World) (h : SvAt w s p) (hs : s.Small) :
    Calls Tryd.prog 11 #[.agg (svv s p), .int .i64 f, .int .i64 n] w fun e w' => ∃ p', e = .returned (.tuple #[.agg (svv (moveF s f n).1 p'), .int .i64 (moveF s f n).2]) ∧ SvAt w' (moveF s f n).1 p' ∧ Below w.heap.size w w' := by
  by_cases hr : Rgt s
  · by_cases hf : Side f
    · by_cases hn : n < 1
      · have e : moveF s f n = (sv0, 27) := by simp [moveF, hr, hf, hn]
        rw [e]
        rcases hf with rfl | rfl
        · exact (rmove_27_0 s p n w h hs hr hn).mono fun e w' ⟨h1, h2⟩ => ⟨pl0, h1, sv0_at _, h2⟩
        · exact (rmove_27_1 s p n w h hs hr hn).mono fun e w' ⟨h1, h2⟩ => ⟨pl0, h1, sv0_at _, h2⟩
      · rcases hf with rfl | rfl
        · by_cases hh : s.a < n
          · have e : moveF s 0 n = (sv0, 20) := by simp [moveF, hr, Side, hn, has, hh]
            rw [e]
            exact (rmove_20_0 s p n w h hs hr hn hh).mono fun e w' ⟨h1, h2⟩ => ⟨pl0, h1, sv0_at _, h2⟩
          · have e : moveF s 0 n = (giv s (-n) n, 0) := by simp [moveF, hr, Side, hn, has, hh]
            rw [e]
            refine (rmove_ok_0 s p n w h hs hr hn hh).mono fun e w' ⟨h1, h3⟩ => ⟨p, ?_, (h.below h3).alike (s' := giv s (-n) n) rfl rfl rfl rfl, h3⟩
            rw [h1]; rfl
        · by_cases hh : s.b < n
          · have e : moveF s 1 n = (sv0, 20) := by simp [moveF, hr, Side, hn, has, hh]
            rw [e]
            exact (rmove_20_1 s p n w h hs hr hn hh).mono fun e w' ⟨h1, h2⟩ => ⟨pl0, h1, sv0_at _, h2⟩
          · have e : moveF s 1 n = (giv s n (-n), 0) := by simp [moveF, hr, Side, hn, has, hh]
            rw [e]
            refine (rmove_ok_1 s p n w h hs hr hn hh).mono fun e w' ⟨h1, h3⟩ => ⟨p, ?_, (h.below h3).alike (s' := giv s n (-n)) rfl rfl rfl rfl, h3⟩
            rw [h1]; rfl
    · have e : moveF s f n = (sv0, 33) := by simp [moveF, hr, hf]
      rw [e]
      exact (rmove_33 s p f n w h hs hr hf).mono fun e w' ⟨h1, h2⟩ => ⟨pl0, h1, sv0_at _, h2⟩
  · have e : moveF s f n = (sv0, 1) := by simp [moveF, hr]
    rw [e]
    exact (rmove_1 s p f n w h hs hr).mono fun e w' ⟨h1, h2⟩ => ⟨pl0, h1, sv0_at _, h2⟩
theorem giv_small {s : Sv} (h : s.Small) (x y : Int) : (giv s x y).Small := ⟨h.n, h.k⟩
theorem moveF_small {s : Sv} (h : s.Small) (f n : Int) : (moveF s f n).1.Small := by
  unfold moveF
  split
  · exact sv0_small
  · split
    · exact sv0_small
    · split
      · exact sv0_small
      · split
        · exact sv0_small
        · show (if f = 0 then giv s (-n) n else giv s n (-n)).Small
          split
          · exact giv_small h _ _
          · exact giv_small h _ _
end Go.Proofs.YtbeenjlojmmhfaaDoor
