/- state.Move. -/
import Derived.Test.YtnjkgpgbipcgcaaDoorOwnShelf42
namespace Go.Proofs.YtnjkgpgbipcgcaaDoor
open Go.RowKit

theorem five_alloc {w1 : World} {b : Nat} {x0 x1 x2 x3 x4 u0 u1 u2 u3 u4 : Value} {t : TypeId} (o : Obj) (h : w1.heap[b]? = some (.cells #[x0, x1, x2, x3, x4] t (0, 0))) :
    ((((((w1.setCell ⟨b, 0, none⟩ u0).setCell ⟨b, 1, none⟩ u1).setCell ⟨b, 2, none⟩ u2).setCell ⟨b, 3, none⟩ u3).setCell ⟨b, 4, none⟩ u4).alloc o).heap[b]? = some (.cells #[u0, u1, u2, u3, u4] t (0, 0)) := by
  rw [Below.heap_alloc _ _ _ (by simpa [World.setCell] using lt_of_block h)]
  exact five_all h
theorem five_ab {B b : Nat} {w w1 : World} {u0 u1 u2 u3 u4 : Value} (o : Obj) (h : Below B w w1) (hB : B ≤ b) (hs : B ≤ w1.heap.size) :
    Below B w ((((((w1.setCell ⟨b, 0, none⟩ u0).setCell ⟨b, 1, none⟩ u1).setCell ⟨b, 2, none⟩ u2).setCell ⟨b, 3, none⟩ u3).setCell ⟨b, 4, none⟩ u4).alloc o) :=
  (five_below h hB).alloc (by simpa [World.setCell] using hs) _
theorem five_ao {k b : Nat} {w : World} {u0 u1 u2 u3 u4 : Value} (o : Obj) (h : k ≠ b) (hk : k < w.heap.size) : ((((((w.setCell ⟨b, 0, none⟩ u0).setCell ⟨b, 1, none⟩ u1).setCell ⟨b, 2, none⟩ u2).setCell ⟨b, 3, none⟩ u3).setCell ⟨b, 4, none⟩ u4).alloc o).heap[k]? = w.heap[k]? := by
  rw [Below.heap_alloc _ _ _ (by simpa [World.setCell] using hk)]
  exact five_other h
def Side (n : Int) : Prop := n = 0 ∨ n = 1
instance (n : Int) : Decidable (Side n) := inferInstanceAs (Decidable (_ ∨ _))
/-- What a side has. -/
def has (s : Sv) (side : Int) : Int := if side = 0 then s.a else s.b
/-- A state with the next number in which the sides have so much more. -/
def giv (s : Sv) (x y : Int) : Sv := { nxt s with a := s.a + x, b := s.b + y }
/-- Move, as a function. -/
def moveF (s : Sv) (f n : Int) : Sv × Int :=
  if ¬ Rgt s then (sv0, 1) else if ¬ Side f then (sv0, 33) else if n < 1 then (sv0, 27) else if has s f < n then (sv0, 20)
  else (if f = 0 then giv s (-n) n else giv s n (-n), 0)
theorem SvOw.alike {w : World} {B : Nat} {s s' : Sv} {p : Pl} {A : Nat → Option Addr × Nat} (h : SvOw B w s p A) (h1 : s'.pn = s.pn) (h2 : s'.P = s.P) (h3 : s'.hn = s.hn) (h4 : s'.H = s.H) : SvOw B w s' p A := by
  obtain ⟨nu, a, b, pn, P, hn, H⟩ := s
  obtain ⟨nu', a', b', pn', P', hn', H'⟩ := s'
  simp only at h1 h2 h3 h4
  subst h1 h2 h3 h4
  exact ⟨h.lk, h.py, h.hd, h.ks⟩
/-- Behind a block of one's own that is written: the rows stay. -/
theorem SvOw.frm {w w' : World} {B : Nat} {s : Sv} {p : Pl} {A : Nat → Option Addr × Nat} (h : SvOw B w s p A) (hk : ∀ k, k < w.heap.size → B ≤ k → w'.heap[k]? = w.heap[k]?) : SvOw B w' s p A :=
  ⟨h.lk, own_keep h.py (fun g e => hk g (h.py.lt g e).2 (h.py.lt g e).1), own_keep h.hd (fun g e => hk g (h.hd.lt g e).2 (h.hd.lt g e).1), fun i hi => own_keep (h.ks i hi) (fun g e => hk g ((h.ks i hi).lt g e).2 ((h.ks i hi).lt g e).1)⟩
theorem has_bd {s : Sv} (h : SNum s) (f : Int) : 0 ≤ has s f ∧ has s f ≤ 1125899906842624 := by
  unfold has
  split
  · exact h.2.1
  · exact h.2.2
set_option maxRecDepth 100000 in
set_option maxHeartbeats 1600000 in
theorem move_1 (s : Sv) (p : Pl) (f n : Int) (w : World) (h : SvAt w s p) (hs : s.Small) (hr : ¬ Rgt s) :
    Calls Tryd.prog 11 #[.agg (svv s p), .int .i64 f, .int .i64 n] w fun e w' => e = .returned (.tuple #[.agg #[.int .i64 0, .int .i64 0, .int .i64 0, .slice none 0 0, .slice none 0 0], errV 1]) ∧ Below w.heap.size w w' := by
  obtain ⟨hn0, hn1, hsz, hb0⟩ := two_new w s p 28 28
  have hc := next_bad s p _ (h.below hb0) hs hr
  clear h hs
  unfold svv sv0 pl0 at hn0 hn1 hsz hb0 hc
  unfold svv
  simp only at hn0 hn1 hsz hb0 hc
  go_enter Tryd.func11, Tryd.ntmps11
  go_wp2_with fail
  generalize ((w.alloc (.cells #[.int .i64 s.nu, .int .i64 s.a, .int .i64 s.b, .slice p.pa s.pn p.pc, .slice p.ha s.hn p.hc] 28)).alloc (.cells #[.int .i64 0, .int .i64 0, .int .i64 0, .slice none 0 0, .slice none 0 0] 28)) = W0 at *
  refine hc.mono ?_
  rintro e w1 ⟨rfl, hb1⟩
  have HB : Hid (Below w.heap.size w w1) := hb0.trans (hb1.mono (by omega))
  have k1 := hb1.block _ (show w.heap.size + 1 < W0.heap.size by omega)
  rw [hn1] at k1
  have hl1 : w.heap.size + 1 < w1.heap.size := by have := hb1.size; omega
  clear hc hb0 hb1 hn0 hn1 hsz
  obtain ⟨d0, d1, d2, d3, d4, df⟩ := five_of k1
  have HK : Hid (w1.heap[w.heap.size + 1]? = some (.cells #[.int .i64 0, .int .i64 0, .int .i64 0, .slice none 0 0, .slice none 0 0] 28 (0, 0))) := k1
  clear k1
  have e1 : errV 1 = .iface 72 (.int .i64 1) := rfl
  rw [e1]
  go_wp2
  exact bodyPost_ret (results_S2 Tryd.results11 _ _ (w.heap.size + 1) 28 _ _ _ _ _ (0, 0) rfl (five_alloc _ HK.out)) rfl ⟨rfl, five_ab _ HB.out (by omega) HB.out.size⟩
set_option maxRecDepth 100000 in
set_option maxHeartbeats 1600000 in
theorem move_33 (s : Sv) (p : Pl) (f n : Int) (w : World) (h : SvAt w s p) (hs : s.Small) (hr : Rgt s) (hf : ¬ Side f) :
    Calls Tryd.prog 11 #[.agg (svv s p), .int .i64 f, .int .i64 n] w fun e w' => e = .returned (.tuple #[.agg #[.int .i64 0, .int .i64 0, .int .i64 0, .slice none 0 0, .slice none 0 0], errV 33]) ∧ Below w.heap.size w w' := by
  obtain ⟨hn0, hn1, hsz, hb0⟩ := two_new w s p 28 28
  have hc := next_ok s p _ (h.below hb0) hs hr
  have hsd := isSide_any f
  rw [decide_eq_false (show ¬ (f = 0 ∨ f = 1) from hf)] at hsd
  clear h hs
  unfold svv sv0 pl0 at hn0 hn1 hsz hb0 hc
  unfold svv
  simp only at hn0 hn1 hsz hb0 hc
  go_enter Tryd.func11, Tryd.ntmps11
  go_wp2_with fail
  generalize ((w.alloc (.cells #[.int .i64 s.nu, .int .i64 s.a, .int .i64 s.b, .slice p.pa s.pn p.pc, .slice p.ha s.hn p.hc] 28)).alloc (.cells #[.int .i64 0, .int .i64 0, .int .i64 0, .slice none 0 0, .slice none 0 0] 28)) = W0 at *
  refine hc.mono ?_
  rintro e w1 ⟨⟨p', A, rfl, hO⟩, hb1⟩
  have HB : Hid (Below w.heap.size w w1) := hb0.trans (hb1.mono (by omega))
  have k1 := hb1.block _ (show w.heap.size + 1 < W0.heap.size by omega)
  rw [hn1] at k1
  have hl1 : w.heap.size + 1 < w1.heap.size := by have := hb1.size; omega
  have HO : Hid (SvOw (w.heap.size + 2) w1 (nxt s) p' A) := hO.low (by omega)
  clear hc hb0 hb1 hn0 hn1 hO hsz
  unfold nxt at HO ⊢
  dsimp only
  obtain ⟨d0, d1, d2, d3, d4, df⟩ := five_of k1
  have HK : Hid (w1.heap[w.heap.size + 1]? = some (.cells #[.int .i64 0, .int .i64 0, .int .i64 0, .slice none 0 0, .slice none 0 0] 28 (0, 0))) := k1
  clear k1
  go_wp2_with fail
  refine (hsd _).mono ?_
  rintro e w2 ⟨rfl, rfl⟩
  clear hsd
  go_wp2
  exact bodyPost_ret (results_S2 Tryd.results11 _ _ (w.heap.size + 1) 28 _ _ _ _ _ (0, 0) rfl (five_alloc _ HK.out)) rfl ⟨rfl, five_ab _ HB.out (by omega) HB.out.size⟩
set_option maxRecDepth 100000 in
set_option maxHeartbeats 1600000 in
theorem move_27 (s : Sv) (p : Pl) (f n : Int) (w : World) (h : SvAt w s p) (hs : s.Small) (hr : Rgt s) (hf : Side f) (hn : n < 1) :
    Calls Tryd.prog 11 #[.agg (svv s p), .int .i64 f, .int .i64 n] w fun e w' => e = .returned (.tuple #[.agg #[.int .i64 0, .int .i64 0, .int .i64 0, .slice none 0 0, .slice none 0 0], errV 27]) ∧ Below w.heap.size w w' := by
  obtain ⟨hn0, hn1, hsz, hb0⟩ := two_new w s p 28 28
  have hc := next_ok s p _ (h.below hb0) hs hr
  have hsd := isSide_any f
  rw [decide_eq_true (show (f = 0 ∨ f = 1) from hf)] at hsd
  clear h hs
  unfold svv sv0 pl0 at hn0 hn1 hsz hb0 hc
  unfold svv
  simp only at hn0 hn1 hsz hb0 hc
  go_enter Tryd.func11, Tryd.ntmps11
  go_wp2_with fail
  generalize ((w.alloc (.cells #[.int .i64 s.nu, .int .i64 s.a, .int .i64 s.b, .slice p.pa s.pn p.pc, .slice p.ha s.hn p.hc] 28)).alloc (.cells #[.int .i64 0, .int .i64 0, .int .i64 0, .slice none 0 0, .slice none 0 0] 28)) = W0 at *
  refine hc.mono ?_
  rintro e w1 ⟨⟨p', A, rfl, hO⟩, hb1⟩
  have HB : Hid (Below w.heap.size w w1) := hb0.trans (hb1.mono (by omega))
  have k1 := hb1.block _ (show w.heap.size + 1 < W0.heap.size by omega)
  rw [hn1] at k1
  have hl1 : w.heap.size + 1 < w1.heap.size := by have := hb1.size; omega
  have HO : Hid (SvOw (w.heap.size + 2) w1 (nxt s) p' A) := hO.low (by omega)
  clear hc hb0 hb1 hn0 hn1 hO hsz
  unfold nxt at HO ⊢
  dsimp only
  obtain ⟨d0, d1, d2, d3, d4, df⟩ := five_of k1
  have HK : Hid (w1.heap[w.heap.size + 1]? = some (.cells #[.int .i64 0, .int .i64 0, .int .i64 0, .slice none 0 0, .slice none 0 0] 28 (0, 0))) := k1
  clear k1
  go_wp2_with fail
  refine (hsd _).mono ?_
  rintro e w2 ⟨rfl, rfl⟩
  clear hsd
  go_wp2
  exact bodyPost_ret (results_S2 Tryd.results11 _ _ (w.heap.size + 1) 28 _ _ _ _ _ (0, 0) rfl (five_alloc _ HK.out)) rfl ⟨rfl, five_ab _ HB.out (by omega) HB.out.size⟩
set_option maxRecDepth 100000 in
set_option maxHeartbeats 1600000 in
theorem move_20_0 (s : Sv) (p : Pl) (n : Int) (w : World) (h : SvAt w s p) (hs : s.Small) (hr : Rgt s) (hn : ¬ n < 1) (hh : s.a < n) :
    Calls Tryd.prog 11 #[.agg (svv s p), .int .i64 0, .int .i64 n] w fun e w' => e = .returned (.tuple #[.agg #[.int .i64 0, .int .i64 0, .int .i64 0, .slice none 0 0, .slice none 0 0], errV 20]) ∧ Below w.heap.size w w' := by
  obtain ⟨hn0, hn1, hsz, hb0⟩ := two_new w s p 28 28
  have hc := next_ok s p _ (h.below hb0) hs hr
  have hsd := isSide_any 0
  rw [decide_eq_true (by decide)] at hsd
  clear h hs
  unfold svv sv0 pl0 at hn0 hn1 hsz hb0 hc
  unfold svv
  simp only at hn0 hn1 hsz hb0 hc
  go_enter Tryd.func11, Tryd.ntmps11
  go_wp2_with fail
  generalize ((w.alloc (.cells #[.int .i64 s.nu, .int .i64 s.a, .int .i64 s.b, .slice p.pa s.pn p.pc, .slice p.ha s.hn p.hc] 28)).alloc (.cells #[.int .i64 0, .int .i64 0, .int .i64 0, .slice none 0 0, .slice none 0 0] 28)) = W0 at *
  refine hc.mono ?_
  rintro e w1 ⟨⟨p', A, rfl, hO⟩, hb1⟩
  have HB : Hid (Below w.heap.size w w1) := hb0.trans (hb1.mono (by omega))
  have k1 := hb1.block _ (show w.heap.size + 1 < W0.heap.size by omega)
  rw [hn1] at k1
  have hl1 : w.heap.size + 1 < w1.heap.size := by have := hb1.size; omega
  have HO : Hid (SvOw (w.heap.size + 2) w1 (nxt s) p' A) := hO.low (by omega)
  clear hc hb0 hb1 hn0 hn1 hO hsz
  unfold nxt at HO ⊢
  dsimp only
  obtain ⟨d0, d1, d2, d3, d4, df⟩ := five_of k1
  have HK : Hid (w1.heap[w.heap.size + 1]? = some (.cells #[.int .i64 0, .int .i64 0, .int .i64 0, .slice none 0 0, .slice none 0 0] 28 (0, 0))) := k1
  clear k1
  go_wp2_with fail
  refine (hsd _).mono ?_
  rintro e w2 ⟨rfl, rfl⟩
  clear hsd
  go_wp2
  exact bodyPost_ret (results_S2 Tryd.results11 _ _ (w.heap.size + 1) 28 _ _ _ _ _ (0, 0) rfl (five_alloc _ HK.out)) rfl ⟨rfl, five_ab _ HB.out (by omega) HB.out.size⟩
set_option maxRecDepth 100000 in
set_option maxHeartbeats 1600000 in
theorem move_ok_0 (s : Sv) (p : Pl) (n : Int) (w : World) (h : SvAt w s p) (hs : s.Small) (hr : Rgt s) (hn : ¬ n < 1) (hh : ¬ s.a < n) :
    Calls Tryd.prog 11 #[.agg (svv s p), .int .i64 0, .int .i64 n] w fun e w' => (∃ p' A, e = .returned (.tuple #[.agg #[.int .i64 (s.nu + 1), .int .i64 (s.a - n), .int .i64 (s.b + n), .slice p'.pa s.pn p'.pc, .slice p'.ha s.hn p'.hc], .nilIface]) ∧ SvOw w.heap.size w' (nxt s) p' A) ∧ Below w.heap.size w w' := by
  have b1 := hr.1.1.2.1
  have b2 := hr.1.1.2.2
  have x1 : wrap64 (s.a - n) = s.a - n := by simp [wrap64]; omega
  have x2 : wrap64 (s.b + n) = s.b + n := by simp [wrap64]; omega
  obtain ⟨hn0, hn1, hsz, hb0⟩ := two_new w s p 28 28
  have hc := next_ok s p _ (h.below hb0) hs hr
  have hsd := isSide_any 0
  rw [decide_eq_true (by decide)] at hsd
  clear h hs
  unfold svv sv0 pl0 at hn0 hn1 hsz hb0 hc
  unfold svv
  simp only at hn0 hn1 hsz hb0 hc
  go_enter Tryd.func11, Tryd.ntmps11
  go_wp2_with fail
  generalize ((w.alloc (.cells #[.int .i64 s.nu, .int .i64 s.a, .int .i64 s.b, .slice p.pa s.pn p.pc, .slice p.ha s.hn p.hc] 28)).alloc (.cells #[.int .i64 0, .int .i64 0, .int .i64 0, .slice none 0 0, .slice none 0 0] 28)) = W0 at *
  refine hc.mono ?_
  rintro e w1 ⟨⟨p', A, rfl, hO⟩, hb1⟩
  have HB : Hid (Below w.heap.size w w1) := hb0.trans (hb1.mono (by omega))
  have k1 := hb1.block _ (show w.heap.size + 1 < W0.heap.size by omega)
  rw [hn1] at k1
  have hl1 : w.heap.size + 1 < w1.heap.size := by have := hb1.size; omega
  have HO : Hid (SvOw (w.heap.size + 2) w1 (nxt s) p' A) := hO.low (by omega)
  clear hc hb0 hb1 hn0 hn1 hO hsz
  unfold nxt at HO ⊢
  dsimp only
  obtain ⟨d0, d1, d2, d3, d4, df⟩ := five_of k1
  have HK : Hid (w1.heap[w.heap.size + 1]? = some (.cells #[.int .i64 0, .int .i64 0, .int .i64 0, .slice none 0 0, .slice none 0 0] 28 (0, 0))) := k1
  clear k1
  go_wp2_with fail
  refine (hsd _).mono ?_
  rintro e w2 ⟨rfl, rfl⟩
  clear hsd
  go_wp2
  exact bodyPost_ret (results_S2 Tryd.results11 _ _ (w.heap.size + 1) 28 _ _ _ _ _ (0, 0) rfl (five_alloc _ HK.out)) rfl ⟨⟨p', A, rfl, (HO.out.frm fun k h1 h2 => five_ao _ (by omega) h1).low (by omega)⟩, five_ab _ HB.out (by omega) HB.out.size⟩
set_option maxRecDepth 100000 in
set_option maxHeartbeats 1600000 in
theorem move_20_1 (s : Sv) (p : Pl) (n : Int) (w : World) (h : SvAt w s p) (hs : s.Small) (hr : Rgt s) (hn : ¬ n < 1) (hh : s.b < n) :
    Calls Tryd.prog 11 #[.agg (svv s p), .int .i64 1, .int .i64 n] w fun e w' => e = .returned (.tuple #[.agg #[.int .i64 0, .int .i64 0, .int .i64 0, .slice none 0 0, .slice none 0 0], errV 20]) ∧ Below w.heap.size w w' := by
  obtain ⟨hn0, hn1, hsz, hb0⟩ := two_new w s p 28 28
  have hc := next_ok s p _ (h.below hb0) hs hr
  have hsd := isSide_any 1
  rw [decide_eq_true (by decide)] at hsd
  clear h hs
  unfold svv sv0 pl0 at hn0 hn1 hsz hb0 hc
  unfold svv
  simp only at hn0 hn1 hsz hb0 hc
  go_enter Tryd.func11, Tryd.ntmps11
  go_wp2_with fail
  generalize ((w.alloc (.cells #[.int .i64 s.nu, .int .i64 s.a, .int .i64 s.b, .slice p.pa s.pn p.pc, .slice p.ha s.hn p.hc] 28)).alloc (.cells #[.int .i64 0, .int .i64 0, .int .i64 0, .slice none 0 0, .slice none 0 0] 28)) = W0 at *
  refine hc.mono ?_
  rintro e w1 ⟨⟨p', A, rfl, hO⟩, hb1⟩
  have HB : Hid (Below w.heap.size w w1) := hb0.trans (hb1.mono (by omega))
  have k1 := hb1.block _ (show w.heap.size + 1 < W0.heap.size by omega)
  rw [hn1] at k1
  have hl1 : w.heap.size + 1 < w1.heap.size := by have := hb1.size; omega
  have HO : Hid (SvOw (w.heap.size + 2) w1 (nxt s) p' A) := hO.low (by omega)
  clear hc hb0 hb1 hn0 hn1 hO hsz
  unfold nxt at HO ⊢
  dsimp only
  obtain ⟨d0, d1, d2, d3, d4, df⟩ := five_of k1
  have HK : Hid (w1.heap[w.heap.size + 1]? = some (.cells #[.int .i64 0, .int .i64 0, .int .i64 0, .slice none 0 0, .slice none 0 0] 28 (0, 0))) := k1
  clear k1
  go_wp2_with fail
  refine (hsd _).mono ?_
  rintro e w2 ⟨rfl, rfl⟩
  clear hsd
  go_wp2
  exact bodyPost_ret (results_S2 Tryd.results11 _ _ (w.heap.size + 1) 28 _ _ _ _ _ (0, 0) rfl (five_alloc _ HK.out)) rfl ⟨rfl, five_ab _ HB.out (by omega) HB.out.size⟩
set_option maxRecDepth 100000 in
set_option maxHeartbeats 1600000 in
theorem move_ok_1 (s : Sv) (p : Pl) (n : Int) (w : World) (h : SvAt w s p) (hs : s.Small) (hr : Rgt s) (hn : ¬ n < 1) (hh : ¬ s.b < n) :
    Calls Tryd.prog 11 #[.agg (svv s p), .int .i64 1, .int .i64 n] w fun e w' => (∃ p' A, e = .returned (.tuple #[.agg #[.int .i64 (s.nu + 1), .int .i64 (s.a + n), .int .i64 (s.b - n), .slice p'.pa s.pn p'.pc, .slice p'.ha s.hn p'.hc], .nilIface]) ∧ SvOw w.heap.size w' (nxt s) p' A) ∧ Below w.heap.size w w' := by
  have b1 := hr.1.1.2.1
  have b2 := hr.1.1.2.2
  have x1 : wrap64 (s.a + n) = s.a + n := by simp [wrap64]; omega
  have x2 : wrap64 (s.b - n) = s.b - n := by simp [wrap64]; omega
  obtain ⟨hn0, hn1, hsz, hb0⟩ := two_new w s p 28 28
  have hc := next_ok s p _ (h.below hb0) hs hr
  have hsd := isSide_any 1
  rw [decide_eq_true (by decide)] at hsd
  clear h hs
  unfold svv sv0 pl0 at hn0 hn1 hsz hb0 hc
  unfold svv
  simp only at hn0 hn1 hsz hb0 hc
  go_enter Tryd.func11, Tryd.ntmps11
  go_wp2_with fail
  generalize ((w.alloc (.cells #[.int .i64 s.nu, .int .i64 s.a, .int .i64 s.b, .slice p.pa s.pn p.pc, .slice p.ha s.hn p.hc] 28)).alloc (.cells #[.int .i64 0, .int .i64 0, .int .i64 0, .slice none 0 0, .slice none 0 0] 28)) = W0 at *
  refine hc.mono ?_
  rintro e w1 ⟨⟨p', A, rfl, hO⟩, hb1⟩
  have HB : Hid (Below w.heap.size w w1) := hb0.trans (hb1.mono (by omega))
  have k1 := hb1.block _ (show w.heap.size + 1 < W0.heap.size by omega)
  rw [hn1] at k1
  have hl1 : w.heap.size + 1 < w1.heap.size := by have := hb1.size; omega
  have HO : Hid (SvOw (w.heap.size + 2) w1 (nxt s) p' A) := hO.low (by omega)
  clear hc hb0 hb1 hn0 hn1 hO hsz
  unfold nxt at HO ⊢
  dsimp only
  obtain ⟨d0, d1, d2, d3, d4, df⟩ := five_of k1
  have HK : Hid (w1.heap[w.heap.size + 1]? = some (.cells #[.int .i64 0, .int .i64 0, .int .i64 0, .slice none 0 0, .slice none 0 0] 28 (0, 0))) := k1
  clear k1
  go_wp2_with fail
  refine (hsd _).mono ?_
  rintro e w2 ⟨rfl, rfl⟩
  clear hsd
  go_wp2
  exact bodyPost_ret (results_S2 Tryd.results11 _ _ (w.heap.size + 1) 28 _ _ _ _ _ (0, 0) rfl (five_alloc _ HK.out)) rfl ⟨⟨p', A, rfl, (HO.out.frm fun k h1 h2 => five_ao _ (by omega) h1).low (by omega)⟩, five_ab _ HB.out (by omega) HB.out.size⟩

theorem move_any (s : Sv) (p : Pl) (f n : Int) (w : World) (h : SvAt w s p) (hs : s.Small) :
    Calls Tryd.prog 11 #[.agg (svv s p), .int .i64 f, .int .i64 n] w fun e w' => ∃ p', e = .returned (.tuple #[.agg (svv (moveF s f n).1 p'), errV (moveF s f n).2]) ∧ SvAt w' (moveF s f n).1 p' ∧ Below w.heap.size w w' := by
  by_cases hr : Rgt s
  · by_cases hf : Side f
    · by_cases hn : n < 1
      · have e : moveF s f n = (sv0, 27) := by simp [moveF, hr, hf, hn]
        rw [e]
        exact (move_27 s p f n w h hs hr hf hn).mono fun e w' ⟨h1, h2⟩ => ⟨pl0, h1, sv0_at _, h2⟩
      · rcases hf with rfl | rfl
        · by_cases hh : s.a < n
          · have e : moveF s 0 n = (sv0, 20) := by simp [moveF, hr, Side, hn, has, hh]
            rw [e]
            exact (move_20_0 s p n w h hs hr hn hh).mono fun e w' ⟨h1, h2⟩ => ⟨pl0, h1, sv0_at _, h2⟩
          · have e : moveF s 0 n = (giv s (-n) n, 0) := by simp [moveF, hr, Side, hn, has, hh]
            rw [e]
            refine (move_ok_0 s p n w h hs hr hn hh).mono fun e w' ⟨⟨p', A, h1, h2⟩, h3⟩ => ⟨p', ?_, (h2.alike (s' := giv s (-n) n) rfl rfl rfl rfl).at, h3⟩
            rw [h1]; rfl
        · by_cases hh : s.b < n
          · have e : moveF s 1 n = (sv0, 20) := by simp [moveF, hr, Side, hn, has, hh]
            rw [e]
            exact (move_20_1 s p n w h hs hr hn hh).mono fun e w' ⟨h1, h2⟩ => ⟨pl0, h1, sv0_at _, h2⟩
          · have e : moveF s 1 n = (giv s n (-n), 0) := by simp [moveF, hr, Side, hn, has, hh]
            rw [e]
            refine (move_ok_1 s p n w h hs hr hn hh).mono fun e w' ⟨⟨p', A, h1, h2⟩, h3⟩ => ⟨p', ?_, (h2.alike (s' := giv s n (-n)) rfl rfl rfl rfl).at, h3⟩
            rw [h1]; rfl
    · have e : moveF s f n = (sv0, 33) := by simp [moveF, hr, hf]
      rw [e]
      exact (move_33 s p f n w h hs hr hf).mono fun e w' ⟨h1, h2⟩ => ⟨pl0, h1, sv0_at _, h2⟩
  · have e : moveF s f n = (sv0, 1) := by simp [moveF, hr]
    rw [e]
    exact (move_1 s p f n w h hs hr).mono fun e w' ⟨h1, h2⟩ => ⟨pl0, h1, sv0_at _, h2⟩
end Go.Proofs.YtnjkgpgbipcgcaaDoor
