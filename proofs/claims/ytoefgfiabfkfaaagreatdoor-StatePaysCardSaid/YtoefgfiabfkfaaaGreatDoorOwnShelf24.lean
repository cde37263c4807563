/- setAside. -/
import Derived.Test.YtoefgfiabfkfaaaGreatDoorOwnShelf20
namespace Go.Proofs.YtoefgfiabfkfaaaGreatDoor
open Go.RowKit

set_option maxRecDepth 100000 in
set_option maxHeartbeats 1600000 in
theorem aside_1 (s : Sv) (p : Pl) (f n : Int) (can th : Bool) (w : World) (h : SvAt w s p) (hs : s.Small) (hr : ¬ Rgt s) :
  Calls Tryz.prog 18 #[.agg (svv s p), .int .i64 f, .int .i64 n, .bool can, .bool th] w fun e w' => e = .returned (.tuple #[.agg #[.int .i64 0, .int .i64 0, .int .i64 0, .slice none 0 0, .slice none 0 0], errV 1]) ∧ Below w.heap.size w w' := by
 obtain ⟨hn0, hn1, hsz, hb0⟩ := two_new w s p 37 37
 have hc := next_bad s p _ (h.below hb0) hs hr
 clear h hs
 unfold svv sv0 pl0 at hn0 hn1 hsz hb0 hc
 unfold svv
 simp only at hn0 hn1 hsz hb0 hc
 go_enter Tryz.func18, Tryz.ntmps18
 go_wp2_with fail
 generalize ((w.alloc (.cells #[.int .i64 s.nu, .int .i64 s.a, .int .i64 s.b, .slice p.pa s.pn p.pc, .slice p.ha s.hn p.hc] 37)).alloc (.cells #[.int .i64 0, .int .i64 0, .int .i64 0, .slice none 0 0, .slice none 0 0] 37)) = W0 at *
 refine hc.mono ?_
 rintro e w1 ⟨rfl, hb1⟩
 have HB : Hid (Below w.heap.size w w1) := hb0.trans (hb1.mono (by omega))
 have k1 := hb1.block _ (show w.heap.size + 1 < W0.heap.size by omega)
 rw [hn1] at k1
 have hl1 : w.heap.size + 1 < w1.heap.size := by have := hb1.size; omega
 clear hc hb0 hb1 hn0 hn1 hsz
 obtain ⟨d0, d1, d2, d3, d4, df⟩ := five_of k1
 have HK : Hid (w1.heap[w.heap.size + 1]? = some (.cells #[.int .i64 0, .int .i64 0, .int .i64 0, .slice none 0 0, .slice none 0 0] 37 (0, 0))) := k1
 clear k1
 have e1 : errV 1 = .iface 72 (.int .i64 1) := rfl
 rw [e1]
 go_wp2
 exact bodyPost_ret (results_S2 Tryz.results18 _ _ (w.heap.size + 1) 37 _ _ _ _ _ (0, 0) rfl (five_alloc _ HK.out)) rfl ⟨rfl, five_ab _ HB.out (by omega) HB.out.size⟩
set_option maxRecDepth 100000 in
set_option maxHeartbeats 1600000 in
theorem aside_33 (s : Sv) (p : Pl) (f n : Int) (can th : Bool) (w : World) (h : SvAt w s p) (hs : s.Small) (hr : Rgt s) (hf : ¬ Side f) :
  Calls Tryz.prog 18 #[.agg (svv s p), .int .i64 f, .int .i64 n, .bool can, .bool th] w fun e w' => e = .returned (.tuple #[.agg #[.int .i64 0, .int .i64 0, .int .i64 0, .slice none 0 0, .slice none 0 0], errV 33]) ∧ Below w.heap.size w w' := by
 obtain ⟨hn0, hn1, hsz, hb0⟩ := two_new w s p 37 37
 have hc := next_ok s p _ (h.below hb0) hs hr
 have hsd := isSide_any f
 rw [decide_eq_false (show ¬ (f = 0 ∨ f = 1) from hf)] at hsd
 clear h hs
 unfold svv sv0 pl0 at hn0 hn1 hsz hb0 hc
 unfold svv
 simp only at hn0 hn1 hsz hb0 hc
 go_enter Tryz.func18, Tryz.ntmps18
 go_wp2_with fail
 generalize ((w.alloc (.cells #[.int .i64 s.nu, .int .i64 s.a, .int .i64 s.b, .slice p.pa s.pn p.pc, .slice p.ha s.hn p.hc] 37)).alloc (.cells #[.int .i64 0, .int .i64 0, .int .i64 0, .slice none 0 0, .slice none 0 0] 37)) = W0 at *
 refine hc.mono ?_
 rintro e w1 ⟨⟨p', A, rfl, hO⟩, hb1⟩
 have HB : Hid (Below w.heap.size w w1) := hb0.trans (hb1.mono (by omega))
 have k1 := hb1.block _ (show w.heap.size + 1 < W0.heap.size by omega)
 rw [hn1] at k1
 have hl1 : w.heap.size + 1 < w1.heap.size := by have := hb1.size; omega
 have HO : Hid (SvOw (w.heap.size + 2) w1 (nxt s) p' A) := hO.low (by omega)
 clear hO
 clear hc hb0 hb1 hn0 hn1 hsz
 unfold nxt
 dsimp only
 obtain ⟨d0, d1, d2, d3, d4, df⟩ := five_of k1
 have HK : Hid (w1.heap[w.heap.size + 1]? = some (.cells #[.int .i64 0, .int .i64 0, .int .i64 0, .slice none 0 0, .slice none 0 0] 37 (0, 0))) := k1
 clear k1
 go_wp2_with fail
 refine (hsd _).mono ?_
 rintro e w2 ⟨rfl, rfl⟩
 clear hsd
 go_wp2
 exact bodyPost_ret (results_S2 Tryz.results18 _ _ (w.heap.size + 1) 37 _ _ _ _ _ (0, 0) rfl (five_alloc _ HK.out)) rfl ⟨rfl, five_ab _ HB.out (by omega) HB.out.size⟩
set_option maxRecDepth 100000 in
set_option maxHeartbeats 1600000 in
theorem aside_27 (s : Sv) (p : Pl) (f n : Int) (can th : Bool) (w : World) (h : SvAt w s p) (hs : s.Small) (hr : Rgt s) (hf : Side f) (hn : n < 10) :
  Calls Tryz.prog 18 #[.agg (svv s p), .int .i64 f, .int .i64 n, .bool can, .bool th] w fun e w' => e = .returned (.tuple #[.agg #[.int .i64 0, .int .i64 0, .int .i64 0, .slice none 0 0, .slice none 0 0], errV 27]) ∧ Below w.heap.size w w' := by
 obtain ⟨hn0, hn1, hsz, hb0⟩ := two_new w s p 37 37
 have hc := next_ok s p _ (h.below hb0) hs hr
 have hsd := isSide_any f
 rw [decide_eq_true (show f = 0 ∨ f = 1 from hf)] at hsd
 clear h hs
 unfold svv sv0 pl0 at hn0 hn1 hsz hb0 hc
 unfold svv
 simp only at hn0 hn1 hsz hb0 hc
 go_enter Tryz.func18, Tryz.ntmps18
 go_wp2_with fail
 generalize ((w.alloc (.cells #[.int .i64 s.nu, .int .i64 s.a, .int .i64 s.b, .slice p.pa s.pn p.pc, .slice p.ha s.hn p.hc] 37)).alloc (.cells #[.int .i64 0, .int .i64 0, .int .i64 0, .slice none 0 0, .slice none 0 0] 37)) = W0 at *
 refine hc.mono ?_
 rintro e w1 ⟨⟨p', A, rfl, hO⟩, hb1⟩
 have HB : Hid (Below w.heap.size w w1) := hb0.trans (hb1.mono (by omega))
 have k1 := hb1.block _ (show w.heap.size + 1 < W0.heap.size by omega)
 rw [hn1] at k1
 have hl1 : w.heap.size + 1 < w1.heap.size := by have := hb1.size; omega
 have HO : Hid (SvOw (w.heap.size + 2) w1 (nxt s) p' A) := hO.low (by omega)
 clear hO
 clear hc hb0 hb1 hn0 hn1 hsz
 unfold nxt
 dsimp only
 obtain ⟨d0, d1, d2, d3, d4, df⟩ := five_of k1
 have HK : Hid (w1.heap[w.heap.size + 1]? = some (.cells #[.int .i64 0, .int .i64 0, .int .i64 0, .slice none 0 0, .slice none 0 0] 37 (0, 0))) := k1
 clear k1
 go_wp2_with fail
 refine (hsd _).mono ?_
 rintro e w2 ⟨rfl, rfl⟩
 clear hsd
 go_wp2
 exact bodyPost_ret (results_S2 Tryz.results18 _ _ (w.heap.size + 1) 37 _ _ _ _ _ (0, 0) rfl (five_alloc _ HK.out)) rfl ⟨rfl, five_ab _ HB.out (by omega) HB.out.size⟩
set_option maxRecDepth 100000 in
set_option maxHeartbeats 1600000 in
theorem aside_n1 (s : Sv) (p : Pl) (f n : Int) (th : Bool) (w : World) (h : SvAt w s p) (hs : s.Small) (hr : Rgt s) (hf : Side f) (hn : ¬ n < 10) :
  Calls Tryz.prog 18 #[.agg (svv s p), .int .i64 f, .int .i64 n, .bool false, .bool th] w fun e w' => e = .returned (.tuple #[.agg #[.int .i64 0, .int .i64 0, .int .i64 0, .slice none 0 0, .slice none 0 0], errV 1]) ∧ Below w.heap.size w w' := by
 obtain ⟨hn0, hn1, hsz, hb0⟩ := two_new w s p 37 37
 have hc := next_ok s p _ (h.below hb0) hs hr
 have hsd := isSide_any f
 rw [decide_eq_true (show f = 0 ∨ f = 1 from hf)] at hsd
 clear h hs
 unfold svv sv0 pl0 at hn0 hn1 hsz hb0 hc
 unfold svv
 simp only at hn0 hn1 hsz hb0 hc
 go_enter Tryz.func18, Tryz.ntmps18
 go_wp2_with fail
 generalize ((w.alloc (.cells #[.int .i64 s.nu, .int .i64 s.a, .int .i64 s.b, .slice p.pa s.pn p.pc, .slice p.ha s.hn p.hc] 37)).alloc (.cells #[.int .i64 0, .int .i64 0, .int .i64 0, .slice none 0 0, .slice none 0 0] 37)) = W0 at *
 refine hc.mono ?_
 rintro e w1 ⟨⟨p', A, rfl, hO⟩, hb1⟩
 have HB : Hid (Below w.heap.size w w1) := hb0.trans (hb1.mono (by omega))
 have k1 := hb1.block _ (show w.heap.size + 1 < W0.heap.size by omega)
 rw [hn1] at k1
 have hl1 : w.heap.size + 1 < w1.heap.size := by have := hb1.size; omega
 have HO : Hid (SvOw (w.heap.size + 2) w1 (nxt s) p' A) := hO.low (by omega)
 clear hO
 clear hc hb0 hb1 hn0 hn1 hsz
 unfold nxt
 dsimp only
 obtain ⟨d0, d1, d2, d3, d4, df⟩ := five_of k1
 have HK : Hid (w1.heap[w.heap.size + 1]? = some (.cells #[.int .i64 0, .int .i64 0, .int .i64 0, .slice none 0 0, .slice none 0 0] 37 (0, 0))) := k1
 clear k1
 go_wp2_with fail
 refine (hsd _).mono ?_
 rintro e w2 ⟨rfl, rfl⟩
 clear hsd
 go_wp2
 exact bodyPost_ret (results_S2 Tryz.results18 _ _ (w.heap.size + 1) 37 _ _ _ _ _ (0, 0) rfl (five_alloc _ HK.out)) rfl ⟨rfl, five_ab _ HB.out (by omega) HB.out.size⟩
set_option maxRecDepth 100000 in
set_option maxHeartbeats 1600000 in
theorem aside_9 (s : Sv) (p : Pl) (f n : Int) (w : World) (h : SvAt w s p) (hs : s.Small) (hr : Rgt s) (hf : Side f) (hn : ¬ n < 10) :
  Calls Tryz.prog 18 #[.agg (svv s p), .int .i64 f, .int .i64 n, .bool true, .bool true] w fun e w' => e = .returned (.tuple #[.agg #[.int .i64 0, .int .i64 0, .int .i64 0, .slice none 0 0, .slice none 0 0], errV 9]) ∧ Below w.heap.size w w' := by
 obtain ⟨hn0, hn1, hsz, hb0⟩ := two_new w s p 37 37
 have hc := next_ok s p _ (h.below hb0) hs hr
 have hsd := isSide_any f
 rw [decide_eq_true (show f = 0 ∨ f = 1 from hf)] at hsd
 clear h hs
 unfold svv sv0 pl0 at hn0 hn1 hsz hb0 hc
 unfold svv
 simp only at hn0 hn1 hsz hb0 hc
 go_enter Tryz.func18, Tryz.ntmps18
 go_wp2_with fail
 generalize ((w.alloc (.cells #[.int .i64 s.nu, .int .i64 s.a, .int .i64 s.b, .slice p.pa s.pn p.pc, .slice p.ha s.hn p.hc] 37)).alloc (.cells #[.int .i64 0, .int .i64 0, .int .i64 0, .slice none 0 0, .slice none 0 0] 37)) = W0 at *
 refine hc.mono ?_
 rintro e w1 ⟨⟨p', A, rfl, hO⟩, hb1⟩
 have HB : Hid (Below w.heap.size w w1) := hb0.trans (hb1.mono (by omega))
 have k1 := hb1.block _ (show w.heap.size + 1 < W0.heap.size by omega)
 rw [hn1] at k1
 have hl1 : w.heap.size + 1 < w1.heap.size := by have := hb1.size; omega
 have HO : Hid (SvOw (w.heap.size + 2) w1 (nxt s) p' A) := hO.low (by omega)
 clear hO
 clear hc hb0 hb1 hn0 hn1 hsz
 unfold nxt
 dsimp only
 obtain ⟨d0, d1, d2, d3, d4, df⟩ := five_of k1
 have HK : Hid (w1.heap[w.heap.size + 1]? = some (.cells #[.int .i64 0, .int .i64 0, .int .i64 0, .slice none 0 0, .slice none 0 0] 37 (0, 0))) := k1
 clear k1
 go_wp2_with fail
 refine (hsd _).mono ?_
 rintro e w2 ⟨rfl, rfl⟩
 clear hsd
 go_wp2
 exact bodyPost_ret (results_S2 Tryz.results18 _ _ (w.heap.size + 1) 37 _ _ _ _ _ (0, 0) rfl (five_alloc _ HK.out)) rfl ⟨rfl, five_ab _ HB.out (by omega) HB.out.size⟩
set_option maxRecDepth 100000 in
set_option maxHeartbeats 1600000 in
theorem aside_30 (s : Sv) (p : Pl) (f n : Int) (w : World) (h : SvAt w s p) (hs : s.Small) (hr : Rgt s) (hf : Side f) (hn : ¬ n < 10) (h8 : 8 ≤ s.pn + s.hn) :
  Calls Tryz.prog 18 #[.agg (svv s p), .int .i64 f, .int .i64 n, .bool true, .bool false] w fun e w' => e = .returned (.tuple #[.agg #[.int .i64 0, .int .i64 0, .int .i64 0, .slice none 0 0, .slice none 0 0], errV 30]) ∧ Below w.heap.size w w' := by
 obtain ⟨hn0, hn1, hsz, hb0⟩ := two_new w s p 37 37
 have hc := next_ok s p _ (h.below hb0) hs hr
 have hsd := isSide_any f
 rw [decide_eq_true (show f = 0 ∨ f = 1 from hf)] at hsd
 clear h hs
 unfold svv sv0 pl0 at hn0 hn1 hsz hb0 hc
 unfold svv
 simp only at hn0 hn1 hsz hb0 hc
 go_enter Tryz.func18, Tryz.ntmps18
 go_wp2_with fail
 generalize ((w.alloc (.cells #[.int .i64 s.nu, .int .i64 s.a, .int .i64 s.b, .slice p.pa s.pn p.pc, .slice p.ha s.hn p.hc] 37)).alloc (.cells #[.int .i64 0, .int .i64 0, .int .i64 0, .slice none 0 0, .slice none 0 0] 37)) = W0 at *
 refine hc.mono ?_
 rintro e w1 ⟨⟨p', A, rfl, hO⟩, hb1⟩
 have HB : Hid (Below w.heap.size w w1) := hb0.trans (hb1.mono (by omega))
 have k1 := hb1.block _ (show w.heap.size + 1 < W0.heap.size by omega)
 rw [hn1] at k1
 have hl1 : w.heap.size + 1 < w1.heap.size := by have := hb1.size; omega
 have HO : Hid (SvOw (w.heap.size + 2) w1 (nxt s) p' A) := hO.low (by omega)
 clear hO
 clear hc hb0 hb1 hn0 hn1 hsz
 unfold nxt
 dsimp only
 obtain ⟨d0, d1, d2, d3, d4, df⟩ := five_of k1
 have HK : Hid (w1.heap[w.heap.size + 1]? = some (.cells #[.int .i64 0, .int .i64 0, .int .i64 0, .slice none 0 0, .slice none 0 0] 37 (0, 0))) := k1
 clear k1
 go_wp2_with fail
 refine (hsd _).mono ?_
 rintro e w2 ⟨rfl, rfl⟩
 clear hsd
 have hbA : Below w1.heap.size w1 (w1.alloc (.cells #[.int .i64 (s.nu + 1), .int .i64 s.a, .int .i64 s.b, .slice p'.pa s.pn p'.pc, .slice p'.ha s.hn p'.hc] 37)) := (Below.refl _ w1).alloc (Nat.le_refl _) _
 have hnA := heap_alloc_new w1 (.cells #[.int .i64 (s.nu + 1), .int .i64 s.a, .int .i64 s.b, .slice p'.pa s.pn p'.pc, .slice p'.ha s.hn p'.hc] 37)
 have hka := hbA.block _ hl1
 rw [HK.out] at hka
 have htg := slots_any (nxt s) p' (w1.alloc (.cells #[.int .i64 (s.nu + 1), .int .i64 s.a, .int .i64 s.b, .slice p'.pa s.pn p'.pc, .slice p'.ha s.hn p'.hc] 37)) (by have := hr.1.2.1.1; show s.pn + s.hn ≤ 1000000; omega)
 unfold svv nxt at htg
 dsimp only at htg
 go_wp2_with fail
 generalize w1.alloc (.cells #[.int .i64 (s.nu + 1), .int .i64 s.a, .int .i64 s.b, .slice p'.pa s.pn p'.pc, .slice p'.ha s.hn p'.hc] 37) = WA at *
 refine htg.mono ?_
 rintro e w3 ⟨rfl, hb3⟩
 have HO3 : Hid (SvOw (w.heap.size + 2) w1 (nxt s) p' A) := HO.out
 have HF : Hid (∀ k, k < w1.heap.size → w3.heap[k]? = w1.heap[k]?) := fun k hk => (hb3.block k (by have := hbA.size; omega)).trans (hbA.block k hk)
 have HB3 : Hid (Below w.heap.size w w3) := (HB.out.trans (hbA.mono HB.out.size)).trans (hb3.mono (by have := HB.out.size; have := hbA.size; omega))
 have k3 := hb3.block _ (lt_of_block hnA)
 rw [hnA] at k3
 have r3 := hb3.block _ (lt_of_block hka)
 rw [hka] at r3
 clear d0 d1 d2 d3 d4 df HO HB HK hbA hnA hka htg hb3
 obtain ⟨c0, c1, c2, c3, c4, cf⟩ := five_of k3
 obtain ⟨d0, d1, d2, d3, d4, df⟩ := five_of r3
 have HK : Hid (w3.heap[w.heap.size + 1]? = some (.cells #[.int .i64 0, .int .i64 0, .int .i64 0, .slice none 0 0, .slice none 0 0] 37 (0, 0)) ∧ w3.heap[w1.heap.size]? = some (.cells #[.int .i64 (s.nu + 1), .int .i64 s.a, .int .i64 s.b, .slice p'.pa s.pn p'.pc, .slice p'.ha s.hn p'.hc] 37 (0, 0))) := ⟨r3, k3⟩
 clear r3 k3
 have h8' : (8 : Int) ≤ ((s.pn + s.hn : Nat) : Int) := by omega
 clear HO3 HF
 generalize ((s.pn + s.hn : Nat) : Int) = tt at *
 go_wp2
 exact bodyPost_ret (results_S2 Tryz.results18 _ _ (w.heap.size + 1) 37 _ _ _ _ _ (0, 0) rfl (five_all HK.out.1)) rfl ⟨rfl, five_below HB3.out (by omega)⟩
set_option maxRecDepth 100000 in
set_option maxHeartbeats 1600000 in
theorem aside_20_0 (s : Sv) (p : Pl) (n : Int) (w : World) (h : SvAt w s p) (hs : s.Small) (hr : Rgt s) (hn : ¬ n < 10) (h8 : ¬ 8 ≤ s.pn + s.hn) (hh : s.a < n) :
  Calls Tryz.prog 18 #[.agg (svv s p), .int .i64 0, .int .i64 n, .bool true, .bool false] w fun e w' => e = .returned (.tuple #[.agg #[.int .i64 0, .int .i64 0, .int .i64 0, .slice none 0 0, .slice none 0 0], errV 20]) ∧ Below w.heap.size w w' := by
 obtain ⟨hn0, hn1, hsz, hb0⟩ := two_new w s p 37 37
 have hc := next_ok s p _ (h.below hb0) hs hr
 have hsd := isSide_any 0
 rw [decide_eq_true (by decide)] at hsd
 clear h hs
 unfold svv sv0 pl0 at hn0 hn1 hsz hb0 hc
 unfold svv
 simp only at hn0 hn1 hsz hb0 hc
 go_enter Tryz.func18, Tryz.ntmps18
 go_wp2_with fail
 generalize ((w.alloc (.cells #[.int .i64 s.nu, .int .i64 s.a, .int .i64 s.b, .slice p.pa s.pn p.pc, .slice p.ha s.hn p.hc] 37)).alloc (.cells #[.int .i64 0, .int .i64 0, .int .i64 0, .slice none 0 0, .slice none 0 0] 37)) = W0 at *
 refine hc.mono ?_
 rintro e w1 ⟨⟨p', A, rfl, hO⟩, hb1⟩
 have HB : Hid (Below w.heap.size w w1) := hb0.trans (hb1.mono (by omega))
 have k1 := hb1.block _ (show w.heap.size + 1 < W0.heap.size by omega)
 rw [hn1] at k1
 have hl1 : w.heap.size + 1 < w1.heap.size := by have := hb1.size; omega
 have HO : Hid (SvOw (w.heap.size + 2) w1 (nxt s) p' A) := hO.low (by omega)
 clear hO
 clear hc hb0 hb1 hn0 hn1 hsz
 unfold nxt
 dsimp only
 obtain ⟨d0, d1, d2, d3, d4, df⟩ := five_of k1
 have HK : Hid (w1.heap[w.heap.size + 1]? = some (.cells #[.int .i64 0, .int .i64 0, .int .i64 0, .slice none 0 0, .slice none 0 0] 37 (0, 0))) := k1
 clear k1
 go_wp2_with fail
 refine (hsd _).mono ?_
 rintro e w2 ⟨rfl, rfl⟩
 clear hsd
 have hbA : Below w1.heap.size w1 (w1.alloc (.cells #[.int .i64 (s.nu + 1), .int .i64 s.a, .int .i64 s.b, .slice p'.pa s.pn p'.pc, .slice p'.ha s.hn p'.hc] 37)) := (Below.refl _ w1).alloc (Nat.le_refl _) _
 have hnA := heap_alloc_new w1 (.cells #[.int .i64 (s.nu + 1), .int .i64 s.a, .int .i64 s.b, .slice p'.pa s.pn p'.pc, .slice p'.ha s.hn p'.hc] 37)
 have hka := hbA.block _ hl1
 rw [HK.out] at hka
 have htg := slots_any (nxt s) p' (w1.alloc (.cells #[.int .i64 (s.nu + 1), .int .i64 s.a, .int .i64 s.b, .slice p'.pa s.pn p'.pc, .slice p'.ha s.hn p'.hc] 37)) (by have := hr.1.2.1.1; show s.pn + s.hn ≤ 1000000; omega)
 unfold svv nxt at htg
 dsimp only at htg
 go_wp2_with fail
 generalize w1.alloc (.cells #[.int .i64 (s.nu + 1), .int .i64 s.a, .int .i64 s.b, .slice p'.pa s.pn p'.pc, .slice p'.ha s.hn p'.hc] 37) = WA at *
 refine htg.mono ?_
 rintro e w3 ⟨rfl, hb3⟩
 have HO3 : Hid (SvOw (w.heap.size + 2) w1 (nxt s) p' A) := HO.out
 have HF : Hid (∀ k, k < w1.heap.size → w3.heap[k]? = w1.heap[k]?) := fun k hk => (hb3.block k (by have := hbA.size; omega)).trans (hbA.block k hk)
 have HB3 : Hid (Below w.heap.size w w3) := (HB.out.trans (hbA.mono HB.out.size)).trans (hb3.mono (by have := HB.out.size; have := hbA.size; omega))
 have k3 := hb3.block _ (lt_of_block hnA)
 rw [hnA] at k3
 have r3 := hb3.block _ (lt_of_block hka)
 rw [hka] at r3
 clear d0 d1 d2 d3 d4 df HO HB HK hbA hnA hka htg hb3
 obtain ⟨c0, c1, c2, c3, c4, cf⟩ := five_of k3
 obtain ⟨d0, d1, d2, d3, d4, df⟩ := five_of r3
 have HK : Hid (w3.heap[w.heap.size + 1]? = some (.cells #[.int .i64 0, .int .i64 0, .int .i64 0, .slice none 0 0, .slice none 0 0] 37 (0, 0)) ∧ w3.heap[w1.heap.size]? = some (.cells #[.int .i64 (s.nu + 1), .int .i64 s.a, .int .i64 s.b, .slice p'.pa s.pn p'.pc, .slice p'.ha s.hn p'.hc] 37 (0, 0))) := ⟨r3, k3⟩
 clear r3 k3
 have h8' : ¬ (8 : Int) ≤ ((s.pn + s.hn : Nat) : Int) := by omega
 clear HO3 HF
 generalize ((s.pn + s.hn : Nat) : Int) = tt at *
 go_wp2
 exact bodyPost_ret (results_S2 Tryz.results18 _ _ (w.heap.size + 1) 37 _ _ _ _ _ (0, 0) rfl (five_all HK.out.1)) rfl ⟨rfl, five_below HB3.out (by omega)⟩
set_option maxRecDepth 100000 in
set_option maxHeartbeats 1600000 in
theorem aside_ok_0 (s : Sv) (p : Pl) (n : Int) (w : World) (h : SvAt w s p) (hs : s.Small) (hr : Rgt s) (hn : ¬ n < 10) (h8 : ¬ 8 ≤ s.pn + s.hn) (hh : ¬ s.a < n) :
  Calls Tryz.prog 18 #[.agg (svv s p), .int .i64 0, .int .i64 n, .bool true, .bool false] w fun e w' => (∃ p' A, e = .returned (.tuple #[.agg #[.int .i64 (s.nu + 1), .int .i64 (s.a - n), .int .i64 s.b, .slice p'.pa s.pn p'.pc, .slice p'.ha s.hn p'.hc], .nilIface]) ∧ SvOw w.heap.size w' (nxt s) p' A) ∧ Below w.heap.size w w' := by
 have b1 := hr.1.1.2.1
 have b2 := hr.1.1.2.2
 have ea : wrap64 (s.a - n) = s.a - n := by simp [wrap64]; omega
 obtain ⟨hn0, hn1, hsz, hb0⟩ := two_new w s p 37 37
 have hc := next_ok s p _ (h.below hb0) hs hr
 have hsd := isSide_any 0
 rw [decide_eq_true (by decide)] at hsd
 clear h hs
 unfold svv sv0 pl0 at hn0 hn1 hsz hb0 hc
 unfold svv
 simp only at hn0 hn1 hsz hb0 hc
 go_enter Tryz.func18, Tryz.ntmps18
 go_wp2_with fail
 generalize ((w.alloc (.cells #[.int .i64 s.nu, .int .i64 s.a, .int .i64 s.b, .slice p.pa s.pn p.pc, .slice p.ha s.hn p.hc] 37)).alloc (.cells #[.int .i64 0, .int .i64 0, .int .i64 0, .slice none 0 0, .slice none 0 0] 37)) = W0 at *
 refine hc.mono ?_
 rintro e w1 ⟨⟨p', A, rfl, hO⟩, hb1⟩
 have HB : Hid (Below w.heap.size w w1) := hb0.trans (hb1.mono (by omega))
 have k1 := hb1.block _ (show w.heap.size + 1 < W0.heap.size by omega)
 rw [hn1] at k1
 have hl1 : w.heap.size + 1 < w1.heap.size := by have := hb1.size; omega
 have HO : Hid (SvOw (w.heap.size + 2) w1 (nxt s) p' A) := hO.low (by omega)
 clear hO
 clear hc hb0 hb1 hn0 hn1 hsz
 unfold nxt
 dsimp only
 obtain ⟨d0, d1, d2, d3, d4, df⟩ := five_of k1
 have HK : Hid (w1.heap[w.heap.size + 1]? = some (.cells #[.int .i64 0, .int .i64 0, .int .i64 0, .slice none 0 0, .slice none 0 0] 37 (0, 0))) := k1
 clear k1
 go_wp2_with fail
 refine (hsd _).mono ?_
 rintro e w2 ⟨rfl, rfl⟩
 clear hsd
 have hbA : Below w1.heap.size w1 (w1.alloc (.cells #[.int .i64 (s.nu + 1), .int .i64 s.a, .int .i64 s.b, .slice p'.pa s.pn p'.pc, .slice p'.ha s.hn p'.hc] 37)) := (Below.refl _ w1).alloc (Nat.le_refl _) _
 have hnA := heap_alloc_new w1 (.cells #[.int .i64 (s.nu + 1), .int .i64 s.a, .int .i64 s.b, .slice p'.pa s.pn p'.pc, .slice p'.ha s.hn p'.hc] 37)
 have hka := hbA.block _ hl1
 rw [HK.out] at hka
 have htg := slots_any (nxt s) p' (w1.alloc (.cells #[.int .i64 (s.nu + 1), .int .i64 s.a, .int .i64 s.b, .slice p'.pa s.pn p'.pc, .slice p'.ha s.hn p'.hc] 37)) (by have := hr.1.2.1.1; show s.pn + s.hn ≤ 1000000; omega)
 unfold svv nxt at htg
 dsimp only at htg
 go_wp2_with fail
 generalize w1.alloc (.cells #[.int .i64 (s.nu + 1), .int .i64 s.a, .int .i64 s.b, .slice p'.pa s.pn p'.pc, .slice p'.ha s.hn p'.hc] 37) = WA at *
 refine htg.mono ?_
 rintro e w3 ⟨rfl, hb3⟩
 have HO3 : Hid (SvOw (w.heap.size + 2) w1 (nxt s) p' A) := HO.out
 have HF : Hid (∀ k, k < w1.heap.size → w3.heap[k]? = w1.heap[k]?) := fun k hk => (hb3.block k (by have := hbA.size; omega)).trans (hbA.block k hk)
 have HB3 : Hid (Below w.heap.size w w3) := (HB.out.trans (hbA.mono HB.out.size)).trans (hb3.mono (by have := HB.out.size; have := hbA.size; omega))
 have k3 := hb3.block _ (lt_of_block hnA)
 rw [hnA] at k3
 have r3 := hb3.block _ (lt_of_block hka)
 rw [hka] at r3
 clear d0 d1 d2 d3 d4 df HO HB HK hbA hnA hka htg hb3
 obtain ⟨c0, c1, c2, c3, c4, cf⟩ := five_of k3
 obtain ⟨d0, d1, d2, d3, d4, df⟩ := five_of r3
 have HK : Hid (w3.heap[w.heap.size + 1]? = some (.cells #[.int .i64 0, .int .i64 0, .int .i64 0, .slice none 0 0, .slice none 0 0] 37 (0, 0)) ∧ w3.heap[w1.heap.size]? = some (.cells #[.int .i64 (s.nu + 1), .int .i64 s.a, .int .i64 s.b, .slice p'.pa s.pn p'.pc, .slice p'.ha s.hn p'.hc] 37 (0, 0))) := ⟨r3, k3⟩
 clear r3 k3
 have h8' : ¬ (8 : Int) ≤ ((s.pn + s.hn : Nat) : Int) := by omega
 generalize ((s.pn + s.hn : Nat) : Int) = tt at *
 have hne : w.heap.size + 1 ≠ w1.heap.size := by omega
 have HN : Hid (w.heap.size + 1 ≠ w1.heap.size ∧ w.heap.size + 2 ≤ w1.heap.size) := ⟨hne, hl1⟩
 clear hne
 go_wp2
 refine bodyPost_ret (results_S2 Tryz.results18 _ _ (w.heap.size + 1) 37 _ _ _ _ _ (0, 0) rfl (five_all (by rw [Below.heap_setCell _ _ _ _ (by exact HN.out.1)]; exact HK.out.1))) rfl ⟨⟨p', A, rfl, (HO3.out.frm fun k h1 h2 => ?_).low (by omega)⟩, five_below (HB3.out.setCell (by have := HN.out.2; show w.heap.size ≤ w1.heap.size; omega) _) (by omega)⟩
 rw [five_other (by omega), Below.heap_setCell _ _ _ _ (by show k ≠ w1.heap.size; omega)]
 exact HF.out k h1
set_option maxRecDepth 100000 in
set_option maxHeartbeats 1600000 in
theorem aside_20_1 (s : Sv) (p : Pl) (n : Int) (w : World) (h : SvAt w s p) (hs : s.Small) (hr : Rgt s) (hn : ¬ n < 10) (h8 : ¬ 8 ≤ s.pn + s.hn) (hh : s.b < n) :
  Calls Tryz.prog 18 #[.agg (svv s p), .int .i64 1, .int .i64 n, .bool true, .bool false] w fun e w' => e = .returned (.tuple #[.agg #[.int .i64 0, .int .i64 0, .int .i64 0, .slice none 0 0, .slice none 0 0], errV 20]) ∧ Below w.heap.size w w' := by
 obtain ⟨hn0, hn1, hsz, hb0⟩ := two_new w s p 37 37
 have hc := next_ok s p _ (h.below hb0) hs hr
 have hsd := isSide_any 1
 rw [decide_eq_true (by decide)] at hsd
 clear h hs
 unfold svv sv0 pl0 at hn0 hn1 hsz hb0 hc
 unfold svv
 simp only at hn0 hn1 hsz hb0 hc
 go_enter Tryz.func18, Tryz.ntmps18
 go_wp2_with fail
 generalize ((w.alloc (.cells #[.int .i64 s.nu, .int .i64 s.a, .int .i64 s.b, .slice p.pa s.pn p.pc, .slice p.ha s.hn p.hc] 37)).alloc (.cells #[.int .i64 0, .int .i64 0, .int .i64 0, .slice none 0 0, .slice none 0 0] 37)) = W0 at *
 refine hc.mono ?_
 rintro e w1 ⟨⟨p', A, rfl, hO⟩, hb1⟩
 have HB : Hid (Below w.heap.size w w1) := hb0.trans (hb1.mono (by omega))
 have k1 := hb1.block _ (show w.heap.size + 1 < W0.heap.size by omega)
 rw [hn1] at k1
 have hl1 : w.heap.size + 1 < w1.heap.size := by have := hb1.size; omega
 have HO : Hid (SvOw (w.heap.size + 2) w1 (nxt s) p' A) := hO.low (by omega)
 clear hO
 clear hc hb0 hb1 hn0 hn1 hsz
 unfold nxt
 dsimp only
 obtain ⟨d0, d1, d2, d3, d4, df⟩ := five_of k1
 have HK : Hid (w1.heap[w.heap.size + 1]? = some (.cells #[.int .i64 0, .int .i64 0, .int .i64 0, .slice none 0 0, .slice none 0 0] 37 (0, 0))) := k1
 clear k1
 go_wp2_with fail
 refine (hsd _).mono ?_
 rintro e w2 ⟨rfl, rfl⟩
 clear hsd
 have hbA : Below w1.heap.size w1 (w1.alloc (.cells #[.int .i64 (s.nu + 1), .int .i64 s.a, .int .i64 s.b, .slice p'.pa s.pn p'.pc, .slice p'.ha s.hn p'.hc] 37)) := (Below.refl _ w1).alloc (Nat.le_refl _) _
 have hnA := heap_alloc_new w1 (.cells #[.int .i64 (s.nu + 1), .int .i64 s.a, .int .i64 s.b, .slice p'.pa s.pn p'.pc, .slice p'.ha s.hn p'.hc] 37)
 have hka := hbA.block _ hl1
 rw [HK.out] at hka
 have htg := slots_any (nxt s) p' (w1.alloc (.cells #[.int .i64 (s.nu + 1), .int .i64 s.a, .int .i64 s.b, .slice p'.pa s.pn p'.pc, .slice p'.ha s.hn p'.hc] 37)) (by have := hr.1.2.1.1; show s.pn + s.hn ≤ 1000000; omega)
 unfold svv nxt at htg
 dsimp only at htg
 go_wp2_with fail
 generalize w1.alloc (.cells #[.int .i64 (s.nu + 1), .int .i64 s.a, .int .i64 s.b, .slice p'.pa s.pn p'.pc, .slice p'.ha s.hn p'.hc] 37) = WA at *
 refine htg.mono ?_
 rintro e w3 ⟨rfl, hb3⟩
 have HO3 : Hid (SvOw (w.heap.size + 2) w1 (nxt s) p' A) := HO.out
 have HF : Hid (∀ k, k < w1.heap.size → w3.heap[k]? = w1.heap[k]?) := fun k hk => (hb3.block k (by have := hbA.size; omega)).trans (hbA.block k hk)
 have HB3 : Hid (Below w.heap.size w w3) := (HB.out.trans (hbA.mono HB.out.size)).trans (hb3.mono (by have := HB.out.size; have := hbA.size; omega))
 have k3 := hb3.block _ (lt_of_block hnA)
 rw [hnA] at k3
 have r3 := hb3.block _ (lt_of_block hka)
 rw [hka] at r3
 clear d0 d1 d2 d3 d4 df HO HB HK hbA hnA hka htg hb3
 obtain ⟨c0, c1, c2, c3, c4, cf⟩ := five_of k3
 obtain ⟨d0, d1, d2, d3, d4, df⟩ := five_of r3
 have HK : Hid (w3.heap[w.heap.size + 1]? = some (.cells #[.int .i64 0, .int .i64 0, .int .i64 0, .slice none 0 0, .slice none 0 0] 37 (0, 0)) ∧ w3.heap[w1.heap.size]? = some (.cells #[.int .i64 (s.nu + 1), .int .i64 s.a, .int .i64 s.b, .slice p'.pa s.pn p'.pc, .slice p'.ha s.hn p'.hc] 37 (0, 0))) := ⟨r3, k3⟩
 clear r3 k3
 have h8' : ¬ (8 : Int) ≤ ((s.pn + s.hn : Nat) : Int) := by omega
 clear HO3 HF
 generalize ((s.pn + s.hn : Nat) : Int) = tt at *
 go_wp2
 exact bodyPost_ret (results_S2 Tryz.results18 _ _ (w.heap.size + 1) 37 _ _ _ _ _ (0, 0) rfl (five_all HK.out.1)) rfl ⟨rfl, five_below HB3.out (by omega)⟩
set_option maxRecDepth 100000 in
set_option maxHeartbeats 1600000 in
theorem aside_ok_1 (s : Sv) (p : Pl) (n : Int) (w : World) (h : SvAt w s p) (hs : s.Small) (hr : Rgt s) (hn : ¬ n < 10) (h8 : ¬ 8 ≤ s.pn + s.hn) (hh : ¬ s.b < n) :
  Calls Tryz.prog 18 #[.agg (svv s p), .int .i64 1, .int .i64 n, .bool true, .bool false] w fun e w' => (∃ p' A, e = .returned (.tuple #[.agg #[.int .i64 (s.nu + 1), .int .i64 s.a, .int .i64 (s.b - n), .slice p'.pa s.pn p'.pc, .slice p'.ha s.hn p'.hc], .nilIface]) ∧ SvOw w.heap.size w' (nxt s) p' A) ∧ Below w.heap.size w w' := by
 have b1 := hr.1.1.2.1
 have b2 := hr.1.1.2.2
 have ea : wrap64 (s.b - n) = s.b - n := by simp [wrap64]; omega
 obtain ⟨hn0, hn1, hsz, hb0⟩ := two_new w s p 37 37
 have hc := next_ok s p _ (h.below hb0) hs hr
 have hsd := isSide_any 1
 rw [decide_eq_true (by decide)] at hsd
 clear h hs
 unfold svv sv0 pl0 at hn0 hn1 hsz hb0 hc
 unfold svv
 simp only at hn0 hn1 hsz hb0 hc
 go_enter Tryz.func18, Tryz.ntmps18
 go_wp2_with fail
 generalize ((w.alloc (.cells #[.int .i64 s.nu, .int .i64 s.a, .int .i64 s.b, .slice p.pa s.pn p.pc, .slice p.ha s.hn p.hc] 37)).alloc (.cells #[.int .i64 0, .int .i64 0, .int .i64 0, .slice none 0 0, .slice none 0 0] 37)) = W0 at *
 refine hc.mono ?_
 rintro e w1 ⟨⟨p', A, rfl, hO⟩, hb1⟩
 have HB : Hid (Below w.heap.size w w1) := hb0.trans (hb1.mono (by omega))
 have k1 := hb1.block _ (show w.heap.size + 1 < W0.heap.size by omega)
 rw [hn1] at k1
 have hl1 : w.heap.size + 1 < w1.heap.size := by have := hb1.size; omega
 have HO : Hid (SvOw (w.heap.size + 2) w1 (nxt s) p' A) := hO.low (by omega)
 clear hO
 clear hc hb0 hb1 hn0 hn1 hsz
 unfold nxt
 dsimp only
 obtain ⟨d0, d1, d2, d3, d4, df⟩ := five_of k1
 have HK : Hid (w1.heap[w.heap.size + 1]? = some (.cells #[.int .i64 0, .int .i64 0, .int .i64 0, .slice none 0 0, .slice none 0 0] 37 (0, 0))) := k1
 clear k1
 go_wp2_with fail
 refine (hsd _).mono ?_
 rintro e w2 ⟨rfl, rfl⟩
 clear hsd
 have hbA : Below w1.heap.size w1 (w1.alloc (.cells #[.int .i64 (s.nu + 1), .int .i64 s.a, .int .i64 s.b, .slice p'.pa s.pn p'.pc, .slice p'.ha s.hn p'.hc] 37)) := (Below.refl _ w1).alloc (Nat.le_refl _) _
 have hnA := heap_alloc_new w1 (.cells #[.int .i64 (s.nu + 1), .int .i64 s.a, .int .i64 s.b, .slice p'.pa s.pn p'.pc, .slice p'.ha s.hn p'.hc] 37)
 have hka := hbA.block _ hl1
 rw [HK.out] at hka
 have htg := slots_any (nxt s) p' (w1.alloc (.cells #[.int .i64 (s.nu + 1), .int .i64 s.a, .int .i64 s.b, .slice p'.pa s.pn p'.pc, .slice p'.ha s.hn p'.hc] 37)) (by have := hr.1.2.1.1; show s.pn + s.hn ≤ 1000000; omega)
 unfold svv nxt at htg
 dsimp only at htg
 go_wp2_with fail
 generalize w1.alloc (.cells #[.int .i64 (s.nu + 1), .int .i64 s.a, .int .i64 s.b, .slice p'.pa s.pn p'.pc, .slice p'.ha s.hn p'.hc] 37) = WA at *
 refine htg.mono ?_
 rintro e w3 ⟨rfl, hb3⟩
 have HO3 : Hid (SvOw (w.heap.size + 2) w1 (nxt s) p' A) := HO.out
 have HF : Hid (∀ k, k < w1.heap.size → w3.heap[k]? = w1.heap[k]?) := fun k hk => (hb3.block k (by have := hbA.size; omega)).trans (hbA.block k hk)
 have HB3 : Hid (Below w.heap.size w w3) := (HB.out.trans (hbA.mono HB.out.size)).trans (hb3.mono (by have := HB.out.size; have := hbA.size; omega))
 have k3 := hb3.block _ (lt_of_block hnA)
 rw [hnA] at k3
 have r3 := hb3.block _ (lt_of_block hka)
 rw [hka] at r3
 clear d0 d1 d2 d3 d4 df HO HB HK hbA hnA hka htg hb3
 obtain ⟨c0, c1, c2, c3, c4, cf⟩ := five_of k3
 obtain ⟨d0, d1, d2, d3, d4, df⟩ := five_of r3
 have HK : Hid (w3.heap[w.heap.size + 1]? = some (.cells #[.int .i64 0, .int .i64 0, .int .i64 0, .slice none 0 0, .slice none 0 0] 37 (0, 0)) ∧ w3.heap[w1.heap.size]? = some (.cells #[.int .i64 (s.nu + 1), .int .i64 s.a, .int .i64 s.b, .slice p'.pa s.pn p'.pc, .slice p'.ha s.hn p'.hc] 37 (0, 0))) := ⟨r3, k3⟩
 clear r3 k3
 have h8' : ¬ (8 : Int) ≤ ((s.pn + s.hn : Nat) : Int) := by omega
 generalize ((s.pn + s.hn : Nat) : Int) = tt at *
 have hne : w.heap.size + 1 ≠ w1.heap.size := by omega
 have HN : Hid (w.heap.size + 1 ≠ w1.heap.size ∧ w.heap.size + 2 ≤ w1.heap.size) := ⟨hne, hl1⟩
 clear hne
 go_wp2
 refine bodyPost_ret (results_S2 Tryz.results18 _ _ (w.heap.size + 1) 37 _ _ _ _ _ (0, 0) rfl (five_all (by rw [Below.heap_setCell _ _ _ _ (by exact HN.out.1)]; exact HK.out.1))) rfl ⟨⟨p', A, rfl, (HO3.out.frm fun k h1 h2 => ?_).low (by omega)⟩, five_below (HB3.out.setCell (by have := HN.out.2; show w.heap.size ≤ w1.heap.size; omega) _) (by omega)⟩
 rw [five_other (by omega), Below.heap_setCell _ _ _ _ (by show k ≠ w1.heap.size; omega)]
 exact HF.out k h1
/-- The error of setAside; nobody has the amount then. -/
def asideE (s : Sv) (f n : Int) (can th : Bool) : Int :=
 if ¬ Rgt s then 1 else if ¬ Side f then 33 else if n < 10 then 27 else if can = false then 1 else if th = true then 9 else if 8 ≤ s.pn + s.hn then 30 else if has s f < n then 20 else 0
/-- The state behind it. -/
def asideS (s : Sv) (f n : Int) : Sv := if f = 0 then giv s (-n) 0 else giv s 0 (-n)
theorem aside_bad (s : Sv) (p : Pl) (f n : Int) (can th : Bool) (w : World) (h : SvAt w s p) (hs : s.Small) (he : asideE s f n can th ≠ 0) :
  Calls Tryz.prog 18 #[.agg (svv s p), .int .i64 f, .int .i64 n, .bool can, .bool th] w fun e w' => e = .returned (.tuple #[.agg #[.int .i64 0, .int .i64 0, .int .i64 0, .slice none 0 0, .slice none 0 0], errV (asideE s f n can th)]) ∧ Below w.heap.size w w' := by
 unfold asideE at he ⊢
 by_cases hr : Rgt s
 ·rw [if_neg (not_not_intro hr)] at he ⊢
  by_cases hf : Side f
  ·rw [if_neg (not_not_intro hf)] at he ⊢
   by_cases hn : n < 10
   ·rw [if_pos hn]
    exact aside_27 s p f n can th w h hs hr hf hn
   ·rw [if_neg hn] at he ⊢
    cases can with
    | false => rw [if_pos rfl]; exact aside_n1 s p f n th w h hs hr hf hn
    | true =>
     rw [if_neg (by decide)] at he ⊢
     cases th with
     | true => rw [if_pos rfl]; exact aside_9 s p f n w h hs hr hf hn
     | false =>
      rw [if_neg (by decide)] at he ⊢
      by_cases h8 : 8 ≤ s.pn + s.hn
      ·rw [if_pos h8]
       exact aside_30 s p f n w h hs hr hf hn h8
      ·rw [if_neg h8] at he ⊢
       by_cases hh : has s f < n
       ·rw [if_pos hh]
        rcases hf with rfl | rfl
        ·exact aside_20_0 s p n w h hs hr hn h8 hh
        ·exact aside_20_1 s p n w h hs hr hn h8 hh
       ·rw [if_neg hh] at he
        exact absurd rfl he
  ·rw [if_pos hf]
   exact aside_33 s p f n can th w h hs hr hf
 ·rw [if_pos hr]
  exact aside_1 s p f n can th w h hs hr
theorem asideE_ok {s : Sv} {f n : Int} {can th : Bool} (he : asideE s f n can th = 0) : Rgt s ∧ Side f ∧ ¬ n < 10 ∧ can = true ∧ th = false ∧ ¬ 8 ≤ s.pn + s.hn ∧ ¬ has s f < n := by
 unfold asideE at he
 by_cases hr : Rgt s
 ·rw [if_neg (not_not_intro hr)] at he
  by_cases hf : Side f
  ·rw [if_neg (not_not_intro hf)] at he
   by_cases hn : n < 10
   ·rw [if_pos hn] at he; cases he
   ·rw [if_neg hn] at he
    cases can with
    | false => rw [if_pos rfl] at he; cases he
    | true =>
     rw [if_neg (by decide)] at he
     cases th with
     | true => rw [if_pos rfl] at he; cases he
     | false =>
      rw [if_neg (by decide)] at he
      by_cases h8 : 8 ≤ s.pn + s.hn
      ·rw [if_pos h8] at he; cases he
      ·rw [if_neg h8] at he
       by_cases hh : has s f < n
       ·rw [if_pos hh] at he; cases he
       ·exact ⟨hr, hf, hn, rfl, rfl, h8, hh⟩
  ·rw [if_pos hf] at he; cases he
 ·rw [if_pos hr] at he; cases he
theorem aside_ok (s : Sv) (p : Pl) (f n : Int) (can th : Bool) (w : World) (h : SvAt w s p) (hs : s.Small) (he : asideE s f n can th = 0) :
  Calls Tryz.prog 18 #[.agg (svv s p), .int .i64 f, .int .i64 n, .bool can, .bool th] w fun e w' => (∃ p' A, e = .returned (.tuple #[.agg (svv (asideS s f n) p'), .nilIface]) ∧ SvOw w.heap.size w' (asideS s f n) p' A) ∧ Below w.heap.size w w' := by
 obtain ⟨hr, hf, hn, rfl, rfl, h8, hh⟩ := asideE_ok he
 rcases hf with rfl | rfl
 ·refine (aside_ok_0 s p n w h hs hr hn h8 hh).mono fun e w' ⟨⟨p', A, h1, h2⟩, h3⟩ => ⟨⟨p', A, ?_, h2.alike (s' := asideS s 0 n) rfl rfl rfl rfl⟩, h3⟩
  rw [h1]; simp [svv, asideS, giv, nxt, Int.sub_eq_add_neg]
 ·refine (aside_ok_1 s p n w h hs hr hn h8 hh).mono fun e w' ⟨⟨p', A, h1, h2⟩, h3⟩ => ⟨⟨p', A, ?_, h2.alike (s' := asideS s 1 n) rfl rfl rfl rfl⟩, h3⟩
  rw [h1]; simp [svv, asideS, giv, nxt, Int.sub_eq_add_neg]
end Go.Proofs.YtoefgfiabfkfaaaGreatDoor
