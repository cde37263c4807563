/- StatePays: the walk. -/
import Derived.Test.YtoefgfiabfkfaaaGreatDoorOwnShelf41
import Derived.Deep.DeepCutAuto
import Derived.Deep.CutBlock
import Derived.Test.YtoefgfiabfkfaaaGreatDoorOwnShelf23
namespace Go.Proofs.YtoefgfiabfkfaaaGreatDoor
open Go.RowKit

/-- The variables of the walk: what came in, the program's state. -/
structure PBx (w W : World) (s : Sv) (p q : Pl) (y : Py) (sa : Option Addr) (sb : List Nat) (g7 : Nat) : Prop where
 b3 : W.heap[w.heap.size]? = some (.cells #[.int .i64 s.nu, .int .i64 s.a, .int .i64 s.b, .slice p.pa s.pn p.pc, .slice p.ha s.hn p.hc] 26 (0, 0))
 b4 : W.heap[w.heap.size + 1]? = some (.cells (pyv y) 30 (0, 0))
 b7 : W.heap[g7]? = some (.cells #[.int .i64 s.nu, .int .i64 s.a, .int .i64 s.b, .slice q.pa s.pn q.pc, .slice q.ha s.hn q.hc] 37 (0, 0))
 sp : SvAt W s p
 sq : SvAt W s q
 sl : SlB W sa sb
 gl : Glob W
 tb : Tab W
 hg : 3 ≤ W.heap.size
 bw : Below w.heap.size w W
theorem SlB.belowW {w W : World} {sa : Option Addr} {sb : List Nat} (h : SlB w sa sb) (hb : Below w.heap.size w W) : SlB W sa sb := fun h0 => by
 obtain ⟨g, o, e1, hr⟩ := h h0
 exact ⟨g, o, e1, range_below hr hb⟩
theorem PBx.below {w W W' : World} {s : Sv} {p q : Pl} {y : Py} {sa : Option Addr} {sb : List Nat} {g7 : Nat} (h : PBx w W s p q y sa sb g7) (hb : Below W.heap.size W W') : PBx w W' s p q y sa sb g7 :=
 ⟨by rw [hb.block _ (lt_of_block h.b3)]; exact h.b3, by rw [hb.block _ (lt_of_block h.b4)]; exact h.b4, by rw [hb.block _ (lt_of_block h.b7)]; exact h.b7, h.sp.below hb, h.sq.below hb, h.sl.belowW hb, h.gl.belowA hb, h.tb.frm (S := []) (Frm.ofBelow hb) (fun k hk => by cases hk), Nat.le_trans h.hg hb.size, h.bw.trans (hb.mono h.bw.size)⟩
/-- Their cells. -/
structure PCe (w W : World) (s : Sv) (p q : Pl) (y : Py) (g7 : Nat) : Prop where
 a0 : W.cell? ⟨w.heap.size, 0, none⟩ = some (.int .i64 s.nu)
 a1 : W.cell? ⟨w.heap.size, 1, none⟩ = some (.int .i64 s.a)
 a2 : W.cell? ⟨w.heap.size, 2, none⟩ = some (.int .i64 s.b)
 a3 : W.cell? ⟨w.heap.size, 3, none⟩ = some (.slice p.pa s.pn p.pc)
 a4 : W.cell? ⟨w.heap.size, 4, none⟩ = some (.slice p.ha s.hn p.hc)
 b0 : W.cell? ⟨w.heap.size + 1, 0, none⟩ = some (.int .i64 y.id)
 d0 : W.cell? ⟨g7, 0, none⟩ = some (.int .i64 s.nu)
 d1 : W.cell? ⟨g7, 1, none⟩ = some (.int .i64 s.a)
 d2 : W.cell? ⟨g7, 2, none⟩ = some (.int .i64 s.b)
 d3 : W.cell? ⟨g7, 3, none⟩ = some (.slice q.pa s.pn q.pc)
 d4 : W.cell? ⟨g7, 4, none⟩ = some (.slice q.ha s.hn q.hc)
theorem PBx.cells {w W : World} {s : Sv} {p q : Pl} {y : Py} {sa : Option Addr} {sb : List Nat} {g7 : Nat} (h : PBx w W s p q y sa sb g7) : PCe w W s p q y g7 :=
 ⟨(five_of h.b3).c0, (five_of h.b3).c1, (five_of h.b3).c2, (five_of h.b3).c3, (five_of h.b3).c4, (pbox_of h.b4).c0, (five_of h.b7).c0, (five_of h.b7).c1, (five_of h.b7).c2, (five_of h.b7).c3, (five_of h.b7).c4⟩
theorem two_objs (w : World) (c1 c2 : Array Value) (t1 t2 : TypeId) : ((w.alloc (.cells c1 t1)).alloc (.cells c2 t2)).heap[w.heap.size]? = some (.cells c1 t1 (0, 0)) ∧ ((w.alloc (.cells c1 t1)).alloc (.cells c2 t2)).heap[w.heap.size + 1]? = some (.cells c2 t2 (0, 0)) ∧ Below w.heap.size w ((w.alloc (.cells c1 t1)).alloc (.cells c2 t2)) := by
 refine ⟨?_, ?_, ((Below.refl _ w).alloc (Nat.le_refl _) _).alloc (by simp) _⟩
 ·rw [Below.heap_alloc _ _ _ (by simp)]; exact heap_alloc_new w _
 ·have := heap_alloc_new (w.alloc (.cells c1 t1)) (.cells c2 t2)
  simpa using this
set_option maxRecDepth 100000 in
set_option maxHeartbeats 12800000 in
theorem pays_any (s : Sv) (p : Pl) (y : Py) (sa : Option Addr) (sc : Nat) (sb : List Nat) (w : World) (hg : Glob w) (hT : Tab w) (hgl : 3 ≤ w.heap.size) (h : StIn w s p) (hy : Zb y.lk) (hS : SlB w sa sb) (hsn0 : sa = none → sb.length = 0) (hsb : ∀ i, sb.getD i 0 < 256) (hsc : sb.length ≤ sc) (hsl : sb.length ≤ 140737488351232) (hsp : ∀ a, p.pa = some a → ∃ bb off, a = ⟨bb, off, none⟩) :
  Calls Tryz.prog 3 #[.agg (svv s p), .agg (pyv y), .slice sa sb.length sc] w fun e w' => e = .returned (.bool true) ∧ Below w.heap.size w w' := by
 obtain ⟨r0, r1, hb0⟩ := two_objs w (svv s p) (pyv y) 26 30
 obtain ⟨W0, hW0⟩ : ∃ W, (w.alloc (.cells (svv s p) 26)).alloc (.cells (pyv y) 30) = W := ⟨_, rfl⟩
 rw [hW0] at hb0 r0 r1
 have hl := long_any s p W0 (h.at_.below hb0) h.pn h.hn h.ks
 have HS1 : Hid (∀ w', Below W0.heap.size W0 w' → w'.heap[w.heap.size]? = some (.cells (svv s p) 26 (0, 0)) ∧ w'.heap[w.heap.size + 1]? = some (.cells (pyv y) 30 (0, 0)) ∧ SvAt w' s p ∧ SlB w' sa sb ∧ Glob w' ∧ Tab w' ∧ 3 ≤ w'.heap.size ∧ Below w.heap.size w w') := fun w' hb => by
  have hbw := hb0.trans (hb.mono hb0.size)
  exact ⟨by rw [hb.block _ (lt_of_block r0)]; exact r0, by rw [hb.block _ (lt_of_block r1)]; exact r1, h.at_.below hbw, hS.belowW hbw, hg.belowA hbw, hT.frm (S := []) (Frm.ofBelow hbw) (fun k hk => by cases hk), Nat.le_trans hgl hbw.size, hbw⟩
 have HSB : Hid ((sa = none → sb.length = 0) ∧ (∀ i, sb.getD i 0 < 256) ∧ sb.length ≤ sc ∧ sb.length ≤ 140737488351232 ∧ sb.length ≤ 140737488355328) := ⟨hsn0, hsb, hsc, hsl, by omega⟩
 have HSP : Hid (∀ a, p.pa = some a → ∃ bb off, a = ⟨bb, off, none⟩) := hsp
 have HY : Hid (Zb y.lk) := hy
 clear hg hT hgl h hy hS hsn0 hsb hsc hsl hsp hb0 r0 r1
 obtain ⟨c0, c1, c2, c3, c4, _⟩ := five_of (HS1.out W0 (Below.refl _ _)).1
 unfold svv at hW0 hl HS1 ⊢
 go_enter Tryz.func3, Tryz.ntmps3
 go_wp2_with (first | (refine Go.Great.wpList_boxTo rfl _ _ rfl _ rfl _ rfl (pyv y) rfl ?_; rw [hW0]) | fail)
 clear hW0
 refine hl.mono ?_
 rintro e w1 ⟨rfl, hb1⟩
 clear hl c0 c1 c2 c3 c4
 by_cases hlg : lngS s = true
 ·rw [hlg]
  have HE1 : Hid (Below w.heap.size w w1) := (HS1.out w1 hb1).2.2.2.2.2.2.2
  clear hb1
  go_wp2_with fail
  refine (sure_any w1).mono ?_
  rintro e w2 ⟨rfl, hb2⟩
  have HE : Hid (Below w.heap.size w w2) := HE1.out.trans (hb2.mono HE1.out.size)
  clear hb2
  go_wp2
  go_ret
  exact ⟨rfl, HE.out⟩
 ·have hlf : lngS s = false := by simpa using hlg
  rw [hlf]
  have hsm := lngS_no hlf
  have HM : Hid (s.Small) := hsm
  have HM1 : Hid ((addF s y).1.Small) := addF_small hsm y
  have HM2 : Hid ((stlF s y.id sb).1.Small) := stlF_small hsm y.id sb
  have HM3 : Hid ((failF s y.id).1.Small) := failF_small hsm y.id
  obtain ⟨t1, ht1⟩ : ∃ t, (addF s y).1 = t := ⟨_, rfl⟩
  obtain ⟨e1, he1⟩ : ∃ t, (addF s y).2 = t := ⟨_, rfl⟩
  obtain ⟨t2, ht2⟩ : ∃ t, (stlF s y.id sb).1 = t := ⟨_, rfl⟩
  obtain ⟨e2, he2⟩ : ∃ t, (stlF s y.id sb).2 = t := ⟨_, rfl⟩
  obtain ⟨t3, ht3⟩ : ∃ t, (failF s y.id).1 = t := ⟨_, rfl⟩
  obtain ⟨e3, he3⟩ : ∃ t, (failF s y.id).2 = t := ⟨_, rfl⟩
  rw [ht1] at HM1
  rw [ht2] at HM2
  rw [ht3] at HM3
  have HT1 : Hid ((addF s y).1 = t1 ∧ (addF s y).2 = e1) := ⟨ht1, he1⟩
  have HT2 : Hid ((stlF s y.id sb).1 = t2 ∧ (stlF s y.id sb).2 = e2) := ⟨ht2, he2⟩
  have HT3 : Hid ((failF s y.id).1 = t3 ∧ (failF s y.id).2 = e3) := ⟨ht3, he3⟩
  clear hlg hlf hsm ht1 he1 ht2 he2 ht3 he3
  have HS2 : Hid (Below W0.heap.size W0 w1) := hb1
  obtain ⟨c0, c1, c2, c3, c4, _⟩ := five_of (HS1.out w1 hb1).1
  have hgv := give_any s p w1 (HS1.out w1 hb1).2.2.1 HM.out
  unfold svv at hgv
  clear hb1
  go_wp2_with fail
  refine hgv.mono ?_
  rintro e w2 ⟨⟨q, A, rfl, hO⟩, hb2⟩
  clear hgv c0 c1 c2 c3 c4
  obtain ⟨W3, hW3⟩ : ∃ W, w2.alloc (.cells #[.int .i64 s.nu, .int .i64 s.a, .int .i64 s.b, .slice q.pa s.pn q.pc, .slice q.ha s.hn q.hc] 37) = W := ⟨_, rfl⟩
  have hx3 : W3.heap[w2.heap.size]? = some (.cells #[.int .i64 s.nu, .int .i64 s.a, .int .i64 s.b, .slice q.pa s.pn q.pc, .slice q.ha s.hn q.hc] 37 (0, 0)) := by rw [← hW3]; exact heap_alloc_new _ _
  have ha3 : Below w2.heap.size w2 W3 := by rw [← hW3]; exact (Below.refl _ _).alloc (Nat.le_refl _) _
  have hb3 : Below W0.heap.size W0 W3 := Below.transS (Below.transS HS2.out hb2) ha3
  obtain ⟨g7, hg7⟩ : ∃ g, w2.heap.size = g := ⟨_, rfl⟩
  have hx7 := hx3
  rw [hg7] at hx7
  have HX3 : Hid (PBx w W3 s p q y sa sb g7) := by
   obtain ⟨h1, h2, h3, h4, h5, h6, h7, h8⟩ := HS1.out W3 hb3
   exact ⟨h1, h2, hx7, h3, hO.at.below ha3, h4, h5, h6, h7, h8⟩
  clear HS1 HS2 hO hb2 hb3 ha3 hx3 hx7
  obtain ⟨a0, a1, a2, a3, a4, b0, d0, d1, d2, d3, d4⟩ := HX3.out.cells
  have hk := padd_any s q y W3 HX3.out.sq HM.out HY.out
  rw [HT1.out.1, HT1.out.2] at hk
  unfold svv at hk
  go_wp2_with (first | (refine wpList_load_mid rfl 30 _ rfl (w.heap.size + 1) 0 rfl (pyl y) _ (pyv_range HX3.out.b4) Tryz.underlying30 rfl (szPrl _) ?_) | fail)
  clear hW3
  clear hg7
  refine hk.mono ?_
  rintro e w4 ⟨q4, rfl, hA4, hb4⟩
  clear hk a0 a1 a2 a3 a4 b0 d0 d1 d2 d3 d4
  obtain ⟨W4, hW4⟩ : ∃ W, w4.alloc (.cells #[.int .i64 t1.nu, .int .i64 t1.a, .int .i64 t1.b, .slice q4.pa t1.pn q4.pc, .slice q4.ha t1.hn q4.hc] 37) = W := ⟨_, rfl⟩
  have hx4 : W4.heap[w4.heap.size]? = some (.cells #[.int .i64 t1.nu, .int .i64 t1.a, .int .i64 t1.b, .slice q4.pa t1.pn q4.pc, .slice q4.ha t1.hn q4.hc] 37 (0, 0)) := by rw [← hW4]; exact heap_alloc_new _ _
  have ha4 : Below w4.heap.size w4 W4 := by rw [← hW4]; exact (Below.refl _ _).alloc (Nat.le_refl _) _
  have hy4 : Below W3.heap.size W3 W4 := Below.transS hb4 ha4
  have HX4 : Hid (PBx w W4 s p q y sa sb g7) := HX3.out.below hy4
  have HR4 : Hid (∀ w', Below W4.heap.size W4 w' → w'.rangeAt w4.heap.size 0 (svl t1 q4) ∧ SvAt w' t1 q4) := fun w' hb => ⟨range_below (svl_range hx4) hb, (hA4.below ha4).below hb⟩
  clear hx4 ha4 hA4 hb4 hy4 HX3
  obtain ⟨g4v, hgv4⟩ : ∃ g, w4.heap.size = g := ⟨_, rfl⟩
  rw [hgv4] at HR4
  obtain ⟨a0, a1, a2, a3, a4, b0, d0, d1, d2, d3, d4⟩ := HX4.out.cells
  have hk := radd_any s p y W4 HX4.out.sp HM.out HY.out HSP.out
  rw [HT1.out.1, HT1.out.2] at hk
  unfold svv at hk
  go_wp2_with (first | (refine wpList_load_mid rfl 30 _ rfl (w.heap.size + 1) 0 rfl (pyl y) _ (pyv_range HX4.out.b4) Tryz.underlying30 rfl (szPrl _) ?_) | fail)
  clear hW4
  refine hk.mono ?_
  rintro e w5 ⟨q5, rfl, hA5, hb5⟩
  clear hk a0 a1 a2 a3 a4 b0 d0 d1 d2 d3 d4
  obtain ⟨W5, hW5⟩ : ∃ W, w5.alloc (.cells #[.int .i64 t1.nu, .int .i64 t1.a, .int .i64 t1.b, .slice q5.pa t1.pn q5.pc, .slice q5.ha t1.hn q5.hc] 26) = W := ⟨_, rfl⟩
  have hx5 : W5.heap[w5.heap.size]? = some (.cells #[.int .i64 t1.nu, .int .i64 t1.a, .int .i64 t1.b, .slice q5.pa t1.pn q5.pc, .slice q5.ha t1.hn q5.hc] 26 (0, 0)) := by rw [← hW5]; exact heap_alloc_new _ _
  have ha5 : Below w5.heap.size w5 W5 := by rw [← hW5]; exact (Below.refl _ _).alloc (Nat.le_refl _) _
  have hy5 : Below W4.heap.size W4 W5 := Below.transS hb5 ha5
  have HX5 : Hid (PBx w W5 s p q y sa sb g7) := HX4.out.below hy5
  have HR5 : Hid (∀ w', Below W5.heap.size W5 w' → w'.rangeAt w5.heap.size 0 (svl t1 q5) ∧ SvAt w' t1 q5) := fun w' hb => ⟨range_below (svl_range hx5) hb, (hA5.below ha5).below hb⟩
  have HR4n : Hid (∀ w', Below W5.heap.size W5 w' → w'.rangeAt g4v 0 (svl t1 q4) ∧ SvAt w' t1 q4) := fun w' hb => HR4.out w' (Below.transS hy5 hb)
  clear HR4
  have HR4 := HR4n
  clear HR4n
  clear hx5 ha5 hA5 hb5 hy5 HX4
  obtain ⟨g5v, hgv5⟩ : ∃ g, w5.heap.size = g := ⟨_, rfl⟩
  rw [hgv5] at HR5
  obtain ⟨a0, a1, a2, a3, a4, b0, d0, d1, d2, d3, d4⟩ := HX5.out.cells
  have hk := psettle_any s q y.id sa sc sb W5 HX5.out.tb HX5.out.hg HX5.out.sl HSB.out.2.1 HSB.out.2.2.1 HSB.out.2.2.2.2 HX5.out.sq HM.out
  rw [HT2.out.1, HT2.out.2] at hk
  unfold svv at hk
  go_wp2_with fail
  clear hW5
  refine hk.mono ?_
  rintro e w6 ⟨q6, rfl, hA6, hb6⟩
  clear hk a0 a1 a2 a3 a4 b0 d0 d1 d2 d3 d4
  obtain ⟨W6, hW6⟩ : ∃ W, w6.alloc (.cells #[.int .i64 t2.nu, .int .i64 t2.a, .int .i64 t2.b, .slice q6.pa t2.pn q6.pc, .slice q6.ha t2.hn q6.hc] 37) = W := ⟨_, rfl⟩
  have hx6 : W6.heap[w6.heap.size]? = some (.cells #[.int .i64 t2.nu, .int .i64 t2.a, .int .i64 t2.b, .slice q6.pa t2.pn q6.pc, .slice q6.ha t2.hn q6.hc] 37 (0, 0)) := by rw [← hW6]; exact heap_alloc_new _ _
  have ha6 : Below w6.heap.size w6 W6 := by rw [← hW6]; exact (Below.refl _ _).alloc (Nat.le_refl _) _
  have hy6 : Below W5.heap.size W5 W6 := Below.transS hb6 ha6
  have HX6 : Hid (PBx w W6 s p q y sa sb g7) := HX5.out.below hy6
  have HR6 : Hid (∀ w', Below W6.heap.size W6 w' → w'.rangeAt w6.heap.size 0 (svl t2 q6) ∧ SvAt w' t2 q6) := fun w' hb => ⟨range_below (svl_range hx6) hb, (hA6.below ha6).below hb⟩
  have HR4n : Hid (∀ w', Below W6.heap.size W6 w' → w'.rangeAt g4v 0 (svl t1 q4) ∧ SvAt w' t1 q4) := fun w' hb => HR4.out w' (Below.transS hy6 hb)
  clear HR4
  have HR4 := HR4n
  clear HR4n
  have HR5n : Hid (∀ w', Below W6.heap.size W6 w' → w'.rangeAt g5v 0 (svl t1 q5) ∧ SvAt w' t1 q5) := fun w' hb => HR5.out w' (Below.transS hy6 hb)
  clear HR5
  have HR5 := HR5n
  clear HR5n
  clear hx6 ha6 hA6 hb6 hy6 HX5
  obtain ⟨g6v, hgv6⟩ : ∃ g, w6.heap.size = g := ⟨_, rfl⟩
  rw [hgv6] at HR6
  obtain ⟨a0, a1, a2, a3, a4, b0, d0, d1, d2, d3, d4⟩ := HX6.out.cells
  have hk := rsettleF_any s p y.id sa sc sb W6 HSB.out.1 HSB.out.2.1 HSB.out.2.2.2.1 HX6.out.sl HX6.out.sp HM.out HSP.out
  rw [HT2.out.1, HT2.out.2] at hk
  unfold svv at hk
  go_wp2_with fail
  clear hW6
  refine hk.mono ?_
  rintro e w7 ⟨q7, rfl, hA7, hb7⟩
  clear hk a0 a1 a2 a3 a4 b0 d0 d1 d2 d3 d4
  obtain ⟨W7, hW7⟩ : ∃ W, w7.alloc (.cells #[.int .i64 t2.nu, .int .i64 t2.a, .int .i64 t2.b, .slice q7.pa t2.pn q7.pc, .slice q7.ha t2.hn q7.hc] 26) = W := ⟨_, rfl⟩
  have hx7 : W7.heap[w7.heap.size]? = some (.cells #[.int .i64 t2.nu, .int .i64 t2.a, .int .i64 t2.b, .slice q7.pa t2.pn q7.pc, .slice q7.ha t2.hn q7.hc] 26 (0, 0)) := by rw [← hW7]; exact heap_alloc_new _ _
  have ha7 : Below w7.heap.size w7 W7 := by rw [← hW7]; exact (Below.refl _ _).alloc (Nat.le_refl _) _
  have hy7 : Below W6.heap.size W6 W7 := Below.transS hb7 ha7
  have HX7 : Hid (PBx w W7 s p q y sa sb g7) := HX6.out.below hy7
  have HR7 : Hid (∀ w', Below W7.heap.size W7 w' → w'.rangeAt w7.heap.size 0 (svl t2 q7) ∧ SvAt w' t2 q7) := fun w' hb => ⟨range_below (svl_range hx7) hb, (hA7.below ha7).below hb⟩
  have HR4n : Hid (∀ w', Below W7.heap.size W7 w' → w'.rangeAt g4v 0 (svl t1 q4) ∧ SvAt w' t1 q4) := fun w' hb => HR4.out w' (Below.transS hy7 hb)
  clear HR4
  have HR4 := HR4n
  clear HR4n
  have HR5n : Hid (∀ w', Below W7.heap.size W7 w' → w'.rangeAt g5v 0 (svl t1 q5) ∧ SvAt w' t1 q5) := fun w' hb => HR5.out w' (Below.transS hy7 hb)
  clear HR5
  have HR5 := HR5n
  clear HR5n
  have HR6n : Hid (∀ w', Below W7.heap.size W7 w' → w'.rangeAt g6v 0 (svl t2 q6) ∧ SvAt w' t2 q6) := fun w' hb => HR6.out w' (Below.transS hy7 hb)
  clear HR6
  have HR6 := HR6n
  clear HR6n
  clear hx7 ha7 hA7 hb7 hy7 HX6
  obtain ⟨g7v, hgv7⟩ : ∃ g, w7.heap.size = g := ⟨_, rfl⟩
  rw [hgv7] at HR7
  obtain ⟨a0, a1, a2, a3, a4, b0, d0, d1, d2, d3, d4⟩ := HX7.out.cells
  have hk := pfail_any s q y.id W7 HX7.out.sq HM.out
  rw [HT3.out.1, HT3.out.2] at hk
  unfold svv at hk
  go_wp2_with fail
  clear hW7
  refine hk.mono ?_
  rintro e w8 ⟨q8, rfl, hA8, hb8⟩
  clear hk a0 a1 a2 a3 a4 b0 d0 d1 d2 d3 d4
  obtain ⟨W8, hW8⟩ : ∃ W, w8.alloc (.cells #[.int .i64 t3.nu, .int .i64 t3.a, .int .i64 t3.b, .slice q8.pa t3.pn q8.pc, .slice q8.ha t3.hn q8.hc] 37) = W := ⟨_, rfl⟩
  have hx8 : W8.heap[w8.heap.size]? = some (.cells #[.int .i64 t3.nu, .int .i64 t3.a, .int .i64 t3.b, .slice q8.pa t3.pn q8.pc, .slice q8.ha t3.hn q8.hc] 37 (0, 0)) := by rw [← hW8]; exact heap_alloc_new _ _
  have ha8 : Below w8.heap.size w8 W8 := by rw [← hW8]; exact (Below.refl _ _).alloc (Nat.le_refl _) _
  have hy8 : Below W7.heap.size W7 W8 := Below.transS hb8 ha8
  have HX8 : Hid (PBx w W8 s p q y sa sb g7) := HX7.out.below hy8
  have HR8 : Hid (∀ w', Below W8.heap.size W8 w' → w'.rangeAt w8.heap.size 0 (svl t3 q8) ∧ SvAt w' t3 q8) := fun w' hb => ⟨range_below (svl_range hx8) hb, (hA8.below ha8).below hb⟩
  have HR4n : Hid (∀ w', Below W8.heap.size W8 w' → w'.rangeAt g4v 0 (svl t1 q4) ∧ SvAt w' t1 q4) := fun w' hb => HR4.out w' (Below.transS hy8 hb)
  clear HR4
  have HR4 := HR4n
  clear HR4n
  have HR5n : Hid (∀ w', Below W8.heap.size W8 w' → w'.rangeAt g5v 0 (svl t1 q5) ∧ SvAt w' t1 q5) := fun w' hb => HR5.out w' (Below.transS hy8 hb)
  clear HR5
  have HR5 := HR5n
  clear HR5n
  have HR6n : Hid (∀ w', Below W8.heap.size W8 w' → w'.rangeAt g6v 0 (svl t2 q6) ∧ SvAt w' t2 q6) := fun w' hb => HR6.out w' (Below.transS hy8 hb)
  clear HR6
  have HR6 := HR6n
  clear HR6n
  have HR7n : Hid (∀ w', Below W8.heap.size W8 w' → w'.rangeAt g7v 0 (svl t2 q7) ∧ SvAt w' t2 q7) := fun w' hb => HR7.out w' (Below.transS hy8 hb)
  clear HR7
  have HR7 := HR7n
  clear HR7n
  clear hx8 ha8 hA8 hb8 hy8 HX7
  obtain ⟨g8v, hgv8⟩ : ∃ g, w8.heap.size = g := ⟨_, rfl⟩
  rw [hgv8] at HR8
  obtain ⟨a0, a1, a2, a3, a4, b0, d0, d1, d2, d3, d4⟩ := HX8.out.cells
  have hk := rfail_any s p y.id W8 HX8.out.sp HM.out HSP.out
  rw [HT3.out.1, HT3.out.2] at hk
  unfold svv at hk
  go_wp2_with fail
  clear hW8
  refine hk.mono ?_
  rintro e w9 ⟨q9, rfl, hA9, hb9⟩
  clear hk a0 a1 a2 a3 a4 b0 d0 d1 d2 d3 d4
  obtain ⟨W9, hW9⟩ : ∃ W, w9.alloc (.cells #[.int .i64 t3.nu, .int .i64 t3.a, .int .i64 t3.b, .slice q9.pa t3.pn q9.pc, .slice q9.ha t3.hn q9.hc] 26) = W := ⟨_, rfl⟩
  have hx9 : W9.heap[w9.heap.size]? = some (.cells #[.int .i64 t3.nu, .int .i64 t3.a, .int .i64 t3.b, .slice q9.pa t3.pn q9.pc, .slice q9.ha t3.hn q9.hc] 26 (0, 0)) := by rw [← hW9]; exact heap_alloc_new _ _
  have ha9 : Below w9.heap.size w9 W9 := by rw [← hW9]; exact (Below.refl _ _).alloc (Nat.le_refl _) _
  have hy9 : Below W8.heap.size W8 W9 := Below.transS hb9 ha9
  have HX9 : Hid (PBx w W9 s p q y sa sb g7) := HX8.out.below hy9
  have HR9 : Hid (∀ w', Below W9.heap.size W9 w' → w'.rangeAt w9.heap.size 0 (svl t3 q9) ∧ SvAt w' t3 q9) := fun w' hb => ⟨range_below (svl_range hx9) hb, (hA9.below ha9).below hb⟩
  have HR4n : Hid (∀ w', Below W9.heap.size W9 w' → w'.rangeAt g4v 0 (svl t1 q4) ∧ SvAt w' t1 q4) := fun w' hb => HR4.out w' (Below.transS hy9 hb)
  clear HR4
  have HR4 := HR4n
  clear HR4n
  have HR5n : Hid (∀ w', Below W9.heap.size W9 w' → w'.rangeAt g5v 0 (svl t1 q5) ∧ SvAt w' t1 q5) := fun w' hb => HR5.out w' (Below.transS hy9 hb)
  clear HR5
  have HR5 := HR5n
  clear HR5n
  have HR6n : Hid (∀ w', Below W9.heap.size W9 w' → w'.rangeAt g6v 0 (svl t2 q6) ∧ SvAt w' t2 q6) := fun w' hb => HR6.out w' (Below.transS hy9 hb)
  clear HR6
  have HR6 := HR6n
  clear HR6n
  have HR7n : Hid (∀ w', Below W9.heap.size W9 w' → w'.rangeAt g7v 0 (svl t2 q7) ∧ SvAt w' t2 q7) := fun w' hb => HR7.out w' (Below.transS hy9 hb)
  clear HR7
  have HR7 := HR7n
  clear HR7n
  have HR8n : Hid (∀ w', Below W9.heap.size W9 w' → w'.rangeAt g8v 0 (svl t3 q8) ∧ SvAt w' t3 q8) := fun w' hb => HR8.out w' (Below.transS hy9 hb)
  clear HR8
  have HR8 := HR8n
  clear HR8n
  clear hx9 ha9 hA9 hb9 hy9 HX8
  obtain ⟨g9v, hgv9⟩ : ∃ g, w9.heap.size = g := ⟨_, rfl⟩
  rw [hgv9] at HR9
  obtain ⟨a0, a1, a2, a3, a4, b0, d0, d1, d2, d3, d4⟩ := HX9.out.cells
  go_wp2_with fail
  clear hW9 a0 a1 a2 a3 a4 b0 d0 d1 d2 d3 d4
  have HSS : Hid (∀ w', Below W9.heap.size W9 w' → SHo w' g4v g5v g6v g7v g8v g9v g7 w.heap.size t1 t2 t3 s q4 q5 q6 q7 q8 q9 q p) := fun w' hb => by
   have hx := HX9.out.below hb
   exact ⟨(HR4.out w' hb).1, (HR5.out w' hb).1, (HR6.out w' hb).1, (HR7.out w' hb).1, (HR8.out w' hb).1, (HR9.out w' hb).1, svl_range hx.b7, svl_range hx.b3⟩
  have hbd := (Below.refl W9.heap.size W9).drew
  have S0 := HSS.out W9.drew hbd
  refine wp_region_noPanic ?_
  refine wp_region_held_drew (S := fun w' => SHo w' g4v g5v g6v g7v g8v g9v g7 w.heap.size t1 t2 t3 s q4 q5 q6 q7 q8 q9 q p) (by kernel_rfl) S0 (fun hHeld => ?_)
  have HD : Hid (Below W9.heap.size W9 W9.drew) := hbd
  clear hbd
  generalize W9.drew = Wd at *
  refine wpAnyH_take (i := 0) (oi := ⟨some 67, .load 37 (.tmp 8), 37, _, _, none⟩) rfl (by kernel_rfl) (by kernel_rfl) (by kernel_rfl) (fun _ _ _ h => h) (yieldsIf_load_mid (by rfl) _ _ rfl g4v 0 rfl (svl t1 q4) _ (fun _ h => h.r1) Tryz.underlying37 rfl szS) (by assumption) ?_
  try simp only [Act.put, sqA, sqB, sqC]
  refine wpV 1 ⟨some 68, .move (.tmp 9), 40, _, _, none⟩ rfl ?_
  try simp only [Act.put, sqA, sqB, sqC]
  refine wpAnyH_take (i := 2) (oi := ⟨some 69, .load 26 (.tmp 10), 26, _, _, none⟩) rfl (by kernel_rfl) (by kernel_rfl) (by kernel_rfl) (fun _ _ _ h => h) (yieldsIf_load_mid (by rfl) _ _ rfl g5v 0 rfl (svl t1 q5) _ (fun _ h => h.r2) Tryz.underlying26 rfl szSr) (by assumption) ?_
  try simp only [Act.put, sqA, sqB, sqC]
  refine wpV 3 ⟨some 70, .move (.tmp 11), 3, _, _, none⟩ rfl ?_
  try simp only [Act.put, sqA, sqB, sqC]
  refine wpAnyH_ready (rs := [4]) (by kernel_rfl) (by simp) ?_
  refine (AllReadyH.cons (o := ⟨some 71, .call ⟨.value (.func 13), #[.tmp 67, .tmp 68, .tmp 69, .tmp 70], #[37, 40, 26, 3]⟩, 4, _, _, none⟩) rfl (fun K hK => ?_) AllReadyH.nil)
  go_simp
  refine (same_any t1 q4 q5 e1 Wd (HX9.out.below HD.out).gl (HR4.out _ HD.out).2 (HR5.out _ HD.out).2 HM1.out).mono ?_
  rintro e v0 ⟨rfl, hb⟩
  have HV0 : Hid (Below W9.heap.size W9 v0) := Below.transS HD.out hb
  clear hb
  have S1 := HSS.out v0 HV0.out
  refine hK.out _ _ S1 (fun _ => ?_)
  clear hK K
  try simp only [Act.put, sqA, sqB, sqC]
  refine wpV 5 ⟨some 72, .move (.tmp 71), 4, _, _, none⟩ rfl ?_
  try simp only [Act.put, sqA, sqB, sqC]
  refine wpAnyH_take (i := 6) (oi := ⟨some 73, .load 37 (.tmp 12), 37, _, _, some (5, true)⟩) rfl (by kernel_rfl) (by kernel_rfl) (by kernel_rfl) (fun _ _ _ h => h) (yieldsIf_load_mid (by rfl) _ _ rfl g6v 0 rfl (svl t2 q6) _ (fun _ h => h.r3) Tryz.underlying37 rfl szS) (by assumption) ?_
  try simp only [Act.put, sqA, sqB, sqC]
  refine wpV 7 ⟨some 74, .move (.tmp 13), 40, _, _, some (5, true)⟩ rfl ?_
  try simp only [Act.put, sqA, sqB, sqC]
  refine wpAnyH_take (i := 8) (oi := ⟨some 75, .load 26 (.tmp 14), 26, _, _, some (5, true)⟩) rfl (by kernel_rfl) (by kernel_rfl) (by kernel_rfl) (fun _ _ _ h => h) (yieldsIf_load_mid (by rfl) _ _ rfl g7v 0 rfl (svl t2 q7) _ (fun _ h => h.r4) Tryz.underlying26 rfl szSr) (by assumption) ?_
  try simp only [Act.put, sqA, sqB, sqC]
  refine wpV 9 ⟨some 76, .move (.tmp 15), 3, _, _, some (5, true)⟩ rfl ?_
  try simp only [Act.put, sqA, sqB, sqC]
  refine wpAnyH_ready (rs := [10]) (by kernel_rfl) (by simp) ?_
  refine (AllReadyH.cons (o := ⟨some 77, .call ⟨.value (.func 13), #[.tmp 73, .tmp 74, .tmp 75, .tmp 76], #[37, 40, 26, 3]⟩, 4, _, _, some (5, true)⟩) rfl (fun K hK => ?_) AllReadyH.nil)
  go_simp
  refine (same_any t2 q6 q7 e2 v0 (HX9.out.below HV0.out).gl (HR6.out _ HV0.out).2 (HR7.out _ HV0.out).2 HM2.out).mono ?_
  rintro e v1 ⟨rfl, hb⟩
  have HV1 : Hid (Below W9.heap.size W9 v1) := Below.transS HV0.out hb
  clear hb
  have S2 := HSS.out v1 HV1.out
  refine hK.out _ _ S2 (fun _ => ?_)
  clear hK K
  try simp only [Act.put, sqA, sqB, sqC]
  refine wpV 11 ⟨some 78, .pick (.tmp 72) (.tmp 77) (.const (.bool false)), 4, _, _, none⟩ rfl ?_
  try simp only [Act.put, sqA, sqB, sqC]
  refine wpV 12 ⟨some 79, .move (.tmp 78), 4, _, _, none⟩ rfl ?_
  try simp only [Act.put, sqA, sqB, sqC]
  refine wpAnyH_take (i := 13) (oi := ⟨some 80, .load 37 (.tmp 16), 37, _, _, some (12, true)⟩) rfl (by kernel_rfl) (by kernel_rfl) (by kernel_rfl) (fun _ _ _ h => h) (yieldsIf_load_mid (by rfl) _ _ rfl g8v 0 rfl (svl t3 q8) _ (fun _ h => h.r5) Tryz.underlying37 rfl szS) (by assumption) ?_
  try simp only [Act.put, sqA, sqB, sqC]
  refine wpV 14 ⟨some 81, .move (.tmp 17), 40, _, _, some (12, true)⟩ rfl ?_
  try simp only [Act.put, sqA, sqB, sqC]
  refine wpAnyH_take (i := 15) (oi := ⟨some 82, .load 26 (.tmp 18), 26, _, _, some (12, true)⟩) rfl (by kernel_rfl) (by kernel_rfl) (by kernel_rfl) (fun _ _ _ h => h) (yieldsIf_load_mid (by rfl) _ _ rfl g9v 0 rfl (svl t3 q9) _ (fun _ h => h.r6) Tryz.underlying26 rfl szSr) (by assumption) ?_
  try simp only [Act.put, sqA, sqB, sqC]
  refine wpV 16 ⟨some 83, .move (.tmp 19), 3, _, _, some (12, true)⟩ rfl ?_
  try simp only [Act.put, sqA, sqB, sqC]
  refine wpAnyH_ready (rs := [17]) (by kernel_rfl) (by simp) ?_
  refine (AllReadyH.cons (o := ⟨some 84, .call ⟨.value (.func 13), #[.tmp 80, .tmp 81, .tmp 82, .tmp 83], #[37, 40, 26, 3]⟩, 4, _, _, some (12, true)⟩) rfl (fun K hK => ?_) AllReadyH.nil)
  go_simp
  refine (same_any t3 q8 q9 e3 v1 (HX9.out.below HV1.out).gl (HR8.out _ HV1.out).2 (HR9.out _ HV1.out).2 HM3.out).mono ?_
  rintro e v2 ⟨rfl, hb⟩
  have HV2 : Hid (Below W9.heap.size W9 v2) := Below.transS HV1.out hb
  clear hb
  have S3 := HSS.out v2 HV2.out
  refine hK.out _ _ S3 (fun _ => ?_)
  clear hK K
  try simp only [Act.put, sqA, sqB, sqC]
  refine wpV 18 ⟨some 85, .pick (.tmp 79) (.tmp 84) (.const (.bool false)), 4, _, _, none⟩ rfl ?_
  try simp only [Act.put, sqA, sqB, sqC]
  refine wpV 19 ⟨some 86, .move (.tmp 85), 4, _, _, none⟩ rfl ?_
  try simp only [Act.put, sqA, sqB, sqC]
  refine wpAnyH_take (i := 20) (oi := ⟨some 87, .load 37 (.tmp 7), 37, _, _, some (19, true)⟩) rfl (by kernel_rfl) (by kernel_rfl) (by kernel_rfl) (fun _ _ _ h => h) (yieldsIf_load_mid (by rfl) _ _ rfl g7 0 rfl (svl s q) _ (fun _ h => h.r7) Tryz.underlying37 rfl szS) (by assumption) ?_
  try simp only [Act.put, sqA, sqB, sqC]
  refine wpAnyH_take (i := 23) (oi := ⟨some 90, .load 26 (.tmp 3), 26, _, _, some (19, true)⟩) rfl (by kernel_rfl) (by kernel_rfl) (by kernel_rfl) (fun _ _ _ h => h) (yieldsIf_load_mid (by rfl) _ _ rfl w.heap.size 0 rfl (svl s p) _ (fun _ h => h.r8) Tryz.underlying26 rfl szSr) (by assumption) ?_
  try simp only [Act.put, sqA, sqB, sqC]
  refine wpAnyH_ready (rs := [21]) (by kernel_rfl) (by simp) ?_
  refine (AllReadyH.cons (o := ⟨some 88, .call ⟨.value (.func 14), #[.tmp 87], #[37]⟩, 31, _, _, some (19, true)⟩) rfl (fun K hK => ?_) AllReadyH.nil)
  go_simp
  refine (encode_any s q v2 (HX9.out.below HV2.out).sq HM.out).mono ?_
  rintro e v3 ⟨ad, cap, rfl, hsl, hnil, hb⟩
  have HV3 : Hid (Below W9.heap.size W9 v3) := Below.transS HV2.out hb
  have HC3 : Hid (SlAt v3 ad (laidS s).length (fn (laidS s)) ∧ (ad = none → (laidS s).length = 0 ∧ cap = 0)) := ⟨hsl, hnil⟩
  clear hsl hnil hb
  obtain ⟨l, hl⟩ : ∃ l, laidS s = l := ⟨_, rfl⟩
  have HL : Hid (laidS s = l) := hl
  rw [hl] at HC3
  simp only [hl]
  clear hl
  refine hK.out _ _ (HSS.out v3 HV3.out) (fun _ => ?_)
  clear hK K
  try simp only [Act.put, sqA, sqB, sqC]
  have T3 : SHo v3 g4v g5v g6v g7v g8v g9v g7 w.heap.size t1 t2 t3 s q4 q5 q6 q7 q8 q9 q p ∧ (convert 31 9 (.slice ad l.length cap)).run Tryz.prog v3 = .ok (.string (strB (fn l) l.length)) v3 := ⟨HSS.out v3 HV3.out, conv_any ad _ cap _ v3 HC3.out.1 HC3.out.2⟩
  refine wpAnyH_more (S' := fun w' => SHo w' g4v g5v g6v g7v g8v g9v g7 w.heap.size t1 t2 t3 s q4 q5 q6 q7 q8 q9 q p ∧ (convert 31 9 (.slice ad l.length cap)).run Tryz.prog w' = .ok (.string (strB (fn l) l.length)) w') (fun _ h => h.1) _ _ _ _ ?_
  refine wpV 22 ⟨some 89, .convert 31 9 (.tmp 88), 9, _, _, some (19, true)⟩ rfl ?_
  try simp only [Act.put, sqA, sqB, sqC]
  refine wpAnyH_ready (rs := [24]) (by kernel_rfl) (by simp) ?_
  refine (AllReadyH.cons (o := ⟨some 91, .call ⟨.value (.func 15), #[.tmp 90], #[26]⟩, 31, _, _, some (19, true)⟩) rfl (fun K hK => ?_) AllReadyH.nil)
  go_simp
  refine (rencode_any s p v3 (HX9.out.below HV3.out).sp HM.out).mono ?_
  rintro e v4 ⟨x4, rfl, hO4⟩
  rw [HL.out] at hO4
  have HV4 : Hid (Below W9.heap.size W9 v4) := Below.transS HV3.out hO4.below
  have T4 : SHo v4 g4v g5v g6v g7v g8v g9v g7 w.heap.size t1 t2 t3 s q4 q5 q6 q7 q8 q9 q p ∧ (convert 31 9 (.slice ad l.length cap)).run Tryz.prog v4 = .ok (.string (strB (fn l) l.length)) v4 := ⟨HSS.out v4 HV4.out, conv_any ad _ cap _ v4 (HC3.out.1.below hO4.below) HC3.out.2⟩
  have hcv := conv_ow hO4
  have HB34 : Hid (Below v3.heap.size v3 v4) := hO4.below
  clear hO4 T3
  refine hK.out _ _ T4 (fun _ => ?_)
  clear hK K
  refine wpAnyH_ready (rs := [25]) (by kernel_rfl) (by simp) ?_
  refine (AllReadyH.cons (o := ⟨some 92, .convert 31 9 (.tmp 91), 9, _, _, some (19, true)⟩) rfl (fun K hK => ?_) AllReadyH.nil)
  go_simp
  refine hK.out _ _ T4 (fun _ => ?_)
  clear hK K hcv
  try simp only [Act.put, sqA, sqB, sqC]
  refine wpV 26 ⟨some 93, .binOp .eql 9 (.tmp 89) (.tmp 92) 9, 4, _, _, some (19, true)⟩ rfl ?_
  try simp only [Act.put, sqA, sqB, sqC]
  refine wpV 27 ⟨some 94, .pick (.tmp 86) (.tmp 93) (.const (.bool false)), 4, _, _, none⟩ rfl ?_
  try simp only [Act.put, sqA, sqB, sqC]
  refine wpV 28 ⟨some 95, .move (.tmp 94), 4, _, _, none⟩ rfl ?_
  try simp only [Act.put, sqA, sqB, sqC]
  refine wpAnyH_ready (rs := [29]) (by kernel_rfl) (by simp) ?_
  refine (AllReadyH.cons (o := ⟨some 96, .call ⟨.value (.func 5), #[], #[]⟩, 4, _, _, some (28, true)⟩) rfl (fun K hK => ?_) AllReadyH.nil)
  go_simp
  refine (sure_any v4).mono ?_
  rintro e v5 ⟨rfl, hb5⟩
  have HV5 : Hid (Below W9.heap.size W9 v5) := Below.transS HV4.out hb5
  have T5 : SHo v5 g4v g5v g6v g7v g8v g9v g7 w.heap.size t1 t2 t3 s q4 q5 q6 q7 q8 q9 q p ∧ (convert 31 9 (.slice ad l.length cap)).run Tryz.prog v5 = .ok (.string (strB (fn l) l.length)) v5 := ⟨HSS.out v5 HV5.out, conv_any ad _ cap _ v5 (HC3.out.1.below (Below.transS HB34.out hb5)) HC3.out.2⟩
  clear hb5
  refine hK.out _ _ T5 (fun _ => ?_)
  clear hK K
  try simp only [Act.put, sqA, sqB, sqC]
  refine wpV 30 ⟨some 97, .pick (.tmp 95) (.tmp 96) (.const (.bool false)), 4, _, _, none⟩ rfl ?_
  try simp only [Act.put, sqA, sqB, sqC]
  refine wpV 31 ⟨some 6, .assign (.tmp 97), 4, _, _, none⟩ rfl ?_
  try simp only [Act.put, sqA, sqB, sqC]
  refine wpAnyH_done (by kernel_rfl) (NoPanic.normal ?_) _
  try simp only [Act.put, sqA, sqB, sqC]
  have HE : Hid (Below w.heap.size w v5) := HX9.out.bw.trans (HV5.out.mono HX9.out.bw.size)
  clear hHeld S0 S1 S2 S3 T4 T5
  go_wp2
  go_ret
  exact ⟨rfl, HE.out⟩
end Go.Proofs.YtoefgfiabfkfaaaGreatDoor
/- StatePays: the walk, as the row asks for it; a state that came in has its payments at an address without a spot. -/
namespace Go.Proofs.YtoefgfiabfkfaaaGreatDoor
open Go.ChangeShapes Go.WideShapes Go.RowKit Go.ChangeAt

set_option maxRecDepth 20000 in
theorem pays_spot {W : World} {base : Nat} {s : Sv} {p : Pl} (h : Value.okWide Tryz.prog W .any base 26 (.agg (svv s p))) : ∀ a, p.pa = some a → ∃ bb off, a = ⟨bb, off, none⟩ := by
 simp only [Value.okWide, Tryz.underlying26] at h
 obtain ⟨cs, h1, _, ts, h2, _, h3⟩ := h
 obtain rfl : svv s p = cs := Value.agg.inj h1
 have e : ts = [3, 3, 3, 23, 24] := Option.some.inj (h2.symm.trans (show Tryz.prog.cellTypes Tryz.prog.depth 26 = some [3, 3, 3, 23, 24] by kernel_rfl))
 subst e
 intro a ha
 obtain ⟨u, hu, hc⟩ := h3 3 (.slice p.pa s.pn p.pc) rfl
 obtain rfl : 23 = u := Option.some.inj hu
 rw [ha] at hc
 simp only [Cell.okWide, Tryz.underlying23, Cell.ok, World.has] at hc
 obtain ⟨b, off, spot⟩ := a
 obtain ⟨_, _, _, hs, _⟩ := hc
 have hs' : spot = none := hs
 subst hs'
 exact ⟨b, off, rfl⟩
theorem pays_card (s : Sv) (p : Pl) (y : Py) (ad : Option Addr) (len cap : Nat) (z : Nat → Int) (w : World) (hg : Glob w) (hT : Tab w) (hS : StIn w s p) (_ : s.Ib) (hsp : ∀ a, p.pa = some a → ∃ bb off, a = ⟨bb, off, none⟩) (hz : Zb y.lk) (_ : Ib y.id ∧ Ib y.fr ∧ Ib y.am ∧ Ib y.af) (hcap : len ≤ cap) (hn : len ≤ 140737488351232) (hs : SlAt w ad len z) (hnil : ad = none → len = 0 ∧ cap = 0) :
  Calls Tryz.prog 3 #[.agg (svv s p), .agg (pyv y), .slice ad len cap] w fun e w' => e = .returned (.bool true) ∧ Below w.heap.size w w' := by
 have hl : ((List.range len).map z).length = len := by simp
 have hzz : ∀ j, j < len → z j = fn ((List.range len).map z) j := fun j hj => by
  rw [fn_get _ _ (by rw [hl]; exact hj)]
  simp
 have hL : SlAt w ad ((List.range len).map z).length (fn ((List.range len).map z)) := by rw [hl]; exact hs.congr hzz
 have hnb : (nb ((List.range len).map z)).length = len := by rw [nb_length, hl]
 have := pays_any s p y ad cap (nb ((List.range len).map z)) w hg hT hT.size hS hz (slB_of hL) (fun h => by rw [hnb]; exact (hnil h).1) (nb_lt hL.1) (by rw [hnb]; exact hcap) (by rw [hnb]; exact hn) hsp
 rw [hnb] at this
 exact this
end Go.Proofs.YtoefgfiabfkfaaaGreatDoor
