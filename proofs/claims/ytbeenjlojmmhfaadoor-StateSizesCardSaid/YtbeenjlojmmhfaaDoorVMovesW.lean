/- StateMoves: the walk. -/
import Derived.Test.YtbeenjlojmmhfaaDoorVSame
import Derived.Test.YtbeenjlojmmhfaaDoorVSure
import Derived.Test.YtbeenjlojmmhfaaDoorVGive
import Derived.Test.YtbeenjlojmmhfaaDoorVRMove
import Derived.Test.YtbeenjlojmmhfaaDoorVLong
namespace Go.Proofs.YtbeenjlojmmhfaaDoor
open Go.RowKit

/-- A state that came in. -/
structure StIn (w : World) (s : Sv) (p : Pl) : Prop where
  at_ : SvAt w s p
  pn : s.pn ≤ 140737488355328
  hn : s.hn ≤ 140737488355328
  ks : ∀ i, i < s.hn → (s.H i).n ≤ 140737488355328
set_option maxRecDepth 100000 in
set_option maxHeartbeats 3200000 in
theorem moves_any (s : Sv) (p : Pl) (f n : Int) (w : World) (hg : Glob w) (h : StIn w s p) :
    Calls Tryd.prog 3 #[.agg (svv s p), .int .i64 f, .int .i64 n] w fun e w' => e = .returned (.bool true) ∧ Below w.heap.size w w' := by
  have hb0 : Below w.heap.size w (w.alloc (.cells (svv s p) 26)) := (Below.refl _ w).alloc (Nat.le_refl _) _
  have hr0 := heap_alloc_new w (.cells (svv s p) 26)
  have hl := long_any s p _ (h.at_.below hb0) h.pn h.hn h.ks
  have HH : Hid (Glob w ∧ SvAt w s p) := ⟨hg, h.at_⟩
  clear hg h
  by_cases hlg : lngS s = true
  · rw [hlg] at hl
    unfold svv at hb0 hr0 hl ⊢
    go_enter Tryd.func3, Tryd.ntmps3
    go_wp2_with fail
    generalize w.alloc (.cells #[.int .i64 s.nu, .int .i64 s.a, .int .i64 s.b, .slice p.pa s.pn p.pc, .slice p.ha s.hn p.hc] 26) = W0 at *
    refine hl.mono ?_
    rintro e w1 ⟨rfl, hb1⟩
    clear hl hr0
    go_wp2_with fail
    refine (sure_any w1).mono ?_
    rintro e w2 ⟨rfl, hb2⟩
    have HE : Hid (Below w.heap.size w w2) := (hb0.trans (hb1.mono hb0.size)).trans (hb2.mono (by have := hb0.size; have := hb1.size; omega))
    clear hb0 hb1 hb2
    go_wp2
    go_ret
    exact ⟨rfl, HE.out⟩
  · have hlf : lngS s = false := by simpa using hlg
    rw [hlf] at hl
    have hsm := lngS_no hlf
    have HM : Hid ((moveF s f n).1.Small ∧ s.Small) := ⟨moveF_small hsm f n, hsm⟩
    clear hlg hlf hsm
    unfold svv at hb0 hr0 hl ⊢
    go_enter Tryd.func3, Tryd.ntmps3
    go_wp2_with fail
    generalize w.alloc (.cells #[.int .i64 s.nu, .int .i64 s.a, .int .i64 s.b, .slice p.pa s.pn p.pc, .slice p.ha s.hn p.hc] 26) = W0 at *
    refine hl.mono ?_
    rintro e w1 ⟨rfl, hb1⟩
    have HB1 : Hid (Below w.heap.size w w1) := hb0.trans (hb1.mono hb0.size)
    have k1 := hb1.block _ (lt_of_block hr0)
    rw [hr0] at k1
    have HK1 : Hid (w1.heap[w.heap.size]? = some (.cells #[.int .i64 s.nu, .int .i64 s.a, .int .i64 s.b, .slice p.pa s.pn p.pc, .slice p.ha s.hn p.hc] 26 (0, 0))) := k1
    obtain ⟨c0, c1, c2, c3, c4, _⟩ := five_of k1
    have hgv := give_any s p w1 (HH.out.2.below HB1.out) HM.out.2
    unfold svv at hgv
    clear hl hr0 hb0 hb1 k1
    go_wp2_with fail
    refine hgv.mono ?_
    rintro e w2 ⟨⟨q, A, rfl, hO⟩, hb2⟩
    have HB2 : Hid (Below w.heap.size w w2) := HB1.out.trans (hb2.mono HB1.out.size)
    have k2 := hb2.block _ (lt_of_block HK1.out)
    rw [HK1.out] at k2
    have hmv := move_any s q f n w2 hO.at HM.out.2
    unfold svv at hmv
    clear hgv hO hb2 c0 c1 c2 c3 c4 HK1 HB1
    obtain ⟨c0, c1, c2, c3, c4, _⟩ := five_of k2
    have HK2 : Hid (w2.heap[w.heap.size]? = some (.cells #[.int .i64 s.nu, .int .i64 s.a, .int .i64 s.b, .slice p.pa s.pn p.pc, .slice p.ha s.hn p.hc] 26 (0, 0))) := k2
    clear k2
    go_wp2_with fail
    refine hmv.mono ?_
    rintro e w3 ⟨q3, rfl, hA3, hb3⟩
    have hb3' : Below w2.heap.size w2 (w3.alloc (.cells (svv (moveF s f n).1 q3) 32)) := hb3.alloc hb3.size _
    have HB3 : Hid (Below w.heap.size w (w3.alloc (.cells (svv (moveF s f n).1 q3) 32))) := HB2.out.trans (hb3'.mono HB2.out.size)
    have hA3' := hA3.below ((Below.refl _ w3).alloc (Nat.le_refl _) (.cells (svv (moveF s f n).1 q3) 32))
    have k3 := hb3'.block _ (lt_of_block HK2.out)
    rw [HK2.out] at k3
    have x3 := heap_alloc_new w3 (.cells (svv (moveF s f n).1 q3) 32)
    obtain ⟨er, her⟩ : ∃ er, (moveF s f n).2 = er := ⟨_, rfl⟩
    obtain ⟨t, ht⟩ : ∃ t, (moveF s f n).1 = t := ⟨_, rfl⟩
    rw [ht] at hA3 hA3' hb3' HB3 k3 x3 HM
    have HER : Hid ((moveF s f n).2 = er ∧ (moveF s f n).1 = t) := ⟨her, ht⟩
    simp only [her, ht]
    clear hmv hA3 hb3 hb3' c0 c1 c2 c3 c4 HK2 HB2 her ht
    unfold svv at HB3 hA3' k3 x3
    obtain ⟨c0, c1, c2, c3, c4, _⟩ := five_of k3
    go_wp2_with fail
    generalize w3.alloc (.cells #[.int .i64 t.nu, .int .i64 t.a, .int .i64 t.b, .slice q3.pa t.pn q3.pc, .slice q3.ha t.hn q3.hc] 32) = W3 at *
    have hrm := rmove_any s p f n W3 (HH.out.2.below HB3.out) HM.out.2
    rw [HER.out.1, HER.out.2] at hrm
    unfold svv at hrm
    have HK3 : Hid (W3.heap[w3.heap.size]? = some (.cells #[.int .i64 t.nu, .int .i64 t.a, .int .i64 t.b, .slice q3.pa t.pn q3.pc, .slice q3.ha t.hn q3.hc] 32 (0, 0)) ∧ SvAt W3 t q3) := ⟨x3, hA3'⟩
    clear k3 x3 hA3' HER
    refine hrm.mono ?_
    rintro e w4 ⟨q4, rfl, hA4, hb4⟩
    have hb4' : Below W3.heap.size W3 (w4.alloc (.cells (svv t q4) 26)) := hb4.alloc hb4.size _
    have HB4 : Hid (Below w.heap.size w (w4.alloc (.cells (svv t q4) 26))) := HB3.out.trans (hb4'.mono HB3.out.size)
    have hA4' := hA4.below ((Below.refl _ w4).alloc (Nat.le_refl _) (.cells (svv t q4) 26))
    have hA3' := HK3.out.2.below hb4'
    have k4 := hb4'.block _ (lt_of_block HK3.out.1)
    rw [HK3.out.1] at k4
    have x4 := heap_alloc_new w4 (.cells (svv t q4) 26)
    clear hrm hA4 hb4 hb4' c0 c1 c2 c3 c4 HK3 HB3
    unfold svv at HB4 hA4' hA3' k4 x4
    obtain ⟨c0, c1, c2, c3, c4, _⟩ := five_of k4
    have HA : Hid _ := And.intro hA3' hA4'
    clear hA3' hA4' k4
    go_wp2_with fail
    generalize w4.alloc (.cells #[.int .i64 t.nu, .int .i64 t.a, .int .i64 t.b, .slice q4.pa t.pn q4.pc, .slice q4.ha t.hn q4.hc] 26) = W4 at *
    have hsa := same_any t q3 q4 er W4 (HH.out.1.belowA HB4.out) HA.out.1 HA.out.2 HM.out.1
    unfold svv at hsa
    clear c0 c1 c2 c3 c4 x4 HA
    refine hsa.mono ?_
    rintro e w5 ⟨rfl, hb5⟩
    have HB5 : Hid (Below w.heap.size w w5) := HB4.out.trans (hb5.mono HB4.out.size)
    clear hsa hb5 HB4
    go_wp2_with fail
    refine (sure_any w5).mono ?_
    rintro e w6 ⟨rfl, hb6⟩
    have HE : Hid (Below w.heap.size w w6) := HB5.out.trans (hb6.mono HB5.out.size)
    clear hb6 HB5
    go_wp2
    go_ret
    exact ⟨rfl, HE.out⟩
end Go.Proofs.YtbeenjlojmmhfaaDoor
