/- PagesRuns: whatever is done: what is told, and all pages. -/
import Derived.Test.YtnilgjlccfileaaDoorPRunsL
import Derived.Test.YtnilgjlccfileaaDoorPCrashW
import Derived.Deep.CutBlock
import Derived.Deep.DeepCutAuto
namespace Go.Proofs.YtnilgjlccfileaaDoor
open Go.RowKit

attribute [local go_sem ↓] Go.wp_at_zero Go.wp_at_succ

/-- Five cells of a block. -/
structure Five (w : World) (g : Nat) (a b c d e : Value) : Prop where
  c0 : w.cell? ⟨g, 0, none⟩ = some a
  c1 : w.cell? ⟨g, 1, none⟩ = some b
  c2 : w.cell? ⟨g, 2, none⟩ = some c
  c3 : w.cell? ⟨g, 3, none⟩ = some d
  c4 : w.cell? ⟨g, 4, none⟩ = some e
theorem five_of {w : World} {g : Nat} {t : TypeId} {a b c d e : Value} (h : w.heap[g]? = some (.cells #[a, b, c, d, e] t (0, 0))) : Five w g a b c d e :=
  ⟨by rw [cell_of_row _ _ 0 _ _ _ h]; rfl, by rw [cell_of_row _ _ 1 _ _ _ h]; rfl, by rw [cell_of_row _ _ 2 _ _ _ h]; rfl, by rw [cell_of_row _ _ 3 _ _ _ h]; rfl, by rw [cell_of_row _ _ 4 _ _ _ h]; rfl⟩
set_option maxRecDepth 100000 in
set_option maxHeartbeats 3200000 in
theorem runs_any (many : Int) (aa : Option Addr) (la ca : Nat) (X : Nat → Ac) (w : World) (hg : Glob w) (hla : la ≤ 9223372036854775807) (hX : AcAt w aa la X) :
    Calls Tryd.prog 3 #[.int .i64 many, .slice aa la ca] w fun e w' => e = .returned (.bool true) ∧ Below w.heap.size w w' := by
  have HG : Hid (∀ w', Below w.heap.size w w' → Glob w') := fun w' hb => hg.below hb hg.pos
  have HX : Hid (AcAt w aa la X) := hX
  clear hX
  go_enter Tryd.func3, Tryd.ntmps3
  go_wp2_with fail
  refine (nread w).mono ?_
  rintro e w0 ⟨rfl, hw0⟩
  rw [hw0]; clear hw0 w0
  go_wp2_with fail
  refine (nstart w).mono ?_
  rintro e w0 ⟨rfl, hw0⟩
  rw [hw0]; clear hw0 w0
  go_wp2_with fail
  refine (num_hit 1 w hg).mono ?_
  rintro e w1 ⟨rfl, hb1⟩
  go_wp2_with fail
  refine (nwrite w1).mono ?_
  rintro e w0 ⟨rfl, hw0⟩
  rw [hw0]; clear hw0 w0
  go_wp2_with fail
  refine (num_hit 1 w1 (HG.out w1 hb1)).mono ?_
  rintro e w2 ⟨rfl, hb2⟩
  have hB2 := Below.transS hb1 hb2
  clear hb2 hb1
  go_wp2_with fail
  refine (nsync w2).mono ?_
  rintro e w0 ⟨rfl, hw0⟩
  rw [hw0]; clear hw0 w0
  go_wp2_with fail
  refine (num_hit 1 w2 (HG.out w2 hB2)).mono ?_
  rintro e w3 ⟨rfl, hb3⟩
  have hB3 := Below.transS hB2 hb3
  clear hb3 hB2
  go_wp2_with fail
  refine (narm w3).mono ?_
  rintro e w0 ⟨rfl, hw0⟩
  rw [hw0]; clear hw0 w0
  go_wp2_with fail
  refine (num_hit 1 w3 (HG.out w3 hB3)).mono ?_
  rintro e w4 ⟨rfl, hb4⟩
  have hB4 := Below.transS hB3 hb4
  clear hb4 hB3
  go_wp2_with fail
  refine (npages w4).mono ?_
  rintro e w0 ⟨rfl, hw0⟩
  rw [hw0]; clear hw0 w0
  go_wp2_with fail
  refine (nloose w4).mono ?_
  rintro e w0 ⟨rfl, hw0⟩
  rw [hw0]; clear hw0 w0
  go_wp2_with fail
  refine (ndown w4).mono ?_
  rintro e w0 ⟨rfl, hw0⟩
  rw [hw0]; clear hw0 w0
  have hz4 := hB4.size
  by_cases hmv : 1 ≤ many ∧ many ≤ 4096
  · obtain ⟨n, rfl⟩ : ∃ n : Nat, many = n := ⟨many.toNat, by omega⟩
    go_wp2_with fail
    refine (new_st n (by omega) (by omega) w4).mono ?_
    rintro e w5 ⟨rfl, hS5, hb5⟩
    go_wp2_with fail
    refine (rnew_any n (by omega) (by omega) w5).mono ?_
    rintro e w6 ⟨pa, rfl, hR6, hpa, hb6⟩
    have hRI := ri_new hB4 hS5 hb5 hR6 hpa hb6 (by omega)
    clear hS5 hb5 hR6 hpa hb6
    go_wp2_with fail
    generalize w6.alloc (.cells #[.slice pa n n, .slice none 0 0, .int .i64 (-1), .bool false] 41) = w7 at *
    generalize w6.heap.size = c at *
    generalize w4.heap.size + 1 = p at *
    refine (num_nil w7).mono ?_
    rintro e w8 ⟨rfl, hb8⟩
    have hRI8 := hRI.below hb8
    have hB8 := hRI8.bel
    clear hRI hb8 hB4 hz4 w4 w5 w6 w7
    by_cases hbig : 100 < n
    · have hbigI : (100 : Int) < n := by omega
      have hsu := sure_any w8
      go_wp2_with fail
      refine hsu.mono ?_
      rintro e w9 ⟨rfl, hb9⟩
      have HE := hB8.trans (hb9.mono hB8.size)
      clear hsu
      go_wp2
      go_ret
      exact ⟨rfl, HE⟩
    have hbigI : ¬ (100 : Int) < n := by omega
    have hm : 1 ≤ n ∧ n ≤ 100 := by omega
    have HI0 : Hid (RI w c p n w8 0) := hRI8
    clear hRI8 hB8
    go_upto_block 0 with fail
    go_cut [] (fun wc => RI w c p n wc 40)
    case first =>
     go_wp2_with fail
     go_loopw [12, 13, 14, 15, 16, 17, 18, 19] (fun iv _ _ _ _ _ _ _ wr => ∃ i : Nat, i ≤ la ∧ i ≤ 40 ∧ iv = .int .i64 i ∧ RI w c p n wr i) (fun iv _ _ _ _ _ _ _ _ => 41 - (intOf iv).toNat)
     case atStart => exact ⟨0, by omega, by omega, rfl, HI0.out⟩
     case round =>
       clear HI0
       obtain ⟨i, hi, hi40, rfl, hI⟩ := hrel
       by_cases hlt : i < la ∧ i < 40
       · have hl1 : (i : Int) < la := by omega
         have hl2 : (i : Int) < 40 := by omega
         obtain ⟨b, off, rfl, hbw, hc⟩ := HX.out.cells (by omega)
         obtain ⟨c0, c1, c2, c3, c4⟩ := hc i hlt.1
         have hbel := hI.bel
         have k0 := (hbel.cell (p := ⟨b, off + i * 5, none⟩) hbw).trans c0
         have k1 := (hbel.cell (p := ⟨b, off + i * 5 + 1, none⟩) hbw).trans c1
         have k2 := (hbel.cell (p := ⟨b, off + i * 5 + 2, none⟩) hbw).trans c2
         have k3 : wr.cell? ⟨b, off + i * 5 + 3, none⟩ = some (.slice (X i).d.ad (X i).d.l.length (X i).d.cap) := (hbel.cell (p := ⟨b, off + i * 5 + 3, none⟩) hbw).trans c3
         have k4 := (hbel.cell (p := ⟨b, off + i * 5 + 4, none⟩) hbw).trans c4
         have HD : Hid (DtAt w (X i).d ∧ (IsL w (X i).ka (X i).ks ∧ (X i).ks.length * 8 ≤ 140737488355328 ∧ ((X i).ka = none → (X i).ks.length = 0 ∧ (X i).kc = 0)) ∧ ((-9223372036854775808 ≤ (X i).page ∧ (X i).page ≤ 9223372036854775807) ∧ (-9223372036854775808 ≤ (X i).n ∧ (X i).n ≤ 9223372036854775807))) := ⟨HX.out.data i hlt.1, HX.out.keep i hlt.1, HX.out.bds i hlt.1⟩
         generalize X i = x at *
         clear hc c0 c1 c2 c3 c4 hbw
         obtain ⟨q, hq7, hrem⟩ := rem_ix x.kind 7 (by omega) (by omega)
         obtain ⟨G, S, pa, pc, la2, lc2, R, hx0⟩ := hI
         have hvG : ¬ G wr.heap.size := fun g => by have := (hx0.fl.gB _ g).2.1; omega
         have hx := hx0.below ((Below.refl _ wr).alloc (Nat.le_refl _) (.cells #[.int .i64 x.kind, .int .i64 x.page, .int .i64 x.n, .slice x.d.ad x.d.l.length x.d.cap, .slice x.ka x.ks.length x.kc] 46))
         have hv : (wr.alloc (.cells #[.int .i64 x.kind, .int .i64 x.page, .int .i64 x.n, .slice x.d.ad x.d.l.length x.d.cap, .slice x.ka x.ks.length x.kc] 46)).heap[wr.heap.size]? = some (.cells #[.int .i64 x.kind, .int .i64 x.page, .int .i64 x.n, .slice x.d.ad x.d.l.length x.d.cap, .slice x.ka x.ks.length x.kc] 46 (0, 0)) := heap_alloc_new wr _
         clear hx0 hbel
         go_upto_block 2 with fail
         generalize wr.alloc (.cells #[.int .i64 x.kind, .int .i64 x.page, .int .i64 x.n, .slice x.d.ad x.d.l.length x.d.cap, .slice x.ka x.ks.length x.kc] 46) = wA at *
         generalize wr.heap.size = v at *
         have FV := five_of hv
         have v0 := FV.c0
         have v1 := FV.c1
         have v2 := FV.c2
         have v3 := FV.c3
         have v4 := FV.c4
         clear FV
         have hrem' : wrap64 ((IntKind.u64.wrap x.kind).tmod 7) = (q : Int) := hrem
         rw [hrem']
         clear hrem hrem'
         go_cut [13, 14] (fun xv yv wd => ∃ E : Int, xv = errV E ∧ yv = .int .i64 E ∧ RI w c p n wd (i + 1))
         case first =>
           clear v0
           by_cases h3 : q = 3
           · subst h3
             have hbr := br_sync hx (by omega) hm hv hvG
             clear hx
             go_wp2_with fail
             refine hbr.mono ?_
             rintro e w2 ⟨E, rfl, hbw2, qa, qn, qc, ra, rn, rc, rs, rd, hc2, hv2, hcall⟩
             clear hbr v1 v2 v3 v4
             have FC := four_of hc2
             have z0 := FC.c0
             have z1 := FC.c1
             have z2 := FC.c2
             have z3 := FC.c3
             have FV2 := five_of hv2
             have u1 := FV2.c1
             have u2 := FV2.c2
             have u3 := FV2.c3
             have u4 := FV2.c4
             clear FC FV2 hc2 hv2 hbw2
             go_wp2_with fail
             refine hcall.mono ?_
             rintro e w3 ⟨qa2, qn2, qc2, ra2, rn2, rc2, rs2, rd2, rfl, hc3, hRI3⟩
             have FD := four_of hc3
             have y0 := FD.c0
             have y1 := FD.c1
             have y2 := FD.c2
             have y3 := FD.c3
             have t0 := FD.f0
             have t1 := FD.f1
             have t2 := FD.f2
             have t3 := FD.f3
             unfold set4c at hRI3
             have HR3 : Hid (RI w c p n ((((w3.setCell ⟨c, 0, none⟩ (.slice qa2 qn2 qc2)).setCell ⟨c, 1, none⟩ (.slice ra2 rn2 rc2)).setCell ⟨c, 2, none⟩ (.int .i64 rs2)).setCell ⟨c, 3, none⟩ (.bool rd2)) (i + 1)) := hRI3
             clear hRI3 hc3 FD hcall z0 z1 z2 z3 u1 u2 u3 u4
             go_wp2_with fail
             go_meet
             exact ⟨E, rfl, rfl, HR3.out⟩
           · by_cases h4 : q = 4
             · subst h4
               have hbr := br_read hx (by omega) x.page
               clear hx
               go_wp2_with fail
               refine hbr.mono ?_
               rintro e w2 ⟨E, ad, cp, l, rfl, hsl, hsn, hb12, qa, qn, qc, ra, rn, rc, rs, rd, hc2, hRI2, hcall⟩
               have hv2 : w2.heap[v]? = _ := (hb12.block v (lt_of_block hv)).trans hv
               have FV2 := five_of hv2
               have u1 := FV2.c1
               clear FV2 hv2 v1 v2 v3 v4
               have FC := four_of hc2
               have z0 := FC.c0
               have z1 := FC.c1
               have z2 := FC.c2
               have z3 := FC.c3
               have HS2 : Hid (SlAt w2 ad l.length (fn l) ∧ (ad = none → l.length = 0 ∧ cp = 0) ∧ RI w c p n w2 i) := ⟨hsl, hsn, hRI2⟩
               clear hbr hsl hsn hb12 FC hc2 hRI2
               go_wp2_with fail
               refine hcall.mono ?_
               rintro e w3 ⟨x9, hxl, hxd, rfl, hb3⟩
               subst hxl
               have hRI3 := HS2.out.2.2.below hb3
               have hB3 := hRI3.bel
               have hsl3 : SlAt w3 ad x9.l.length (fn x9.l) := HS2.out.1.block fun b off hn e => hb3.block b (HS2.out.1.lt hn e)
               have cv1 := conv_any ad x9.l.length cp (fn x9.l) w3 hsl3 HS2.out.2.1
               have hxd3 := hxd.below hB3
               have cv2 := conv_any x9.ad x9.l.length x9.cap (fn x9.l) w3 hxd3.lies hxd3.nil
               have hnum := num_any E w3 (HG.out w3 hB3)
               have HR3 : Hid (RI w c p n w3 i) := hRI3
               clear hcall hb3 hRI3 hB3 hsl3 hxd hxd3 HS2 z0 z1 z2 z3
               go_wp2_with fail
               refine hnum.mono ?_
               rintro e w4 ⟨rfl, hb4⟩
               have HR4 : Hid (RI w c p n w4 i) := HR3.out.below hb4
               clear hnum hb4 HR3 cv1 cv2
               go_wp2_with fail
               go_meet
               exact ⟨0, rfl, rfl, HR4.out.mono (by omega)⟩
             · by_cases h5 : q = 5
               · subst h5
                 have hbr := br_arm hx hv hvG x.n HD.out.2.2.2
                 clear hx
                 go_wp2_with fail
                 refine hbr.mono ?_
                 rintro e w2 ⟨E, rfl, hbw2, qa, qn, qc, ra, rn, rc, rs, rd, hc2, hv2, hcall⟩
                 clear hbr v1 v2 v3 v4
                 have FC := four_of hc2
                 have z0 := FC.c0
                 have z1 := FC.c1
                 have z2 := FC.c2
                 have z3 := FC.c3
                 have FV2 := five_of hv2
                 have u1 := FV2.c1
                 have u2 := FV2.c2
                 have u3 := FV2.c3
                 have u4 := FV2.c4
                 clear FC FV2 hc2 hv2 hbw2
                 go_wp2_with fail
                 refine hcall.mono ?_
                 rintro e w3 ⟨qa2, qn2, qc2, ra2, rn2, rc2, rs2, rd2, rfl, hc3, hRI3⟩
                 have FD := four_of hc3
                 have y0 := FD.c0
                 have y1 := FD.c1
                 have y2 := FD.c2
                 have y3 := FD.c3
                 have t0 := FD.f0
                 have t1 := FD.f1
                 have t2 := FD.f2
                 have t3 := FD.f3
                 unfold set4c at hRI3
                 have HR3 : Hid (RI w c p n ((((w3.setCell ⟨c, 0, none⟩ (.slice qa2 qn2 qc2)).setCell ⟨c, 1, none⟩ (.slice ra2 rn2 rc2)).setCell ⟨c, 2, none⟩ (.int .i64 rs2)).setCell ⟨c, 3, none⟩ (.bool rd2)) (i + 1)) := hRI3
                 clear hRI3 hc3 FD hcall z0 z1 z2 z3 u1 u2 u3 u4
                 go_wp2_with fail
                 go_meet
                 exact ⟨E, rfl, rfl, HR3.out⟩
               · by_cases h6 : q = 6
                 · subst h6
                   have hbelA := hx.fl.bel
                   have hkI := HD.out.2.1.1.keep (w' := wA) fun a e hn => hbelA.block _ (HD.out.2.1.1.lt e hn)
                   have how := ownI_any x.ka x.kc x.ks wA hkI HD.out.2.1.2.2 HD.out.2.1.2.1
                   have HXX : Hid (RIx w c p n G S pa pc la2 lc2 R wA i ∧ wA.heap[v]? = some (.cells #[.int .i64 x.kind, .int .i64 x.page, .int .i64 x.n, .slice x.d.ad x.d.l.length x.d.cap, .slice x.ka x.ks.length x.kc] 46 (0, 0))) := ⟨hx, hv⟩
                   clear hx hbelA hkI
                   go_wp2_with fail
                   refine how.mono ?_
                   rintro e w1 ⟨oa, oc, rfl, hoI, hob⟩
                   have hv1 : w1.heap[v]? = _ := (hob.block v (lt_of_block HXX.out.2)).trans HXX.out.2
                   have hbr := br_start (HXX.out.1.below hob) (by omega) hm hv1 hvG oa oc x.ks hoI x.ka x.kc HD.out.2.1.1 (by have := HD.out.2.1.2.1; omega)
                   clear how hob hoI HXX hv1 hv
                   go_wp2_with fail
                   refine hbr.mono ?_
                   rintro e w2 ⟨rfl, hbw2, qa, qn, qc, ra, rn, rc, rs, rd, hc2, hv2, hcall⟩
                   clear hbr v1 v2 v3 v4
                   have FC := four_of hc2
                   have z0 := FC.c0
                   have z1 := FC.c1
                   have z2 := FC.c2
                   have z3 := FC.c3
                   have FV2 := five_of hv2
                   have u1 := FV2.c1
                   have u2 := FV2.c2
                   have u3 := FV2.c3
                   have u4 := FV2.c4
                   clear FC FV2 hc2 hv2 hbw2
                   go_wp2_with fail
                   refine hcall.mono ?_
                   rintro e w3 ⟨qa2, qn2, qc2, ra2, rn2, rc2, rs2, rd2, rfl, hc3, hRI3⟩
                   have FD := four_of hc3
                   have y0 := FD.c0
                   have y1 := FD.c1
                   have y2 := FD.c2
                   have y3 := FD.c3
                   have t0 := FD.f0
                   have t1 := FD.f1
                   have t2 := FD.f2
                   have t3 := FD.f3
                   unfold set4c at hRI3
                   have HR3 : Hid (RI w c p n ((((w3.setCell ⟨c, 0, none⟩ (.slice qa2 qn2 qc2)).setCell ⟨c, 1, none⟩ (.slice ra2 rn2 rc2)).setCell ⟨c, 2, none⟩ (.int .i64 rs2)).setCell ⟨c, 3, none⟩ (.bool rd2)) (i + 1)) := hRI3
                   clear hRI3 hc3 FD hcall z0 z1 z2 z3 u1 u2 u3 u4
                   go_wp2_with fail
                   go_meet
                   exact ⟨0, rfl, rfl, HR3.out⟩
                 · have e3 : ((q : Int) == 3) = false := by simp; omega
                   have e4 : ((q : Int) == 4) = false := by simp; omega
                   have e5 : ((q : Int) == 5) = false := by simp; omega
                   have e6 : ((q : Int) == 6) = false := by simp; omega
                   have hbr := br_write hx (by omega) hm hv hvG x.page x.d HD.out.1
                   clear hx
                   go_wp2_with fail
                   refine hbr.mono ?_
                   rintro e w2 ⟨E, rfl, hbw2, qa, qn, qc, ra, rn, rc, rs, rd, hc2, hv2, hcall⟩
                   clear hbr v1 v2 v3 v4
                   have FC := four_of hc2
                   have z0 := FC.c0
                   have z1 := FC.c1
                   have z2 := FC.c2
                   have z3 := FC.c3
                   have FV2 := five_of hv2
                   have u1 := FV2.c1
                   have u2 := FV2.c2
                   have u3 := FV2.c3
                   have u4 := FV2.c4
                   clear FC FV2 hc2 hv2 hbw2
                   go_wp2_with fail
                   refine hcall.mono ?_
                   rintro e w3 ⟨qa2, qn2, qc2, ra2, rn2, rc2, rs2, rd2, rfl, hc3, hRI3⟩
                   have FD := four_of hc3
                   have y0 := FD.c0
                   have y1 := FD.c1
                   have y2 := FD.c2
                   have y3 := FD.c3
                   have t0 := FD.f0
                   have t1 := FD.f1
                   have t2 := FD.f2
                   have t3 := FD.f3
                   unfold set4c at hRI3
                   have HR3 : Hid (RI w c p n ((((w3.setCell ⟨c, 0, none⟩ (.slice qa2 qn2 qc2)).setCell ⟨c, 1, none⟩ (.slice ra2 rn2 rc2)).setCell ⟨c, 2, none⟩ (.int .i64 rs2)).setCell ⟨c, 3, none⟩ (.bool rd2)) (i + 1)) := hRI3
                   clear hRI3 hc3 FD hcall z0 z1 z2 z3 u1 u2 u3 u4
                   go_wp2_with fail
                   go_meet
                   exact ⟨E, rfl, rfl, HR3.out⟩
         case rest =>
         clear v0 v1 v2 v3 v4 hx hv
         obtain ⟨E, rfl, rfl, hRI⟩ := hcut
         have hbc := hRI.bel
         obtain ⟨qa, qn, qc, ra, rn, rc, rs, rd, hcc, hLoo, hDow, _⟩ := hRI.cell
         have FC := four_of hcc
         have hnum := num_any E wc.drew (HG.out _ hbc.drew)
         have kC : ∀ w', Below wc.heap.size wc w' → w'.cell? ⟨c, 1, none⟩ = some (.slice ra rn rc) ∧ w'.cell? ⟨c, 3, none⟩ = some (.bool rd) := fun w' hb =>
           ⟨(hb.cell (p := ⟨c, 1, none⟩) (lt_of_block hcc)).trans FC.c1, (hb.cell (p := ⟨c, 3, none⟩) (lt_of_block hcc)).trans FC.c3⟩
         have KC : Hid (∀ w', Below wc.heap.size wc w' → w'.cell? ⟨c, 1, none⟩ = some (.slice ra rn rc) ∧ w'.cell? ⟨c, 3, none⟩ = some (.bool rd)) := kC
         have HRI : Hid (RI w c p n wc (i + 1)) := hRI
         have HLoo : Hid (∀ w', Below wc.heap.size wc w' → Calls Tryd.prog 12 #[.pointer (some ⟨p, 0, none⟩)] w' (fun e w2 => e = .returned (.int .i64 rn) ∧ w2 = w')) := hLoo
         have HDow : Hid (∀ w', Below wc.heap.size wc w' → Calls Tryd.prog 13 #[.pointer (some ⟨p, 0, none⟩)] w' (fun e w2 => e = .returned (.bool rd) ∧ w2 = w')) := hDow
         clear hRI hbc hcc FC kC hLoo hDow
         go_wp2_with fail
         refine wp_region_noPanic ?_
         refine wp_region_held_drew (S := fun w' => w'.cell? ⟨c, 1, none⟩ = some (.slice ra rn rc) ∧ w'.cell? ⟨c, 3, none⟩ = some (.bool rd)) (by kernel_rfl) (KC.out _ (Below.refl _ _).drew) (fun hHeld => ?_)
         refine wpAnyH_take (i := 0) (oi := { dst := some 187, op := Go.Op.move (Go.Operand.tmp 13), type := 26, pos := "law.go:87", after := #[], guard := none }) (v := ?_) rfl (by kernel_rfl) (by kernel_rfl) (by kernel_rfl) (fun _ _ _ h => h) (Or.inl ⟨by rfl, ?_⟩) (by assumption) ?_
         rotate_left
         · intro wz hSw; (try dsimp only at hSw); go_simp; (try with_reducible rfl)
         try simp only [Act.put, List.setIfInBounds_toArray, List.set_cons_zero, List.set_cons_succ]
         refine wpAnyH_take (i := 2) (oi := { dst := some 189, op := Go.Op.move (Go.Operand.tmp 14), type := 3, pos := "law.go:87", after := #[], guard := none }) (v := ?_) rfl (by kernel_rfl) (by kernel_rfl) (by kernel_rfl) (fun _ _ _ h => h) (Or.inl ⟨by rfl, ?_⟩) (by assumption) ?_
         rotate_left
         · intro wz hSw; (try dsimp only at hSw); go_simp; (try with_reducible rfl)
         try simp only [Act.put, List.setIfInBounds_toArray, List.set_cons_zero, List.set_cons_succ]
         refine wpAnyH_ready (rs := [1]) (by kernel_rfl) (by simp) ?_
         refine (AllReadyH.cons (o := { dst := some 188, op := Go.Op.call { callee := Go.Callee.value (Go.Operand.func 7), args := #[Go.Operand.tmp 187], argTypes := #[26] }, type := 3, pos := "law.go:87", after := #[{ on := 0, ground := Go.Ground.data }], guard := none }) rfl (fun K hK => ?_) AllReadyH.nil)
         go_simp
         refine hnum.mono ?_
         rintro e w2 ⟨rfl, hb2⟩
         have hb2' : Below wc.heap.size wc w2 := ((Below.refl _ wc).drew).trans hb2
         refine hK.out _ _ (KC.out _ hb2') (fun _ => ?_)
         clear hK K hnum hb2
         try simp only [Act.put, List.setIfInBounds_toArray, List.set_cons_zero, List.set_cons_succ]
         refine wpAnyH_take (i := 3) (oi := { dst := some 190, op := Go.Op.binOp Go.BinOp.neq 3 (Go.Operand.tmp 188) (Go.Operand.tmp 189) 3, type := 4, pos := "law.go:87", after := #[{ on := 1, ground := Go.Ground.data }, { on := 2, ground := Go.Ground.data }], guard := none }) (v := ?_) rfl (by kernel_rfl) (by kernel_rfl) (by kernel_rfl) (fun _ _ _ h => h) (Or.inl ⟨by rfl, ?_⟩) (by assumption) ?_
         rotate_left
         · intro wz hSw; (try dsimp only at hSw); go_simp; (try with_reducible rfl)
         try simp only [Act.put, List.setIfInBounds_toArray, List.set_cons_zero, List.set_cons_succ]
         refine wpAnyH_take (i := 4) (oi := { dst := some 191, op := Go.Op.move (Go.Operand.tmp 190), type := 4, pos := "law.go:87", after := #[{ on := 3, ground := Go.Ground.data }, { on := 1, ground := Go.Ground.chain }], guard := none }) (v := ?_) rfl (by kernel_rfl) (by kernel_rfl) (by kernel_rfl) (fun _ _ _ h => h) (Or.inl ⟨by rfl, ?_⟩) (by assumption) ?_
         rotate_left
         · intro wz hSw; (try dsimp only at hSw); go_simp; (try with_reducible rfl)
         try simp only [Act.put, List.setIfInBounds_toArray, List.set_cons_zero, List.set_cons_succ]
         refine wpAnyH_take (i := 5) (oi := { dst := some 192, op := Go.Op.move (Go.Operand.tmp 8), type := 23, pos := "law.go:87", after := #[{ on := 4, ground := Go.Ground.guard }], guard := some (4, false) }) (v := ?_) rfl (by kernel_rfl) (by kernel_rfl) (by kernel_rfl) (fun _ _ _ h => h) (Or.inl ⟨by rfl, ?_⟩) (by assumption) ?_
         rotate_left
         · intro wz hSw; (try dsimp only at hSw); go_simp; (try with_reducible rfl)
         try simp only [Act.put, List.setIfInBounds_toArray, List.set_cons_zero, List.set_cons_succ]
         refine wpAnyH_take (i := 7) (oi := { dst := some 194, op := Go.Op.fieldAddr 41 (Go.Operand.tmp 10) 1, type := 0, pos := "law.go:87", after := #[{ on := 4, ground := Go.Ground.guard }], guard := some (4, false) }) (v := ?_) rfl (by kernel_rfl) (by kernel_rfl) (by kernel_rfl) (fun _ _ _ h => h) (Or.inl ⟨by rfl, ?_⟩) (by assumption) ?_
         rotate_left
         · intro wz hSw; (try dsimp only at hSw); go_simp; (try with_reducible rfl)
         try simp only [Act.put, List.setIfInBounds_toArray, List.set_cons_zero, List.set_cons_succ]
         refine wpAnyH_take (i := 8) (oi := { dst := some 195, op := Go.Op.load 39 (Go.Operand.tmp 194), type := 39, pos := "law.go:87", after := #[{ on := 7, ground := Go.Ground.data }, { on := 4, ground := Go.Ground.guard }], guard := some (4, false) }) (v := ?_) rfl (by kernel_rfl) (by kernel_rfl) (by kernel_rfl) (fun _ _ _ h => h) (Or.inl ⟨by rfl, ?_⟩) (by assumption) ?_
         rotate_left
         · intro wz hSw; (try dsimp only at hSw); go_simp; (try with_reducible rfl)
         try simp only [Act.put, List.setIfInBounds_toArray, List.set_cons_zero, List.set_cons_succ]
         refine wpAnyH_take (i := 9) (oi := { dst := some 196, op := Go.Op.call { callee := Go.Callee.builtin Go.Builtin.len, args := #[Go.Operand.tmp 195], argTypes := #[39] }, type := 3, pos := "law.go:87", after := #[{ on := 8, ground := Go.Ground.data }, { on := 4, ground := Go.Ground.guard }], guard := some (4, false) }) (v := ?_) rfl (by kernel_rfl) (by kernel_rfl) (by kernel_rfl) (fun _ _ _ h => h) (Or.inl ⟨by rfl, ?_⟩) (by assumption) ?_
         rotate_left
         · intro wz hSw; (try dsimp only at hSw); go_simp; (try with_reducible rfl)
         try simp only [Act.put, List.setIfInBounds_toArray, List.set_cons_zero, List.set_cons_succ]
         refine wpAnyH_ready (rs := [6]) (by kernel_rfl) (by simp) ?_
         refine (AllReadyH.cons (o := { dst := some 193, op := Go.Op.call { callee := Go.Callee.value (Go.Operand.func 12), args := #[Go.Operand.tmp 192], argTypes := #[23] }, type := 3, pos := "law.go:87", after := #[{ on := 5, ground := Go.Ground.data }, { on := 4, ground := Go.Ground.chain }, { on := 4, ground := Go.Ground.guard }], guard := some (4, false) }) rfl (fun K hK => ?_) AllReadyH.nil)
         go_simp
         refine (HLoo.out w2 hb2').mono ?_
         rintro e w0 ⟨rfl, hw0⟩
         rw [hw0]
         clear hw0 w0
         refine hK.out _ _ (KC.out _ hb2') (fun _ => ?_)
         clear hK K
         try simp only [Act.put, List.setIfInBounds_toArray, List.set_cons_zero, List.set_cons_succ]
         refine wpAnyH_take (i := 10) (oi := { dst := some 197, op := Go.Op.binOp Go.BinOp.neq 3 (Go.Operand.tmp 193) (Go.Operand.tmp 196) 3, type := 4, pos := "law.go:87", after := #[{ on := 6, ground := Go.Ground.data }, { on := 9, ground := Go.Ground.data }, { on := 4, ground := Go.Ground.guard }], guard := some (4, false) }) (v := ?_) rfl (by kernel_rfl) (by kernel_rfl) (by kernel_rfl) (fun _ _ _ h => h) (Or.inl ⟨by rfl, ?_⟩) (by assumption) ?_
         rotate_left
         · intro wz hSw; (try dsimp only at hSw); go_simp; (try with_reducible rfl)
         try simp only [Act.put, List.setIfInBounds_toArray, List.set_cons_zero, List.set_cons_succ]
         refine wpAnyH_take (i := 11) (oi := { dst := some 198, op := Go.Op.pick (Go.Operand.tmp 191) (Go.Operand.const (Go.Value.bool true)) (Go.Operand.tmp 197), type := 4, pos := "law.go:87", after := #[{ on := 4, ground := Go.Ground.data }, { on := 10, ground := Go.Ground.data }], guard := none }) (v := ?_) rfl (by kernel_rfl) (by kernel_rfl) (by kernel_rfl) (fun _ _ _ h => h) (Or.inl ⟨by rfl, ?_⟩) (by assumption) ?_
         rotate_left
         · intro wz hSw; (try dsimp only at hSw); go_simp; (try with_reducible rfl)
         try simp only [Act.put, List.setIfInBounds_toArray, List.set_cons_zero, List.set_cons_succ]
         refine wpAnyH_take (i := 12) (oi := { dst := some 199, op := Go.Op.move (Go.Operand.tmp 198), type := 4, pos := "law.go:87", after := #[{ on := 11, ground := Go.Ground.data }, { on := 6, ground := Go.Ground.chain }], guard := none }) (v := ?_) rfl (by kernel_rfl) (by kernel_rfl) (by kernel_rfl) (fun _ _ _ h => h) (Or.inl ⟨by rfl, ?_⟩) (by assumption) ?_
         rotate_left
         · intro wz hSw; (try dsimp only at hSw); go_simp; (try with_reducible rfl)
         try simp only [Act.put, List.setIfInBounds_toArray, List.set_cons_zero, List.set_cons_succ]
         refine wpAnyH_take (i := 13) (oi := { dst := some 200, op := Go.Op.move (Go.Operand.tmp 8), type := 23, pos := "law.go:87", after := #[{ on := 12, ground := Go.Ground.guard }], guard := some (12, false) }) (v := ?_) rfl (by kernel_rfl) (by kernel_rfl) (by kernel_rfl) (fun _ _ _ h => h) (Or.inl ⟨by rfl, ?_⟩) (by assumption) ?_
         rotate_left
         · intro wz hSw; (try dsimp only at hSw); go_simp; (try with_reducible rfl)
         try simp only [Act.put, List.setIfInBounds_toArray, List.set_cons_zero, List.set_cons_succ]
         refine wpAnyH_take (i := 15) (oi := { dst := some 202, op := Go.Op.fieldAddr 41 (Go.Operand.tmp 10) 3, type := 0, pos := "law.go:87", after := #[{ on := 12, ground := Go.Ground.guard }], guard := some (12, false) }) (v := ?_) rfl (by kernel_rfl) (by kernel_rfl) (by kernel_rfl) (fun _ _ _ h => h) (Or.inl ⟨by rfl, ?_⟩) (by assumption) ?_
         rotate_left
         · intro wz hSw; (try dsimp only at hSw); go_simp; (try with_reducible rfl)
         try simp only [Act.put, List.setIfInBounds_toArray, List.set_cons_zero, List.set_cons_succ]
         refine wpAnyH_take (i := 16) (oi := { dst := some 203, op := Go.Op.load 4 (Go.Operand.tmp 202), type := 4, pos := "law.go:87", after := #[{ on := 15, ground := Go.Ground.data }, { on := 12, ground := Go.Ground.guard }], guard := some (12, false) }) (v := ?_) rfl (by kernel_rfl) (by kernel_rfl) (by kernel_rfl) (fun _ _ _ h => h) (Or.inl ⟨by rfl, ?_⟩) (by assumption) ?_
         rotate_left
         · intro wz hSw; (try dsimp only at hSw); go_simp; (try with_reducible rfl)
         try simp only [Act.put, List.setIfInBounds_toArray, List.set_cons_zero, List.set_cons_succ]
         refine wpAnyH_ready (rs := [14]) (by kernel_rfl) (by simp) ?_
         refine (AllReadyH.cons (o := { dst := some 201, op := Go.Op.call { callee := Go.Callee.value (Go.Operand.func 13), args := #[Go.Operand.tmp 200], argTypes := #[23] }, type := 4, pos := "law.go:87", after := #[{ on := 13, ground := Go.Ground.data }, { on := 12, ground := Go.Ground.chain }, { on := 12, ground := Go.Ground.guard }], guard := some (12, false) }) rfl (fun K hK => ?_) AllReadyH.nil)
         go_simp
         refine (HDow.out w2 hb2').mono ?_
         rintro e w0 ⟨rfl, hw0⟩
         rw [hw0]
         clear hw0 w0
         refine hK.out _ _ (KC.out _ hb2') (fun _ => ?_)
         clear hK K
         try simp only [Act.put, List.setIfInBounds_toArray, List.set_cons_zero, List.set_cons_succ]
         refine wpAnyH_take (i := 17) (oi := { dst := some 204, op := Go.Op.binOp Go.BinOp.neq 4 (Go.Operand.tmp 201) (Go.Operand.tmp 203) 4, type := 4, pos := "law.go:87", after := #[{ on := 14, ground := Go.Ground.data }, { on := 16, ground := Go.Ground.data }, { on := 12, ground := Go.Ground.guard }], guard := some (12, false) }) (v := ?_) rfl (by kernel_rfl) (by kernel_rfl) (by kernel_rfl) (fun _ _ _ h => h) (Or.inl ⟨by rfl, ?_⟩) (by assumption) ?_
         rotate_left
         · intro wz hSw; (try dsimp only at hSw); go_simp; (try with_reducible rfl)
         try simp only [Act.put, List.setIfInBounds_toArray, List.set_cons_zero, List.set_cons_succ]
         refine wpAnyH_take (i := 18) (oi := { dst := some 205, op := Go.Op.pick (Go.Operand.tmp 199) (Go.Operand.const (Go.Value.bool true)) (Go.Operand.tmp 204), type := 4, pos := "law.go:87", after := #[{ on := 12, ground := Go.Ground.data }, { on := 17, ground := Go.Ground.data }], guard := none }) (v := ?_) rfl (by kernel_rfl) (by kernel_rfl) (by kernel_rfl) (fun _ _ _ h => h) (Or.inl ⟨by rfl, ?_⟩) (by assumption) ?_
         rotate_left
         · intro wz hSw; (try dsimp only at hSw); go_simp; (try with_reducible rfl)
         try simp only [Act.put, List.setIfInBounds_toArray, List.set_cons_zero, List.set_cons_succ]
         refine wpAnyH_done (by kernel_rfl) (NoPanic.normal ?_) _
         try simp only [Act.put, List.setIfInBounds_toArray, List.set_cons_zero, List.set_cons_succ]
         have HN : Hid (RI w c p n w2 (i + 1)) := HRI.out.below hb2'
         clear HRI KC HLoo HDow hb2' hHeld
         go_wp2_with fail
         go_roundw
         case rel => exact ⟨i + 1, by omega, by omega, by go_num, HN.out⟩
         case measure => simp [intOf]; omega
       · have HE : Hid (RI w c p n wr 40) := hI.mono (by omega)
         clear hI
         by_cases h1 : i < la
         · have h1' : (i : Int) < la := by omega
           have h2' : (40 : Int) ≤ i := by omega
           go_wp2_with fail
           go_meet
           exact HE.out
         · have h1' : (la : Int) ≤ i := by omega
           go_wp2_with fail
           go_meet
           exact HE.out
    case rest =>
    clear HI0
    have HC0 : Hid (RI w c p n wc 40) := hcut
    clear hcut
    go_upto_block 3 with fail
    go_cut [] (fun wd => RI w c p n wd 40)
    case first =>
     go_wp2_with fail
     go_loopw [20, 21, 22, 23, 24] (fun iv _ _ _ _ wr => ∃ i : Nat, i ≤ n ∧ iv = .int .i64 i ∧ RI w c p n wr 40) (fun iv _ _ _ _ _ => n + 1 - (intOf iv).toNat)
     case atStart => exact ⟨0, by omega, rfl, HC0.out⟩
     case round =>
       clear HC0
       obtain ⟨i, hi, rfl, hI⟩ := hrel
       by_cases hlt : i < n
       · have hl1 : (i : Int) < n := by omega
         obtain ⟨G, S, pa, pc, la2, lc2, R, hx⟩ := hI
         have hbr := br_read hx (by omega) i
         clear hx
         go_wp2_with fail
         refine hbr.mono ?_
         rintro e w2 ⟨E, ad, cp, l, rfl, hsl, hsn, hb12, qa, qn, qc, ra, rn, rc, rs, rd, hc2, hRI2, hcall⟩
         have FC := four_of hc2
         have z0 := FC.c0
         have z1 := FC.c1
         have z2 := FC.c2
         have z3 := FC.c3
         have HS2 : Hid (SlAt w2 ad l.length (fn l) ∧ (ad = none → l.length = 0 ∧ cp = 0) ∧ RI w c p n w2 40) := ⟨hsl, hsn, hRI2⟩
         clear hbr hsl hsn hb12 FC hc2 hRI2
         go_wp2_with fail
         refine hcall.mono ?_
         rintro e w3 ⟨x9, hxl, hxd, rfl, hb3⟩
         subst hxl
         have hRI3 := HS2.out.2.2.below hb3
         have hB3 := hRI3.bel
         have hsl3 : SlAt w3 ad x9.l.length (fn x9.l) := HS2.out.1.block fun b off hn e => hb3.block b (HS2.out.1.lt hn e)
         have cv1 := conv_any ad x9.l.length cp (fn x9.l) w3 hsl3 HS2.out.2.1
         have hxd3 := hxd.below hB3
         have cv2 := conv_any x9.ad x9.l.length x9.cap (fn x9.l) w3 hxd3.lies hxd3.nil
         have hnum := num_any E w3 (HG.out w3 hB3)
         have HR3 : Hid (RI w c p n w3 40) := hRI3
         clear hcall hb3 hRI3 hB3 hsl3 hxd hxd3 HS2 z0 z1 z2 z3
         go_wp2_with fail
         refine hnum.mono ?_
         rintro e w4 ⟨rfl, hb4⟩
         have HR4 : Hid (RI w c p n w4 40) := HR3.out.below hb4
         clear hnum hb4 HR3 cv1 cv2
         go_wp2_with fail
         go_roundw
         case rel => exact ⟨i + 1, by omega, by go_num, HR4.out⟩
         case measure => simp [intOf]; omega
       · obtain rfl : i = n := by omega
         have hnn : ¬ ((i : Int) < i) := by omega
         have HE : Hid (RI w c p i wr 40) := hI
         clear hI
         go_wp2_with fail
         go_meet
         exact HE.out
    case rest =>
    clear HC0
    obtain ⟨qa, qn, qc, ra, rn, rc, rs, rd, hcc, _, _, hPag⟩ := hcut.cell
    have hbc := hcut.bel
    have hpg := hPag wc (Below.refl _ _)
    have hsu := sure_any wc
    clear hcut hcc hPag
    go_wp2_with fail
    refine hpg.mono ?_
    rintro e w0 ⟨rfl, hw0⟩
    rw [hw0]
    clear hw0 w0 hpg
    go_wp2_with fail
    refine hsu.mono ?_
    rintro e w5 ⟨rfl, hb5⟩
    have HE := hbc.trans (hb5.mono hbc.size)
    clear hsu
    go_wp2
    go_ret
    exact ⟨rfl, HE⟩
  · have hsu := sure_any
    go_wp2_with fail
    refine (new_bad many hmv w4).mono ?_
    rintro e w0 ⟨rfl, hw0⟩
    rw [hw0]; clear hw0 w0
    rw [errV_ne (by decide)]
    go_wp2_with fail
    refine (rnew_bad many hmv w4).mono ?_
    rintro e w5 ⟨rfl, hb5⟩
    have hB5 := Below.transS hB4 hb5
    clear hb5 hB4 hz4
    go_wp2_with fail
    have hB6 := hB5.alloc hB5.size (.cells #[.slice none 0 0, .slice none 0 0, .int .i64 0, .bool false] 41)
    generalize w5.alloc (.cells #[.slice none 0 0, .slice none 0 0, .int .i64 0, .bool false] 41) = w6 at *
    refine (num_hit 1 w6 (HG.out w6 hB6)).mono ?_
    rintro e w7 ⟨rfl, hb7⟩
    have hB7 := Below.transS hB6 hb7
    clear hb7 hB6 hB5
    go_wp2_with fail
    refine (hsu w7).mono ?_
    rintro e w8 ⟨rfl, hb8⟩
    have HE := Below.transS hB7 hb8
    clear hsu
    go_wp2
    go_ret
    exact ⟨rfl, HE⟩
end Go.Proofs.YtnilgjlccfileaaDoor
