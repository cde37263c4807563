/- build.outputs: the walk. -/
import Derived.Test.YtbafipjiaeoinaaGreatDoorOwnShelf23
namespace Go.Proofs.YtbafipjiaeoinaaGreatDoor
open Go.RowKit

theorem enter_own (args : Array Value) (w : World) : (callFunc 47 args).run Tryz.prog w = .ok (.enter 47 args) w := enters_of Tryz.func47 (by kernel_rfl) rfl args w
theorem enter_other (args : Array Value) (w : World) : (callFunc 48 args).run Tryz.prog w = .ok (.enter 48 args) w := enters_of Tryz.func48 (by kernel_rfl) rfl args w
theorem enter_paid (args : Array Value) (w : World) : (callFunc 49 args).run Tryz.prog w = .ok (.enter 49 args) w := enters_of Tryz.func49 (by kernel_rfl) rfl args w
theorem enter_held (args : Array Value) (w : World) : (callFunc 50 args).run Tryz.prog w = .ok (.enter 50 args) w := enters_of Tryz.func50 (by kernel_rfl) rfl args w
/-- While the outputs are laid. -/
structure OI (w v4 wr : World) (bs bo bp : Nat) (s : Sv) (p : Pl) (c : Cm) (ka : Option Addr) (kc : Nat) (os : List To) (zs : List (Int × Int)) : Prop where
  lay : LayS wr v4.heap.size bo bp w.heap.size c ka kc os zs
  box : wr.heap[bs]? = some (.cells (svv s p) 45 (0, 0))
  frm : FrB v4.heap.size [bo, bp, w.heap.size] v4 wr
  low : Below w.heap.size w v4 ∧ w.heap.size < bs ∧ bs < bo ∧ bo < bp ∧ bp < v4.heap.size
section
variable {w v4 wr w' : World} {bs bo bp : Nat} {s : Sv} {p : Pl} {c : Cm} {ka : Option Addr} {kc : Nat} {os os' : List To} {zs zs' : List (Int × Int)}
theorem OI.keep (h : OI w v4 wr bs bo bp s p c ka kc os zs) (hb : Below wr.heap.size wr w') : OI w v4 w' bs bo bp s p c ka kc os zs :=
  ⟨h.lay.below hb, heap_below hb h.box, h.frm.trans (FrB.ofBelow hb h.lay.fc.2), h.low⟩
theorem OI.post (h : OI w v4 wr bs bo bp s p c ka kc os zs) {e : Ending} (hp : LayPost v4.heap.size bo bp w.heap.size c ka kc os' zs' wr e w') : e = .returned (.tuple #[]) ∧ OI w v4 w' bs bo bp s p c ka kc os' zs' :=
  ⟨hp.1, hp.2.1, by rw [hp.2.2.block bs (by have := h.low; omega) (by have := h.low; simp; omega)]; exact h.box, h.frm.trans (hp.2.2.mono (by simp)), h.low⟩
theorem OI.setC (h : OI w v4 wr bs bo bp s p c ka kc os zs) {c' : Cm} {ka' : Option Addr} {kc' : Nat} (hf : Frm [w.heap.size] wr w') (hn : w'.heap[w.heap.size]? = some (.cells (cmv c' ka' kc') 104 (0, 0))) : OI w v4 w' bs bo bp s p c' ka' kc' os zs :=
  ⟨h.lay.setC hf hn, hf.heap h.box (by have := h.low; simp; omega), h.frm.trans (FrB.ofFrm hf h.lay.fc.2 (by simp)), h.low⟩
theorem OI.below (h : OI w v4 wr bs bo bp s p c ka kc os zs) : Below w.heap.size w wr := h.low.1.trans (h.frm.below h.low.1.size (by have := h.low; simp; omega))
theorem OI.o (h : OI w v4 wr bs bo bp s p c ka kc os zs) : wr.cell? ⟨w.heap.size, 38, none⟩ = some (.int .i64 c.o) := (cmBox (cml_range h.lay.fc.1)).o
theorem OI.pm (h : OI w v4 wr bs bo bp s p c ka kc os zs) : wr.rangeAt w.heap.size 0 (pml c.P) := (cmBox (cml_range h.lay.fc.1)).pm
theorem OI.st (h : OI w v4 wr bs bo bp s p c ka kc os zs) : wr.rangeAt bs 0 (svv s p).toList := sv_range h.box
end
theorem belowN {B : Nat} {a w : World} (h : Below B a w) (n : Nat) : Below B a (w.drewN n) := ⟨h.os, h.tape, h.output, h.size, h.block⟩
theorem kok_nn {z : Nat → Int} {n : Nat} (h : KOk z n) : ∀ j, j < n → 0 ≤ z j
  | 0, hj => by have := (h 0 hj).1; simp [lastK] at this; omega
  | j + 1, hj => by have h1 := (h (j + 1) hj).1; have h2 := kok_nn h j (by omega); rw [lastK_succ] at h1; omega
theorem paysO_zero (c : Cm) (s : Sv) : paysO c s 0 = sideO c s ∧ paysZ c s 0 = sideZ c s := by simp [paysO, paysZ]
theorem outsO_zero (c : Cm) (s : Sv) : outsO c s 0 = paysO c s s.pn ∧ outsZ c s 0 = paysZ c s s.pn := by simp [outsO, outsZ]
set_option maxRecDepth 100000 in
set_option maxHeartbeats 6400000 in
theorem outputs_any (c : Cm) (ka : Option Addr) (kc : Nat) (s : Sv) (p : Pl) (w : World) (hc : CmOk c) (h : SvAt w s p) (hs : SOk s) (hn : ∀ i, i < s.hn → (s.H i).n ≤ 300) :
    Calls Tryz.prog 26 #[.agg (cmv c ka kc), .agg (svv s p)] w fun e w' => ∃ va vc ua uc A I, e = .returned (.tuple #[.slice va (outsO c s s.hn).length vc, .slice ua (outsZ c s s.hn).length uc]) ∧ OutR w' w.heap.size (outsO c s s.hn) (outsZ c s s.hn) va vc ua uc A I ∧ Below w.heap.size w w' := by
  have HC : Hid (CmOk c) := hc
  have HSv : Hid (SvAt w s p ∧ SOk s ∧ ∀ i, i < s.hn → (s.H i).n ≤ 300) := ⟨h, hs, hn⟩
  have hwr : IntKind.i64.wrap (1 - c.o) = 1 - c.o := by have := hc.o; rw [IntKind.wrap_i64]; omega
  have hso : 0 ≤ c.o ∧ c.o ≤ 1 := by have := hc.o; omega
  have HL2 : Hid ((0 ≤ c.o ∧ c.o ≤ 1) ∧ (0 ≤ 1 - c.o ∧ 1 - c.o ≤ 1) ∧ ((0 ≤ s.a ∧ s.a ≤ 1125899906842624) ∧ (0 ≤ c.P.fe ∧ c.P.fe ≤ 1125899906842624))) := ⟨hso, by omega, hs.1.2.1, hc.fe⟩
  have HPN : Hid (s.pn + s.hn ≤ 8) := hs.2.1.1
  have hp8 := HPN.out
  clear hc h hs hn hso
  go_enter Tryz.func26, Tryz.ntmps26
  go_upto_region 4 with (first | (refine wpList_boxN rfl _ _ rfl (cmv c ka kc) rfl ?_; intro v1 N1) | (refine wpList_boxN rfl _ _ rfl (svv s p) rfl ?_; intro v2 N2) | (refine wpList_allocN 48 #[.slice none 0 0] run_allocTos rfl rfl ?_; intro v3 N3) | (refine wpList_allocN 61 #[.slice none 0 0] run_allocPls rfl rfl ?_; intro v4 N4) | fail)
  have HO4 : Hid (OI w v4 v4 v1.heap.size v2.heap.size v3.heap.size s p c ka kc [] []) := by
    have e1 := N1.size
    have e2 := N2.size
    have e3 := N3.size
    have e4 := N4.size
    exact ⟨lay_start (N4.old N3.blk) N4.blk (N4.old (N3.old (N2.old N1.blk))) ⟨by omega, by omega, by omega, by omega, by omega, by omega, Nat.le_refl _⟩, N4.old (N3.old N2.blk), FrB.refl _ _ _, Below.transS N1.below (Below.transS N2.below (Below.transS N3.below N4.below)), by omega, by omega, by omega, by omega⟩
  clear N1 N2 N3 N4
  generalize v1.heap.size = bs at *
  generalize v2.heap.size = bo at *
  generalize v3.heap.size = bp at *
  have c38 := HO4.out.o
  go_wp2_with (first | (refine wpList_load_mid rfl 40 _ rfl w.heap.size 0 rfl (pml c.P) _ HO4.out.pm Tryz.underlying40 rfl (szPml c.P) ?_) | (refine wpList_load_mid rfl 45 _ rfl bs 0 rfl (svv s p).toList _ HO4.out.st Tryz.underlying45 rfl szS ?_) | fail)
  refine (left_any c.P s p c.o v4 HL2.out.1 HL2.out.2.2).mono ?_
  rintro e v5 ⟨rfl, hb5⟩
  have HO5 := hidV (HO4.out.keep hb5)
  clear hb5 c38
  go_wp2_with fail
  refine (lay_any 47 enter_own 1 0 (leftF c.P s c.o) 2 (fun i => if i = 0 then brS c c.o else rvS c) v4.heap.size bo bp w.heap.size c ka kc [] [] v5 HO5.out.lay ?_ (by simp) (by simp)).mono ?_
  · refine (own_any c ka kc v5.drew HC.out.o (brS_ok HC.out _) (rvS_ok HC.out)).mono ?_
    rintro e w' ⟨b, rfl, h1, h2⟩
    exact ⟨b, rfl, h1, h2⟩
  rintro e v6 hp
  obtain ⟨rfl, hO6⟩ := HO5.out.post hp
  have HO6 := hidV hO6
  clear hp hO6 HO5 HO4
  have c38 := HO6.out.o
  go_wp2_with (first | (refine wpList_load_mid rfl 40 _ rfl w.heap.size 0 rfl (pml c.P) _ HO6.out.pm Tryz.underlying40 rfl (szPml c.P) ?_) | (refine wpList_load_mid rfl 45 _ rfl bs 0 rfl (svv s p).toList _ HO6.out.st Tryz.underlying45 rfl szS ?_) | fail)
  refine (left_any c.P s p (1 - c.o) v6 HL2.out.2.1 HL2.out.2.2).mono ?_
  rintro e v7 ⟨rfl, hb7⟩
  have HO7 := hidV (HO6.out.keep hb7)
  clear hb7 c38
  go_wp2_with fail
  refine (lay_any 48 enter_other 2 0 (leftF c.P s (1 - c.o)) 1 (fun _ => Cd.kb [keyS c.P (1 - c.o)]) v4.heap.size bo bp w.heap.size c ka kc _ _ v7 HO7.out.lay (other_any c ka kc v7.drew HC.out.o ?_) ?_ ?_).mono ?_
  · have := HC.out.k; unfold Ib; omega
  · have := ifL_len (leftF c.P s c.o) (ownO c s); simp only [List.nil_append]; unfold ownO at this; omega
  · have := ifL_len (leftF c.P s c.o) ((1, 0) : Int × Int); simp only [List.nil_append]; omega
  rintro e v8 hp
  obtain ⟨rfl, hO8⟩ := HO7.out.post hp
  have HO8 : Hid (OI w v4 v8 bs bo bp s p { c with y := c.y } ka kc (paysO c s 0) (paysZ c s 0)) := by rw [(paysO_zero c s).1, (paysO_zero c s).2]; exact hO8
  clear hp hO8 HO6 HO7 HL2 hwr
  have c3 : v8.cell? ⟨bs, 3, none⟩ = some (.slice p.pa s.pn p.pc) := HO8.out.st 3 _ rfl
  go_wp2_with fail
  clear c3
  go_loopw [10, 34] (fun _ iv wr => ∃ (i : Nat) (y : Py), i ≤ s.pn ∧ iv = .int .i64 i ∧ OI w v4 wr bs bo bp s p { c with y := y } ka kc (paysO c s i) (paysZ c s i)) (fun _ iv _ => s.pn + 1 - (intOf iv).toNat)
  case atStart => exact ⟨0, c.y, by omega, rfl, HO8.out⟩
  case round =>
    clear HO8
    obtain ⟨i, y, hi, rfl, hI⟩ := hrel
    have HI := hidV hI
    clear hI
    by_cases hlt : i < s.pn
    · have hlt' : (i : Int) < s.pn := by omega
      obtain ⟨b, off, hpa, hcc⟩ := HSv.out.1.py.at_ (by omega)
      have HR : Hid (wr.rangeAt b (off + i * 36) (pyl (s.P i))) := range_below (hcc i hlt) HI.out.below
      have HY : Hid (Zb (s.P i).lk ∧ POne (s.P i)) := ⟨HSv.out.1.py.lk i hlt, (HSv.out.2.1.2.1.2.1 i hlt).2⟩
      have HW : Hid (w.heap.size < wr.heap.size) := lt_of_block HI.out.lay.fc.1
      clear hcc
      rw [hpa]
      go_wp2_with (first | (refine wpList_load_mid rfl 97 _ rfl b (off + i * 36) rfl (pyl (s.P i)) _ HR.out Tryz.underlying97 rfl (szPl _) ?_) | (refine wpList_allocN 97 (pyv p0) run_allocPy rfl rfl ?_; intro z1 N1) | (refine wpList_storeG 97 szP rfl _ _ rfl wr.heap.size rfl (pyv (s.P i)) (pyv p0) (pyv_size _) (pyv_size _) (pyv_one _) 97 rfl N1.blk ?_; intro z2 hg2 hf2; have HI2 := hidV (HI.out.keep (N1.below.trans (hf2.below N1.below.size (by simp)) : Below wr.heap.size wr z2)); have HP2 := hidV (pyl_range hg2); clear N1 hf2) | (refine wpList_load_mid rfl 97 _ rfl wr.heap.size 0 rfl (pyl (s.P i)) _ HP2.out Tryz.underlying97 rfl (szPl _) ?_) | (refine wpList_storeCy rfl _ _ rfl w.heap.size rfl (s.P i) rfl { c with y := y } ka kc 104 HI2.out.lay.fc.1 ?_; intro z3 hg3 hf3; have HI3 : Hid (OI w v4 z3 bs bo bp s p { c with y := s.P i } ka kc (paysO c s i) (paysZ c s i)) := HI2.out.setC hf3 hg3; have hR3 := range_frm HP2.out hf3 (by have := HW.out; simp; omega); have c0 : z3.cell? ⟨wr.heap.size, 0, none⟩ = some (.int .i64 (s.P i).id) := hR3 0 _ rfl; have c2 : z3.cell? ⟨wr.heap.size, 2, none⟩ = some (.int .i64 (s.P i).am) := hR3 2 _ rfl; clear hR3 hg3 hf3 HI2 HP2 hg2) | fail)
      refine (lay_any 49 enter_paid 3 (s.P i).id (s.P i).am 3 (pdS { c with y := s.P i }) v4.heap.size bo bp w.heap.size { c with y := s.P i } ka kc _ _ z3 HI3.out.lay ?_ ?_ ?_).mono ?_
      · refine (paid_any { c with y := s.P i } ka kc z3.drew HC.out.o HY.out.2.2.1 (toS_ok (c := { c with y := s.P i }) ⟨HC.out.o, HC.out.k, HC.out.dl, HC.out.fe, HC.out.lk⟩ HY.out.1) (bkS_ok (c := { c with y := s.P i }) ⟨HC.out.o, HC.out.k, HC.out.dl, HC.out.fe, HC.out.lk⟩ HY.out.2.2.2.2.1) (rvS_ok (c := { c with y := s.P i }) ⟨HC.out.o, HC.out.k, HC.out.dl, HC.out.fe, HC.out.lk⟩)).mono ?_
        rintro e w' ⟨q, rfl, h1, h2⟩
        exact ⟨q, rfl, h1, h2⟩
      · have := paysO_len c s i; have := HPN.out; omega
      · have := paysO_len c s i; have := HPN.out; omega
      rintro e z4 hp
      obtain ⟨rfl, hI4⟩ := HI3.out.post hp
      have HI4 : Hid (OI w v4 z4 bs bo bp s p { c with y := s.P i } ka kc (paysO c s (i + 1)) (paysZ c s (i + 1))) := by
        obtain ⟨e1, e2⟩ := paysO_succ c s i HY.out.2.2.2.1.1
        rw [← e1, ← e2]
        exact hI4
      clear hp hI4 HI3 c0 c2
      go_wp2
      go_roundw
      case rel => exact ⟨i + 1, s.P i, by omega, by go_num, HI4.out⟩
      case measure => simp [intOf]; omega
    · obtain rfl : i = s.pn := by omega
      have hnn : ¬ ((s.pn : Int) < s.pn) := by omega
      have HJ : Hid (OI w v4 wr bs bo bp s p { c with y := y } ka kc (outsO c s 0) (outsZ c s 0)) := by rw [(outsO_zero c s).1, (outsO_zero c s).2]; exact HI.out
      have c4 : wr.cell? ⟨bs, 4, none⟩ = some (.slice p.ha s.hn p.hc) := HJ.out.st 4 _ rfl
      clear HI
      go_wp2_with fail
      clear c4 hnn
      generalize wr = v9 at *
      go_loopw [12, 50] (fun _ iv wr => ∃ (i : Nat) (x : Hd) (ka' : Option Addr) (kc' : Nat), i ≤ s.hn ∧ iv = .int .i64 i ∧ OI w v4 wr bs bo bp s p { c with y := y, h := x } ka' kc' (outsO c s i) (outsZ c s i)) (fun _ iv _ => s.hn + 1 - (intOf iv).toNat)
      case atStart => exact ⟨0, c.h, ka, kc, by omega, rfl, HJ.out⟩
      case round =>
        clear HJ
        rename World => wr
        obtain ⟨i, x, ka', kc', hi, rfl, hI⟩ := hrel
        have HI := hidV hI
        clear hI
        by_cases hlt : i < s.hn
        · have hlt' : (i : Int) < s.hn := by omega
          obtain ⟨b, off, hpa, hcc⟩ := HSv.out.1.hd.at_ (by omega)
          obtain ⟨ha, hk, hr0, hi0, hn0⟩ := hcc i hlt
          have HR : Hid (wr.rangeAt b (off + i * 3) (hdl (s.H i) ha hk)) := range_below hr0 HI.out.below
          have HY : Hid (IsAt w ha (s.H i).n (s.H i).z ∧ HOne (s.H i) ∧ (s.H i).n ≤ 300) := ⟨hi0, (HSv.out.2.1.2.1.2.2 i hlt).2, HSv.out.2.2 i hlt⟩
          have HW : Hid (w.heap.size < wr.heap.size) := lt_of_block HI.out.lay.fc.1
          clear hcc hr0 hi0 hn0
          rw [hpa]
          go_wp2_with (first | (refine wpList_load_mid rfl 99 _ rfl b (off + i * 3) rfl (hdl (s.H i) ha hk) _ HR.out Tryz.underlying99 rfl szH ?_) | (refine wpList_allocN 99 (hdv default none 0) run_allocHd rfl rfl ?_; intro z1 N1) | (refine wpList_storeG 99 szH rfl _ _ rfl wr.heap.size rfl (hdv (s.H i) ha hk) (hdv default none 0) rfl rfl (all_oneCell_toArray (hdl1 (s.H i) ha hk)) 99 rfl N1.blk ?_; intro z2 hg2 hf2; have HI2 := hidV (HI.out.keep (N1.below.trans (hf2.below N1.below.size (by simp)) : Below wr.heap.size wr z2)); have HP2 := hidV (hdl_range hg2); clear N1 hf2) | (refine wpList_load_mid rfl 99 _ rfl wr.heap.size 0 rfl (hdl (s.H i) ha hk) _ HP2.out Tryz.underlying99 rfl szH ?_) | (refine wpList_storeCh rfl _ _ rfl w.heap.size rfl (s.H i) ha hk rfl { c with y := y, h := x } ka' kc' 104 HI2.out.lay.fc.1 ?_; intro z3 hg3 hf3; have HI3 : Hid (OI w v4 z3 bs bo bp s p { c with y := y, h := s.H i } ha hk (outsO c s i) (outsZ c s i)) := HI2.out.setC hf3 hg3; have hR3 := range_frm HP2.out hf3 (by have := HW.out; simp; omega); have c0 : z3.cell? ⟨wr.heap.size, 0, none⟩ = some (.int .i64 (s.H i).id) := hR3 0 _ rfl; have c2 : z3.cell? ⟨wr.heap.size, 1, none⟩ = some (.int .i64 (s.H i).am) := hR3 1 _ rfl; have HA3 : Hid (IsAt z3 ha (s.H i).n (s.H i).z) := HY.out.1.below HI3.out.below; clear hR3 hg3 hf3 HI2 HP2 hg2) | fail)
          refine (lay_any 50 enter_held 4 (s.H i).id (s.H i).am 1 (fun _ => Cd.kb (Cd.insL (s.H i).z (s.H i).n)) v4.heap.size bo bp w.heap.size { c with y := y, h := s.H i } ha hk _ _ z3 HI3.out.lay ?_ ?_ ?_).mono ?_
          · refine held_any { c with y := y, h := s.H i } ha hk z3.drew (HA3.out.below (Below.refl _ _).drew) (fun j hj => ?_) (by have := HY.out.2.2; show (s.H i).n ≤ 1000000; omega)
            have h1 := kok_nn HY.out.2.1.2.2.1 j hj
            have h2 := (HY.out.2.1.2.2.1 j hj).2
            show Ib ((s.H i).z j)
            unfold Ib; omega
          · have := outsO_len c s i; have := HPN.out; omega
          · have := outsO_len c s i; have := HPN.out; omega
          rintro e z4 hp
          obtain ⟨rfl, hI4⟩ := HI3.out.post hp
          have HI4 : Hid (OI w v4 z4 bs bo bp s p { c with y := y, h := s.H i } ha hk (outsO c s (i + 1)) (outsZ c s (i + 1))) := by
            obtain ⟨e1, e2⟩ := outsO_succ c s i HY.out.2.1.2.1.1
            rw [← e1, ← e2]
            exact hI4
          clear hp hI4 HI3 c0 c2 HA3
          go_wp2
          go_roundw
          case rel => exact ⟨i + 1, s.H i, ha, hk, by omega, by go_num, HI4.out⟩
          case measure => simp [intOf]; omega
        · obtain rfl : i = s.hn := by omega
          have hnn : ¬ ((s.hn : Int) < s.hn) := by omega
          obtain ⟨va, vc, ua, uc, A, I, hL⟩ := HI.out.lay
          have HE : Hid (∀ n, OutR (wr.drewN n) w.heap.size (outsO c s s.hn) (outsZ c s s.hn) va vc ua uc A I ∧ Below w.heap.size w (wr.drewN n)) := fun n => ⟨(hL.below (belowN (Below.refl _ _) n)).out HI.out.low.1.size, belowN HI.out.below n⟩
          have c0 : wr.cell? ⟨bo, 0, none⟩ = some (.slice va (outsO c s s.hn).length vc) := by rw [cell_of_row _ _ 0 _ _ _ hL.fo]; rfl
          have c1 : wr.cell? ⟨bp, 0, none⟩ = some (.slice ua (outsZ c s s.hn).length uc) := by rw [cell_of_row _ _ 0 _ _ _ hL.fp]; rfl
          clear hL HI
          go_wp2_with fail
          go_quiet (fail)
          go_wp2
          go_ret2
          exact ⟨va, vc, ua, uc, A, I, rfl, HE.out _⟩
end Go.Proofs.YtbafipjiaeoinaaGreatDoor
