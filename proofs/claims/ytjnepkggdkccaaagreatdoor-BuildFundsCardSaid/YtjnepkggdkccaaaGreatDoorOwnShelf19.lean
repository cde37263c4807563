/- build.outputs: the walk. -/
import Derived.Test.YtjnepkggdkccaaaGreatDoorOwnShelf18
import Derived.Test.YtjnepkggdkccaaaGreatDoorOwnShelf16
import Derived.Test.YtjnepkggdkccaaaGreatDoorProg
import Derived.Ground.Names8Prog
import Derived.Shelf.Spec.SlicesGrow
namespace Go.Proofs.YtjnepkggdkccaaaGreatDoor
open Go.RowKit

theorem enter_own (args : Array Value) (w : World) : (callFunc 47 args).run Tryz.prog w = .ok (.enter 47 args) w := enters_of Tryz.func47 (by kernel_rfl) rfl args w
theorem enter_other (args : Array Value) (w : World) : (callFunc 48 args).run Tryz.prog w = .ok (.enter 48 args) w := enters_of Tryz.func48 (by kernel_rfl) rfl args w
theorem enter_paid (args : Array Value) (w : World) : (callFunc 49 args).run Tryz.prog w = .ok (.enter 49 args) w := enters_of Tryz.func49 (by kernel_rfl) rfl args w
theorem enter_held (args : Array Value) (w : World) : (callFunc 50 args).run Tryz.prog w = .ok (.enter 50 args) w := enters_of Tryz.func50 (by kernel_rfl) rfl args w
/-- While the outputs are laid. -/
structure OI (w v4 wr : World) (bs bo bp : Nat) (s : Sv) (p : Pl) (c : Cm) (ka : Option Addr) (kc : Nat) (os : List To) (zs : List (Int × Int)) : Prop where
 lay : LayS wr v4.heap.size bo bp w.heap.size c ka kc os zs
 box : wr.heap[bs]? = some (.cells (svv s p) 45 (0, 0))
 frm : FrB v4.heap.size [bo, bp, w.heap.size] v4 wr
 low : Below w.heap.size w v4 ∧ w.heap.size < bs ∧ bs < bo ∧ bo < bp ∧ bp < v4.heap.size
section
variable {w v4 wr w' : World} {bs bo bp : Nat} {s : Sv} {p : Pl} {c : Cm} {ka : Option Addr} {kc : Nat} {os os' : List To} {zs zs' : List (Int × Int)}
theorem OI.keep (h : OI w v4 wr bs bo bp s p c ka kc os zs) (hb : Below wr.heap.size wr w') : OI w v4 w' bs bo bp s p c ka kc os zs :=
 ⟨h.lay.below hb, heap_below hb h.box, h.frm.trans (FrB.ofBelow hb h.lay.fc.2), h.low⟩
theorem OI.post (h : OI w v4 wr bs bo bp s p c ka kc os zs) {e : Ending} (hp : LayPost v4.heap.size bo bp w.heap.size c ka kc os' zs' wr e w') : e = .returned (.tuple #[]) ∧ OI w v4 w' bs bo bp s p c ka kc os' zs' :=
 ⟨hp.1, hp.2.1, by rw [hp.2.2.block bs (by have := h.low; omega) (by have := h.low; simp; omega)]; exact h.box, h.frm.trans (hp.2.2.mono (by simp)), h.low⟩
theorem OI.setC (h : OI w v4 wr bs bo bp s p c ka kc os zs) {c' : Cm} {ka' : Option Addr} {kc' : Nat} (hf : Frm [w.heap.size] wr w') (hn : w'.heap[w.heap.size]? = some (.cells (cmv c' ka' kc') 104 (0, 0))) : OI w v4 w' bs bo bp s p c' ka' kc' os zs :=
 ⟨h.lay.setC hf hn, hf.heap h.box (by have := h.low; simp; omega), h.frm.trans (FrB.ofFrm hf h.lay.fc.2 (by simp)), h.low⟩
theorem OI.below (h : OI w v4 wr bs bo bp s p c ka kc os zs) : Below w.heap.size w wr := h.low.1.trans (h.frm.below h.low.1.size (by have := h.low; simp; omega))
theorem OI.o (h : OI w v4 wr bs bo bp s p c ka kc os zs) : wr.cell? ⟨w.heap.size, 38, none⟩ = some (.int .i64 c.o) := (cmBox (cml_range h.lay.fc.1)).o
theorem OI.pm (h : OI w v4 wr bs bo bp s p c ka kc os zs) : wr.rangeAt w.heap.size 0 (pml c.P) := (cmBox (cml_range h.lay.fc.1)).pm
theorem OI.st (h : OI w v4 wr bs bo bp s p c ka kc os zs) : wr.rangeAt bs 0 (svv s p).toList := sv_range h.box
end
theorem belowN {B : Nat} {a w : World} (h : Below B a w) (n : Nat) : Below B a (w.drewN n) := ⟨h.os, h.tape, h.output, h.size, h.block⟩
theorem kok_nn {z : Nat → Int} {n : Nat} (h : KOk z n) : ∀ j, j < n → 0 ≤ z j
 | 0, hj => by have := (h 0 hj).1; simp [lastK] at this; omega
 | j + 1, hj => by have h1 := (h (j + 1) hj).1; have h2 := kok_nn h j (by omega); rw [lastK_succ] at h1; omega
theorem paysO_zero (c : Cm) (s : Sv) : paysO c s 0 = sideO c s ∧ paysZ c s 0 = sideZ c s := by simp [paysO, paysZ]
theorem outsO_zero (c : Cm) (s : Sv) : outsO c s 0 = paysO c s s.pn ∧ outsZ c s 0 = paysZ c s s.pn := by simp [outsO, outsZ]
set_option maxRecDepth 100000 in
set_option maxHeartbeats 6400000 in
theorem outputs_any (c : Cm) (ka : Option Addr) (kc : Nat) (s : Sv) (p : Pl) (w : World) (hc : CmOk c) (h : SvAt w s p) (hs : SOk s) (hn : ∀ i, i < s.hn → (s.H i).n ≤ 300) :
  Calls Tryz.prog 26 #[.agg (cmv c ka kc), .agg (svv s p)] w fun e w' => ∃ va vc ua uc A I, e = .returned (.tuple #[.slice va (outsO c s s.hn).length vc, .slice ua (outsZ c s s.hn).length uc]) ∧ OutR w' w.heap.size (outsO c s s.hn) (outsZ c s s.hn) va vc ua uc A I ∧ Below w.heap.size w w' := by
 have HC : Hid (CmOk c) := hc
 have HSv : Hid (SvAt w s p ∧ SOk s ∧ ∀ i, i < s.hn → (s.H i).n ≤ 300) := ⟨h, hs, hn⟩
 have hwr : IntKind.i64.wrap (1 - c.o) = 1 - c.o := by have := hc.o; rw [IntKind.wrap_i64]; omega
 have hso : 0 ≤ c.o ∧ c.o ≤ 1 := by have := hc.o; omega
 have HL2 : Hid ((0 ≤ c.o ∧ c.o ≤ 1) ∧ (0 ≤ 1 - c.o ∧ 1 - c.o ≤ 1) ∧ ((0 ≤ s.a ∧ s.a ≤ 1125899906842624) ∧ (0 ≤ c.P.fe ∧ c.P.fe ≤ 1125899906842624))) := ⟨hso, by omega, hs.1.2.1, hc.fe⟩
 have HPN : Hid (s.pn + s.hn ≤ 8) := hs.2.1.1
 have hp8 := HPN.out
 clear hc h hs hn hso
 go_enter Tryz.func26, Tryz.ntmps26
 go_upto_region 4 with (first | (refine wpList_boxN rfl _ _ rfl (cmv c ka kc) rfl ?_; intro v1 N1) | (refine wpList_boxN rfl _ _ rfl (svv s p) rfl ?_; intro v2 N2) | (refine wpList_allocN 48 #[.slice none 0 0] run_allocTos rfl rfl ?_; intro v3 N3) | (refine wpList_allocN 61 #[.slice none 0 0] run_allocPls rfl rfl ?_; intro v4 N4) | fail)
 have HO4 : Hid (OI w v4 v4 v1.heap.size v2.heap.size v3.heap.size s p c ka kc [] []) := by
  have e1 := N1.size
  have e2 := N2.size
  have e3 := N3.size
  have e4 := N4.size
  exact ⟨lay_start (N4.old N3.blk) N4.blk (N4.old (N3.old (N2.old N1.blk))) ⟨by omega, by omega, by omega, by omega, by omega, by omega, Nat.le_refl _⟩, N4.old (N3.old N2.blk), FrB.refl _ _ _, Below.transS N1.below (Below.transS N2.below (Below.transS N3.below N4.below)), by omega, by omega, by omega, by omega⟩
 clear N1 N2 N3 N4
 generalize v1.heap.size = bs at *
 generalize v2.heap.size = bo at *
 generalize v3.heap.size = bp at *
 have c38 := HO4.out.o
 go_wp2_with (first | (refine wpList_load_mid rfl 40 _ rfl w.heap.size 0 rfl (pml c.P) _ HO4.out.pm Tryz.underlying40 rfl (szPml c.P) ?_) | (refine wpList_load_mid rfl 45 _ rfl bs 0 rfl (svv s p).toList _ HO4.out.st Tryz.underlying45 rfl szS ?_) | fail)
 refine (left_any c.P s p c.o v4 HL2.out.1 HL2.out.2.2).mono ?_
 rintro e v5 ⟨rfl, hb5⟩
 have HO5 := hidV (HO4.out.keep hb5)
 clear hb5 c38
 go_wp2_with fail
 refine (lay_any 47 enter_own 1 0 (leftF c.P s c.o) 2 (fun i => if i = 0 then brS c c.o else rvS c) v4.heap.size bo bp w.heap.size c ka kc [] [] v5 HO5.out.lay ?_ (by simp) (by simp)).mono ?_
 ·refine (own_any c ka kc v5.drew HC.out.o (brS_ok HC.out _) (rvS_ok HC.out)).mono ?_
  rintro e w' ⟨b, rfl, h1, h2⟩
  exact ⟨b, rfl, h1, h2⟩
 rintro e v6 hp
 obtain ⟨rfl, hO6⟩ := HO5.out.post hp
 have HO6 := hidV hO6
 clear hp hO6 HO5 HO4
 have c38 := HO6.out.o
 go_wp2_with (first | (refine wpList_load_mid rfl 40 _ rfl w.heap.size 0 rfl (pml c.P) _ HO6.out.pm Tryz.underlying40 rfl (szPml c.P) ?_) | (refine wpList_load_mid rfl 45 _ rfl bs 0 rfl (svv s p).toList _ HO6.out.st Tryz.underlying45 rfl szS ?_) | fail)
 refine (left_any c.P s p (1 - c.o) v6 HL2.out.2.1 HL2.out.2.2).mono ?_
 rintro e v7 ⟨rfl, hb7⟩
 have HO7 := hidV (HO6.out.keep hb7)
 clear hb7 c38
 go_wp2_with fail
 refine (lay_any 48 enter_other 2 0 (leftF c.P s (1 - c.o)) 1 (fun _ => Cd.kb [keyS c.P (1 - c.o)]) v4.heap.size bo bp w.heap.size c ka kc _ _ v7 HO7.out.lay (other_any c ka kc v7.drew HC.out.o ?_) ?_ ?_).mono ?_
 ·have := HC.out.k; unfold Ib; omega
 ·have := ifL_len (leftF c.P s c.o) (ownO c s); simp only [List.nil_append]; unfold ownO at this; omega
 ·have := ifL_len (leftF c.P s c.o) ((1, 0) : Int × Int); simp only [List.nil_append]; omega
 rintro e v8 hp
 obtain ⟨rfl, hO8⟩ := HO7.out.post hp
 have HO8 : Hid (OI w v4 v8 bs bo bp s p { c with y := c.y } ka kc (paysO c s 0) (paysZ c s 0)) := by rw [(paysO_zero c s).1, (paysO_zero c s).2]; exact hO8
 clear hp hO8 HO6 HO7 HL2 hwr
 have c3 : v8.cell? ⟨bs, 3, none⟩ = some (.slice p.pa s.pn p.pc) := HO8.out.st 3 _ rfl
 go_wp2_with fail
 clear c3
 go_loopw [10, 34] (fun _ iv wr => ∃ (i : Nat) (y : Py), i ≤ s.pn ∧ iv = .int .i64 i ∧ OI w v4 wr bs bo bp s p { c with y := y } ka kc (paysO c s i) (paysZ c s i)) (fun _ iv _ => s.pn + 1 - (intOf iv).toNat)
 case atStart => exact ⟨0, c.y, by omega, rfl, HO8.out⟩
 case round =>
  clear HO8
  obtain ⟨i, y, hi, rfl, hI⟩ := hrel
  have HI := hidV hI
  clear hI
  by_cases hlt : i < s.pn
  ·have hlt' : (i : Int) < s.pn := by omega
   obtain ⟨b, off, hpa, hcc⟩ := HSv.out.1.py.at_ (by omega)
   have HR : Hid (wr.rangeAt b (off + i * 36) (pyl (s.P i))) := range_below (hcc i hlt) HI.out.below
   have HY : Hid (Zb (s.P i).lk ∧ POne (s.P i)) := ⟨HSv.out.1.py.lk i hlt, (HSv.out.2.1.2.1.2.1 i hlt).2⟩
   have HW : Hid (w.heap.size < wr.heap.size) := lt_of_block HI.out.lay.fc.1
   clear hcc
   rw [hpa]
   go_wp2_with (first | (refine wpList_load_mid rfl 97 _ rfl b (off + i * 36) rfl (pyl (s.P i)) _ HR.out Tryz.underlying97 rfl (szPl _) ?_) | (refine wpList_allocN 97 (pyv p0) run_allocPy rfl rfl ?_; intro z1 N1) | (refine wpList_storeG 97 szP rfl _ _ rfl wr.heap.size rfl (pyv (s.P i)) (pyv p0) (pyv_size _) (pyv_size _) (pyv_one _) 97 rfl N1.blk ?_; intro z2 hg2 hf2; have HI2 := hidV (HI.out.keep (N1.below.trans (hf2.below N1.below.size (by simp)) : Below wr.heap.size wr z2)); have HP2 := hidV (pyl_range hg2); clear N1 hf2) | (refine wpList_load_mid rfl 97 _ rfl wr.heap.size 0 rfl (pyl (s.P i)) _ HP2.out Tryz.underlying97 rfl (szPl _) ?_) | (refine wpList_storeCy rfl _ _ rfl w.heap.size rfl (s.P i) rfl { c with y := y } ka kc 104 HI2.out.lay.fc.1 ?_; intro z3 hg3 hf3; have HI3 : Hid (OI w v4 z3 bs bo bp s p { c with y := s.P i } ka kc (paysO c s i) (paysZ c s i)) := HI2.out.setC hf3 hg3; have hR3 := range_frm HP2.out hf3 (by have := HW.out; simp; omega); have c0 : z3.cell? ⟨wr.heap.size, 0, none⟩ = some (.int .i64 (s.P i).id) := hR3 0 _ rfl; have c2 : z3.cell? ⟨wr.heap.size, 2, none⟩ = some (.int .i64 (s.P i).am) := hR3 2 _ rfl; clear hR3 hg3 hf3 HI2 HP2 hg2) | fail)
   refine (lay_any 49 enter_paid 3 (s.P i).id (s.P i).am 3 (pdS { c with y := s.P i }) v4.heap.size bo bp w.heap.size { c with y := s.P i } ka kc _ _ z3 HI3.out.lay ?_ ?_ ?_).mono ?_
   ·refine (paid_any { c with y := s.P i } ka kc z3.drew HC.out.o HY.out.2.2.1 (toS_ok (c := { c with y := s.P i }) ⟨HC.out.o, HC.out.k, HC.out.dl, HC.out.fe, HC.out.lk⟩ HY.out.1) (bkS_ok (c := { c with y := s.P i }) ⟨HC.out.o, HC.out.k, HC.out.dl, HC.out.fe, HC.out.lk⟩ HY.out.2.2.2.2.1) (rvS_ok (c := { c with y := s.P i }) ⟨HC.out.o, HC.out.k, HC.out.dl, HC.out.fe, HC.out.lk⟩)).mono ?_
    rintro e w' ⟨q, rfl, h1, h2⟩
    exact ⟨q, rfl, h1, h2⟩
   ·have := paysO_len c s i; have := HPN.out; omega
   ·have := paysO_len c s i; have := HPN.out; omega
   rintro e z4 hp
   obtain ⟨rfl, hI4⟩ := HI3.out.post hp
   have HI4 : Hid (OI w v4 z4 bs bo bp s p { c with y := s.P i } ka kc (paysO c s (i + 1)) (paysZ c s (i + 1))) := by
    obtain ⟨e1, e2⟩ := paysO_succ c s i HY.out.2.2.2.1.1
    rw [← e1, ← e2]
    exact hI4
   clear hp hI4 HI3 c0 c2
   go_wp2
   go_roundw
   case rel => exact ⟨i + 1, s.P i, by omega, by go_num, HI4.out⟩
   case measure => simp [intOf]; omega
  ·obtain rfl : i = s.pn := by omega
   have hnn : ¬ ((s.pn : Int) < s.pn) := by omega
   have HJ : Hid (OI w v4 wr bs bo bp s p { c with y := y } ka kc (outsO c s 0) (outsZ c s 0)) := by rw [(outsO_zero c s).1, (outsO_zero c s).2]; exact HI.out
   have c4 : wr.cell? ⟨bs, 4, none⟩ = some (.slice p.ha s.hn p.hc) := HJ.out.st 4 _ rfl
   clear HI
   go_wp2_with fail
   clear c4 hnn
   generalize wr = v9 at *
   go_loopw [12, 50] (fun _ iv wr => ∃ (i : Nat) (x : Hd) (ka' : Option Addr) (kc' : Nat), i ≤ s.hn ∧ iv = .int .i64 i ∧ OI w v4 wr bs bo bp s p { c with y := y, h := x } ka' kc' (outsO c s i) (outsZ c s i)) (fun _ iv _ => s.hn + 1 - (intOf iv).toNat)
   case atStart => exact ⟨0, c.h, ka, kc, by omega, rfl, HJ.out⟩
   case round =>
    clear HJ
    rename World => wr
    obtain ⟨i, x, ka', kc', hi, rfl, hI⟩ := hrel
    have HI := hidV hI
    clear hI
    by_cases hlt : i < s.hn
    ·have hlt' : (i : Int) < s.hn := by omega
     obtain ⟨b, off, hpa, hcc⟩ := HSv.out.1.hd.at_ (by omega)
     obtain ⟨ha, hk, hr0, hi0, hn0⟩ := hcc i hlt
     have HR : Hid (wr.rangeAt b (off + i * 3) (hdl (s.H i) ha hk)) := range_below hr0 HI.out.below
     have HY : Hid (IsAt w ha (s.H i).n (s.H i).z ∧ HOne (s.H i) ∧ (s.H i).n ≤ 300) := ⟨hi0, (HSv.out.2.1.2.1.2.2 i hlt).2, HSv.out.2.2 i hlt⟩
     have HW : Hid (w.heap.size < wr.heap.size) := lt_of_block HI.out.lay.fc.1
     clear hcc hr0 hi0 hn0
     rw [hpa]
     go_wp2_with (first | (refine wpList_load_mid rfl 99 _ rfl b (off + i * 3) rfl (hdl (s.H i) ha hk) _ HR.out Tryz.underlying99 rfl szH ?_) | (refine wpList_allocN 99 (hdv default none 0) run_allocHd rfl rfl ?_; intro z1 N1) | (refine wpList_storeG 99 szH rfl _ _ rfl wr.heap.size rfl (hdv (s.H i) ha hk) (hdv default none 0) rfl rfl (all_oneCell_toArray (hdl1 (s.H i) ha hk)) 99 rfl N1.blk ?_; intro z2 hg2 hf2; have HI2 := hidV (HI.out.keep (N1.below.trans (hf2.below N1.below.size (by simp)) : Below wr.heap.size wr z2)); have HP2 := hidV (hdl_range hg2); clear N1 hf2) | (refine wpList_load_mid rfl 99 _ rfl wr.heap.size 0 rfl (hdl (s.H i) ha hk) _ HP2.out Tryz.underlying99 rfl szH ?_) | (refine wpList_storeCh rfl _ _ rfl w.heap.size rfl (s.H i) ha hk rfl { c with y := y, h := x } ka' kc' 104 HI2.out.lay.fc.1 ?_; intro z3 hg3 hf3; have HI3 : Hid (OI w v4 z3 bs bo bp s p { c with y := y, h := s.H i } ha hk (outsO c s i) (outsZ c s i)) := HI2.out.setC hf3 hg3; have hR3 := range_frm HP2.out hf3 (by have := HW.out; simp; omega); have c0 : z3.cell? ⟨wr.heap.size, 0, none⟩ = some (.int .i64 (s.H i).id) := hR3 0 _ rfl; have c2 : z3.cell? ⟨wr.heap.size, 1, none⟩ = some (.int .i64 (s.H i).am) := hR3 1 _ rfl; have HA3 : Hid (IsAt z3 ha (s.H i).n (s.H i).z) := HY.out.1.below HI3.out.below; clear hR3 hg3 hf3 HI2 HP2 hg2) | fail)
     refine (lay_any 50 enter_held 4 (s.H i).id (s.H i).am 1 (fun _ => Cd.kb (Cd.insL (s.H i).z (s.H i).n)) v4.heap.size bo bp w.heap.size { c with y := y, h := s.H i } ha hk _ _ z3 HI3.out.lay ?_ ?_ ?_).mono ?_
     ·refine held_any { c with y := y, h := s.H i } ha hk z3.drew (HA3.out.below (Below.refl _ _).drew) (fun j hj => ?_) (by have := HY.out.2.2; show (s.H i).n ≤ 1000000; omega)
      have h1 := kok_nn HY.out.2.1.2.2.1 j hj
      have h2 := (HY.out.2.1.2.2.1 j hj).2
      show Ib ((s.H i).z j)
      unfold Ib; omega
     ·have := outsO_len c s i; have := HPN.out; omega
     ·have := outsO_len c s i; have := HPN.out; omega
     rintro e z4 hp
     obtain ⟨rfl, hI4⟩ := HI3.out.post hp
     have HI4 : Hid (OI w v4 z4 bs bo bp s p { c with y := y, h := s.H i } ha hk (outsO c s (i + 1)) (outsZ c s (i + 1))) := by
      obtain ⟨e1, e2⟩ := outsO_succ c s i HY.out.2.1.2.1.1
      rw [← e1, ← e2]
      exact hI4
     clear hp hI4 HI3 c0 c2 HA3
     go_wp2
     go_roundw
     case rel => exact ⟨i + 1, s.H i, ha, hk, by omega, by go_num, HI4.out⟩
     case measure => simp [intOf]; omega
    ·obtain rfl : i = s.hn := by omega
     have hnn : ¬ ((s.hn : Int) < s.hn) := by omega
     obtain ⟨va, vc, ua, uc, A, I, hL⟩ := HI.out.lay
     have HE : Hid (∀ n, OutR (wr.drewN n) w.heap.size (outsO c s s.hn) (outsZ c s s.hn) va vc ua uc A I ∧ Below w.heap.size w (wr.drewN n)) := fun n => ⟨(hL.below (belowN (Below.refl _ _) n)).out HI.out.low.1.size, belowN HI.out.below n⟩
     have c0 : wr.cell? ⟨bo, 0, none⟩ = some (.slice va (outsO c s s.hn).length vc) := by rw [cell_of_row _ _ 0 _ _ _ hL.fo]; rfl
     have c1 : wr.cell? ⟨bp, 0, none⟩ = some (.slice ua (outsZ c s s.hn).length uc) := by rw [cell_of_row _ _ 0 _ _ _ hL.fp]; rfl
     clear hL HI
     go_wp2_with fail
     go_quiet (fail)
     go_wp2
     go_ret2
     exact ⟨va, vc, ua, uc, A, I, rfl, HE.out _⟩
end Go.Proofs.YtjnepkggdkccaaaGreatDoor
/- tx.Check. -/
namespace Go.Proofs.YtjnepkggdkccaaaGreatDoor
open Go.RowKit

theorem kerrV_0 : errV 0 = .nilIface := rfl
theorem kerrV_ne {x : Int} (h : x ≠ 0) : errV x = .iface 101 (.int .i64 x) := if_neg h
/-- The first output's error that is none. -/
def outsE (O : Nat → To) : Nat → Int
 | 0 => 0
 | i + 1 => if outsE O i = 0 then outE (O i) else outsE O i
theorem outsE_stop {O : Nat → To} {i : Nat} (h : outsE O i ≠ 0) : ∀ n, i ≤ n → outsE O n = outsE O i
 | 0, hn => by obtain rfl : i = 0 := (by omega); rfl
 | n + 1, hn => by
  by_cases e : i = n + 1
  ·subst e; rfl
  ·have ih := outsE_stop h n (by omega)
   rw [outsE, ih, if_neg h]
/-- The numbers that a transaction's counts may be. -/
def NumOk (lk : Int) (n m : Nat) : Prop := (0 ≤ lk ∧ lk ≤ 1099511627776) ∧ (1 ≤ n ∧ n ≤ 64) ∧ (1 ≤ m ∧ m ≤ 64)
instance (lk : Int) (n m : Nat) : Decidable (NumOk lk n m) := inferInstanceAs (Decidable (_ ∧ _))
/-- A transaction's error. -/
def txE (lk : Int) (n : Nat) (X : Nat → Ti) (m : Nat) (O : Nat → To) : Int :=
 if ¬ NumOk lk n m then 4 else if ¬ InsOk X n then 4 else if ¬ Apart X n then 9 else if outsE O m ≠ 0 then outsE O m else totE O m
def txl (lk : Int) (ia : Option Addr) (n ic : Nat) (oa : Option Addr) (m oc : Nat) : List Value := [.int .i64 lk, .slice ia n ic, .slice oa m oc]
theorem txl_range {w : World} {g : Nat} {lk : Int} {ia : Option Addr} {n ic : Nat} {oa : Option Addr} {m oc : Nat} {t : TypeId} {fr : Nat × Nat} (h : w.heap[g]? = some (.cells #[.int .i64 lk, .slice ia n ic, .slice oa m oc] t fr)) : w.rangeAt g 0 (txl lk ia n ic oa m oc) := fun j v hv => by
 rw [Nat.zero_add, cell_of_row _ _ j _ _ _ h]
 simpa [txl] using hv
theorem szTx : (Tryz.prog.info? 50).map (·.size) = some 3 := by kernel_rfl
set_option maxRecDepth 100000 in
set_option maxHeartbeats 3200000 in
theorem kcheck_any (lk : Int) (ia : Option Addr) (n ic : Nat) (oa : Option Addr) (m oc : Nat) (X : Nat → Ti) (S : Nat → Option Addr × Nat) (O : Nat → To) (w : World) (h : TiAt w ia n X S) (ho : ToAt w oa m O) (hs : ∀ i, i < m → (O i).Small) (hn : n ≤ 1000000) (hm : m ≤ 1000000) :
  Calls Tryz.prog 51 #[.agg (txv lk ia n ic oa m oc)] w fun e w' => e = .returned (errV (txE lk n X m O)) ∧ Below w.heap.size w w' := by
 have hb0 : Below w.heap.size w (w.alloc (.cells #[.int .i64 lk, .slice ia n ic, .slice oa m oc] 50)) := (Below.refl _ w).alloc (Nat.le_refl _) _
 have hr0 := heap_alloc_new w (.cells #[.int .i64 lk, .slice ia n ic, .slice oa m oc] 50)
 have HH : Hid (TiAt w ia n X S ∧ ToAt w oa m O ∧ ∀ i, i < m → (O i).Small) := ⟨h, ho, hs⟩
 clear h ho hs
 unfold txv
 by_cases hN : NumOk lk n m
 ·obtain ⟨hl, hnn, hmm⟩ := hN
  have HN : Hid (NumOk lk n m) := ⟨hl, hnn, hmm⟩
  have d1 : decide (0 ≤ lk ∧ lk ≤ 1099511627776) = true := by simpa using hl
  have d2 : decide ((1 : Int) ≤ (n : Int) ∧ (n : Int) ≤ 64) = true := by simp; omega
  have d3 : decide ((1 : Int) ≤ (m : Int) ∧ (m : Int) ≤ 64) = true := by simp; omega
  go_enter Tryz.func51, Tryz.ntmps51
  go_wp2_with fail
  generalize w.alloc (.cells #[.int .i64 lk, .slice ia n ic, .slice oa m oc] 50) = W0 at *
  have c1 : W0.cell? ⟨w.heap.size, 1, none⟩ = some (.slice ia n ic) := by rw [cell_of_row _ _ 1 _ _ _ hr0]; rfl
  have c2 : W0.cell? ⟨w.heap.size, 2, none⟩ = some (.slice oa m oc) := by rw [cell_of_row _ _ 2 _ _ _ hr0]; rfl
  refine (kwithin_any lk 0 1099511627776 _).mono ?_
  rintro e w1 ⟨rfl, hW⟩
  rw [hW, d1]
  clear hW
  go_wp2_with fail
  refine (kwithin_any n 1 64 _).mono ?_
  rintro e w1 ⟨rfl, hW⟩
  rw [hW, d2]
  clear hW
  go_wp2_with fail
  refine (kwithin_any m 1 64 _).mono ?_
  rintro e w1 ⟨rfl, hW⟩
  rw [hW, d3]
  clear hW d1 d2 d3 hl hnn hmm
  go_wp2_with fail
  refine (kcontains_any ia n ic X S W0 (HH.out.1.below hb0) hn).mono ?_
  rintro e w2 ⟨rfl, hb2⟩
  by_cases hI : InsOk X n
  ·have d4 : (!decide (InsOk X n)) = false := by simpa using hI
   rw [d4]
   clear d4
   have HI : Hid (InsOk X n) := hI
   clear hI
   have HB2 : Hid (Below w.heap.size w w2) := hb0.trans (hb2.mono hb0.size)
   have hr2 : w2.heap[w.heap.size]? = some (.cells #[.int .i64 lk, .slice ia n ic, .slice oa m oc] 50 (0, 0)) := by rw [hb2.block _ (lt_of_block hr0)]; exact hr0
   have HR2 : Hid (∀ w', Below w2.heap.size w2 w' → w'.heap[w.heap.size]? = some (.cells #[.int .i64 lk, .slice ia n ic, .slice oa m oc] 50 (0, 0))) := fun w' hb => by rw [hb.block _ (lt_of_block hr2)]; exact hr2
   clear hb2 hr2 hr0 hb0 c1 c2
   go_wp2_with fail
   have HS : Hid (∀ w', Below w2.heap.size w2 w' → w'.rangeAt w.heap.size 0 (txl lk ia n ic oa m oc) ∧ w'.cell? ⟨w.heap.size, 1, none⟩ = some (.slice ia n ic)) := fun w' hb => ⟨txl_range (HR2.out w' hb), by rw [cell_of_row _ _ 1 _ _ _ (HR2.out w' hb)]; rfl⟩
   have S0 := HS.out w2.drew (Below.refl _ w2).drew
   refine wp_region_noPanic ?_
   refine wp_region_held_drew (S := fun w' => w'.rangeAt w.heap.size 0 (txl lk ia n ic oa m oc) ∧ w'.cell? ⟨w.heap.size, 1, none⟩ = some (.slice ia n ic)) (by kernel_rfl) S0 (fun hHeld => ?_)
   refine wpAnyH_take (i := 0) (oi := ⟨some 32, .load 50 (.tmp 1), 50, _, _, none⟩) rfl (by kernel_rfl) (by kernel_rfl) (by kernel_rfl) (fun _ _ _ h => h) (yieldsIf_load_mid (by rfl) _ _ rfl w.heap.size 0 rfl (txl lk ia n ic oa m oc) _ (fun _ h => h.1) Tryz.underlying50 rfl szTx) (by assumption) ?_
   try simp only [Act.put, zA, zB, zC]
   refine wpT (i := 3) (oi := ⟨some 35, .fieldAddr 50 (.tmp 1) 1, 0, _, _, none⟩) (v := ?_) rfl (by kernel_rfl) (fun _ _ _ h => h) (Or.inl ⟨by rfl, ?_⟩) (by assumption) ?_
   rotate_left
   ·intro wz hSw; (try dsimp only at hSw); go_simp; (try with_reducible rfl)
   try simp only [Act.put, zA, zB, zC]
   refine wpT (i := 4) (oi := ⟨some 36, .load 47 (.tmp 35), 47, _, _, none⟩) (v := ?_) rfl (by kernel_rfl) (fun _ _ _ h => h) (Or.inl ⟨by rfl, ?_⟩) (by assumption) ?_
   rotate_left
   ·intro wz hSw; (try dsimp only at hSw); go_simp; (try with_reducible rfl)
   try simp only [Act.put, zA, zB, zC]
   refine wpT (i := 5) (oi := ⟨some 37, .call { callee := Go.Callee.builtin Go.Builtin.len, args := #[.tmp 36], argTypes := #[47] }, 3, _, _, none⟩) (v := ?_) rfl (by kernel_rfl) (fun _ _ _ h => h) (Or.inl ⟨by rfl, ?_⟩) (by assumption) ?_
   rotate_left
   ·intro wz hSw; (try dsimp only at hSw); go_simp; (try with_reducible rfl)
   try simp only [Act.put, zA, zB, zC]
   refine wpAnyH_ready (rs := [1]) (by kernel_rfl) (by simp) ?_
   refine (AllReadyH.cons (o := ⟨some 33, .call { callee := Go.Callee.value (.func 82), args := #[.tmp 32], argTypes := #[50] }, 172, _, _, none⟩) rfl (fun K hK => ?_) AllReadyH.nil)
   go_simp
   refine (points_any lk ia n ic oa m oc X S w2.drew (HH.out.1.below HB2.out.drew) (fun i hi => by have := (HI.out i hi).1; exact ⟨by omega, by omega⟩) hn).mono ?_
   rintro e w3 ⟨⟨pb, rfl, hpm⟩, hb3⟩
   have HB3 : Hid (Below w2.heap.size w2 w3) := (Below.refl _ w2).drew.trans hb3
   clear hb3
   obtain ⟨D, kk, hD, hDs⟩ := hpm
   have hlen : ∀ ty, (Builtin.len_ #[172] ty #[.map (some pb)]).run Tryz.prog w3 = .ok (.int .i64 ((ptsL X n).length : Nat)) w3 := fun ty => by rw [← hDs]; exact hD.len (t := 172) (e := 211) Tryz.underlying172 ty
   clear hD hDs
   refine hK.out _ _ (HS.out w3 HB3.out) (fun _ => ?_)
   clear hK K
   refine wpAnyH_ready (rs := [2]) (by kernel_rfl) (by simp) ?_
   refine (AllReadyH.cons (o := ⟨some 34, .call { callee := Go.Callee.builtin Go.Builtin.len, args := #[.tmp 33], argTypes := #[172] }, 3, _, _, none⟩) rfl (fun K hK => ?_) AllReadyH.nil)
   go_simp
   refine hK.out _ _ (HS.out w3 HB3.out) (fun _ => ?_)
   clear hK K hlen
   try simp only [Act.put, zA, zB, zC]
   refine wpT (i := 6) (oi := ⟨some 38, .binOp .lss 3 (.tmp 34) (.tmp 37) 3, 4, _, _, none⟩) (v := ?_) rfl (by kernel_rfl) (fun _ _ _ h => h) (Or.inl ⟨by rfl, ?_⟩) (by assumption) ?_
   rotate_left
   ·intro wz hSw; (try dsimp only at hSw); go_simp; (try with_reducible rfl)
   try simp only [Act.put, zA, zB, zC]
   refine wpT (i := 7) (oi := ⟨some 31, .assign (.tmp 38), 4, _, _, none⟩) (v := ?_) rfl (by kernel_rfl) (fun _ _ _ h => h) (Or.inl ⟨by rfl, ?_⟩) (by assumption) ?_
   rotate_left
   ·intro wz hSw; (try dsimp only at hSw); go_simp; (try with_reducible rfl)
   try simp only [Act.put, zA, zB, zC]
   refine wpAnyH_done (by kernel_rfl) (NoPanic.normal ?_) _
   try simp only [Act.put, zA, zB, zC]
   clear hHeld S0
   by_cases hA : Apart X n
   ·have hl : (ptsL X n).length = n := (ptsL_full X n).2 hA
    have hl' : decide ((ptsL X n).length < n) = false := by simp; omega
    rw [hl']
    clear hl'
    have HE : Hid (txE lk n X m O = if outsE O m ≠ 0 then outsE O m else totE O m) := by unfold txE; rw [if_neg (by simpa using HN.out), if_neg (by simpa using HI.out), if_neg (by simpa using hA)]; exact rfl
    have hb3 : Below w.heap.size w w3 := HB2.out.trans (HB3.out.mono HB2.out.size)
    have hr3 := HR2.out w3 HB3.out
    have c2 : w3.cell? ⟨w.heap.size, 2, none⟩ = some (.slice oa m oc) := by rw [cell_of_row _ _ 2 _ _ _ hr3]; rfl
    clear hA hl HS HB3 HB2 HR2 HI HN
    go_wp2
    clear c2
    go_loopw [2, 5, 6, 43] (fun _ _ _ iv wr => ∃ i : Nat, i ≤ m ∧ iv = .int .i64 i ∧ outsE O i = 0 ∧ Below w.heap.size w wr ∧ wr.heap[w.heap.size]? = some (.cells #[.int .i64 lk, .slice ia n ic, .slice oa m oc] 50 (0, 0))) (fun _ _ _ iv _ => m + 1 - (intOf iv).toNat)
    case atStart => exact ⟨0, by omega, rfl, rfl, hb3, hr3⟩
    case round =>
     clear hb3 hr3
     obtain ⟨i, hi, rfl, hz, hb, hr⟩ := hrel
     have HZ : Hid (outsE O i = 0) := hz
     clear hz
     by_cases hlt : i < m
     ·have hlt' : (i : Int) < m := by omega
      obtain ⟨b, off, rfl, hc⟩ := HH.out.2.1.at_ (by omega)
      obtain ⟨ca, cc, hr0, hbr, _⟩ := hc i hlt
      have hr1 := range_below hr0 hb
      have c0 : wr.cell? ⟨b, off + i * 2, none⟩ = some (.int .i64 (O i).am) := by simpa using hr1 0 _ rfl
      have c1 : wr.cell? ⟨b, off + i * 2 + 1, none⟩ = some (.slice ca (O i).cn cc) := hr1 1 _ rfl
      have hb1 : Below w.heap.size w (wr.alloc (.cells #[.int .i64 (O i).am, .slice ca (O i).cn cc] 95)) := hb.alloc hb.size _
      have hk := checkOut_any (O i) ca cc (wr.alloc (.cells #[.int .i64 (O i).am, .slice ca (O i).cn cc] 95)) (hbr.below hb1) (HH.out.2.2 i hlt)
      have hrA : (wr.alloc (.cells #[.int .i64 (O i).am, .slice ca (O i).cn cc] 95)).heap[w.heap.size]? = some (.cells #[.int .i64 lk, .slice ia n ic, .slice (some ⟨b, off, none⟩) m oc] 50 (0, 0)) := by rw [Below.heap_alloc _ _ _ (lt_of_block hr)]; exact hr
      unfold tov at hk
      clear hc hr0 hbr hr1
      by_cases hq : outE (O i) = 0
      ·rw [hq, kerrV_0] at hk
       have HN : Hid (outsE O (i + 1) = 0) := by rw [outsE, if_pos HZ.out]; exact hq
       clear hq
       go_wp2_with fail
       generalize wr.alloc (.cells #[.int .i64 (O i).am, .slice ca (O i).cn cc] 95) = q1 at *
       refine hk.mono ?_
       rintro e q2 ⟨rfl, hb2⟩
       have hrB : q2.heap[w.heap.size]? = some (.cells #[.int .i64 lk, .slice ia n ic, .slice (some ⟨b, off, none⟩) m oc] 50 (0, 0)) := by rw [hb2.block _ (lt_of_block hrA)]; exact hrA
       have hbB : Below w.heap.size w q2 := hb1.trans (hb2.mono hb1.size)
       clear hk hrA hb1 hb2 c0 c1 hr hb
       go_wp2
       go_roundw
       case rel => exact ⟨i + 1, by omega, by go_num, HN.out, hbB, hrB⟩
       case measure => simp [intOf]; omega
      ·rw [kerrV_ne hq] at hk
       have HE2 : Hid (errV (txE lk n X m O) = .iface 101 (.int .i64 (outE (O i)))) := by
        have e1 : outsE O (i + 1) = outE (O i) := by rw [outsE, if_pos HZ.out]
        have e2 : outsE O m = outE (O i) := by rw [← e1]; exact outsE_stop (by rw [e1]; exact hq) m (by omega)
        rw [HE.out, e2, if_pos hq, kerrV_ne hq]; exact rfl
       clear hq
       go_wp2_with fail
       generalize wr.alloc (.cells #[.int .i64 (O i).am, .slice ca (O i).cn cc] 95) = q1 at *
       refine hk.mono ?_
       rintro e q2 ⟨rfl, hb2⟩
       have hbB : Below w.heap.size w q2 := hb1.trans (hb2.mono hb1.size)
       clear hk hrA hb1 hb2 c0 c1 hr hb
       go_wp2
       go_ret
       exact ⟨by rw [HE2.out]; rfl, hbB⟩
     ·obtain rfl : i = m := by omega
      have hnn : ¬ ((i : Int) < i) := by omega
      have HE3 : Hid (txE lk n X i O = totE O i) := by rw [HE.out, if_neg (by simpa using HZ.out)]; exact rfl
      have hk := ktotal_any lk ia n ic oa i oc O wr (HH.out.2.1.below hb) hm
      unfold txv at hk
      obtain ⟨c0, c1, c2⟩ : wr.cell? ⟨w.heap.size, 0, none⟩ = some (.int .i64 lk) ∧ wr.cell? ⟨w.heap.size, 1, none⟩ = some (.slice ia n ic) ∧ wr.cell? ⟨w.heap.size, 2, none⟩ = some (.slice oa i oc) := ⟨by rw [cell_of_row _ _ 0 _ _ _ hr]; rfl, by rw [cell_of_row _ _ 1 _ _ _ hr]; rfl, by rw [cell_of_row _ _ 2 _ _ _ hr]; rfl⟩
      go_wp2_with fail
      refine hk.mono ?_
      rintro e q2 ⟨rfl, hb2⟩
      have hbB : Below w.heap.size w q2 := hb.trans (hb2.mono hb.size)
      clear hk c0 c1 c2 hr hb hb2
      go_wp2
      go_ret
      exact ⟨by rw [HE3.out]; rfl, hbB⟩
   ·have hl' : ((ptsL X n).length : Int) < (n : Int) := by have h1 := ptsL_le X n; have h2 : (ptsL X n).length ≠ n := fun h => hA ((ptsL_full X n).1 h); omega
    have HE : Hid (txE lk n X m O = 9) := by unfold txE; rw [if_neg (by simpa using HN.out), if_neg (by simpa using HI.out), if_pos hA]; exact rfl
    have HBE : Hid (Below w.heap.size w w3) := HB2.out.trans (HB3.out.mono HB2.out.size)
    clear hA
    go_wp2
    go_ret
    exact ⟨by rw [HE.out]; rfl, HBE.out⟩
  ·have d4 : (!decide (InsOk X n)) = true := by simpa using hI
   rw [d4]
   have HE : Hid (txE lk n X m O = 4) := by unfold txE; rw [if_neg (by simpa using HN.out), if_pos hI]; exact rfl
   have HBE : Hid (Below w.heap.size w w2) := hb0.trans (hb2.mono hb0.size)
   clear d4 hI hr0 hb2 c1 c2 hb0
   go_wp2
   go_ret
   exact ⟨by rw [HE.out]; rfl, HBE.out⟩
 ·have HE : Hid (txE lk n X m O = 4) := if_pos hN
  by_cases h1 : 0 ≤ lk ∧ lk ≤ 1099511627776
  ·have d1 : decide (0 ≤ lk ∧ lk ≤ 1099511627776) = true := by simpa using h1
   by_cases h2 : 1 ≤ n ∧ n ≤ 64
   ·have d2 : decide ((1 : Int) ≤ (n : Int) ∧ (n : Int) ≤ 64) = true := by simp; omega
    have d3 : decide ((1 : Int) ≤ (m : Int) ∧ (m : Int) ≤ 64) = false := by
     have : ¬ (1 ≤ m ∧ m ≤ 64) := fun h => hN ⟨h1, h2, h⟩
     rw [decide_eq_false_iff_not]; omega
    clear hN h1 h2
    go_enter Tryz.func51, Tryz.ntmps51
    go_wp2_with fail
    generalize w.alloc (.cells #[.int .i64 lk, .slice ia n ic, .slice oa m oc] 50) = W0 at *
    have c1 : W0.cell? ⟨w.heap.size, 1, none⟩ = some (.slice ia n ic) := by rw [cell_of_row _ _ 1 _ _ _ hr0]; rfl
    have c2 : W0.cell? ⟨w.heap.size, 2, none⟩ = some (.slice oa m oc) := by rw [cell_of_row _ _ 2 _ _ _ hr0]; rfl
    refine (kwithin_any lk 0 1099511627776 _).mono ?_
    rintro e w1 ⟨rfl, hW⟩
    rw [hW, d1]
    clear hW
    go_wp2_with fail
    refine (kwithin_any n 1 64 _).mono ?_
    rintro e w1 ⟨rfl, hW⟩
    rw [hW, d2]
    clear hW
    go_wp2_with fail
    refine (kwithin_any m 1 64 _).mono ?_
    rintro e w1 ⟨rfl, hW⟩
    rw [hW, d3]
    clear hW
    go_wp2
    go_ret
    exact ⟨by rw [HE.out]; rfl, hb0⟩
   ·have d2 : decide ((1 : Int) ≤ (n : Int) ∧ (n : Int) ≤ 64) = false := by rw [decide_eq_false_iff_not]; omega
    clear hN h1 h2
    go_enter Tryz.func51, Tryz.ntmps51
    go_wp2_with fail
    generalize w.alloc (.cells #[.int .i64 lk, .slice ia n ic, .slice oa m oc] 50) = W0 at *
    have c1 : W0.cell? ⟨w.heap.size, 1, none⟩ = some (.slice ia n ic) := by rw [cell_of_row _ _ 1 _ _ _ hr0]; rfl
    refine (kwithin_any lk 0 1099511627776 _).mono ?_
    rintro e w1 ⟨rfl, hW⟩
    rw [hW, d1]
    clear hW
    go_wp2_with fail
    refine (kwithin_any n 1 64 _).mono ?_
    rintro e w1 ⟨rfl, hW⟩
    rw [hW, d2]
    clear hW
    go_wp2
    go_ret
    exact ⟨by rw [HE.out]; rfl, hb0⟩
  ·have d1 : decide (0 ≤ lk ∧ lk ≤ 1099511627776) = false := by simpa using h1
   clear hN h1
   go_enter Tryz.func51, Tryz.ntmps51
   go_wp2_with fail
   refine (kwithin_any lk 0 1099511627776 _).mono ?_
   rintro e w1 ⟨rfl, hW⟩
   rw [hW, d1]
   clear hW
   go_wp2
   go_ret
   exact ⟨by rw [HE.out]; rfl, hb0⟩
end Go.Proofs.YtjnepkggdkccaaaGreatDoor
/- The library's contracts laid at this program: which of its functions and types they speak of. -/
namespace Go.Proofs
open Go.Shelf
def Tryz.lGrowB_ren : Go.Shelf.Ren := ⟨fun | 4 => 107 | n => n, fun | 22 => 91 | 25 => 164 | 3 => 3 | 4 => 4 | 9 => 9 | 20 => 20 | 0 => 0 | n => n, fun | n => n⟩
theorem Tryz.lGrowB : Go.Proofs.Lays8.n4 Tryz.prog Tryz.lGrowB_ren := {
 mixed := by kernel_rfl
 f4 := ⟨Tryz.f107.name, by decide, Tryz.func107.trans (congrArg some (by kernel_rfl))⟩
 t0 := Tryz.underlying0
 a0 := Tryz.isAgg0
 z0 := Tryz.sizeOf0
 v0 := Tryz.zeroValue0
 t3 := Tryz.underlying3
 a3 := Tryz.isAgg3
 z3 := Tryz.sizeOf3
 v3 := Tryz.zeroValue3
 t4 := Tryz.underlying4
 a4 := Tryz.isAgg4
 z4 := Tryz.sizeOf4
 v4 := Tryz.zeroValue4
 t9 := Tryz.underlying9
 a9 := Tryz.isAgg9
 z9 := Tryz.sizeOf9
 v9 := Tryz.zeroValue9
 t20 := Tryz.underlying20
 a20 := Tryz.isAgg20
 z20 := Tryz.sizeOf20
 v20 := Tryz.zeroValue20
 t22 := Tryz.underlying91
 a22 := Tryz.isAgg91
 z22 := Tryz.sizeOf91
 v22 := Tryz.zeroValue91 }
end Go.Proofs
