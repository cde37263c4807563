/- The document's Keep where it keeps. -/
import Derived.Test.YtjlobimncpiacaaDoorOwnShelf46
import Derived.Deep.CutBlock
import Derived.Deep.DeepCutAuto
namespace Go.Proofs.YtjlobimncpiacaaDoor
open Go.RowKit
attribute [local go_sem ↓] Go.wp_at_zero Go.wp_at_succ

/-- What the document's Keep answers. -/
def RKep (s : Sv) (f : Int) (y : Hd) (e : Ending) (w' : World) : Prop := ∃ i : Nat, i ≤ s.hn ∧ (∀ j, j < i → (s.H j).id < y.id) ∧ (i < s.hn → y.id ≤ (s.H i).id) ∧ ∃ p', e = .returned (.tuple #[.agg (svv (keepY (asideS s f y.am) i y) p'), .int .i64 0]) ∧ SvAt w' (keepY (asideS s f y.am) i y) p'
set_option maxRecDepth 100000 in
set_option maxHeartbeats 6400000 in
theorem rkeep_ok_0 (s : Sv) (p : Pl) (y : Hd) (ka : Option Addr) (kc : Nat) (w : World) (h : SvAt w s p) (hs : s.Small) (hI : IsAt w ka y.n y.z) (hkn : ka = none → y.n = 0 ∧ kc = 0) (hyn : y.n ≤ 1000000) (hsp : ∀ a, p.ha = some a → ∃ bb off, a = ⟨bb, off, none⟩) (he : rkE s 0 y = 0) :
    Calls Tryd.prog 9 #[.agg (svv s p), .int .i64 0, .agg (hdv y ka kc)] w fun e w' => RKep s 0 y e w' ∧ Below w.heap.size w w' := by
  obtain ⟨hr, _, hd, hm, hb, h8, hh⟩ := asideE_ok he
  have hm := of_decide_eq_true hm
  clear he
  have HKP : Hid (HdAt w p.ha s.hn s.H ∧ s.hn ≤ p.hc ∧ (p.ha = none → s.hn = 0 ∧ p.hc = 0)) := ⟨h.hd, h.hcap, h.hnil⟩
  have HFIN : Hid (∀ (i : Nat), i ≤ s.hn → ∀ (A : Nat → Option Addr × Nat) (vx : Option Addr) (vy : Nat) (V : World) (B : Nat), (∀ i, i < s.hn → IsAt w (A i).1 (s.H i).n (s.H i).z ∧ ((A i).1 = none → (s.H i).n = 0 ∧ (A i).2 = 0)) → w.heap.size ≤ B → Below w.heap.size w V → V.ownsRow B 29 3 (.slice vx (s.hn + 1) vy) (s.hn + 1) (flatL (hf (insG s.H i y) (insG A i (ka, kc))) (s.hn + 1)) → SvAt V (keepY (asideS s 0 y.am) i y) ⟨p.pa, p.pc, vx, vy⟩) := fun i hi A vx vy V B hks hB hb ho => by
    have hv := h.below hb
    have hr := asideS_rows s 0 y.am
    have hrow := hd_of_row ho (fun j hj => by
      unfold insG
      by_cases h1 : j < i
      · simp only [h1, if_true]
        exact ⟨(hks j (by omega)).1.below hb, (hks j (by omega)).2⟩
      · simp only [h1, if_false]
        by_cases h2 : j = i
        · simp only [h2, if_true]
          exact ⟨hI.below hb, hkn⟩
        · simp only [h2, if_false]
          exact ⟨(hks (j - 1) (by omega)).1.below hb, (hks (j - 1) (by omega)).2⟩)
    refine ⟨?_, ?_, ?_, ?_, ?_, ?_⟩
    · show PyAt V p.pa (asideS s 0 y.am).pn (asideS s 0 y.am).P
      rw [hr.1, hr.2.1]; exact hv.py
    · show HdAt V vx ((asideS s 0 y.am).hn + 1) (insG (asideS s 0 y.am).H i y)
      rw [hr.2.2.1, hr.2.2.2]; exact hrow
    · show (asideS s 0 y.am).pn ≤ p.pc
      rw [hr.1]; exact hv.pcap
    · show (asideS s 0 y.am).hn + 1 ≤ vy
      rw [hr.2.2.1]; exact (own_nil ho).1
    · show p.pa = none → (asideS s 0 y.am).pn = 0 ∧ p.pc = 0
      rw [hr.1]; exact hv.pnil
    · show vx = none → (asideS s 0 y.am).hn + 1 = 0 ∧ vy = 0
      rw [hr.2.2.1]; exact (own_nil ho).2
  have HSV : Hid (∀ (i : Nat) (vx : Option Addr) (vy : Nat), svv (keepY (asideS s 0 y.am) i y) ⟨p.pa, p.pc, vx, vy⟩ = #[.int .i64 (s.nu + 1), .int .i64 (s.a + -y.am), .int .i64 s.b, .slice p.pa s.pn p.pc, .slice vx (s.hn + 1) vy]) := fun i vx vy => by simp [svv, keepY, asideS, giv, nxt]
  have HSP : Hid (∀ a, p.ha = some a → ∃ bb off, a = ⟨bb, off, none⟩) := hsp
  clear hsp
  have b0 := hr.1.1.1
  have b1 := hr.1.1.2.1
  have b2 := hr.1.1.2.2
  have b3 := hr.2
  have bam := hm.2.2.1
  have HWT : Hid (∀ (pa : Option Addr) (pn pc : Nat) (ha : Option Addr) (hn hc : Nat) (V : World), Calls Tryd.prog 29 #[.agg #[.int .i64 s.nu, .int .i64 s.a, .int .i64 s.b, .slice p.pa s.pn p.pc, .slice p.ha s.hn p.hc], .int .i64 (-y.am), .int .i64 0, .slice pa pn pc, .slice ha hn hc] V fun e w' => e = .returned (.agg #[.int .i64 (s.nu + 1), .int .i64 (s.a + (-y.am)), .int .i64 (s.b + 0), .slice pa pn pc, .slice ha hn hc]) ∧ Below V.heap.size V w') := fun pa pn pc ha hn hc V => rwith_any s p (-y.am) 0 pa pn pc ha hn hc V (by simp [wrap64]; omega) (by simp [wrap64]; omega) (by simp [wrap64]; omega)
  have EN : Hid (wrap64 (-y.am) = -y.am) := by show wrap64 (-y.am) = -y.am; simp [wrap64]; omega
  have hhn8 : s.hn ≤ 8 := by have := hr.1.2.1.1; omega
  clear b0 b1 b2 b3 bam
  obtain ⟨W0, hW0, r0, r1, r2, hsz, hb0⟩ := three_boxesR w s p y ka kc
  have HV : Hid (SvAt w s p ∧ s.Small ∧ IsAt w ka y.n y.z ∧ (ka = none → y.n = 0 ∧ kc = 0) ∧ y.n ≤ 1000000) := ⟨h, hs, hI, hkn, hyn⟩
  have hc := right_any s p W0 (h.below hb0) hs
  have HX0 : Hid (W0.heap[w.heap.size]? = some (.cells (svv s p) 26 (0, 0)) ∧ W0.heap[w.heap.size + 1]? = some (.cells (hdv y ka kc) 29 (0, 0)) ∧ W0.heap[w.heap.size + 2]? = some (.cells #[.int .i64 0, .int .i64 0, .int .i64 0, .slice none 0 0, .slice none 0 0] 26 (0, 0)) ∧ W0.heap.size = w.heap.size + 3 ∧ Below w.heap.size w W0) := ⟨r0, r1, r2, hsz, hb0⟩
  clear h hs hI hkn hyn r0 r1 r2 hsz hb0
  subst hW0
  unfold svv hdv at hc HX0 ⊢
  go_enter Tryd.func9, Tryd.ntmps9
  go_wp2_with fail
  generalize ((w.alloc (.cells #[.int .i64 s.nu, .int .i64 s.a, .int .i64 s.b, .slice p.pa s.pn p.pc, .slice p.ha s.hn p.hc] 26)).alloc (.cells #[.int .i64 y.id, .int .i64 y.am, .slice ka y.n kc] 29)).alloc (.cells #[.int .i64 0, .int .i64 0, .int .i64 0, .slice none 0 0, .slice none 0 0] 26) = W0 at *
  (try rw [show w.heap.size + 1 + 1 = w.heap.size + 2 from rfl])
  refine hc.mono ?_
  rintro e w1 ⟨rfl, hb1⟩
  have HX : Hid (w1.heap[w.heap.size]? = some (.cells #[.int .i64 s.nu, .int .i64 s.a, .int .i64 s.b, .slice p.pa s.pn p.pc, .slice p.ha s.hn p.hc] 26 (0, 0)) ∧ w1.heap[w.heap.size + 1]? = some (.cells #[.int .i64 y.id, .int .i64 y.am, .slice ka y.n kc] 29 (0, 0)) ∧ w1.heap[w.heap.size + 2]? = some (.cells #[.int .i64 0, .int .i64 0, .int .i64 0, .slice none 0 0, .slice none 0 0] 26 (0, 0)) ∧ Below w.heap.size w w1) := ⟨(hb1.block _ (lt_of_block HX0.out.1)).trans HX0.out.1, (hb1.block _ (lt_of_block HX0.out.2.1)).trans HX0.out.2.1, (hb1.block _ (lt_of_block HX0.out.2.2.1)).trans HX0.out.2.2.1, HX0.out.2.2.2.2.trans (hb1.mono HX0.out.2.2.2.2.size)⟩
  clear hc hb1 HX0
  obtain ⟨c0, c1, c2, c3, c4, cf⟩ := five_of HX.out.1
  obtain ⟨k0, k1, k2⟩ := hd_new (x := y) HX.out.2.1 rfl
  obtain ⟨d0, d1, d2, d3, d4, df⟩ := five_of HX.out.2.2.1
  rw [decide_eq_true hr]
  have h8' : ¬ (7 : Int) < (s.pn : Int) + (s.hn : Int) := by omega
  have ew : wrap64 ((s.pn : Int) + (s.hn : Int)) = (s.pn : Int) + (s.hn : Int) := by simp [wrap64]; omega
  have hh' : ¬ s.a < y.am := by have h : y.am ≤ s.a := hh; omega
  clear hh hr
  go_wp2_with fail
  refine (holdMay_any y ka kc w1 (HV.out.2.2.1.below HX.out.2.2.2) HV.out.2.2.2.2).mono ?_
  rintro e w2 ⟨rfl, hb2⟩
  have HX2 : Hid (w2.heap[w.heap.size]? = some (.cells #[.int .i64 s.nu, .int .i64 s.a, .int .i64 s.b, .slice p.pa s.pn p.pc, .slice p.ha s.hn p.hc] 26 (0, 0)) ∧ w2.heap[w.heap.size + 1]? = some (.cells #[.int .i64 y.id, .int .i64 y.am, .slice ka y.n kc] 29 (0, 0)) ∧ w2.heap[w.heap.size + 2]? = some (.cells #[.int .i64 0, .int .i64 0, .int .i64 0, .slice none 0 0, .slice none 0 0] 26 (0, 0)) ∧ Below w.heap.size w w2) := ⟨(hb2.block _ (lt_of_block HX.out.1)).trans HX.out.1, (hb2.block _ (lt_of_block HX.out.2.1)).trans HX.out.2.1, (hb2.block _ (lt_of_block HX.out.2.2.1)).trans HX.out.2.2.1, HX.out.2.2.2.trans (hb2.mono HX.out.2.2.2.size)⟩
  clear c0 c1 c2 c3 c4 cf k0 k1 k2 d0 d1 d2 d3 d4 df HX hb2
  have HX : Hid (w2.heap[w.heap.size]? = some (.cells #[.int .i64 s.nu, .int .i64 s.a, .int .i64 s.b, .slice p.pa s.pn p.pc, .slice p.ha s.hn p.hc] 26 (0, 0)) ∧ w2.heap[w.heap.size + 1]? = some (.cells #[.int .i64 y.id, .int .i64 y.am, .slice ka y.n kc] 29 (0, 0)) ∧ w2.heap[w.heap.size + 2]? = some (.cells #[.int .i64 0, .int .i64 0, .int .i64 0, .slice none 0 0, .slice none 0 0] 26 (0, 0)) ∧ Below w.heap.size w w2) := HX2.out
  clear HX2
  obtain ⟨c0, c1, c2, c3, c4, cf⟩ := five_of HX.out.1
  obtain ⟨k0, k1, k2⟩ := hd_new (x := y) HX.out.2.1 rfl
  obtain ⟨d0, d1, d2, d3, d4, df⟩ := five_of HX.out.2.2.1
  rw [decide_eq_true hm]
  go_wp2_with fail
  refine (holdAt_any p.ha s.hn p.hc s.H y.id w2 (HV.out.1.hd.below HX.out.2.2.2) (by have := HV.out.2.1.n; omega)).mono ?_
  rintro e w3 ⟨k, hk, rfl, hw3⟩
  rw [hw3]
  clear hw3
  have HH : Hid (HatR (fun j => (s.H j).id) s.hn y.id k) := hk
  have hkb := hat_hasB hk
  clear hk
  rw [hb] at hkb
  have hk0 : ¬ 0 ≤ k := of_decide_eq_false hkb
  clear hkb HH hb hm h8
  go_wp2_with fail
  have S0 : w2.drew.cell? ⟨w.heap.size, 1, none⟩ = some (.int .i64 s.a) ∧ w2.drew.cell? ⟨w.heap.size + 1, 1, none⟩ = some (.int .i64 y.am) := ⟨c1, k1⟩
  refine wp_region_noPanic ?_
  refine wp_region_held_drew (S := fun u => u.cell? ⟨w.heap.size, 1, none⟩ = some (.int .i64 s.a) ∧ u.cell? ⟨w.heap.size + 1, 1, none⟩ = some (.int .i64 y.am)) (by kernel_rfl) S0 (fun hHeld => ?_)
  have HBX : Hid (w2.drew.heap[w.heap.size]? = some (.cells #[.int .i64 s.nu, .int .i64 s.a, .int .i64 s.b, .slice p.pa s.pn p.pc, .slice p.ha s.hn p.hc] 26 (0, 0)) ∧ w2.drew.heap[w.heap.size + 1]? = some (.cells #[.int .i64 y.id, .int .i64 y.am, .slice ka y.n kc] 29 (0, 0))) := ⟨HX.out.1, HX.out.2.1⟩
  have HXd : Hid (w2.drew.heap[w.heap.size + 2]? = some (.cells #[.int .i64 0, .int .i64 0, .int .i64 0, .slice none 0 0, .slice none 0 0] 26 (0, 0)) ∧ Below w.heap.size w w2.drew) := ⟨HX.out.2.2.1, HX.out.2.2.2.drew⟩
  clear c0 c1 c2 c3 c4 cf k0 k1 k2 d0 d1 d2 d3 d4 df
  generalize w2.drew = Wd at *
  refine wpAnyH_take (i := 0) (oi := { dst := some 54, op := Go.Op.move (Go.Operand.tmp 1), type := 3, pos := "ref.go:242", after := #[], guard := none }) (v := ?_) rfl (by kernel_rfl) (by kernel_rfl) (by kernel_rfl) (fun _ _ _ h => h) (Or.inl ⟨by rfl, ?_⟩) (by assumption) ?_
  rotate_left
  · intro wz hSw; (try dsimp only at hSw); go_simp; (try with_reducible rfl)
  try simp only [Act.put, List.setIfInBounds_toArray, List.set_cons_zero, List.set_cons_succ]
  refine wpAnyH_take (i := 1) (oi := { dst := some 55, op := Go.Op.fieldAddr 26 (Go.Operand.tmp 3) 1, type := 0, pos := "ref.go:242", after := #[], guard := none }) (v := ?_) rfl (by kernel_rfl) (by kernel_rfl) (by kernel_rfl) (fun _ _ _ h => h) (Or.inl ⟨by rfl, ?_⟩) (by assumption) ?_
  rotate_left
  · intro wz hSw; (try dsimp only at hSw); go_simp; (try with_reducible rfl)
  try simp only [Act.put, List.setIfInBounds_toArray, List.set_cons_zero, List.set_cons_succ]
  refine wpAnyH_take (i := 2) (oi := { dst := some 56, op := Go.Op.indexAddr 22 (Go.Operand.tmp 55) (Go.Operand.tmp 54), type := 0, pos := "ref.go:242", after := #[{ on := 1, ground := Go.Ground.data }, { on := 0, ground := Go.Ground.data }], guard := none }) (v := ?_) rfl (by kernel_rfl) (by kernel_rfl) (by kernel_rfl) (fun _ _ _ h => h) (Or.inl ⟨by rfl, ?_⟩) (by assumption) ?_
  rotate_left
  · intro wz hSw; (try dsimp only at hSw); go_simp; (try with_reducible rfl)
  try simp only [Act.put, List.setIfInBounds_toArray, List.set_cons_zero, List.set_cons_succ]
  refine wpAnyH_take (i := 3) (oi := { dst := some 57, op := Go.Op.load 3 (Go.Operand.tmp 56), type := 3, pos := "ref.go:242", after := #[{ on := 2, ground := Go.Ground.data }], guard := none }) (v := ?_) rfl (by kernel_rfl) (by kernel_rfl) (by kernel_rfl) (fun _ _ _ h => h) (Or.inl ⟨by rfl, ?_⟩) (by assumption) ?_
  rotate_left
  · intro wz hSw; (try dsimp only at hSw); go_simp; (try with_reducible rfl)
  try simp only [Act.put, List.setIfInBounds_toArray, List.set_cons_zero, List.set_cons_succ]
  refine wpAnyH_take (i := 4) (oi := { dst := some 58, op := Go.Op.fieldAddr 29 (Go.Operand.tmp 5) 1, type := 0, pos := "ref.go:242", after := #[], guard := none }) (v := ?_) rfl (by kernel_rfl) (by kernel_rfl) (by kernel_rfl) (fun _ _ _ h => h) (Or.inl ⟨by rfl, ?_⟩) (by assumption) ?_
  rotate_left
  · intro wz hSw; (try dsimp only at hSw); go_simp; (try with_reducible rfl)
  try simp only [Act.put, List.setIfInBounds_toArray, List.set_cons_zero, List.set_cons_succ]
  refine wpAnyH_take (i := 5) (oi := { dst := some 59, op := Go.Op.load 3 (Go.Operand.tmp 58), type := 3, pos := "ref.go:242", after := #[{ on := 4, ground := Go.Ground.data }], guard := none }) (v := ?_) rfl (by kernel_rfl) (by kernel_rfl) (by kernel_rfl) (fun _ _ _ h => h) (Or.inl ⟨by rfl, ?_⟩) (by assumption) ?_
  rotate_left
  · intro wz hSw; (try dsimp only at hSw); go_simp; (try with_reducible rfl)
  try simp only [Act.put, List.setIfInBounds_toArray, List.set_cons_zero, List.set_cons_succ]
  refine wpAnyH_take (i := 6) (oi := { dst := some 60, op := Go.Op.binOp Go.BinOp.lss 3 (Go.Operand.tmp 57) (Go.Operand.tmp 59) 3, type := 4, pos := "ref.go:242", after := #[{ on := 3, ground := Go.Ground.data }, { on := 5, ground := Go.Ground.data }], guard := none }) (v := ?_) rfl (by kernel_rfl) (by kernel_rfl) (by kernel_rfl) (fun _ _ _ h => h) (Or.inl ⟨by rfl, ?_⟩) (by assumption) ?_
  rotate_left
  · intro wz hSw; (try dsimp only at hSw); go_simp; (try with_reducible rfl)
  try simp only [Act.put, List.setIfInBounds_toArray, List.set_cons_zero, List.set_cons_succ]
  refine wpAnyH_take (i := 7) (oi := { dst := some 53, op := Go.Op.assign (Go.Operand.tmp 60), type := 4, pos := "ref.go:242", after := #[{ on := 6, ground := Go.Ground.data }], guard := none }) (v := ?_) rfl (by kernel_rfl) (by kernel_rfl) (by kernel_rfl) (fun _ _ _ h => h) (Or.inl ⟨by rfl, ?_⟩) (by assumption) ?_
  rotate_left
  · intro wz hSw; (try dsimp only at hSw); go_simp; (try with_reducible rfl)
  try simp only [Act.put, List.setIfInBounds_toArray, List.set_cons_zero, List.set_cons_succ]
  refine wpAnyH_done (by kernel_rfl) (NoPanic.normal ?_) _
  try simp only [Act.put, List.setIfInBounds_toArray, List.set_cons_zero, List.set_cons_succ]
  clear hHeld S0
  clear h8' ew hd hk0
  have HX3 : Hid (Wd.heap[w.heap.size]? = some (.cells #[.int .i64 s.nu, .int .i64 s.a, .int .i64 s.b, .slice p.pa s.pn p.pc, .slice p.ha s.hn p.hc] 26 (0, 0)) ∧ Wd.heap[w.heap.size + 1]? = some (.cells #[.int .i64 y.id, .int .i64 y.am, .slice ka y.n kc] 29 (0, 0)) ∧ Wd.heap[w.heap.size + 2]? = some (.cells #[.int .i64 0, .int .i64 0, .int .i64 0, .slice none 0 0, .slice none 0 0] 26 (0, 0)) ∧ Below w.heap.size w Wd) := ⟨HBX.out.1, HBX.out.2, HXd.out.1, HXd.out.2⟩
  clear HXd HBX HX
  go_wp2
  clear hh'
  go_loopw [9] (fun iv wr => ∃ i : Nat, i ≤ s.hn ∧ iv = .int .i64 i ∧ (∀ j, j < i → (s.H j).id < y.id) ∧ wr.heap[w.heap.size]? = some (.cells #[.int .i64 s.nu, .int .i64 s.a, .int .i64 s.b, .slice p.pa s.pn p.pc, .slice p.ha s.hn p.hc] 26 (0, 0)) ∧ wr.heap[w.heap.size + 1]? = some (.cells #[.int .i64 y.id, .int .i64 y.am, .slice ka y.n kc] 29 (0, 0)) ∧ wr.heap[w.heap.size + 2]? = some (.cells #[.int .i64 0, .int .i64 0, .int .i64 0, .slice none 0 0, .slice none 0 0] 26 (0, 0)) ∧ Below w.heap.size w wr) (fun iv _ => s.hn + 1 - (intOf iv).toNat)
  case atStart => exact ⟨0, Nat.zero_le _, rfl, fun j hj => by omega, HX3.out⟩
  case round =>
    clear HX3
    obtain ⟨i, hi, rfl, hlo, hx⟩ := hrel
    have HX : Hid (wr.heap[w.heap.size]? = some (.cells #[.int .i64 s.nu, .int .i64 s.a, .int .i64 s.b, .slice p.pa s.pn p.pc, .slice p.ha s.hn p.hc] 26 (0, 0)) ∧ wr.heap[w.heap.size + 1]? = some (.cells #[.int .i64 y.id, .int .i64 y.am, .slice ka y.n kc] 29 (0, 0)) ∧ wr.heap[w.heap.size + 2]? = some (.cells #[.int .i64 0, .int .i64 0, .int .i64 0, .slice none 0 0, .slice none 0 0] 26 (0, 0)) ∧ Below w.heap.size w wr) := hx
    have HLO : Hid (∀ j, j < i → (s.H j).id < y.id) := hlo
    have HIL : Hid (i ≤ s.hn) := hi
    clear hx hlo
    obtain ⟨A, hsrc, hks⟩ := HKP.out.1.src HKP.out.2.2
    have HSR : Hid (Src w p.ha s.hn p.hc (flatL (hf s.H A) s.hn)) := hsrc
    have HKS : Hid (∀ i, i < s.hn → IsAt w (A i).1 (s.H i).n (s.H i).z ∧ ((A i).1 = none → (s.H i).n = 0 ∧ (A i).2 = 0)) := hks
    have HCP : Hid (s.hn ≤ p.hc) := HKP.out.2.1
    clear hsrc hks
    by_cases hlt : i < s.hn
    · have hlt' : (i : Int) < s.hn := by omega
      obtain ⟨b, off, hpa, hrg⟩ := HSR.out.1 (by omega)
      obtain ⟨pa, pc, ha, hc⟩ := p
      dsimp only at *
      subst hpa
      have hri := (flatL_range s.hn (hf_len s.H A s.hn)).1 hrg i hlt
      have S0 : wr.drew.cell? ⟨w.heap.size, 4, none⟩ = some (.slice (some ⟨b, off, none⟩) s.hn hc) ∧ wr.drew.cell? ⟨b, off + i * 3, none⟩ = some (.int .i64 (s.H i).id) ∧ wr.drew.cell? ⟨w.heap.size + 1, 0, none⟩ = some (.int .i64 y.id) := ⟨(five_of HX.out.1).c4, (hd_cells (range_below hri HX.out.2.2.2)).1, (hd_new (x := y) HX.out.2.1 rfl).1⟩
      clear hrg hri
      go_upto_region 17 with fail
      refine wp_region_noPanic ?_
      refine wp_region_held_drew (S := fun u => u.cell? ⟨w.heap.size, 4, none⟩ = some (.slice (some ⟨b, off, none⟩) s.hn hc) ∧ u.cell? ⟨b, off + i * 3, none⟩ = some (.int .i64 (s.H i).id) ∧ u.cell? ⟨w.heap.size + 1, 0, none⟩ = some (.int .i64 y.id)) (by kernel_rfl) S0 (fun hHeld => ?_)
      by_cases hid : (s.H i).id < y.id
      · have HN : Hid (∀ j, j < i + 1 → (s.H j).id < y.id) := fun j hj => by
          by_cases e : j = i
          · subst e; exact hid
          · exact HLO.out j (by omega)
        have HX1 : Hid (wr.drew.heap[w.heap.size]? = some (.cells #[.int .i64 s.nu, .int .i64 s.a, .int .i64 s.b, .slice pa s.pn pc, .slice (some ⟨b, off, none⟩) s.hn hc] 26 (0, 0)) ∧ wr.drew.heap[w.heap.size + 1]? = some (.cells #[.int .i64 y.id, .int .i64 y.am, .slice ka y.n kc] 29 (0, 0)) ∧ wr.drew.heap[w.heap.size + 2]? = some (.cells #[.int .i64 0, .int .i64 0, .int .i64 0, .slice none 0 0, .slice none 0 0] 26 (0, 0)) ∧ Below w.heap.size w wr.drew) := ⟨HX.out.1, HX.out.2.1, HX.out.2.2.1, HX.out.2.2.2.drew⟩
        generalize wr.drew = Wd at *
        refine wpAnyH_take (i := 0) (oi := { dst := some 62, op := Go.Op.move (Go.Operand.tmp 9), type := 3, pos := "ref.go:247", after := #[], guard := none }) (v := ?_) rfl (by kernel_rfl) (by kernel_rfl) (by kernel_rfl) (fun _ _ _ h => h) (Or.inl ⟨by rfl, ?_⟩) (by assumption) ?_
        rotate_left
        · intro wz hSw; (try dsimp only at hSw); go_simp; (try with_reducible rfl)
        try simp only [Act.put, List.setIfInBounds_toArray, List.set_cons_zero, List.set_cons_succ]
        refine wpAnyH_take (i := 1) (oi := { dst := some 63, op := Go.Op.fieldAddr 26 (Go.Operand.tmp 3) 3, type := 0, pos := "ref.go:247", after := #[], guard := none }) (v := ?_) rfl (by kernel_rfl) (by kernel_rfl) (by kernel_rfl) (fun _ _ _ h => h) (Or.inl ⟨by rfl, ?_⟩) (by assumption) ?_
        rotate_left
        · intro wz hSw; (try dsimp only at hSw); go_simp; (try with_reducible rfl)
        try simp only [Act.put, List.setIfInBounds_toArray, List.set_cons_zero, List.set_cons_succ]
        refine wpAnyH_take (i := 2) (oi := { dst := some 64, op := Go.Op.load 24 (Go.Operand.tmp 63), type := 24, pos := "ref.go:247", after := #[{ on := 1, ground := Go.Ground.data }], guard := none }) (v := ?_) rfl (by kernel_rfl) (by kernel_rfl) (by kernel_rfl) (fun _ _ _ h => h) (Or.inl ⟨by rfl, ?_⟩) (by assumption) ?_
        rotate_left
        · intro wz hSw; (try dsimp only at hSw); go_simp; (try with_reducible rfl)
        try simp only [Act.put, List.setIfInBounds_toArray, List.set_cons_zero, List.set_cons_succ]
        refine wpAnyH_take (i := 3) (oi := { dst := some 65, op := Go.Op.call { callee := Go.Callee.builtin Go.Builtin.len, args := #[Go.Operand.tmp 64], argTypes := #[24] }, type := 3, pos := "ref.go:247", after := #[{ on := 2, ground := Go.Ground.data }], guard := none }) (v := ?_) rfl (by kernel_rfl) (by kernel_rfl) (by kernel_rfl) (fun _ _ _ h => h) (Or.inl ⟨by rfl, ?_⟩) (by assumption) ?_
        rotate_left
        · intro wz hSw; (try dsimp only at hSw); go_simp; (try with_reducible rfl)
        try simp only [Act.put, List.setIfInBounds_toArray, List.set_cons_zero, List.set_cons_succ]
        refine wpAnyH_take (i := 4) (oi := { dst := some 66, op := Go.Op.binOp Go.BinOp.lss 3 (Go.Operand.tmp 62) (Go.Operand.tmp 65) 3, type := 4, pos := "ref.go:247", after := #[{ on := 0, ground := Go.Ground.data }, { on := 3, ground := Go.Ground.data }], guard := none }) (v := ?_) rfl (by kernel_rfl) (by kernel_rfl) (by kernel_rfl) (fun _ _ _ h => h) (Or.inl ⟨by rfl, ?_⟩) (by assumption) ?_
        rotate_left
        · intro wz hSw; (try dsimp only at hSw); go_simp; (try with_reducible rfl)
        try simp only [Act.put, List.setIfInBounds_toArray, List.set_cons_zero, List.set_cons_succ]
        refine wpAnyH_take (i := 5) (oi := { dst := some 67, op := Go.Op.move (Go.Operand.tmp 66), type := 4, pos := "ref.go:247", after := #[{ on := 4, ground := Go.Ground.data }], guard := none }) (v := ?_) rfl (by kernel_rfl) (by kernel_rfl) (by kernel_rfl) (fun _ _ _ h => h) (Or.inl ⟨by rfl, ?_⟩) (by assumption) ?_
        rotate_left
        · intro wz hSw; (try dsimp only at hSw); go_simp; (try with_reducible rfl)
        try simp only [Act.put, List.setIfInBounds_toArray, List.set_cons_zero, List.set_cons_succ]
        refine wpAnyH_take (i := 6) (oi := { dst := some 68, op := Go.Op.fieldAddr 26 (Go.Operand.tmp 3) 3, type := 0, pos := "ref.go:247", after := #[{ on := 5, ground := Go.Ground.guard }], guard := some (5, true) }) (v := ?_) rfl (by kernel_rfl) (by kernel_rfl) (by kernel_rfl) (fun _ _ _ h => h) (Or.inl ⟨by rfl, ?_⟩) (by assumption) ?_
        rotate_left
        · intro wz hSw; (try dsimp only at hSw); go_simp; (try with_reducible rfl)
        try simp only [Act.put, List.setIfInBounds_toArray, List.set_cons_zero, List.set_cons_succ]
        refine wpAnyH_take (i := 7) (oi := { dst := some 69, op := Go.Op.load 24 (Go.Operand.tmp 68), type := 24, pos := "ref.go:247", after := #[{ on := 6, ground := Go.Ground.data }, { on := 5, ground := Go.Ground.guard }], guard := some (5, true) }) (v := ?_) rfl (by kernel_rfl) (by kernel_rfl) (by kernel_rfl) (fun _ _ _ h => h) (Or.inl ⟨by rfl, ?_⟩) (by assumption) ?_
        rotate_left
        · intro wz hSw; (try dsimp only at hSw); go_simp; (try with_reducible rfl)
        try simp only [Act.put, List.setIfInBounds_toArray, List.set_cons_zero, List.set_cons_succ]
        refine wpAnyH_take (i := 8) (oi := { dst := some 70, op := Go.Op.move (Go.Operand.tmp 9), type := 3, pos := "ref.go:247", after := #[{ on := 5, ground := Go.Ground.guard }], guard := some (5, true) }) (v := ?_) rfl (by kernel_rfl) (by kernel_rfl) (by kernel_rfl) (fun _ _ _ h => h) (Or.inl ⟨by rfl, ?_⟩) (by assumption) ?_
        rotate_left
        · intro wz hSw; (try dsimp only at hSw); go_simp; (try with_reducible rfl)
        try simp only [Act.put, List.setIfInBounds_toArray, List.set_cons_zero, List.set_cons_succ]
        refine wpAnyH_take (i := 9) (oi := { dst := some 71, op := Go.Op.indexAddr 24 (Go.Operand.tmp 69) (Go.Operand.tmp 70), type := 0, pos := "ref.go:247", after := #[{ on := 7, ground := Go.Ground.data }, { on := 8, ground := Go.Ground.data }, { on := 5, ground := Go.Ground.guard }], guard := some (5, true) }) (v := ?_) rfl (by kernel_rfl) (by kernel_rfl) (by kernel_rfl) (fun _ _ _ h => h) (Or.inl ⟨by rfl, ?_⟩) (by assumption) ?_
        rotate_left
        · intro wz hSw; (try dsimp only at hSw); go_simp; (try with_reducible rfl)
        try simp only [Act.put, List.setIfInBounds_toArray, List.set_cons_zero, List.set_cons_succ]
        refine wpAnyH_take (i := 10) (oi := { dst := some 72, op := Go.Op.fieldAddr 29 (Go.Operand.tmp 71) 0, type := 0, pos := "ref.go:247", after := #[{ on := 9, ground := Go.Ground.data }, { on := 5, ground := Go.Ground.guard }], guard := some (5, true) }) (v := ?_) rfl (by kernel_rfl) (by kernel_rfl) (by kernel_rfl) (fun _ _ _ h => h) (Or.inl ⟨by rfl, ?_⟩) (by assumption) ?_
        rotate_left
        · intro wz hSw; (try dsimp only at hSw); go_simp; (try with_reducible rfl)
        try simp only [Act.put, List.setIfInBounds_toArray, List.set_cons_zero, List.set_cons_succ]
        refine wpAnyH_take (i := 11) (oi := { dst := some 73, op := Go.Op.load 3 (Go.Operand.tmp 72), type := 3, pos := "ref.go:247", after := #[{ on := 10, ground := Go.Ground.data }, { on := 5, ground := Go.Ground.guard }], guard := some (5, true) }) (v := ?_) rfl (by kernel_rfl) (by kernel_rfl) (by kernel_rfl) (fun _ _ _ h => h) (Or.inl ⟨by rfl, ?_⟩) (by assumption) ?_
        rotate_left
        · intro wz hSw; (try dsimp only at hSw); go_simp; (try with_reducible rfl)
        try simp only [Act.put, List.setIfInBounds_toArray, List.set_cons_zero, List.set_cons_succ]
        refine wpAnyH_take (i := 12) (oi := { dst := some 74, op := Go.Op.fieldAddr 29 (Go.Operand.tmp 5) 0, type := 0, pos := "ref.go:247", after := #[{ on := 5, ground := Go.Ground.guard }], guard := some (5, true) }) (v := ?_) rfl (by kernel_rfl) (by kernel_rfl) (by kernel_rfl) (fun _ _ _ h => h) (Or.inl ⟨by rfl, ?_⟩) (by assumption) ?_
        rotate_left
        · intro wz hSw; (try dsimp only at hSw); go_simp; (try with_reducible rfl)
        try simp only [Act.put, List.setIfInBounds_toArray, List.set_cons_zero, List.set_cons_succ]
        refine wpAnyH_take (i := 13) (oi := { dst := some 75, op := Go.Op.load 3 (Go.Operand.tmp 74), type := 3, pos := "ref.go:247", after := #[{ on := 12, ground := Go.Ground.data }, { on := 5, ground := Go.Ground.guard }], guard := some (5, true) }) (v := ?_) rfl (by kernel_rfl) (by kernel_rfl) (by kernel_rfl) (fun _ _ _ h => h) (Or.inl ⟨by rfl, ?_⟩) (by assumption) ?_
        rotate_left
        · intro wz hSw; (try dsimp only at hSw); go_simp; (try with_reducible rfl)
        try simp only [Act.put, List.setIfInBounds_toArray, List.set_cons_zero, List.set_cons_succ]
        refine wpAnyH_take (i := 14) (oi := { dst := some 76, op := Go.Op.binOp Go.BinOp.lss 3 (Go.Operand.tmp 73) (Go.Operand.tmp 75) 3, type := 4, pos := "ref.go:247", after := #[{ on := 11, ground := Go.Ground.data }, { on := 13, ground := Go.Ground.data }, { on := 5, ground := Go.Ground.guard }], guard := some (5, true) }) (v := ?_) rfl (by kernel_rfl) (by kernel_rfl) (by kernel_rfl) (fun _ _ _ h => h) (Or.inl ⟨by rfl, ?_⟩) (by assumption) ?_
        rotate_left
        · intro wz hSw; (try dsimp only at hSw); go_simp; (try with_reducible rfl)
        try simp only [Act.put, List.setIfInBounds_toArray, List.set_cons_zero, List.set_cons_succ]
        refine wpAnyH_take (i := 15) (oi := { dst := some 77, op := Go.Op.pick (Go.Operand.tmp 67) (Go.Operand.tmp 76) (Go.Operand.const (Go.Value.bool false)), type := 4, pos := "ref.go:247", after := #[{ on := 5, ground := Go.Ground.data }, { on := 14, ground := Go.Ground.data }], guard := none }) (v := ?_) rfl (by kernel_rfl) (by kernel_rfl) (by kernel_rfl) (fun _ _ _ h => h) (Or.inl ⟨by rfl, ?_⟩) (by assumption) ?_
        rotate_left
        · intro wz hSw; (try dsimp only at hSw); go_simp; (try with_reducible rfl)
        try simp only [Act.put, List.setIfInBounds_toArray, List.set_cons_zero, List.set_cons_succ]
        refine wpAnyH_done (by kernel_rfl) (NoPanic.normal ?_) _
        try simp only [Act.put, List.setIfInBounds_toArray, List.set_cons_zero, List.set_cons_succ]
        clear hHeld S0 hid HX
        go_wp2
        exact ⟨⟨i + 1, by omega, by go_num, HN.out, HX1.out⟩, by simp [intOf]; omega⟩
      · have HHI : Hid (i < s.hn → y.id ≤ (s.H i).id) := fun _ => Int.not_lt.1 hid
        refine wpAnyH_take (i := 0) (oi := { dst := some 62, op := Go.Op.move (Go.Operand.tmp 9), type := 3, pos := "ref.go:247", after := #[], guard := none }) (v := ?_) rfl (by kernel_rfl) (by kernel_rfl) (by kernel_rfl) (fun _ _ _ h => h) (Or.inl ⟨by rfl, ?_⟩) (by assumption) ?_
        rotate_left
        · intro wz hSw; (try dsimp only at hSw); go_simp; (try with_reducible rfl)
        try simp only [Act.put, List.setIfInBounds_toArray, List.set_cons_zero, List.set_cons_succ]
        refine wpAnyH_take (i := 1) (oi := { dst := some 63, op := Go.Op.fieldAddr 26 (Go.Operand.tmp 3) 3, type := 0, pos := "ref.go:247", after := #[], guard := none }) (v := ?_) rfl (by kernel_rfl) (by kernel_rfl) (by kernel_rfl) (fun _ _ _ h => h) (Or.inl ⟨by rfl, ?_⟩) (by assumption) ?_
        rotate_left
        · intro wz hSw; (try dsimp only at hSw); go_simp; (try with_reducible rfl)
        try simp only [Act.put, List.setIfInBounds_toArray, List.set_cons_zero, List.set_cons_succ]
        refine wpAnyH_take (i := 2) (oi := { dst := some 64, op := Go.Op.load 24 (Go.Operand.tmp 63), type := 24, pos := "ref.go:247", after := #[{ on := 1, ground := Go.Ground.data }], guard := none }) (v := ?_) rfl (by kernel_rfl) (by kernel_rfl) (by kernel_rfl) (fun _ _ _ h => h) (Or.inl ⟨by rfl, ?_⟩) (by assumption) ?_
        rotate_left
        · intro wz hSw; (try dsimp only at hSw); go_simp; (try with_reducible rfl)
        try simp only [Act.put, List.setIfInBounds_toArray, List.set_cons_zero, List.set_cons_succ]
        refine wpAnyH_take (i := 3) (oi := { dst := some 65, op := Go.Op.call { callee := Go.Callee.builtin Go.Builtin.len, args := #[Go.Operand.tmp 64], argTypes := #[24] }, type := 3, pos := "ref.go:247", after := #[{ on := 2, ground := Go.Ground.data }], guard := none }) (v := ?_) rfl (by kernel_rfl) (by kernel_rfl) (by kernel_rfl) (fun _ _ _ h => h) (Or.inl ⟨by rfl, ?_⟩) (by assumption) ?_
        rotate_left
        · intro wz hSw; (try dsimp only at hSw); go_simp; (try with_reducible rfl)
        try simp only [Act.put, List.setIfInBounds_toArray, List.set_cons_zero, List.set_cons_succ]
        refine wpAnyH_take (i := 4) (oi := { dst := some 66, op := Go.Op.binOp Go.BinOp.lss 3 (Go.Operand.tmp 62) (Go.Operand.tmp 65) 3, type := 4, pos := "ref.go:247", after := #[{ on := 0, ground := Go.Ground.data }, { on := 3, ground := Go.Ground.data }], guard := none }) (v := ?_) rfl (by kernel_rfl) (by kernel_rfl) (by kernel_rfl) (fun _ _ _ h => h) (Or.inl ⟨by rfl, ?_⟩) (by assumption) ?_
        rotate_left
        · intro wz hSw; (try dsimp only at hSw); go_simp; (try with_reducible rfl)
        try simp only [Act.put, List.setIfInBounds_toArray, List.set_cons_zero, List.set_cons_succ]
        refine wpAnyH_take (i := 5) (oi := { dst := some 67, op := Go.Op.move (Go.Operand.tmp 66), type := 4, pos := "ref.go:247", after := #[{ on := 4, ground := Go.Ground.data }], guard := none }) (v := ?_) rfl (by kernel_rfl) (by kernel_rfl) (by kernel_rfl) (fun _ _ _ h => h) (Or.inl ⟨by rfl, ?_⟩) (by assumption) ?_
        rotate_left
        · intro wz hSw; (try dsimp only at hSw); go_simp; (try with_reducible rfl)
        try simp only [Act.put, List.setIfInBounds_toArray, List.set_cons_zero, List.set_cons_succ]
        refine wpAnyH_take (i := 6) (oi := { dst := some 68, op := Go.Op.fieldAddr 26 (Go.Operand.tmp 3) 3, type := 0, pos := "ref.go:247", after := #[{ on := 5, ground := Go.Ground.guard }], guard := some (5, true) }) (v := ?_) rfl (by kernel_rfl) (by kernel_rfl) (by kernel_rfl) (fun _ _ _ h => h) (Or.inl ⟨by rfl, ?_⟩) (by assumption) ?_
        rotate_left
        · intro wz hSw; (try dsimp only at hSw); go_simp; (try with_reducible rfl)
        try simp only [Act.put, List.setIfInBounds_toArray, List.set_cons_zero, List.set_cons_succ]
        refine wpAnyH_take (i := 7) (oi := { dst := some 69, op := Go.Op.load 24 (Go.Operand.tmp 68), type := 24, pos := "ref.go:247", after := #[{ on := 6, ground := Go.Ground.data }, { on := 5, ground := Go.Ground.guard }], guard := some (5, true) }) (v := ?_) rfl (by kernel_rfl) (by kernel_rfl) (by kernel_rfl) (fun _ _ _ h => h) (Or.inl ⟨by rfl, ?_⟩) (by assumption) ?_
        rotate_left
        · intro wz hSw; (try dsimp only at hSw); go_simp; (try with_reducible rfl)
        try simp only [Act.put, List.setIfInBounds_toArray, List.set_cons_zero, List.set_cons_succ]
        refine wpAnyH_take (i := 8) (oi := { dst := some 70, op := Go.Op.move (Go.Operand.tmp 9), type := 3, pos := "ref.go:247", after := #[{ on := 5, ground := Go.Ground.guard }], guard := some (5, true) }) (v := ?_) rfl (by kernel_rfl) (by kernel_rfl) (by kernel_rfl) (fun _ _ _ h => h) (Or.inl ⟨by rfl, ?_⟩) (by assumption) ?_
        rotate_left
        · intro wz hSw; (try dsimp only at hSw); go_simp; (try with_reducible rfl)
        try simp only [Act.put, List.setIfInBounds_toArray, List.set_cons_zero, List.set_cons_succ]
        refine wpAnyH_take (i := 9) (oi := { dst := some 71, op := Go.Op.indexAddr 24 (Go.Operand.tmp 69) (Go.Operand.tmp 70), type := 0, pos := "ref.go:247", after := #[{ on := 7, ground := Go.Ground.data }, { on := 8, ground := Go.Ground.data }, { on := 5, ground := Go.Ground.guard }], guard := some (5, true) }) (v := ?_) rfl (by kernel_rfl) (by kernel_rfl) (by kernel_rfl) (fun _ _ _ h => h) (Or.inl ⟨by rfl, ?_⟩) (by assumption) ?_
        rotate_left
        · intro wz hSw; (try dsimp only at hSw); go_simp; (try with_reducible rfl)
        try simp only [Act.put, List.setIfInBounds_toArray, List.set_cons_zero, List.set_cons_succ]
        refine wpAnyH_take (i := 10) (oi := { dst := some 72, op := Go.Op.fieldAddr 29 (Go.Operand.tmp 71) 0, type := 0, pos := "ref.go:247", after := #[{ on := 9, ground := Go.Ground.data }, { on := 5, ground := Go.Ground.guard }], guard := some (5, true) }) (v := ?_) rfl (by kernel_rfl) (by kernel_rfl) (by kernel_rfl) (fun _ _ _ h => h) (Or.inl ⟨by rfl, ?_⟩) (by assumption) ?_
        rotate_left
        · intro wz hSw; (try dsimp only at hSw); go_simp; (try with_reducible rfl)
        try simp only [Act.put, List.setIfInBounds_toArray, List.set_cons_zero, List.set_cons_succ]
        refine wpAnyH_take (i := 11) (oi := { dst := some 73, op := Go.Op.load 3 (Go.Operand.tmp 72), type := 3, pos := "ref.go:247", after := #[{ on := 10, ground := Go.Ground.data }, { on := 5, ground := Go.Ground.guard }], guard := some (5, true) }) (v := ?_) rfl (by kernel_rfl) (by kernel_rfl) (by kernel_rfl) (fun _ _ _ h => h) (Or.inl ⟨by rfl, ?_⟩) (by assumption) ?_
        rotate_left
        · intro wz hSw; (try dsimp only at hSw); go_simp; (try with_reducible rfl)
        try simp only [Act.put, List.setIfInBounds_toArray, List.set_cons_zero, List.set_cons_succ]
        refine wpAnyH_take (i := 12) (oi := { dst := some 74, op := Go.Op.fieldAddr 29 (Go.Operand.tmp 5) 0, type := 0, pos := "ref.go:247", after := #[{ on := 5, ground := Go.Ground.guard }], guard := some (5, true) }) (v := ?_) rfl (by kernel_rfl) (by kernel_rfl) (by kernel_rfl) (fun _ _ _ h => h) (Or.inl ⟨by rfl, ?_⟩) (by assumption) ?_
        rotate_left
        · intro wz hSw; (try dsimp only at hSw); go_simp; (try with_reducible rfl)
        try simp only [Act.put, List.setIfInBounds_toArray, List.set_cons_zero, List.set_cons_succ]
        refine wpAnyH_take (i := 13) (oi := { dst := some 75, op := Go.Op.load 3 (Go.Operand.tmp 74), type := 3, pos := "ref.go:247", after := #[{ on := 12, ground := Go.Ground.data }, { on := 5, ground := Go.Ground.guard }], guard := some (5, true) }) (v := ?_) rfl (by kernel_rfl) (by kernel_rfl) (by kernel_rfl) (fun _ _ _ h => h) (Or.inl ⟨by rfl, ?_⟩) (by assumption) ?_
        rotate_left
        · intro wz hSw; (try dsimp only at hSw); go_simp; (try with_reducible rfl)
        try simp only [Act.put, List.setIfInBounds_toArray, List.set_cons_zero, List.set_cons_succ]
        refine wpAnyH_take (i := 14) (oi := { dst := some 76, op := Go.Op.binOp Go.BinOp.lss 3 (Go.Operand.tmp 73) (Go.Operand.tmp 75) 3, type := 4, pos := "ref.go:247", after := #[{ on := 11, ground := Go.Ground.data }, { on := 13, ground := Go.Ground.data }, { on := 5, ground := Go.Ground.guard }], guard := some (5, true) }) (v := ?_) rfl (by kernel_rfl) (by kernel_rfl) (by kernel_rfl) (fun _ _ _ h => h) (Or.inl ⟨by rfl, ?_⟩) (by assumption) ?_
        rotate_left
        · intro wz hSw; (try dsimp only at hSw); go_simp; (try with_reducible rfl)
        try simp only [Act.put, List.setIfInBounds_toArray, List.set_cons_zero, List.set_cons_succ]
        refine wpAnyH_take (i := 15) (oi := { dst := some 77, op := Go.Op.pick (Go.Operand.tmp 67) (Go.Operand.tmp 76) (Go.Operand.const (Go.Value.bool false)), type := 4, pos := "ref.go:247", after := #[{ on := 5, ground := Go.Ground.data }, { on := 14, ground := Go.Ground.data }], guard := none }) (v := ?_) rfl (by kernel_rfl) (by kernel_rfl) (by kernel_rfl) (fun _ _ _ h => h) (Or.inl ⟨by rfl, ?_⟩) (by assumption) ?_
        rotate_left
        · intro wz hSw; (try dsimp only at hSw); go_simp; (try with_reducible rfl)
        try simp only [Act.put, List.setIfInBounds_toArray, List.set_cons_zero, List.set_cons_succ]
        refine wpAnyH_done (by kernel_rfl) (NoPanic.normal ?_) _
        try simp only [Act.put, List.setIfInBounds_toArray, List.set_cons_zero, List.set_cons_succ]
        have HX1 : Hid (wr.drew.drew.heap[w.heap.size]? = some (.cells #[.int .i64 s.nu, .int .i64 s.a, .int .i64 s.b, .slice pa s.pn pc, .slice (some ⟨b, off, none⟩) s.hn hc] 26 (0, 0)) ∧ wr.drew.drew.heap[w.heap.size + 1]? = some (.cells #[.int .i64 y.id, .int .i64 y.am, .slice ka y.n kc] 29 (0, 0)) ∧ wr.drew.drew.heap[w.heap.size + 2]? = some (.cells #[.int .i64 0, .int .i64 0, .int .i64 0, .slice none 0 0, .slice none 0 0] 26 (0, 0)) ∧ Below w.heap.size w wr.drew.drew) := ⟨HX.out.1, HX.out.2.1, HX.out.2.2.1, HX.out.2.2.2.drew.drew⟩
        clear hHeld S0 hid hlt hlt'
        generalize wr.drew = Wy at *
        go_wp2_with fail
        generalize hWd : Wy.drew = Wd at HX1
        have HXr : Hid (Wd.heap[w.heap.size]? = some (.cells #[.int .i64 s.nu, .int .i64 s.a, .int .i64 s.b, .slice pa s.pn pc, .slice (some ⟨b, off, none⟩) s.hn hc] 26 (0, 0)) ∧ Wd.heap[w.heap.size + 1]? = some (.cells #[.int .i64 y.id, .int .i64 y.am, .slice ka y.n kc] 29 (0, 0)) ∧ Wd.heap[w.heap.size + 2]? = some (.cells #[.int .i64 0, .int .i64 0, .int .i64 0, .slice none 0 0, .slice none 0 0] 26 (0, 0)) ∧ Below w.heap.size w Wd) := HX1.out
        have HWS : Hid (w.heap.size + 2 < Wd.heap.size) := lt_of_block HX1.out.2.2.1
        clear HX1 HX
        have HB0 : Hid (Below w.heap.size w Wd) := HXr.out.2.2.2
        have SR : Hid (∀ u, Below Wd.heap.size Wd u → u.rangeAt (w.heap.size + 1) 0 (hdl y ka kc) ∧ u.cell? ⟨w.heap.size, 4, none⟩ = some (.slice (some ⟨b, off, none⟩) s.hn hc)) := fun u hb => ⟨range_below (hdv_range HXr.out.2.1) hb, by rw [hb.cell (p := ⟨w.heap.size, 4, none⟩) (lt_of_block HXr.out.1)]; exact (five_of HXr.out.1).c4⟩
        have S0 := SR.out Wd (Below.refl _ _)
        refine wp_region_noPanic ?_
        refine wp_region_held_drew (S := fun u => u.rangeAt (w.heap.size + 1) 0 (hdl y ka kc) ∧ u.cell? ⟨w.heap.size, 4, none⟩ = some (.slice (some ⟨b, off, none⟩) s.hn hc)) (by kernel_rfl) (by rw [hWd]; exact S0) (fun hHeld => ?_)
        rw [hWd] at hHeld ⊢
        clear hWd
        obtain ⟨ax, hax⟩ : ∃ ax : Option Addr, (if hc = i then some (⟨b, off, none⟩ : Addr) else some ⟨b, off + i * 3, none⟩) = ax := ⟨_, rfl⟩
        have HAX : Hid ((if hc = i then some (⟨b, off, none⟩ : Addr) else some ⟨b, off + i * 3, none⟩) = ax) := hax
        clear hax
        refine wpAnyH_take (i := 0) (oi := { dst := some 80, op := Go.Op.move (Go.Operand.tmp 8), type := 24, pos := "ref.go:250", after := #[], guard := none }) (v := ?_) rfl (by kernel_rfl) (by kernel_rfl) (by kernel_rfl) (fun _ _ _ h => h) (Or.inl ⟨by rfl, ?_⟩) (by assumption) ?_
        rotate_left
        · intro wz hSw; (try dsimp only at hSw); go_simp; (try with_reducible rfl)
        try simp only [Act.put, List.setIfInBounds_toArray, List.set_cons_zero, List.set_cons_succ]
        refine wpAnyH_take (i := 1) (oi := { dst := some 81, op := Go.Op.fieldAddr 26 (Go.Operand.tmp 3) 3, type := 0, pos := "ref.go:250", after := #[], guard := none }) (v := ?_) rfl (by kernel_rfl) (by kernel_rfl) (by kernel_rfl) (fun _ _ _ h => h) (Or.inl ⟨by rfl, ?_⟩) (by assumption) ?_
        rotate_left
        · intro wz hSw; (try dsimp only at hSw); go_simp; (try with_reducible rfl)
        try simp only [Act.put, List.setIfInBounds_toArray, List.set_cons_zero, List.set_cons_succ]
        refine wpAnyH_take (i := 2) (oi := { dst := some 82, op := Go.Op.load 24 (Go.Operand.tmp 81), type := 24, pos := "ref.go:250", after := #[{ on := 1, ground := Go.Ground.data }], guard := none }) (v := ?_) rfl (by kernel_rfl) (by kernel_rfl) (by kernel_rfl) (fun _ _ _ h => h) (Or.inl ⟨by rfl, ?_⟩) (by assumption) ?_
        rotate_left
        · intro wz hSw; (try dsimp only at hSw); go_simp; (try with_reducible rfl)
        try simp only [Act.put, List.setIfInBounds_toArray, List.set_cons_zero, List.set_cons_succ]
        refine wpAnyH_take (i := 3) (oi := { dst := some 83, op := Go.Op.move (Go.Operand.tmp 9), type := 3, pos := "ref.go:250", after := #[], guard := none }) (v := ?_) rfl (by kernel_rfl) (by kernel_rfl) (by kernel_rfl) (fun _ _ _ h => h) (Or.inl ⟨by rfl, ?_⟩) (by assumption) ?_
        rotate_left
        · intro wz hSw; (try dsimp only at hSw); go_simp; (try with_reducible rfl)
        try simp only [Act.put, List.setIfInBounds_toArray, List.set_cons_zero, List.set_cons_succ]
        refine wpAnyH_take (i := 4) (oi := { dst := some 84, op := Go.Op.slice 24 (Go.Operand.tmp 82) none (some (Go.Operand.tmp 83)) none, type := 24, pos := "ref.go:250", after := #[{ on := 2, ground := Go.Ground.data }, { on := 3, ground := Go.Ground.data }], guard := none }) (v := .slice (some ⟨b, off, none⟩) i hc) rfl (by kernel_rfl) (by kernel_rfl) (by kernel_rfl) (fun _ _ _ h => h) (Or.inl ⟨by rfl, ?_⟩) (by assumption) ?_
        · intro wz hSw; (try dsimp only at hSw); go_simp; try (intro hbad; have h1 := HCP.out; omega)
        try simp only [Act.put, List.setIfInBounds_toArray, List.set_cons_zero, List.set_cons_succ]
        refine wpAnyH_take (i := 6) (oi := { dst := some 86, op := Go.Op.load 29 (Go.Operand.tmp 5), type := 29, pos := "ref.go:250", after := #[], guard := none }) rfl (by kernel_rfl) (by kernel_rfl) (by kernel_rfl) (fun _ _ _ h => h) (yieldsIf_load_mid (by rfl) _ _ rfl (w.heap.size + 1) 0 rfl (hdl y ka kc) _ (fun _ h => h.1) Tryd.underlying29 rfl szHr) (by assumption) ?_
        try simp only [Act.put, List.setIfInBounds_toArray, List.set_cons_zero, List.set_cons_succ]
        refine wpAnyH_take (i := 9) (oi := { dst := some 89, op := Go.Op.fieldAddr 26 (Go.Operand.tmp 3) 3, type := 0, pos := "ref.go:250", after := #[], guard := none }) (v := ?_) rfl (by kernel_rfl) (by kernel_rfl) (by kernel_rfl) (fun _ _ _ h => h) (Or.inl ⟨by rfl, ?_⟩) (by assumption) ?_
        rotate_left
        · intro wz hSw; (try dsimp only at hSw); go_simp; (try with_reducible rfl)
        try simp only [Act.put, List.setIfInBounds_toArray, List.set_cons_zero, List.set_cons_succ]
        refine wpAnyH_take (i := 10) (oi := { dst := some 90, op := Go.Op.load 24 (Go.Operand.tmp 89), type := 24, pos := "ref.go:250", after := #[{ on := 9, ground := Go.Ground.data }], guard := none }) (v := ?_) rfl (by kernel_rfl) (by kernel_rfl) (by kernel_rfl) (fun _ _ _ h => h) (Or.inl ⟨by rfl, ?_⟩) (by assumption) ?_
        rotate_left
        · intro wz hSw; (try dsimp only at hSw); go_simp; (try with_reducible rfl)
        try simp only [Act.put, List.setIfInBounds_toArray, List.set_cons_zero, List.set_cons_succ]
        refine wpAnyH_take (i := 11) (oi := { dst := some 91, op := Go.Op.move (Go.Operand.tmp 9), type := 3, pos := "ref.go:250", after := #[], guard := none }) (v := ?_) rfl (by kernel_rfl) (by kernel_rfl) (by kernel_rfl) (fun _ _ _ h => h) (Or.inl ⟨by rfl, ?_⟩) (by assumption) ?_
        rotate_left
        · intro wz hSw; (try dsimp only at hSw); go_simp; (try with_reducible rfl)
        try simp only [Act.put, List.setIfInBounds_toArray, List.set_cons_zero, List.set_cons_succ]
        refine wpAnyH_take (i := 12) (oi := { dst := some 92, op := Go.Op.slice 24 (Go.Operand.tmp 90) (some (Go.Operand.tmp 91)) none none, type := 24, pos := "ref.go:250", after := #[{ on := 10, ground := Go.Ground.data }, { on := 11, ground := Go.Ground.data }], guard := none }) (v := .slice ax (s.hn - i) (hc - i)) rfl (by kernel_rfl) (by kernel_rfl) (by kernel_rfl) (fun _ _ _ h => h) (Or.inl ⟨by rfl, ?_⟩) (by assumption) ?_
        · intro wz hSw; (try dsimp only at hSw); rw [← HAX.out]; go_simp; try (intro hbad; have h1 := HCP.out; omega)
        try simp only [Act.put, List.setIfInBounds_toArray, List.set_cons_zero, List.set_cons_succ]
        refine wpAnyH_ready (rs := [5, 7]) (by kernel_rfl) (by simp) ?_
        refine (AllReadyH.cons (o := { dst := some 85, op := Go.Op.call { callee := Go.Callee.builtin Go.Builtin.append, args := #[Go.Operand.tmp 80, Go.Operand.tmp 84], argTypes := #[24, 24] }, type := 24, pos := "ref.go:250", after := #[{ on := 0, ground := Go.Ground.data }, { on := 4, ground := Go.Ground.data }], guard := none }) rfl (fun K hK => ?_) (AllReadyH.cons (o := { dst := some 87, op := Go.Op.buildSlice 24 1 #[(0, Go.Operand.tmp 86)], type := 24, pos := "ref.go:250", after := #[{ on := 6, ground := Go.Ground.data }], guard := none }) rfl (fun K hK => ?_) AllReadyH.nil))
        · have HBU : Below Wd.heap.size Wd Wd := Below.refl _ _
          refine step_append_R rfl (.tmp 80) (.tmp 84) rfl Wd.heap.size (.slice none 0 0) 0 [] (some ⟨b, off, none⟩) i hc (flatL (hf s.H A) i) (by rfl) (by rfl) (World.ownsRow_nil _ _ _ _) HBU.size ((HSR.out.below (HB0.out.trans (HBU.mono HB0.out.size))).take (hf_len _ _ _) HIL.out (by simp)) (flatL_length i (hf_len _ _ _)) (hf_one _ _ _) (by omega) ?_
          intro va vc V1 hown hgr
          rw [Nat.zero_add, List.nil_append] at hown
          have hb1 : Below Wd.heap.size Wd V1 := ⟨hgr.os, hgr.tape, hgr.output, hgr.size, fun k hk => hgr.block k hk (by simp [Value.ownBlock])⟩
          have HO1 : Hid (V1.ownsRow Wd.heap.size 29 3 (.slice va i vc) i (flatL (hf s.H A) i)) := hown
          have HBW : Hid (Below Wd.heap.size Wd V1) := Below.transS HBU hb1
          refine hK.out _ _ (SR.out V1 HBW.out) (fun _ => ?_)
          try simp only [Act.put, List.setIfInBounds_toArray, List.set_cons_zero, List.set_cons_succ]
          (try rw [Nat.zero_add])
          clear hK K hown hgr
          have HBV : Hid (Below Wd.heap.size Wd V1) := HBW.out
          clear hb1
          refine wpAnyH_ready (rs := [7]) (by kernel_rfl) (by simp) ?_
          refine (AllReadyH.cons (o := { dst := some 87, op := Go.Op.buildSlice 24 1 #[(0, Go.Operand.tmp 86)], type := 24, pos := "ref.go:250", after := #[{ on := 6, ground := Go.Ground.data }], guard := none }) rfl (fun K hK => ?_) AllReadyH.nil)
          have HBU : Below Wd.heap.size Wd V1 := HBV.out
          refine step_sliceR rfl (.tmp 86) rfl y ka kc (by rfl) ?_
          intro q V2 hq hle hb1
          have HBW : Hid (Below Wd.heap.size Wd V2) := Below.transS HBU hb1
          have HO2 : Hid (V2.ownsRow Wd.heap.size 29 3 (.slice va i vc) i (flatL (hf s.H A) i)) := own_below HO1.out hb1
          have HQ : Hid (V2.heap[q]? = some (.cells (hdv y ka kc) 29 (0, 0))) := hq
          refine hK.out _ _ (SR.out V2 HBW.out) (fun _ => ?_)
          try simp only [Act.put, List.setIfInBounds_toArray, List.set_cons_zero, List.set_cons_succ]
          (try rw [Nat.zero_add])
          clear hK K hq hle hb1 HO1 HBV HBU
          refine wpAnyH_ready (rs := [8]) (by kernel_rfl) (by simp) ?_
          refine (AllReadyH.cons (o := { dst := some 88, op := Go.Op.call { callee := Go.Callee.builtin Go.Builtin.append, args := #[Go.Operand.tmp 85, Go.Operand.tmp 87], argTypes := #[24, 24] }, type := 24, pos := "ref.go:250", after := #[{ on := 5, ground := Go.Ground.data }, { on := 7, ground := Go.Ground.data }, { on := 5, ground := Go.Ground.chain }], guard := none }) rfl (fun K hK => ?_) AllReadyH.nil)
          refine step_append_R rfl (.tmp 85) (.tmp 87) rfl Wd.heap.size (.slice va i vc) i (flatL (hf s.H A) i) (some ⟨q, 0, none⟩) 1 1 (hdl y ka kc) (by rfl) (by rfl) HO2.out HBW.out.size ⟨fun _ => ⟨q, 0, rfl, hdv_range HQ.out⟩, fun e => by cases e⟩ rfl (hdl_one y ka kc) (by omega) ?_
          intro vb vd V3 hown hgr
          have HO3 : Hid (V3.ownsRow Wd.heap.size 29 3 (.slice vb (i + 1) vd) (i + 1) (flatL (hf s.H A) i ++ hdl y ka kc)) := hown
          have HB3 : Hid (Below Wd.heap.size Wd V3) := grown_below HO2.out hgr HBW.out (Nat.le_refl _)
          refine hK.out _ _ (SR.out V3 HB3.out) (fun _ => ?_)
          clear hK K hown hgr HO2 HQ HBW
          try simp only [Act.put, List.setIfInBounds_toArray, List.set_cons_zero, List.set_cons_succ]
          refine wpAnyH_ready (rs := [13]) (by kernel_rfl) (by simp) ?_
          refine (AllReadyH.cons (o := { dst := some 93, op := Go.Op.call { callee := Go.Callee.builtin Go.Builtin.append, args := #[Go.Operand.tmp 88, Go.Operand.tmp 92], argTypes := #[24, 24] }, type := 24, pos := "ref.go:250", after := #[{ on := 8, ground := Go.Ground.data }, { on := 12, ground := Go.Ground.data }, { on := 8, ground := Go.Ground.chain }], guard := none }) rfl (fun K hK => ?_) AllReadyH.nil)
          have HBU : Below Wd.heap.size Wd V3 := HB3.out
          refine step_append_R rfl (.tmp 88) (.tmp 92) rfl Wd.heap.size (.slice vb (i + 1) vd) (i + 1) (flatL (hf s.H A) i ++ hdl y ka kc) ax (s.hn - i) (hc - i) (flatL (fun j => hf s.H A (i + j)) (s.hn - i)) (by rfl) (by rfl) HO3.out HBU.size (by rw [← HAX.out]; exact (HSR.out.below (HB0.out.trans (HBU.mono HB0.out.size))).drop (hf_len _ _ _) HIL.out HCP.out) (flatL_length _ (fun j hj => rfl)) (fun u hu => by
            obtain ⟨j, _, hj⟩ := flatL_mem _ hu
            exact hdl_one _ _ _ u hj) (by omega) ?_
          intro vx vy V4 hown hgr
          have em : i + 1 + (s.hn - i) = s.hn + 1 := by omega
          have HB4 : Hid (Below Wd.heap.size Wd V4) := grown_below HO3.out hgr HB3.out (Nat.le_refl _)
          rw [em] at hown
          have HO4 : Hid (V4.ownsRow Wd.heap.size 29 3 (.slice vx (s.hn + 1) vy) (s.hn + 1) (flatL (hf (insG s.H i y) (insG A i (ka, kc))) (s.hn + 1))) := by
            have e0 := insF_mid (hf s.H A) i (s.hn - i) (hdl y ka kc)
            rw [show i + (s.hn - i) + 1 = s.hn + 1 by omega] at e0
            show V4.ownsRow Wd.heap.size 29 3 (.slice vx (s.hn + 1) vy) (s.hn + 1) (flatL (hf (insG s.H i y) (insG A i (ka, kc))) (s.hn + 1))
            rw [insG_hf, e0, ← List.append_assoc]
            exact hown
          refine hK.out _ _ (SR.out V4 HB4.out) (fun _ => ?_)
          clear hK K hown hgr HO3 HB3 HBU
          try simp only [Act.put, List.setIfInBounds_toArray, List.set_cons_zero, List.set_cons_succ]
          rw [em]
          refine wpAnyH_take (i := 14) (oi := { dst := some 8, op := Go.Op.assign (Go.Operand.tmp 93), type := 24, pos := "ref.go:250", after := #[{ on := 13, ground := Go.Ground.data }, { on := 13, ground := Go.Ground.chain }, { on := 0, ground := Go.Ground.phase }, { on := 1, ground := Go.Ground.phase }, { on := 2, ground := Go.Ground.phase }, { on := 3, ground := Go.Ground.phase }, { on := 4, ground := Go.Ground.phase }, { on := 5, ground := Go.Ground.phase }, { on := 6, ground := Go.Ground.phase }, { on := 7, ground := Go.Ground.phase }, { on := 8, ground := Go.Ground.phase }, { on := 9, ground := Go.Ground.phase }, { on := 10, ground := Go.Ground.phase }, { on := 11, ground := Go.Ground.phase }, { on := 12, ground := Go.Ground.phase }, { on := 13, ground := Go.Ground.phase }], guard := none }) (v := ?_) rfl (by kernel_rfl) (by kernel_rfl) (by kernel_rfl) (fun _ _ _ h => h) (Or.inl ⟨by rfl, ?_⟩) (by assumption) ?_
          rotate_left
          · intro wz hSw; (try dsimp only at hSw); go_simp; (try with_reducible rfl)
          try simp only [Act.put, List.setIfInBounds_toArray, List.set_cons_zero, List.set_cons_succ]
          refine wpAnyH_done (by kernel_rfl) (NoPanic.normal ?_) _
          try simp only [Act.put, List.setIfInBounds_toArray, List.set_cons_zero, List.set_cons_succ]
          clear hHeld S0 SR em
          have HX4 : Hid (V4.heap[w.heap.size]? = some (.cells #[.int .i64 s.nu, .int .i64 s.a, .int .i64 s.b, .slice pa s.pn pc, .slice (some ⟨b, off, none⟩) s.hn hc] 26 (0, 0)) ∧ V4.heap[w.heap.size + 1]? = some (.cells #[.int .i64 y.id, .int .i64 y.am, .slice ka y.n kc] 29 (0, 0)) ∧ V4.heap[w.heap.size + 2]? = some (.cells #[.int .i64 0, .int .i64 0, .int .i64 0, .slice none 0 0, .slice none 0 0] 26 (0, 0)) ∧ Below w.heap.size w V4) := ⟨(HB4.out.block _ (lt_of_block HXr.out.1)).trans HXr.out.1, (HB4.out.block _ (lt_of_block HXr.out.2.1)).trans HXr.out.2.1, (HB4.out.block _ (lt_of_block HXr.out.2.2.1)).trans HXr.out.2.2.1, HB0.out.trans (HB4.out.mono HB0.out.size)⟩
          have HWI : Hid (Calls Tryd.prog 29 #[.agg #[.int .i64 s.nu, .int .i64 s.a, .int .i64 s.b, .slice pa s.pn pc, .slice (some ⟨b, off, none⟩) s.hn hc], .int .i64 (-y.am), .int .i64 0, .slice pa s.pn pc, .slice vx (s.hn + 1) vy] V4 fun e w' => e = .returned (.agg #[.int .i64 (s.nu + 1), .int .i64 (s.a + (-y.am)), .int .i64 (s.b + 0), .slice pa s.pn pc, .slice vx (s.hn + 1) vy]) ∧ Below V4.heap.size V4 w') := HWT.out pa s.pn pc vx (s.hn + 1) vy V4
          clear HXr HB0 HB4
          obtain ⟨c0, c1, c2, c3, c4, cf⟩ := five_of HX4.out.1
          obtain ⟨k0, k1, k2⟩ := hd_new (x := y) HX4.out.2.1 rfl
          have en := EN.out
          go_wp2_with fail
          refine (to_0 (-y.am) V4).mono ?_
          rintro e Vw ⟨rfl, hVw⟩
          rw [hVw]
          clear hVw
          go_wp2_with fail
          refine HWI.out.mono ?_
          rintro e V6 ⟨rfl, hb6⟩
          have HX6 : Hid (V6.heap[w.heap.size + 2]? = some (.cells #[.int .i64 0, .int .i64 0, .int .i64 0, .slice none 0 0, .slice none 0 0] 26 (0, 0)) ∧ Below w.heap.size w V6) := ⟨(hb6.block _ (lt_of_block HX4.out.2.2.1)).trans HX4.out.2.2.1, HX4.out.2.2.2.trans (hb6.mono HX4.out.2.2.2.size)⟩
          have HO6 : Hid (V6.ownsRow Wd.heap.size 29 3 (.slice vx (s.hn + 1) vy) (s.hn + 1) (flatL (hf (insG s.H i y) (insG A i (ka, kc))) (s.hn + 1))) := own_below HO4.out hb6
          clear c0 c1 c2 c3 c4 cf k0 k1 k2 HWI HO4 hb6 HX4 en
          obtain ⟨d0, d1, d2, d3, d4, df⟩ := five_of HX6.out.1
          go_wp2
          refine bodyPost_ret (results_R2 Tryd.results9 _ _ (w.heap.size + 2) 26 _ _ _ _ _ (0, 0) rfl (five_all HX6.out.1)) rfl ⟨⟨i, HIL.out, HLO.out, HHI.out, ⟨pa, pc, vx, vy⟩, by rw [HSV.out]; rfl, ?_⟩, five_below HX6.out.2 (by omega)⟩
          exact HFIN.out i HIL.out A vx vy _ Wd.heap.size HKS.out (by have h1 := HWS.out; omega) (five_below HX6.out.2 (by omega)) (own_keep HO6.out (fun g e => five_other (by have h1 := (HO6.out.lt g e).1; have h2 := HWS.out; omega)))
        · have HBU : Below Wd.heap.size Wd Wd := Below.refl _ _
          refine step_sliceR rfl (.tmp 86) rfl y ka kc (by rfl) ?_
          intro q V1 hq hle hb1
          have HBW : Hid (Below Wd.heap.size Wd V1) := Below.transS HBU hb1
          have HQ1 : Hid (V1.heap[q]? = some (.cells (hdv y ka kc) 29 (0, 0))) := hq
          refine hK.out _ _ (SR.out V1 HBW.out) (fun _ => ?_)
          try simp only [Act.put, List.setIfInBounds_toArray, List.set_cons_zero, List.set_cons_succ]
          (try rw [Nat.zero_add])
          clear hK K hq hle
          have HBV : Hid (Below Wd.heap.size Wd V1) := HBW.out
          clear hb1
          refine wpAnyH_ready (rs := [5]) (by kernel_rfl) (by simp) ?_
          refine (AllReadyH.cons (o := { dst := some 85, op := Go.Op.call { callee := Go.Callee.builtin Go.Builtin.append, args := #[Go.Operand.tmp 80, Go.Operand.tmp 84], argTypes := #[24, 24] }, type := 24, pos := "ref.go:250", after := #[{ on := 0, ground := Go.Ground.data }, { on := 4, ground := Go.Ground.data }], guard := none }) rfl (fun K hK => ?_) AllReadyH.nil)
          have HBU : Below Wd.heap.size Wd V1 := HBV.out
          refine step_append_R rfl (.tmp 80) (.tmp 84) rfl Wd.heap.size (.slice none 0 0) 0 [] (some ⟨b, off, none⟩) i hc (flatL (hf s.H A) i) (by rfl) (by rfl) (World.ownsRow_nil _ _ _ _) HBU.size ((HSR.out.below (HB0.out.trans (HBU.mono HB0.out.size))).take (hf_len _ _ _) HIL.out (by simp)) (flatL_length i (hf_len _ _ _)) (hf_one _ _ _) (by omega) ?_
          intro va vc V2 hown hgr
          rw [Nat.zero_add, List.nil_append] at hown
          have hb1 : Below V1.heap.size V1 V2 := ⟨hgr.os, hgr.tape, hgr.output, hgr.size, fun k hk => hgr.block k hk (by simp [Value.ownBlock])⟩
          have HO1 : Hid (V2.ownsRow Wd.heap.size 29 3 (.slice va i vc) i (flatL (hf s.H A) i)) := hown
          have HBW : Hid (Below Wd.heap.size Wd V2) := Below.transS HBU hb1
          have HQ : Hid (V2.heap[q]? = some (.cells (hdv y ka kc) 29 (0, 0))) := (hb1.block _ (lt_of_block HQ1.out)).trans HQ1.out
          have HO2 : Hid (V2.ownsRow Wd.heap.size 29 3 (.slice va i vc) i (flatL (hf s.H A) i)) := HO1.out
          refine hK.out _ _ (SR.out V2 HBW.out) (fun _ => ?_)
          try simp only [Act.put, List.setIfInBounds_toArray, List.set_cons_zero, List.set_cons_succ]
          (try rw [Nat.zero_add])
          clear hK K hown hgr hb1 HQ1 HO1 HBV HBU
          refine wpAnyH_ready (rs := [8]) (by kernel_rfl) (by simp) ?_
          refine (AllReadyH.cons (o := { dst := some 88, op := Go.Op.call { callee := Go.Callee.builtin Go.Builtin.append, args := #[Go.Operand.tmp 85, Go.Operand.tmp 87], argTypes := #[24, 24] }, type := 24, pos := "ref.go:250", after := #[{ on := 5, ground := Go.Ground.data }, { on := 7, ground := Go.Ground.data }, { on := 5, ground := Go.Ground.chain }], guard := none }) rfl (fun K hK => ?_) AllReadyH.nil)
          refine step_append_R rfl (.tmp 85) (.tmp 87) rfl Wd.heap.size (.slice va i vc) i (flatL (hf s.H A) i) (some ⟨q, 0, none⟩) 1 1 (hdl y ka kc) (by rfl) (by rfl) HO2.out HBW.out.size ⟨fun _ => ⟨q, 0, rfl, hdv_range HQ.out⟩, fun e => by cases e⟩ rfl (hdl_one y ka kc) (by omega) ?_
          intro vb vd V3 hown hgr
          have HO3 : Hid (V3.ownsRow Wd.heap.size 29 3 (.slice vb (i + 1) vd) (i + 1) (flatL (hf s.H A) i ++ hdl y ka kc)) := hown
          have HB3 : Hid (Below Wd.heap.size Wd V3) := grown_below HO2.out hgr HBW.out (Nat.le_refl _)
          refine hK.out _ _ (SR.out V3 HB3.out) (fun _ => ?_)
          clear hK K hown hgr HO2 HQ HBW
          try simp only [Act.put, List.setIfInBounds_toArray, List.set_cons_zero, List.set_cons_succ]
          refine wpAnyH_ready (rs := [13]) (by kernel_rfl) (by simp) ?_
          refine (AllReadyH.cons (o := { dst := some 93, op := Go.Op.call { callee := Go.Callee.builtin Go.Builtin.append, args := #[Go.Operand.tmp 88, Go.Operand.tmp 92], argTypes := #[24, 24] }, type := 24, pos := "ref.go:250", after := #[{ on := 8, ground := Go.Ground.data }, { on := 12, ground := Go.Ground.data }, { on := 8, ground := Go.Ground.chain }], guard := none }) rfl (fun K hK => ?_) AllReadyH.nil)
          have HBU : Below Wd.heap.size Wd V3 := HB3.out
          refine step_append_R rfl (.tmp 88) (.tmp 92) rfl Wd.heap.size (.slice vb (i + 1) vd) (i + 1) (flatL (hf s.H A) i ++ hdl y ka kc) ax (s.hn - i) (hc - i) (flatL (fun j => hf s.H A (i + j)) (s.hn - i)) (by rfl) (by rfl) HO3.out HBU.size (by rw [← HAX.out]; exact (HSR.out.below (HB0.out.trans (HBU.mono HB0.out.size))).drop (hf_len _ _ _) HIL.out HCP.out) (flatL_length _ (fun j hj => rfl)) (fun u hu => by
            obtain ⟨j, _, hj⟩ := flatL_mem _ hu
            exact hdl_one _ _ _ u hj) (by omega) ?_
          intro vx vy V4 hown hgr
          have em : i + 1 + (s.hn - i) = s.hn + 1 := by omega
          have HB4 : Hid (Below Wd.heap.size Wd V4) := grown_below HO3.out hgr HB3.out (Nat.le_refl _)
          rw [em] at hown
          have HO4 : Hid (V4.ownsRow Wd.heap.size 29 3 (.slice vx (s.hn + 1) vy) (s.hn + 1) (flatL (hf (insG s.H i y) (insG A i (ka, kc))) (s.hn + 1))) := by
            have e0 := insF_mid (hf s.H A) i (s.hn - i) (hdl y ka kc)
            rw [show i + (s.hn - i) + 1 = s.hn + 1 by omega] at e0
            show V4.ownsRow Wd.heap.size 29 3 (.slice vx (s.hn + 1) vy) (s.hn + 1) (flatL (hf (insG s.H i y) (insG A i (ka, kc))) (s.hn + 1))
            rw [insG_hf, e0, ← List.append_assoc]
            exact hown
          refine hK.out _ _ (SR.out V4 HB4.out) (fun _ => ?_)
          clear hK K hown hgr HO3 HB3 HBU
          try simp only [Act.put, List.setIfInBounds_toArray, List.set_cons_zero, List.set_cons_succ]
          rw [em]
          refine wpAnyH_take (i := 14) (oi := { dst := some 8, op := Go.Op.assign (Go.Operand.tmp 93), type := 24, pos := "ref.go:250", after := #[{ on := 13, ground := Go.Ground.data }, { on := 13, ground := Go.Ground.chain }, { on := 0, ground := Go.Ground.phase }, { on := 1, ground := Go.Ground.phase }, { on := 2, ground := Go.Ground.phase }, { on := 3, ground := Go.Ground.phase }, { on := 4, ground := Go.Ground.phase }, { on := 5, ground := Go.Ground.phase }, { on := 6, ground := Go.Ground.phase }, { on := 7, ground := Go.Ground.phase }, { on := 8, ground := Go.Ground.phase }, { on := 9, ground := Go.Ground.phase }, { on := 10, ground := Go.Ground.phase }, { on := 11, ground := Go.Ground.phase }, { on := 12, ground := Go.Ground.phase }, { on := 13, ground := Go.Ground.phase }], guard := none }) (v := ?_) rfl (by kernel_rfl) (by kernel_rfl) (by kernel_rfl) (fun _ _ _ h => h) (Or.inl ⟨by rfl, ?_⟩) (by assumption) ?_
          rotate_left
          · intro wz hSw; (try dsimp only at hSw); go_simp; (try with_reducible rfl)
          try simp only [Act.put, List.setIfInBounds_toArray, List.set_cons_zero, List.set_cons_succ]
          refine wpAnyH_done (by kernel_rfl) (NoPanic.normal ?_) _
          try simp only [Act.put, List.setIfInBounds_toArray, List.set_cons_zero, List.set_cons_succ]
          clear hHeld S0 SR em
          have HX4 : Hid (V4.heap[w.heap.size]? = some (.cells #[.int .i64 s.nu, .int .i64 s.a, .int .i64 s.b, .slice pa s.pn pc, .slice (some ⟨b, off, none⟩) s.hn hc] 26 (0, 0)) ∧ V4.heap[w.heap.size + 1]? = some (.cells #[.int .i64 y.id, .int .i64 y.am, .slice ka y.n kc] 29 (0, 0)) ∧ V4.heap[w.heap.size + 2]? = some (.cells #[.int .i64 0, .int .i64 0, .int .i64 0, .slice none 0 0, .slice none 0 0] 26 (0, 0)) ∧ Below w.heap.size w V4) := ⟨(HB4.out.block _ (lt_of_block HXr.out.1)).trans HXr.out.1, (HB4.out.block _ (lt_of_block HXr.out.2.1)).trans HXr.out.2.1, (HB4.out.block _ (lt_of_block HXr.out.2.2.1)).trans HXr.out.2.2.1, HB0.out.trans (HB4.out.mono HB0.out.size)⟩
          have HWI : Hid (Calls Tryd.prog 29 #[.agg #[.int .i64 s.nu, .int .i64 s.a, .int .i64 s.b, .slice pa s.pn pc, .slice (some ⟨b, off, none⟩) s.hn hc], .int .i64 (-y.am), .int .i64 0, .slice pa s.pn pc, .slice vx (s.hn + 1) vy] V4 fun e w' => e = .returned (.agg #[.int .i64 (s.nu + 1), .int .i64 (s.a + (-y.am)), .int .i64 (s.b + 0), .slice pa s.pn pc, .slice vx (s.hn + 1) vy]) ∧ Below V4.heap.size V4 w') := HWT.out pa s.pn pc vx (s.hn + 1) vy V4
          clear HXr HB0 HB4
          obtain ⟨c0, c1, c2, c3, c4, cf⟩ := five_of HX4.out.1
          obtain ⟨k0, k1, k2⟩ := hd_new (x := y) HX4.out.2.1 rfl
          have en := EN.out
          go_wp2_with fail
          refine (to_0 (-y.am) V4).mono ?_
          rintro e Vw ⟨rfl, hVw⟩
          rw [hVw]
          clear hVw
          go_wp2_with fail
          refine HWI.out.mono ?_
          rintro e V6 ⟨rfl, hb6⟩
          have HX6 : Hid (V6.heap[w.heap.size + 2]? = some (.cells #[.int .i64 0, .int .i64 0, .int .i64 0, .slice none 0 0, .slice none 0 0] 26 (0, 0)) ∧ Below w.heap.size w V6) := ⟨(hb6.block _ (lt_of_block HX4.out.2.2.1)).trans HX4.out.2.2.1, HX4.out.2.2.2.trans (hb6.mono HX4.out.2.2.2.size)⟩
          have HO6 : Hid (V6.ownsRow Wd.heap.size 29 3 (.slice vx (s.hn + 1) vy) (s.hn + 1) (flatL (hf (insG s.H i y) (insG A i (ka, kc))) (s.hn + 1))) := own_below HO4.out hb6
          clear c0 c1 c2 c3 c4 cf k0 k1 k2 HWI HO4 hb6 HX4 en
          obtain ⟨d0, d1, d2, d3, d4, df⟩ := five_of HX6.out.1
          go_wp2
          refine bodyPost_ret (results_R2 Tryd.results9 _ _ (w.heap.size + 2) 26 _ _ _ _ _ (0, 0) rfl (five_all HX6.out.1)) rfl ⟨⟨i, HIL.out, HLO.out, HHI.out, ⟨pa, pc, vx, vy⟩, by rw [HSV.out]; rfl, ?_⟩, five_below HX6.out.2 (by omega)⟩
          exact HFIN.out i HIL.out A vx vy _ Wd.heap.size HKS.out (by have h1 := HWS.out; omega) (five_below HX6.out.2 (by omega)) (own_keep HO6.out (fun g e => five_other (by have h1 := (HO6.out.lt g e).1; have h2 := HWS.out; omega)))
    · have hin : i = s.hn := by omega
      have hnn : ¬ ((i : Int) < s.hn) := by omega
      have HHI : Hid (i < s.hn → y.id ≤ (s.H i).id) := fun h => absurd h hlt
      obtain ⟨pa, pc, ha, hc⟩ := p
      cases ha with
      | none =>
        obtain ⟨hn0, hc0⟩ := HKP.out.2.2 rfl
        dsimp only at hc0
        subst hc0
        obtain rfl : i = 0 := by omega
        clear hin
        dsimp only at *
        have S0 : wr.drew.cell? ⟨w.heap.size, 4, none⟩ = some (.slice none s.hn 0) := (five_of HX.out.1).c4
        go_upto_region 17 with fail
        refine wp_region_noPanic ?_
        refine wp_region_held_drew (S := fun u => u.cell? ⟨w.heap.size, 4, none⟩ = some (.slice none s.hn 0)) (by kernel_rfl) S0 (fun hHeld => ?_)
        refine wpAnyH_take (i := 0) (oi := { dst := some 62, op := Go.Op.move (Go.Operand.tmp 9), type := 3, pos := "ref.go:247", after := #[], guard := none }) (v := ?_) rfl (by kernel_rfl) (by kernel_rfl) (by kernel_rfl) (fun _ _ _ h => h) (Or.inl ⟨by rfl, ?_⟩) (by assumption) ?_
        rotate_left
        · intro wz hSw; (try dsimp only at hSw); go_simp; (try with_reducible rfl)
        try simp only [Act.put, List.setIfInBounds_toArray, List.set_cons_zero, List.set_cons_succ]
        refine wpAnyH_take (i := 1) (oi := { dst := some 63, op := Go.Op.fieldAddr 26 (Go.Operand.tmp 3) 3, type := 0, pos := "ref.go:247", after := #[], guard := none }) (v := ?_) rfl (by kernel_rfl) (by kernel_rfl) (by kernel_rfl) (fun _ _ _ h => h) (Or.inl ⟨by rfl, ?_⟩) (by assumption) ?_
        rotate_left
        · intro wz hSw; (try dsimp only at hSw); go_simp; (try with_reducible rfl)
        try simp only [Act.put, List.setIfInBounds_toArray, List.set_cons_zero, List.set_cons_succ]
        refine wpAnyH_take (i := 2) (oi := { dst := some 64, op := Go.Op.load 24 (Go.Operand.tmp 63), type := 24, pos := "ref.go:247", after := #[{ on := 1, ground := Go.Ground.data }], guard := none }) (v := ?_) rfl (by kernel_rfl) (by kernel_rfl) (by kernel_rfl) (fun _ _ _ h => h) (Or.inl ⟨by rfl, ?_⟩) (by assumption) ?_
        rotate_left
        · intro wz hSw; (try dsimp only at hSw); go_simp; (try with_reducible rfl)
        try simp only [Act.put, List.setIfInBounds_toArray, List.set_cons_zero, List.set_cons_succ]
        refine wpAnyH_take (i := 3) (oi := { dst := some 65, op := Go.Op.call { callee := Go.Callee.builtin Go.Builtin.len, args := #[Go.Operand.tmp 64], argTypes := #[24] }, type := 3, pos := "ref.go:247", after := #[{ on := 2, ground := Go.Ground.data }], guard := none }) (v := ?_) rfl (by kernel_rfl) (by kernel_rfl) (by kernel_rfl) (fun _ _ _ h => h) (Or.inl ⟨by rfl, ?_⟩) (by assumption) ?_
        rotate_left
        · intro wz hSw; (try dsimp only at hSw); go_simp; (try with_reducible rfl)
        try simp only [Act.put, List.setIfInBounds_toArray, List.set_cons_zero, List.set_cons_succ]
        refine wpAnyH_take (i := 4) (oi := { dst := some 66, op := Go.Op.binOp Go.BinOp.lss 3 (Go.Operand.tmp 62) (Go.Operand.tmp 65) 3, type := 4, pos := "ref.go:247", after := #[{ on := 0, ground := Go.Ground.data }, { on := 3, ground := Go.Ground.data }], guard := none }) (v := ?_) rfl (by kernel_rfl) (by kernel_rfl) (by kernel_rfl) (fun _ _ _ h => h) (Or.inl ⟨by rfl, ?_⟩) (by assumption) ?_
        rotate_left
        · intro wz hSw; (try dsimp only at hSw); go_simp; (try with_reducible rfl)
        try simp only [Act.put, List.setIfInBounds_toArray, List.set_cons_zero, List.set_cons_succ]
        refine wpAnyH_take (i := 5) (oi := { dst := some 67, op := Go.Op.move (Go.Operand.tmp 66), type := 4, pos := "ref.go:247", after := #[{ on := 4, ground := Go.Ground.data }], guard := none }) (v := ?_) rfl (by kernel_rfl) (by kernel_rfl) (by kernel_rfl) (fun _ _ _ h => h) (Or.inl ⟨by rfl, ?_⟩) (by assumption) ?_
        rotate_left
        · intro wz hSw; (try dsimp only at hSw); go_simp; (try with_reducible rfl)
        try simp only [Act.put, List.setIfInBounds_toArray, List.set_cons_zero, List.set_cons_succ]
        refine wpAnyH_take (i := 6) (oi := { dst := some 68, op := Go.Op.fieldAddr 26 (Go.Operand.tmp 3) 3, type := 0, pos := "ref.go:247", after := #[{ on := 5, ground := Go.Ground.guard }], guard := some (5, true) }) (v := undef) rfl (by kernel_rfl) (by kernel_rfl) (by kernel_rfl) (fun _ _ _ h => h) (Or.inr ⟨by rfl, rfl⟩) (by assumption) ?_
        try simp only [Act.put, List.setIfInBounds_toArray, List.set_cons_zero, List.set_cons_succ]
        refine wpAnyH_take (i := 7) (oi := { dst := some 69, op := Go.Op.load 24 (Go.Operand.tmp 68), type := 24, pos := "ref.go:247", after := #[{ on := 6, ground := Go.Ground.data }, { on := 5, ground := Go.Ground.guard }], guard := some (5, true) }) (v := undef) rfl (by kernel_rfl) (by kernel_rfl) (by kernel_rfl) (fun _ _ _ h => h) (Or.inr ⟨by rfl, rfl⟩) (by assumption) ?_
        try simp only [Act.put, List.setIfInBounds_toArray, List.set_cons_zero, List.set_cons_succ]
        refine wpAnyH_take (i := 8) (oi := { dst := some 70, op := Go.Op.move (Go.Operand.tmp 9), type := 3, pos := "ref.go:247", after := #[{ on := 5, ground := Go.Ground.guard }], guard := some (5, true) }) (v := undef) rfl (by kernel_rfl) (by kernel_rfl) (by kernel_rfl) (fun _ _ _ h => h) (Or.inr ⟨by rfl, rfl⟩) (by assumption) ?_
        try simp only [Act.put, List.setIfInBounds_toArray, List.set_cons_zero, List.set_cons_succ]
        refine wpAnyH_take (i := 9) (oi := { dst := some 71, op := Go.Op.indexAddr 24 (Go.Operand.tmp 69) (Go.Operand.tmp 70), type := 0, pos := "ref.go:247", after := #[{ on := 7, ground := Go.Ground.data }, { on := 8, ground := Go.Ground.data }, { on := 5, ground := Go.Ground.guard }], guard := some (5, true) }) (v := undef) rfl (by kernel_rfl) (by kernel_rfl) (by kernel_rfl) (fun _ _ _ h => h) (Or.inr ⟨by rfl, rfl⟩) (by assumption) ?_
        try simp only [Act.put, List.setIfInBounds_toArray, List.set_cons_zero, List.set_cons_succ]
        refine wpAnyH_take (i := 10) (oi := { dst := some 72, op := Go.Op.fieldAddr 29 (Go.Operand.tmp 71) 0, type := 0, pos := "ref.go:247", after := #[{ on := 9, ground := Go.Ground.data }, { on := 5, ground := Go.Ground.guard }], guard := some (5, true) }) (v := undef) rfl (by kernel_rfl) (by kernel_rfl) (by kernel_rfl) (fun _ _ _ h => h) (Or.inr ⟨by rfl, rfl⟩) (by assumption) ?_
        try simp only [Act.put, List.setIfInBounds_toArray, List.set_cons_zero, List.set_cons_succ]
        refine wpAnyH_take (i := 11) (oi := { dst := some 73, op := Go.Op.load 3 (Go.Operand.tmp 72), type := 3, pos := "ref.go:247", after := #[{ on := 10, ground := Go.Ground.data }, { on := 5, ground := Go.Ground.guard }], guard := some (5, true) }) (v := undef) rfl (by kernel_rfl) (by kernel_rfl) (by kernel_rfl) (fun _ _ _ h => h) (Or.inr ⟨by rfl, rfl⟩) (by assumption) ?_
        try simp only [Act.put, List.setIfInBounds_toArray, List.set_cons_zero, List.set_cons_succ]
        refine wpAnyH_take (i := 12) (oi := { dst := some 74, op := Go.Op.fieldAddr 29 (Go.Operand.tmp 5) 0, type := 0, pos := "ref.go:247", after := #[{ on := 5, ground := Go.Ground.guard }], guard := some (5, true) }) (v := undef) rfl (by kernel_rfl) (by kernel_rfl) (by kernel_rfl) (fun _ _ _ h => h) (Or.inr ⟨by rfl, rfl⟩) (by assumption) ?_
        try simp only [Act.put, List.setIfInBounds_toArray, List.set_cons_zero, List.set_cons_succ]
        refine wpAnyH_take (i := 13) (oi := { dst := some 75, op := Go.Op.load 3 (Go.Operand.tmp 74), type := 3, pos := "ref.go:247", after := #[{ on := 12, ground := Go.Ground.data }, { on := 5, ground := Go.Ground.guard }], guard := some (5, true) }) (v := undef) rfl (by kernel_rfl) (by kernel_rfl) (by kernel_rfl) (fun _ _ _ h => h) (Or.inr ⟨by rfl, rfl⟩) (by assumption) ?_
        try simp only [Act.put, List.setIfInBounds_toArray, List.set_cons_zero, List.set_cons_succ]
        refine wpAnyH_take (i := 14) (oi := { dst := some 76, op := Go.Op.binOp Go.BinOp.lss 3 (Go.Operand.tmp 73) (Go.Operand.tmp 75) 3, type := 4, pos := "ref.go:247", after := #[{ on := 11, ground := Go.Ground.data }, { on := 13, ground := Go.Ground.data }, { on := 5, ground := Go.Ground.guard }], guard := some (5, true) }) (v := undef) rfl (by kernel_rfl) (by kernel_rfl) (by kernel_rfl) (fun _ _ _ h => h) (Or.inr ⟨by rfl, rfl⟩) (by assumption) ?_
        try simp only [Act.put, List.setIfInBounds_toArray, List.set_cons_zero, List.set_cons_succ]
        refine wpAnyH_take (i := 15) (oi := { dst := some 77, op := Go.Op.pick (Go.Operand.tmp 67) (Go.Operand.tmp 76) (Go.Operand.const (Go.Value.bool false)), type := 4, pos := "ref.go:247", after := #[{ on := 5, ground := Go.Ground.data }, { on := 14, ground := Go.Ground.data }], guard := none }) (v := ?_) rfl (by kernel_rfl) (by kernel_rfl) (by kernel_rfl) (fun _ _ _ h => h) (Or.inl ⟨by rfl, ?_⟩) (by assumption) ?_
        rotate_left
        · intro wz hSw; (try dsimp only at hSw); go_simp; (try with_reducible rfl)
        try simp only [Act.put, List.setIfInBounds_toArray, List.set_cons_zero, List.set_cons_succ]
        refine wpAnyH_done (by kernel_rfl) (NoPanic.normal ?_) _
        try simp only [Act.put, List.setIfInBounds_toArray, List.set_cons_zero, List.set_cons_succ]
        have HX1 : Hid (wr.drew.drew.heap[w.heap.size]? = some (.cells #[.int .i64 s.nu, .int .i64 s.a, .int .i64 s.b, .slice pa s.pn pc, .slice none s.hn 0] 26 (0, 0)) ∧ wr.drew.drew.heap[w.heap.size + 1]? = some (.cells #[.int .i64 y.id, .int .i64 y.am, .slice ka y.n kc] 29 (0, 0)) ∧ wr.drew.drew.heap[w.heap.size + 2]? = some (.cells #[.int .i64 0, .int .i64 0, .int .i64 0, .slice none 0 0, .slice none 0 0] 26 (0, 0)) ∧ Below w.heap.size w wr.drew.drew) := ⟨HX.out.1, HX.out.2.1, HX.out.2.2.1, HX.out.2.2.2.drew.drew⟩
        have HN0 : Hid (s.hn = 0) := hn0
        clear hHeld S0 hnn hn0
        generalize wr.drew = Wy at *
        go_wp2_with fail
        generalize hWd : Wy.drew = Wd at HX1
        have HXr : Hid (Wd.heap[w.heap.size]? = some (.cells #[.int .i64 s.nu, .int .i64 s.a, .int .i64 s.b, .slice pa s.pn pc, .slice none s.hn 0] 26 (0, 0)) ∧ Wd.heap[w.heap.size + 1]? = some (.cells #[.int .i64 y.id, .int .i64 y.am, .slice ka y.n kc] 29 (0, 0)) ∧ Wd.heap[w.heap.size + 2]? = some (.cells #[.int .i64 0, .int .i64 0, .int .i64 0, .slice none 0 0, .slice none 0 0] 26 (0, 0)) ∧ Below w.heap.size w Wd) := HX1.out
        have HWS : Hid (w.heap.size + 2 < Wd.heap.size) := lt_of_block HX1.out.2.2.1
        clear HX1 HX
        have HB0 : Hid (Below w.heap.size w Wd) := HXr.out.2.2.2
        have SR : Hid (∀ u, Below Wd.heap.size Wd u → u.rangeAt (w.heap.size + 1) 0 (hdl y ka kc) ∧ u.cell? ⟨w.heap.size, 4, none⟩ = some (.slice none s.hn 0)) := fun u hb => ⟨range_below (hdv_range HXr.out.2.1) hb, by rw [hb.cell (p := ⟨w.heap.size, 4, none⟩) (lt_of_block HXr.out.1)]; exact (five_of HXr.out.1).c4⟩
        have S0 := SR.out Wd (Below.refl _ _)
        refine wp_region_noPanic ?_
        refine wp_region_held_drew (S := fun u => u.rangeAt (w.heap.size + 1) 0 (hdl y ka kc) ∧ u.cell? ⟨w.heap.size, 4, none⟩ = some (.slice none s.hn 0)) (by kernel_rfl) (by rw [hWd]; exact S0) (fun hHeld => ?_)
        rw [hWd] at hHeld ⊢
        clear hWd
        refine wpAnyH_take (i := 0) (oi := { dst := some 80, op := Go.Op.move (Go.Operand.tmp 8), type := 24, pos := "ref.go:250", after := #[], guard := none }) (v := ?_) rfl (by kernel_rfl) (by kernel_rfl) (by kernel_rfl) (fun _ _ _ h => h) (Or.inl ⟨by rfl, ?_⟩) (by assumption) ?_
        rotate_left
        · intro wz hSw; (try dsimp only at hSw); go_simp; (try with_reducible rfl)
        try simp only [Act.put, List.setIfInBounds_toArray, List.set_cons_zero, List.set_cons_succ]
        refine wpAnyH_take (i := 1) (oi := { dst := some 81, op := Go.Op.fieldAddr 26 (Go.Operand.tmp 3) 3, type := 0, pos := "ref.go:250", after := #[], guard := none }) (v := ?_) rfl (by kernel_rfl) (by kernel_rfl) (by kernel_rfl) (fun _ _ _ h => h) (Or.inl ⟨by rfl, ?_⟩) (by assumption) ?_
        rotate_left
        · intro wz hSw; (try dsimp only at hSw); go_simp; (try with_reducible rfl)
        try simp only [Act.put, List.setIfInBounds_toArray, List.set_cons_zero, List.set_cons_succ]
        refine wpAnyH_take (i := 2) (oi := { dst := some 82, op := Go.Op.load 24 (Go.Operand.tmp 81), type := 24, pos := "ref.go:250", after := #[{ on := 1, ground := Go.Ground.data }], guard := none }) (v := ?_) rfl (by kernel_rfl) (by kernel_rfl) (by kernel_rfl) (fun _ _ _ h => h) (Or.inl ⟨by rfl, ?_⟩) (by assumption) ?_
        rotate_left
        · intro wz hSw; (try dsimp only at hSw); go_simp; (try with_reducible rfl)
        try simp only [Act.put, List.setIfInBounds_toArray, List.set_cons_zero, List.set_cons_succ]
        refine wpAnyH_take (i := 3) (oi := { dst := some 83, op := Go.Op.move (Go.Operand.tmp 9), type := 3, pos := "ref.go:250", after := #[], guard := none }) (v := ?_) rfl (by kernel_rfl) (by kernel_rfl) (by kernel_rfl) (fun _ _ _ h => h) (Or.inl ⟨by rfl, ?_⟩) (by assumption) ?_
        rotate_left
        · intro wz hSw; (try dsimp only at hSw); go_simp; (try with_reducible rfl)
        try simp only [Act.put, List.setIfInBounds_toArray, List.set_cons_zero, List.set_cons_succ]
        refine wpAnyH_take (i := 4) (oi := { dst := some 84, op := Go.Op.slice 24 (Go.Operand.tmp 82) none (some (Go.Operand.tmp 83)) none, type := 24, pos := "ref.go:250", after := #[{ on := 2, ground := Go.Ground.data }, { on := 3, ground := Go.Ground.data }], guard := none }) (v := .slice none 0 0) rfl (by kernel_rfl) (by kernel_rfl) (by kernel_rfl) (fun _ _ _ h => h) (Or.inl ⟨by rfl, ?_⟩) (by assumption) ?_
        · intro wz hSw; (try dsimp only at hSw); go_simp; try (intro hbad; have h1 := HCP.out; omega)
        try simp only [Act.put, List.setIfInBounds_toArray, List.set_cons_zero, List.set_cons_succ]
        refine wpAnyH_take (i := 6) (oi := { dst := some 86, op := Go.Op.load 29 (Go.Operand.tmp 5), type := 29, pos := "ref.go:250", after := #[], guard := none }) rfl (by kernel_rfl) (by kernel_rfl) (by kernel_rfl) (fun _ _ _ h => h) (yieldsIf_load_mid (by rfl) _ _ rfl (w.heap.size + 1) 0 rfl (hdl y ka kc) _ (fun _ h => h.1) Tryd.underlying29 rfl szHr) (by assumption) ?_
        try simp only [Act.put, List.setIfInBounds_toArray, List.set_cons_zero, List.set_cons_succ]
        refine wpAnyH_take (i := 9) (oi := { dst := some 89, op := Go.Op.fieldAddr 26 (Go.Operand.tmp 3) 3, type := 0, pos := "ref.go:250", after := #[], guard := none }) (v := ?_) rfl (by kernel_rfl) (by kernel_rfl) (by kernel_rfl) (fun _ _ _ h => h) (Or.inl ⟨by rfl, ?_⟩) (by assumption) ?_
        rotate_left
        · intro wz hSw; (try dsimp only at hSw); go_simp; (try with_reducible rfl)
        try simp only [Act.put, List.setIfInBounds_toArray, List.set_cons_zero, List.set_cons_succ]
        refine wpAnyH_take (i := 10) (oi := { dst := some 90, op := Go.Op.load 24 (Go.Operand.tmp 89), type := 24, pos := "ref.go:250", after := #[{ on := 9, ground := Go.Ground.data }], guard := none }) (v := ?_) rfl (by kernel_rfl) (by kernel_rfl) (by kernel_rfl) (fun _ _ _ h => h) (Or.inl ⟨by rfl, ?_⟩) (by assumption) ?_
        rotate_left
        · intro wz hSw; (try dsimp only at hSw); go_simp; (try with_reducible rfl)
        try simp only [Act.put, List.setIfInBounds_toArray, List.set_cons_zero, List.set_cons_succ]
        refine wpAnyH_take (i := 11) (oi := { dst := some 91, op := Go.Op.move (Go.Operand.tmp 9), type := 3, pos := "ref.go:250", after := #[], guard := none }) (v := ?_) rfl (by kernel_rfl) (by kernel_rfl) (by kernel_rfl) (fun _ _ _ h => h) (Or.inl ⟨by rfl, ?_⟩) (by assumption) ?_
        rotate_left
        · intro wz hSw; (try dsimp only at hSw); go_simp; (try with_reducible rfl)
        try simp only [Act.put, List.setIfInBounds_toArray, List.set_cons_zero, List.set_cons_succ]
        refine wpAnyH_take (i := 12) (oi := { dst := some 92, op := Go.Op.slice 24 (Go.Operand.tmp 90) (some (Go.Operand.tmp 91)) none none, type := 24, pos := "ref.go:250", after := #[{ on := 10, ground := Go.Ground.data }, { on := 11, ground := Go.Ground.data }], guard := none }) (v := .slice none s.hn 0) rfl (by kernel_rfl) (by kernel_rfl) (by kernel_rfl) (fun _ _ _ h => h) (Or.inl ⟨by rfl, ?_⟩) (by assumption) ?_
        · intro wz hSw; (try dsimp only at hSw); go_simp; try (intro hbad; have h1 := HCP.out; omega)
        try simp only [Act.put, List.setIfInBounds_toArray, List.set_cons_zero, List.set_cons_succ]
        refine wpAnyH_ready (rs := [5, 7]) (by kernel_rfl) (by simp) ?_
        refine (AllReadyH.cons (o := { dst := some 85, op := Go.Op.call { callee := Go.Callee.builtin Go.Builtin.append, args := #[Go.Operand.tmp 80, Go.Operand.tmp 84], argTypes := #[24, 24] }, type := 24, pos := "ref.go:250", after := #[{ on := 0, ground := Go.Ground.data }, { on := 4, ground := Go.Ground.data }], guard := none }) rfl (fun K hK => ?_) (AllReadyH.cons (o := { dst := some 87, op := Go.Op.buildSlice 24 1 #[(0, Go.Operand.tmp 86)], type := 24, pos := "ref.go:250", after := #[{ on := 6, ground := Go.Ground.data }], guard := none }) rfl (fun K hK => ?_) AllReadyH.nil))
        · have HBU : Below Wd.heap.size Wd Wd := Below.refl _ _
          refine step_append_R rfl (.tmp 80) (.tmp 84) rfl Wd.heap.size (.slice none 0 0) 0 [] none 0 0 (flatL (hf s.H A) 0) (by rfl) (by rfl) (World.ownsRow_nil _ _ _ _) HBU.size ⟨fun h => absurd h (Nat.lt_irrefl _), fun _ => ⟨rfl, rfl⟩⟩ (flatL_length 0 (hf_len _ _ _)) (hf_one _ _ _) (by omega) ?_
          intro va vc V1 hown hgr
          rw [Nat.zero_add, List.nil_append] at hown
          have hb1 : Below Wd.heap.size Wd V1 := ⟨hgr.os, hgr.tape, hgr.output, hgr.size, fun k hk => hgr.block k hk (by simp [Value.ownBlock])⟩
          have HO1 : Hid (V1.ownsRow Wd.heap.size 29 3 (.slice va 0 vc) 0 (flatL (hf s.H A) 0)) := hown
          have HBW : Hid (Below Wd.heap.size Wd V1) := Below.transS HBU hb1
          refine hK.out _ _ (SR.out V1 HBW.out) (fun _ => ?_)
          try simp only [Act.put, List.setIfInBounds_toArray, List.set_cons_zero, List.set_cons_succ]
          (try rw [Nat.zero_add])
          clear hK K hown hgr
          have HBV : Hid (Below Wd.heap.size Wd V1) := HBW.out
          clear hb1
          refine wpAnyH_ready (rs := [7]) (by kernel_rfl) (by simp) ?_
          refine (AllReadyH.cons (o := { dst := some 87, op := Go.Op.buildSlice 24 1 #[(0, Go.Operand.tmp 86)], type := 24, pos := "ref.go:250", after := #[{ on := 6, ground := Go.Ground.data }], guard := none }) rfl (fun K hK => ?_) AllReadyH.nil)
          have HBU : Below Wd.heap.size Wd V1 := HBV.out
          refine step_sliceR rfl (.tmp 86) rfl y ka kc (by rfl) ?_
          intro q V2 hq hle hb1
          have HBW : Hid (Below Wd.heap.size Wd V2) := Below.transS HBU hb1
          have HO2 : Hid (V2.ownsRow Wd.heap.size 29 3 (.slice va 0 vc) 0 (flatL (hf s.H A) 0)) := own_below HO1.out hb1
          have HQ : Hid (V2.heap[q]? = some (.cells (hdv y ka kc) 29 (0, 0))) := hq
          refine hK.out _ _ (SR.out V2 HBW.out) (fun _ => ?_)
          try simp only [Act.put, List.setIfInBounds_toArray, List.set_cons_zero, List.set_cons_succ]
          (try rw [Nat.zero_add])
          clear hK K hq hle hb1 HO1 HBV HBU
          refine wpAnyH_ready (rs := [8]) (by kernel_rfl) (by simp) ?_
          refine (AllReadyH.cons (o := { dst := some 88, op := Go.Op.call { callee := Go.Callee.builtin Go.Builtin.append, args := #[Go.Operand.tmp 85, Go.Operand.tmp 87], argTypes := #[24, 24] }, type := 24, pos := "ref.go:250", after := #[{ on := 5, ground := Go.Ground.data }, { on := 7, ground := Go.Ground.data }, { on := 5, ground := Go.Ground.chain }], guard := none }) rfl (fun K hK => ?_) AllReadyH.nil)
          refine step_append_R rfl (.tmp 85) (.tmp 87) rfl Wd.heap.size (.slice va 0 vc) 0 (flatL (hf s.H A) 0) (some ⟨q, 0, none⟩) 1 1 (hdl y ka kc) (by rfl) (by rfl) HO2.out HBW.out.size ⟨fun _ => ⟨q, 0, rfl, hdv_range HQ.out⟩, fun e => by cases e⟩ rfl (hdl_one y ka kc) (by omega) ?_
          intro vb vd V3 hown hgr
          have HO3 : Hid (V3.ownsRow Wd.heap.size 29 3 (.slice vb (0 + 1) vd) (0 + 1) (flatL (hf s.H A) 0 ++ hdl y ka kc)) := hown
          have HB3 : Hid (Below Wd.heap.size Wd V3) := grown_below HO2.out hgr HBW.out (Nat.le_refl _)
          refine hK.out _ _ (SR.out V3 HB3.out) (fun _ => ?_)
          clear hK K hown hgr HO2 HQ HBW
          try simp only [Act.put, List.setIfInBounds_toArray, List.set_cons_zero, List.set_cons_succ]
          refine wpAnyH_ready (rs := [13]) (by kernel_rfl) (by simp) ?_
          refine (AllReadyH.cons (o := { dst := some 93, op := Go.Op.call { callee := Go.Callee.builtin Go.Builtin.append, args := #[Go.Operand.tmp 88, Go.Operand.tmp 92], argTypes := #[24, 24] }, type := 24, pos := "ref.go:250", after := #[{ on := 8, ground := Go.Ground.data }, { on := 12, ground := Go.Ground.data }, { on := 8, ground := Go.Ground.chain }], guard := none }) rfl (fun K hK => ?_) AllReadyH.nil)
          have HBU : Below Wd.heap.size Wd V3 := HB3.out
          refine step_append_R rfl (.tmp 88) (.tmp 92) rfl Wd.heap.size (.slice vb (0 + 1) vd) (0 + 1) (flatL (hf s.H A) 0 ++ hdl y ka kc) none (s.hn) (0) (flatL (fun j => hf s.H A (0 + j)) (s.hn)) (by rfl) (by rfl) HO3.out HBU.size ⟨fun h => absurd h (by have := HN0.out; omega), fun _ => ⟨HN0.out, rfl⟩⟩ (flatL_length _ (fun j hj => rfl)) (fun u hu => by
            obtain ⟨j, _, hj⟩ := flatL_mem _ hu
            exact hdl_one _ _ _ u hj) (by omega) ?_
          intro vx vy V4 hown hgr
          have em : 0 + 1 + (s.hn) = s.hn + 1 := by omega
          have HB4 : Hid (Below Wd.heap.size Wd V4) := grown_below HO3.out hgr HB3.out (Nat.le_refl _)
          rw [em] at hown
          have HO4 : Hid (V4.ownsRow Wd.heap.size 29 3 (.slice vx (s.hn + 1) vy) (s.hn + 1) (flatL (hf (insG s.H 0 y) (insG A 0 (ka, kc))) (s.hn + 1))) := by
            have e0 := insF_mid (hf s.H A) 0 (s.hn) (hdl y ka kc)
            rw [show 0 + (s.hn) + 1 = s.hn + 1 by omega] at e0
            show V4.ownsRow Wd.heap.size 29 3 (.slice vx (s.hn + 1) vy) (s.hn + 1) (flatL (hf (insG s.H 0 y) (insG A 0 (ka, kc))) (s.hn + 1))
            rw [insG_hf, e0, ← List.append_assoc]
            exact hown
          refine hK.out _ _ (SR.out V4 HB4.out) (fun _ => ?_)
          clear hK K hown hgr HO3 HB3 HBU
          try simp only [Act.put, List.setIfInBounds_toArray, List.set_cons_zero, List.set_cons_succ]
          rw [em]
          refine wpAnyH_take (i := 14) (oi := { dst := some 8, op := Go.Op.assign (Go.Operand.tmp 93), type := 24, pos := "ref.go:250", after := #[{ on := 13, ground := Go.Ground.data }, { on := 13, ground := Go.Ground.chain }, { on := 0, ground := Go.Ground.phase }, { on := 1, ground := Go.Ground.phase }, { on := 2, ground := Go.Ground.phase }, { on := 3, ground := Go.Ground.phase }, { on := 4, ground := Go.Ground.phase }, { on := 5, ground := Go.Ground.phase }, { on := 6, ground := Go.Ground.phase }, { on := 7, ground := Go.Ground.phase }, { on := 8, ground := Go.Ground.phase }, { on := 9, ground := Go.Ground.phase }, { on := 10, ground := Go.Ground.phase }, { on := 11, ground := Go.Ground.phase }, { on := 12, ground := Go.Ground.phase }, { on := 13, ground := Go.Ground.phase }], guard := none }) (v := ?_) rfl (by kernel_rfl) (by kernel_rfl) (by kernel_rfl) (fun _ _ _ h => h) (Or.inl ⟨by rfl, ?_⟩) (by assumption) ?_
          rotate_left
          · intro wz hSw; (try dsimp only at hSw); go_simp; (try with_reducible rfl)
          try simp only [Act.put, List.setIfInBounds_toArray, List.set_cons_zero, List.set_cons_succ]
          refine wpAnyH_done (by kernel_rfl) (NoPanic.normal ?_) _
          try simp only [Act.put, List.setIfInBounds_toArray, List.set_cons_zero, List.set_cons_succ]
          clear hHeld S0 SR em
          have HX4 : Hid (V4.heap[w.heap.size]? = some (.cells #[.int .i64 s.nu, .int .i64 s.a, .int .i64 s.b, .slice pa s.pn pc, .slice none s.hn 0] 26 (0, 0)) ∧ V4.heap[w.heap.size + 1]? = some (.cells #[.int .i64 y.id, .int .i64 y.am, .slice ka y.n kc] 29 (0, 0)) ∧ V4.heap[w.heap.size + 2]? = some (.cells #[.int .i64 0, .int .i64 0, .int .i64 0, .slice none 0 0, .slice none 0 0] 26 (0, 0)) ∧ Below w.heap.size w V4) := ⟨(HB4.out.block _ (lt_of_block HXr.out.1)).trans HXr.out.1, (HB4.out.block _ (lt_of_block HXr.out.2.1)).trans HXr.out.2.1, (HB4.out.block _ (lt_of_block HXr.out.2.2.1)).trans HXr.out.2.2.1, HB0.out.trans (HB4.out.mono HB0.out.size)⟩
          have HWI : Hid (Calls Tryd.prog 29 #[.agg #[.int .i64 s.nu, .int .i64 s.a, .int .i64 s.b, .slice pa s.pn pc, .slice none s.hn 0], .int .i64 (-y.am), .int .i64 0, .slice pa s.pn pc, .slice vx (s.hn + 1) vy] V4 fun e w' => e = .returned (.agg #[.int .i64 (s.nu + 1), .int .i64 (s.a + (-y.am)), .int .i64 (s.b + 0), .slice pa s.pn pc, .slice vx (s.hn + 1) vy]) ∧ Below V4.heap.size V4 w') := HWT.out pa s.pn pc vx (s.hn + 1) vy V4
          clear HXr HB0 HB4
          obtain ⟨c0, c1, c2, c3, c4, cf⟩ := five_of HX4.out.1
          obtain ⟨k0, k1, k2⟩ := hd_new (x := y) HX4.out.2.1 rfl
          have en := EN.out
          go_wp2_with fail
          refine (to_0 (-y.am) V4).mono ?_
          rintro e Vw ⟨rfl, hVw⟩
          rw [hVw]
          clear hVw
          go_wp2_with fail
          refine HWI.out.mono ?_
          rintro e V6 ⟨rfl, hb6⟩
          have HX6 : Hid (V6.heap[w.heap.size + 2]? = some (.cells #[.int .i64 0, .int .i64 0, .int .i64 0, .slice none 0 0, .slice none 0 0] 26 (0, 0)) ∧ Below w.heap.size w V6) := ⟨(hb6.block _ (lt_of_block HX4.out.2.2.1)).trans HX4.out.2.2.1, HX4.out.2.2.2.trans (hb6.mono HX4.out.2.2.2.size)⟩
          have HO6 : Hid (V6.ownsRow Wd.heap.size 29 3 (.slice vx (s.hn + 1) vy) (s.hn + 1) (flatL (hf (insG s.H 0 y) (insG A 0 (ka, kc))) (s.hn + 1))) := own_below HO4.out hb6
          clear c0 c1 c2 c3 c4 cf k0 k1 k2 HWI HO4 hb6 HX4 en
          obtain ⟨d0, d1, d2, d3, d4, df⟩ := five_of HX6.out.1
          go_wp2
          refine bodyPost_ret (results_R2 Tryd.results9 _ _ (w.heap.size + 2) 26 _ _ _ _ _ (0, 0) rfl (five_all HX6.out.1)) rfl ⟨⟨0, HIL.out, HLO.out, HHI.out, ⟨pa, pc, vx, vy⟩, by rw [HSV.out]; rfl, ?_⟩, five_below HX6.out.2 (by omega)⟩
          exact HFIN.out 0 HIL.out A vx vy _ Wd.heap.size HKS.out (by have h1 := HWS.out; omega) (five_below HX6.out.2 (by omega)) (own_keep HO6.out (fun g e => five_other (by have h1 := (HO6.out.lt g e).1; have h2 := HWS.out; omega)))
        · have HBU : Below Wd.heap.size Wd Wd := Below.refl _ _
          refine step_sliceR rfl (.tmp 86) rfl y ka kc (by rfl) ?_
          intro q V1 hq hle hb1
          have HBW : Hid (Below Wd.heap.size Wd V1) := Below.transS HBU hb1
          have HQ1 : Hid (V1.heap[q]? = some (.cells (hdv y ka kc) 29 (0, 0))) := hq
          refine hK.out _ _ (SR.out V1 HBW.out) (fun _ => ?_)
          try simp only [Act.put, List.setIfInBounds_toArray, List.set_cons_zero, List.set_cons_succ]
          (try rw [Nat.zero_add])
          clear hK K hq hle
          have HBV : Hid (Below Wd.heap.size Wd V1) := HBW.out
          clear hb1
          refine wpAnyH_ready (rs := [5]) (by kernel_rfl) (by simp) ?_
          refine (AllReadyH.cons (o := { dst := some 85, op := Go.Op.call { callee := Go.Callee.builtin Go.Builtin.append, args := #[Go.Operand.tmp 80, Go.Operand.tmp 84], argTypes := #[24, 24] }, type := 24, pos := "ref.go:250", after := #[{ on := 0, ground := Go.Ground.data }, { on := 4, ground := Go.Ground.data }], guard := none }) rfl (fun K hK => ?_) AllReadyH.nil)
          have HBU : Below Wd.heap.size Wd V1 := HBV.out
          refine step_append_R rfl (.tmp 80) (.tmp 84) rfl Wd.heap.size (.slice none 0 0) 0 [] none 0 0 (flatL (hf s.H A) 0) (by rfl) (by rfl) (World.ownsRow_nil _ _ _ _) HBU.size ⟨fun h => absurd h (Nat.lt_irrefl _), fun _ => ⟨rfl, rfl⟩⟩ (flatL_length 0 (hf_len _ _ _)) (hf_one _ _ _) (by omega) ?_
          intro va vc V2 hown hgr
          rw [Nat.zero_add, List.nil_append] at hown
          have hb1 : Below V1.heap.size V1 V2 := ⟨hgr.os, hgr.tape, hgr.output, hgr.size, fun k hk => hgr.block k hk (by simp [Value.ownBlock])⟩
          have HO1 : Hid (V2.ownsRow Wd.heap.size 29 3 (.slice va 0 vc) 0 (flatL (hf s.H A) 0)) := hown
          have HBW : Hid (Below Wd.heap.size Wd V2) := Below.transS HBU hb1
          have HQ : Hid (V2.heap[q]? = some (.cells (hdv y ka kc) 29 (0, 0))) := (hb1.block _ (lt_of_block HQ1.out)).trans HQ1.out
          have HO2 : Hid (V2.ownsRow Wd.heap.size 29 3 (.slice va 0 vc) 0 (flatL (hf s.H A) 0)) := HO1.out
          refine hK.out _ _ (SR.out V2 HBW.out) (fun _ => ?_)
          try simp only [Act.put, List.setIfInBounds_toArray, List.set_cons_zero, List.set_cons_succ]
          (try rw [Nat.zero_add])
          clear hK K hown hgr hb1 HQ1 HO1 HBV HBU
          refine wpAnyH_ready (rs := [8]) (by kernel_rfl) (by simp) ?_
          refine (AllReadyH.cons (o := { dst := some 88, op := Go.Op.call { callee := Go.Callee.builtin Go.Builtin.append, args := #[Go.Operand.tmp 85, Go.Operand.tmp 87], argTypes := #[24, 24] }, type := 24, pos := "ref.go:250", after := #[{ on := 5, ground := Go.Ground.data }, { on := 7, ground := Go.Ground.data }, { on := 5, ground := Go.Ground.chain }], guard := none }) rfl (fun K hK => ?_) AllReadyH.nil)
          refine step_append_R rfl (.tmp 85) (.tmp 87) rfl Wd.heap.size (.slice va 0 vc) 0 (flatL (hf s.H A) 0) (some ⟨q, 0, none⟩) 1 1 (hdl y ka kc) (by rfl) (by rfl) HO2.out HBW.out.size ⟨fun _ => ⟨q, 0, rfl, hdv_range HQ.out⟩, fun e => by cases e⟩ rfl (hdl_one y ka kc) (by omega) ?_
          intro vb vd V3 hown hgr
          have HO3 : Hid (V3.ownsRow Wd.heap.size 29 3 (.slice vb (0 + 1) vd) (0 + 1) (flatL (hf s.H A) 0 ++ hdl y ka kc)) := hown
          have HB3 : Hid (Below Wd.heap.size Wd V3) := grown_below HO2.out hgr HBW.out (Nat.le_refl _)
          refine hK.out _ _ (SR.out V3 HB3.out) (fun _ => ?_)
          clear hK K hown hgr HO2 HQ HBW
          try simp only [Act.put, List.setIfInBounds_toArray, List.set_cons_zero, List.set_cons_succ]
          refine wpAnyH_ready (rs := [13]) (by kernel_rfl) (by simp) ?_
          refine (AllReadyH.cons (o := { dst := some 93, op := Go.Op.call { callee := Go.Callee.builtin Go.Builtin.append, args := #[Go.Operand.tmp 88, Go.Operand.tmp 92], argTypes := #[24, 24] }, type := 24, pos := "ref.go:250", after := #[{ on := 8, ground := Go.Ground.data }, { on := 12, ground := Go.Ground.data }, { on := 8, ground := Go.Ground.chain }], guard := none }) rfl (fun K hK => ?_) AllReadyH.nil)
          have HBU : Below Wd.heap.size Wd V3 := HB3.out
          refine step_append_R rfl (.tmp 88) (.tmp 92) rfl Wd.heap.size (.slice vb (0 + 1) vd) (0 + 1) (flatL (hf s.H A) 0 ++ hdl y ka kc) none (s.hn) (0) (flatL (fun j => hf s.H A (0 + j)) (s.hn)) (by rfl) (by rfl) HO3.out HBU.size ⟨fun h => absurd h (by have := HN0.out; omega), fun _ => ⟨HN0.out, rfl⟩⟩ (flatL_length _ (fun j hj => rfl)) (fun u hu => by
            obtain ⟨j, _, hj⟩ := flatL_mem _ hu
            exact hdl_one _ _ _ u hj) (by omega) ?_
          intro vx vy V4 hown hgr
          have em : 0 + 1 + (s.hn) = s.hn + 1 := by omega
          have HB4 : Hid (Below Wd.heap.size Wd V4) := grown_below HO3.out hgr HB3.out (Nat.le_refl _)
          rw [em] at hown
          have HO4 : Hid (V4.ownsRow Wd.heap.size 29 3 (.slice vx (s.hn + 1) vy) (s.hn + 1) (flatL (hf (insG s.H 0 y) (insG A 0 (ka, kc))) (s.hn + 1))) := by
            have e0 := insF_mid (hf s.H A) 0 (s.hn) (hdl y ka kc)
            rw [show 0 + (s.hn) + 1 = s.hn + 1 by omega] at e0
            show V4.ownsRow Wd.heap.size 29 3 (.slice vx (s.hn + 1) vy) (s.hn + 1) (flatL (hf (insG s.H 0 y) (insG A 0 (ka, kc))) (s.hn + 1))
            rw [insG_hf, e0, ← List.append_assoc]
            exact hown
          refine hK.out _ _ (SR.out V4 HB4.out) (fun _ => ?_)
          clear hK K hown hgr HO3 HB3 HBU
          try simp only [Act.put, List.setIfInBounds_toArray, List.set_cons_zero, List.set_cons_succ]
          rw [em]
          refine wpAnyH_take (i := 14) (oi := { dst := some 8, op := Go.Op.assign (Go.Operand.tmp 93), type := 24, pos := "ref.go:250", after := #[{ on := 13, ground := Go.Ground.data }, { on := 13, ground := Go.Ground.chain }, { on := 0, ground := Go.Ground.phase }, { on := 1, ground := Go.Ground.phase }, { on := 2, ground := Go.Ground.phase }, { on := 3, ground := Go.Ground.phase }, { on := 4, ground := Go.Ground.phase }, { on := 5, ground := Go.Ground.phase }, { on := 6, ground := Go.Ground.phase }, { on := 7, ground := Go.Ground.phase }, { on := 8, ground := Go.Ground.phase }, { on := 9, ground := Go.Ground.phase }, { on := 10, ground := Go.Ground.phase }, { on := 11, ground := Go.Ground.phase }, { on := 12, ground := Go.Ground.phase }, { on := 13, ground := Go.Ground.phase }], guard := none }) (v := ?_) rfl (by kernel_rfl) (by kernel_rfl) (by kernel_rfl) (fun _ _ _ h => h) (Or.inl ⟨by rfl, ?_⟩) (by assumption) ?_
          rotate_left
          · intro wz hSw; (try dsimp only at hSw); go_simp; (try with_reducible rfl)
          try simp only [Act.put, List.setIfInBounds_toArray, List.set_cons_zero, List.set_cons_succ]
          refine wpAnyH_done (by kernel_rfl) (NoPanic.normal ?_) _
          try simp only [Act.put, List.setIfInBounds_toArray, List.set_cons_zero, List.set_cons_succ]
          clear hHeld S0 SR em
          have HX4 : Hid (V4.heap[w.heap.size]? = some (.cells #[.int .i64 s.nu, .int .i64 s.a, .int .i64 s.b, .slice pa s.pn pc, .slice none s.hn 0] 26 (0, 0)) ∧ V4.heap[w.heap.size + 1]? = some (.cells #[.int .i64 y.id, .int .i64 y.am, .slice ka y.n kc] 29 (0, 0)) ∧ V4.heap[w.heap.size + 2]? = some (.cells #[.int .i64 0, .int .i64 0, .int .i64 0, .slice none 0 0, .slice none 0 0] 26 (0, 0)) ∧ Below w.heap.size w V4) := ⟨(HB4.out.block _ (lt_of_block HXr.out.1)).trans HXr.out.1, (HB4.out.block _ (lt_of_block HXr.out.2.1)).trans HXr.out.2.1, (HB4.out.block _ (lt_of_block HXr.out.2.2.1)).trans HXr.out.2.2.1, HB0.out.trans (HB4.out.mono HB0.out.size)⟩
          have HWI : Hid (Calls Tryd.prog 29 #[.agg #[.int .i64 s.nu, .int .i64 s.a, .int .i64 s.b, .slice pa s.pn pc, .slice none s.hn 0], .int .i64 (-y.am), .int .i64 0, .slice pa s.pn pc, .slice vx (s.hn + 1) vy] V4 fun e w' => e = .returned (.agg #[.int .i64 (s.nu + 1), .int .i64 (s.a + (-y.am)), .int .i64 (s.b + 0), .slice pa s.pn pc, .slice vx (s.hn + 1) vy]) ∧ Below V4.heap.size V4 w') := HWT.out pa s.pn pc vx (s.hn + 1) vy V4
          clear HXr HB0 HB4
          obtain ⟨c0, c1, c2, c3, c4, cf⟩ := five_of HX4.out.1
          obtain ⟨k0, k1, k2⟩ := hd_new (x := y) HX4.out.2.1 rfl
          have en := EN.out
          go_wp2_with fail
          refine (to_0 (-y.am) V4).mono ?_
          rintro e Vw ⟨rfl, hVw⟩
          rw [hVw]
          clear hVw
          go_wp2_with fail
          refine HWI.out.mono ?_
          rintro e V6 ⟨rfl, hb6⟩
          have HX6 : Hid (V6.heap[w.heap.size + 2]? = some (.cells #[.int .i64 0, .int .i64 0, .int .i64 0, .slice none 0 0, .slice none 0 0] 26 (0, 0)) ∧ Below w.heap.size w V6) := ⟨(hb6.block _ (lt_of_block HX4.out.2.2.1)).trans HX4.out.2.2.1, HX4.out.2.2.2.trans (hb6.mono HX4.out.2.2.2.size)⟩
          have HO6 : Hid (V6.ownsRow Wd.heap.size 29 3 (.slice vx (s.hn + 1) vy) (s.hn + 1) (flatL (hf (insG s.H 0 y) (insG A 0 (ka, kc))) (s.hn + 1))) := own_below HO4.out hb6
          clear c0 c1 c2 c3 c4 cf k0 k1 k2 HWI HO4 hb6 HX4 en
          obtain ⟨d0, d1, d2, d3, d4, df⟩ := five_of HX6.out.1
          go_wp2
          refine bodyPost_ret (results_R2 Tryd.results9 _ _ (w.heap.size + 2) 26 _ _ _ _ _ (0, 0) rfl (five_all HX6.out.1)) rfl ⟨⟨0, HIL.out, HLO.out, HHI.out, ⟨pa, pc, vx, vy⟩, by rw [HSV.out]; rfl, ?_⟩, five_below HX6.out.2 (by omega)⟩
          exact HFIN.out 0 HIL.out A vx vy _ Wd.heap.size HKS.out (by have h1 := HWS.out; omega) (five_below HX6.out.2 (by omega)) (own_keep HO6.out (fun g e => five_other (by have h1 := (HO6.out.lt g e).1; have h2 := HWS.out; omega)))
      | some a =>
        obtain ⟨b, off, rfl⟩ := HSP.out a rfl
        clear hin
        dsimp only at *
        have S0 : wr.drew.cell? ⟨w.heap.size, 4, none⟩ = some (.slice (some ⟨b, off, none⟩) s.hn hc) := (five_of HX.out.1).c4
        go_upto_region 17 with fail
        refine wp_region_noPanic ?_
        refine wp_region_held_drew (S := fun u => u.cell? ⟨w.heap.size, 4, none⟩ = some (.slice (some ⟨b, off, none⟩) s.hn hc)) (by kernel_rfl) S0 (fun hHeld => ?_)
        refine wpAnyH_take (i := 0) (oi := { dst := some 62, op := Go.Op.move (Go.Operand.tmp 9), type := 3, pos := "ref.go:247", after := #[], guard := none }) (v := ?_) rfl (by kernel_rfl) (by kernel_rfl) (by kernel_rfl) (fun _ _ _ h => h) (Or.inl ⟨by rfl, ?_⟩) (by assumption) ?_
        rotate_left
        · intro wz hSw; (try dsimp only at hSw); go_simp; (try with_reducible rfl)
        try simp only [Act.put, List.setIfInBounds_toArray, List.set_cons_zero, List.set_cons_succ]
        refine wpAnyH_take (i := 1) (oi := { dst := some 63, op := Go.Op.fieldAddr 26 (Go.Operand.tmp 3) 3, type := 0, pos := "ref.go:247", after := #[], guard := none }) (v := ?_) rfl (by kernel_rfl) (by kernel_rfl) (by kernel_rfl) (fun _ _ _ h => h) (Or.inl ⟨by rfl, ?_⟩) (by assumption) ?_
        rotate_left
        · intro wz hSw; (try dsimp only at hSw); go_simp; (try with_reducible rfl)
        try simp only [Act.put, List.setIfInBounds_toArray, List.set_cons_zero, List.set_cons_succ]
        refine wpAnyH_take (i := 2) (oi := { dst := some 64, op := Go.Op.load 24 (Go.Operand.tmp 63), type := 24, pos := "ref.go:247", after := #[{ on := 1, ground := Go.Ground.data }], guard := none }) (v := ?_) rfl (by kernel_rfl) (by kernel_rfl) (by kernel_rfl) (fun _ _ _ h => h) (Or.inl ⟨by rfl, ?_⟩) (by assumption) ?_
        rotate_left
        · intro wz hSw; (try dsimp only at hSw); go_simp; (try with_reducible rfl)
        try simp only [Act.put, List.setIfInBounds_toArray, List.set_cons_zero, List.set_cons_succ]
        refine wpAnyH_take (i := 3) (oi := { dst := some 65, op := Go.Op.call { callee := Go.Callee.builtin Go.Builtin.len, args := #[Go.Operand.tmp 64], argTypes := #[24] }, type := 3, pos := "ref.go:247", after := #[{ on := 2, ground := Go.Ground.data }], guard := none }) (v := ?_) rfl (by kernel_rfl) (by kernel_rfl) (by kernel_rfl) (fun _ _ _ h => h) (Or.inl ⟨by rfl, ?_⟩) (by assumption) ?_
        rotate_left
        · intro wz hSw; (try dsimp only at hSw); go_simp; (try with_reducible rfl)
        try simp only [Act.put, List.setIfInBounds_toArray, List.set_cons_zero, List.set_cons_succ]
        refine wpAnyH_take (i := 4) (oi := { dst := some 66, op := Go.Op.binOp Go.BinOp.lss 3 (Go.Operand.tmp 62) (Go.Operand.tmp 65) 3, type := 4, pos := "ref.go:247", after := #[{ on := 0, ground := Go.Ground.data }, { on := 3, ground := Go.Ground.data }], guard := none }) (v := ?_) rfl (by kernel_rfl) (by kernel_rfl) (by kernel_rfl) (fun _ _ _ h => h) (Or.inl ⟨by rfl, ?_⟩) (by assumption) ?_
        rotate_left
        · intro wz hSw; (try dsimp only at hSw); go_simp; (try with_reducible rfl)
        try simp only [Act.put, List.setIfInBounds_toArray, List.set_cons_zero, List.set_cons_succ]
        refine wpAnyH_take (i := 5) (oi := { dst := some 67, op := Go.Op.move (Go.Operand.tmp 66), type := 4, pos := "ref.go:247", after := #[{ on := 4, ground := Go.Ground.data }], guard := none }) (v := ?_) rfl (by kernel_rfl) (by kernel_rfl) (by kernel_rfl) (fun _ _ _ h => h) (Or.inl ⟨by rfl, ?_⟩) (by assumption) ?_
        rotate_left
        · intro wz hSw; (try dsimp only at hSw); go_simp; (try with_reducible rfl)
        try simp only [Act.put, List.setIfInBounds_toArray, List.set_cons_zero, List.set_cons_succ]
        refine wpAnyH_take (i := 6) (oi := { dst := some 68, op := Go.Op.fieldAddr 26 (Go.Operand.tmp 3) 3, type := 0, pos := "ref.go:247", after := #[{ on := 5, ground := Go.Ground.guard }], guard := some (5, true) }) (v := undef) rfl (by kernel_rfl) (by kernel_rfl) (by kernel_rfl) (fun _ _ _ h => h) (Or.inr ⟨by rfl, rfl⟩) (by assumption) ?_
        try simp only [Act.put, List.setIfInBounds_toArray, List.set_cons_zero, List.set_cons_succ]
        refine wpAnyH_take (i := 7) (oi := { dst := some 69, op := Go.Op.load 24 (Go.Operand.tmp 68), type := 24, pos := "ref.go:247", after := #[{ on := 6, ground := Go.Ground.data }, { on := 5, ground := Go.Ground.guard }], guard := some (5, true) }) (v := undef) rfl (by kernel_rfl) (by kernel_rfl) (by kernel_rfl) (fun _ _ _ h => h) (Or.inr ⟨by rfl, rfl⟩) (by assumption) ?_
        try simp only [Act.put, List.setIfInBounds_toArray, List.set_cons_zero, List.set_cons_succ]
        refine wpAnyH_take (i := 8) (oi := { dst := some 70, op := Go.Op.move (Go.Operand.tmp 9), type := 3, pos := "ref.go:247", after := #[{ on := 5, ground := Go.Ground.guard }], guard := some (5, true) }) (v := undef) rfl (by kernel_rfl) (by kernel_rfl) (by kernel_rfl) (fun _ _ _ h => h) (Or.inr ⟨by rfl, rfl⟩) (by assumption) ?_
        try simp only [Act.put, List.setIfInBounds_toArray, List.set_cons_zero, List.set_cons_succ]
        refine wpAnyH_take (i := 9) (oi := { dst := some 71, op := Go.Op.indexAddr 24 (Go.Operand.tmp 69) (Go.Operand.tmp 70), type := 0, pos := "ref.go:247", after := #[{ on := 7, ground := Go.Ground.data }, { on := 8, ground := Go.Ground.data }, { on := 5, ground := Go.Ground.guard }], guard := some (5, true) }) (v := undef) rfl (by kernel_rfl) (by kernel_rfl) (by kernel_rfl) (fun _ _ _ h => h) (Or.inr ⟨by rfl, rfl⟩) (by assumption) ?_
        try simp only [Act.put, List.setIfInBounds_toArray, List.set_cons_zero, List.set_cons_succ]
        refine wpAnyH_take (i := 10) (oi := { dst := some 72, op := Go.Op.fieldAddr 29 (Go.Operand.tmp 71) 0, type := 0, pos := "ref.go:247", after := #[{ on := 9, ground := Go.Ground.data }, { on := 5, ground := Go.Ground.guard }], guard := some (5, true) }) (v := undef) rfl (by kernel_rfl) (by kernel_rfl) (by kernel_rfl) (fun _ _ _ h => h) (Or.inr ⟨by rfl, rfl⟩) (by assumption) ?_
        try simp only [Act.put, List.setIfInBounds_toArray, List.set_cons_zero, List.set_cons_succ]
        refine wpAnyH_take (i := 11) (oi := { dst := some 73, op := Go.Op.load 3 (Go.Operand.tmp 72), type := 3, pos := "ref.go:247", after := #[{ on := 10, ground := Go.Ground.data }, { on := 5, ground := Go.Ground.guard }], guard := some (5, true) }) (v := undef) rfl (by kernel_rfl) (by kernel_rfl) (by kernel_rfl) (fun _ _ _ h => h) (Or.inr ⟨by rfl, rfl⟩) (by assumption) ?_
        try simp only [Act.put, List.setIfInBounds_toArray, List.set_cons_zero, List.set_cons_succ]
        refine wpAnyH_take (i := 12) (oi := { dst := some 74, op := Go.Op.fieldAddr 29 (Go.Operand.tmp 5) 0, type := 0, pos := "ref.go:247", after := #[{ on := 5, ground := Go.Ground.guard }], guard := some (5, true) }) (v := undef) rfl (by kernel_rfl) (by kernel_rfl) (by kernel_rfl) (fun _ _ _ h => h) (Or.inr ⟨by rfl, rfl⟩) (by assumption) ?_
        try simp only [Act.put, List.setIfInBounds_toArray, List.set_cons_zero, List.set_cons_succ]
        refine wpAnyH_take (i := 13) (oi := { dst := some 75, op := Go.Op.load 3 (Go.Operand.tmp 74), type := 3, pos := "ref.go:247", after := #[{ on := 12, ground := Go.Ground.data }, { on := 5, ground := Go.Ground.guard }], guard := some (5, true) }) (v := undef) rfl (by kernel_rfl) (by kernel_rfl) (by kernel_rfl) (fun _ _ _ h => h) (Or.inr ⟨by rfl, rfl⟩) (by assumption) ?_
        try simp only [Act.put, List.setIfInBounds_toArray, List.set_cons_zero, List.set_cons_succ]
        refine wpAnyH_take (i := 14) (oi := { dst := some 76, op := Go.Op.binOp Go.BinOp.lss 3 (Go.Operand.tmp 73) (Go.Operand.tmp 75) 3, type := 4, pos := "ref.go:247", after := #[{ on := 11, ground := Go.Ground.data }, { on := 13, ground := Go.Ground.data }, { on := 5, ground := Go.Ground.guard }], guard := some (5, true) }) (v := undef) rfl (by kernel_rfl) (by kernel_rfl) (by kernel_rfl) (fun _ _ _ h => h) (Or.inr ⟨by rfl, rfl⟩) (by assumption) ?_
        try simp only [Act.put, List.setIfInBounds_toArray, List.set_cons_zero, List.set_cons_succ]
        refine wpAnyH_take (i := 15) (oi := { dst := some 77, op := Go.Op.pick (Go.Operand.tmp 67) (Go.Operand.tmp 76) (Go.Operand.const (Go.Value.bool false)), type := 4, pos := "ref.go:247", after := #[{ on := 5, ground := Go.Ground.data }, { on := 14, ground := Go.Ground.data }], guard := none }) (v := ?_) rfl (by kernel_rfl) (by kernel_rfl) (by kernel_rfl) (fun _ _ _ h => h) (Or.inl ⟨by rfl, ?_⟩) (by assumption) ?_
        rotate_left
        · intro wz hSw; (try dsimp only at hSw); go_simp; (try with_reducible rfl)
        try simp only [Act.put, List.setIfInBounds_toArray, List.set_cons_zero, List.set_cons_succ]
        refine wpAnyH_done (by kernel_rfl) (NoPanic.normal ?_) _
        try simp only [Act.put, List.setIfInBounds_toArray, List.set_cons_zero, List.set_cons_succ]
        have HX1 : Hid (wr.drew.drew.heap[w.heap.size]? = some (.cells #[.int .i64 s.nu, .int .i64 s.a, .int .i64 s.b, .slice pa s.pn pc, .slice (some ⟨b, off, none⟩) s.hn hc] 26 (0, 0)) ∧ wr.drew.drew.heap[w.heap.size + 1]? = some (.cells #[.int .i64 y.id, .int .i64 y.am, .slice ka y.n kc] 29 (0, 0)) ∧ wr.drew.drew.heap[w.heap.size + 2]? = some (.cells #[.int .i64 0, .int .i64 0, .int .i64 0, .slice none 0 0, .slice none 0 0] 26 (0, 0)) ∧ Below w.heap.size w wr.drew.drew) := ⟨HX.out.1, HX.out.2.1, HX.out.2.2.1, HX.out.2.2.2.drew.drew⟩
        clear hHeld S0 hnn hlt
        generalize wr.drew = Wy at *
        go_wp2_with fail
        generalize hWd : Wy.drew = Wd at HX1
        have HXr : Hid (Wd.heap[w.heap.size]? = some (.cells #[.int .i64 s.nu, .int .i64 s.a, .int .i64 s.b, .slice pa s.pn pc, .slice (some ⟨b, off, none⟩) s.hn hc] 26 (0, 0)) ∧ Wd.heap[w.heap.size + 1]? = some (.cells #[.int .i64 y.id, .int .i64 y.am, .slice ka y.n kc] 29 (0, 0)) ∧ Wd.heap[w.heap.size + 2]? = some (.cells #[.int .i64 0, .int .i64 0, .int .i64 0, .slice none 0 0, .slice none 0 0] 26 (0, 0)) ∧ Below w.heap.size w Wd) := HX1.out
        have HWS : Hid (w.heap.size + 2 < Wd.heap.size) := lt_of_block HX1.out.2.2.1
        clear HX1 HX
        have HB0 : Hid (Below w.heap.size w Wd) := HXr.out.2.2.2
        have SR : Hid (∀ u, Below Wd.heap.size Wd u → u.rangeAt (w.heap.size + 1) 0 (hdl y ka kc) ∧ u.cell? ⟨w.heap.size, 4, none⟩ = some (.slice (some ⟨b, off, none⟩) s.hn hc)) := fun u hb => ⟨range_below (hdv_range HXr.out.2.1) hb, by rw [hb.cell (p := ⟨w.heap.size, 4, none⟩) (lt_of_block HXr.out.1)]; exact (five_of HXr.out.1).c4⟩
        have S0 := SR.out Wd (Below.refl _ _)
        refine wp_region_noPanic ?_
        refine wp_region_held_drew (S := fun u => u.rangeAt (w.heap.size + 1) 0 (hdl y ka kc) ∧ u.cell? ⟨w.heap.size, 4, none⟩ = some (.slice (some ⟨b, off, none⟩) s.hn hc)) (by kernel_rfl) (by rw [hWd]; exact S0) (fun hHeld => ?_)
        rw [hWd] at hHeld ⊢
        clear hWd
        obtain ⟨ax, hax⟩ : ∃ ax : Option Addr, (if hc = i then some (⟨b, off, none⟩ : Addr) else some ⟨b, off + i * 3, none⟩) = ax := ⟨_, rfl⟩
        have HAX : Hid ((if hc = i then some (⟨b, off, none⟩ : Addr) else some ⟨b, off + i * 3, none⟩) = ax) := hax
        clear hax
        refine wpAnyH_take (i := 0) (oi := { dst := some 80, op := Go.Op.move (Go.Operand.tmp 8), type := 24, pos := "ref.go:250", after := #[], guard := none }) (v := ?_) rfl (by kernel_rfl) (by kernel_rfl) (by kernel_rfl) (fun _ _ _ h => h) (Or.inl ⟨by rfl, ?_⟩) (by assumption) ?_
        rotate_left
        · intro wz hSw; (try dsimp only at hSw); go_simp; (try with_reducible rfl)
        try simp only [Act.put, List.setIfInBounds_toArray, List.set_cons_zero, List.set_cons_succ]
        refine wpAnyH_take (i := 1) (oi := { dst := some 81, op := Go.Op.fieldAddr 26 (Go.Operand.tmp 3) 3, type := 0, pos := "ref.go:250", after := #[], guard := none }) (v := ?_) rfl (by kernel_rfl) (by kernel_rfl) (by kernel_rfl) (fun _ _ _ h => h) (Or.inl ⟨by rfl, ?_⟩) (by assumption) ?_
        rotate_left
        · intro wz hSw; (try dsimp only at hSw); go_simp; (try with_reducible rfl)
        try simp only [Act.put, List.setIfInBounds_toArray, List.set_cons_zero, List.set_cons_succ]
        refine wpAnyH_take (i := 2) (oi := { dst := some 82, op := Go.Op.load 24 (Go.Operand.tmp 81), type := 24, pos := "ref.go:250", after := #[{ on := 1, ground := Go.Ground.data }], guard := none }) (v := ?_) rfl (by kernel_rfl) (by kernel_rfl) (by kernel_rfl) (fun _ _ _ h => h) (Or.inl ⟨by rfl, ?_⟩) (by assumption) ?_
        rotate_left
        · intro wz hSw; (try dsimp only at hSw); go_simp; (try with_reducible rfl)
        try simp only [Act.put, List.setIfInBounds_toArray, List.set_cons_zero, List.set_cons_succ]
        refine wpAnyH_take (i := 3) (oi := { dst := some 83, op := Go.Op.move (Go.Operand.tmp 9), type := 3, pos := "ref.go:250", after := #[], guard := none }) (v := ?_) rfl (by kernel_rfl) (by kernel_rfl) (by kernel_rfl) (fun _ _ _ h => h) (Or.inl ⟨by rfl, ?_⟩) (by assumption) ?_
        rotate_left
        · intro wz hSw; (try dsimp only at hSw); go_simp; (try with_reducible rfl)
        try simp only [Act.put, List.setIfInBounds_toArray, List.set_cons_zero, List.set_cons_succ]
        refine wpAnyH_take (i := 4) (oi := { dst := some 84, op := Go.Op.slice 24 (Go.Operand.tmp 82) none (some (Go.Operand.tmp 83)) none, type := 24, pos := "ref.go:250", after := #[{ on := 2, ground := Go.Ground.data }, { on := 3, ground := Go.Ground.data }], guard := none }) (v := .slice (some ⟨b, off, none⟩) i hc) rfl (by kernel_rfl) (by kernel_rfl) (by kernel_rfl) (fun _ _ _ h => h) (Or.inl ⟨by rfl, ?_⟩) (by assumption) ?_
        · intro wz hSw; (try dsimp only at hSw); go_simp; try (intro hbad; have h1 := HCP.out; omega)
        try simp only [Act.put, List.setIfInBounds_toArray, List.set_cons_zero, List.set_cons_succ]
        refine wpAnyH_take (i := 6) (oi := { dst := some 86, op := Go.Op.load 29 (Go.Operand.tmp 5), type := 29, pos := "ref.go:250", after := #[], guard := none }) rfl (by kernel_rfl) (by kernel_rfl) (by kernel_rfl) (fun _ _ _ h => h) (yieldsIf_load_mid (by rfl) _ _ rfl (w.heap.size + 1) 0 rfl (hdl y ka kc) _ (fun _ h => h.1) Tryd.underlying29 rfl szHr) (by assumption) ?_
        try simp only [Act.put, List.setIfInBounds_toArray, List.set_cons_zero, List.set_cons_succ]
        refine wpAnyH_take (i := 9) (oi := { dst := some 89, op := Go.Op.fieldAddr 26 (Go.Operand.tmp 3) 3, type := 0, pos := "ref.go:250", after := #[], guard := none }) (v := ?_) rfl (by kernel_rfl) (by kernel_rfl) (by kernel_rfl) (fun _ _ _ h => h) (Or.inl ⟨by rfl, ?_⟩) (by assumption) ?_
        rotate_left
        · intro wz hSw; (try dsimp only at hSw); go_simp; (try with_reducible rfl)
        try simp only [Act.put, List.setIfInBounds_toArray, List.set_cons_zero, List.set_cons_succ]
        refine wpAnyH_take (i := 10) (oi := { dst := some 90, op := Go.Op.load 24 (Go.Operand.tmp 89), type := 24, pos := "ref.go:250", after := #[{ on := 9, ground := Go.Ground.data }], guard := none }) (v := ?_) rfl (by kernel_rfl) (by kernel_rfl) (by kernel_rfl) (fun _ _ _ h => h) (Or.inl ⟨by rfl, ?_⟩) (by assumption) ?_
        rotate_left
        · intro wz hSw; (try dsimp only at hSw); go_simp; (try with_reducible rfl)
        try simp only [Act.put, List.setIfInBounds_toArray, List.set_cons_zero, List.set_cons_succ]
        refine wpAnyH_take (i := 11) (oi := { dst := some 91, op := Go.Op.move (Go.Operand.tmp 9), type := 3, pos := "ref.go:250", after := #[], guard := none }) (v := ?_) rfl (by kernel_rfl) (by kernel_rfl) (by kernel_rfl) (fun _ _ _ h => h) (Or.inl ⟨by rfl, ?_⟩) (by assumption) ?_
        rotate_left
        · intro wz hSw; (try dsimp only at hSw); go_simp; (try with_reducible rfl)
        try simp only [Act.put, List.setIfInBounds_toArray, List.set_cons_zero, List.set_cons_succ]
        refine wpAnyH_take (i := 12) (oi := { dst := some 92, op := Go.Op.slice 24 (Go.Operand.tmp 90) (some (Go.Operand.tmp 91)) none none, type := 24, pos := "ref.go:250", after := #[{ on := 10, ground := Go.Ground.data }, { on := 11, ground := Go.Ground.data }], guard := none }) (v := .slice ax (s.hn - i) (hc - i)) rfl (by kernel_rfl) (by kernel_rfl) (by kernel_rfl) (fun _ _ _ h => h) (Or.inl ⟨by rfl, ?_⟩) (by assumption) ?_
        · intro wz hSw; (try dsimp only at hSw); rw [← HAX.out]; go_simp; try (intro hbad; have h1 := HCP.out; omega)
        try simp only [Act.put, List.setIfInBounds_toArray, List.set_cons_zero, List.set_cons_succ]
        refine wpAnyH_ready (rs := [5, 7]) (by kernel_rfl) (by simp) ?_
        refine (AllReadyH.cons (o := { dst := some 85, op := Go.Op.call { callee := Go.Callee.builtin Go.Builtin.append, args := #[Go.Operand.tmp 80, Go.Operand.tmp 84], argTypes := #[24, 24] }, type := 24, pos := "ref.go:250", after := #[{ on := 0, ground := Go.Ground.data }, { on := 4, ground := Go.Ground.data }], guard := none }) rfl (fun K hK => ?_) (AllReadyH.cons (o := { dst := some 87, op := Go.Op.buildSlice 24 1 #[(0, Go.Operand.tmp 86)], type := 24, pos := "ref.go:250", after := #[{ on := 6, ground := Go.Ground.data }], guard := none }) rfl (fun K hK => ?_) AllReadyH.nil))
        · have HBU : Below Wd.heap.size Wd Wd := Below.refl _ _
          refine step_append_R rfl (.tmp 80) (.tmp 84) rfl Wd.heap.size (.slice none 0 0) 0 [] (some ⟨b, off, none⟩) i hc (flatL (hf s.H A) i) (by rfl) (by rfl) (World.ownsRow_nil _ _ _ _) HBU.size ((HSR.out.below (HB0.out.trans (HBU.mono HB0.out.size))).take (hf_len _ _ _) HIL.out (by simp)) (flatL_length i (hf_len _ _ _)) (hf_one _ _ _) (by omega) ?_
          intro va vc V1 hown hgr
          rw [Nat.zero_add, List.nil_append] at hown
          have hb1 : Below Wd.heap.size Wd V1 := ⟨hgr.os, hgr.tape, hgr.output, hgr.size, fun k hk => hgr.block k hk (by simp [Value.ownBlock])⟩
          have HO1 : Hid (V1.ownsRow Wd.heap.size 29 3 (.slice va i vc) i (flatL (hf s.H A) i)) := hown
          have HBW : Hid (Below Wd.heap.size Wd V1) := Below.transS HBU hb1
          refine hK.out _ _ (SR.out V1 HBW.out) (fun _ => ?_)
          try simp only [Act.put, List.setIfInBounds_toArray, List.set_cons_zero, List.set_cons_succ]
          (try rw [Nat.zero_add])
          clear hK K hown hgr
          have HBV : Hid (Below Wd.heap.size Wd V1) := HBW.out
          clear hb1
          refine wpAnyH_ready (rs := [7]) (by kernel_rfl) (by simp) ?_
          refine (AllReadyH.cons (o := { dst := some 87, op := Go.Op.buildSlice 24 1 #[(0, Go.Operand.tmp 86)], type := 24, pos := "ref.go:250", after := #[{ on := 6, ground := Go.Ground.data }], guard := none }) rfl (fun K hK => ?_) AllReadyH.nil)
          have HBU : Below Wd.heap.size Wd V1 := HBV.out
          refine step_sliceR rfl (.tmp 86) rfl y ka kc (by rfl) ?_
          intro q V2 hq hle hb1
          have HBW : Hid (Below Wd.heap.size Wd V2) := Below.transS HBU hb1
          have HO2 : Hid (V2.ownsRow Wd.heap.size 29 3 (.slice va i vc) i (flatL (hf s.H A) i)) := own_below HO1.out hb1
          have HQ : Hid (V2.heap[q]? = some (.cells (hdv y ka kc) 29 (0, 0))) := hq
          refine hK.out _ _ (SR.out V2 HBW.out) (fun _ => ?_)
          try simp only [Act.put, List.setIfInBounds_toArray, List.set_cons_zero, List.set_cons_succ]
          (try rw [Nat.zero_add])
          clear hK K hq hle hb1 HO1 HBV HBU
          refine wpAnyH_ready (rs := [8]) (by kernel_rfl) (by simp) ?_
          refine (AllReadyH.cons (o := { dst := some 88, op := Go.Op.call { callee := Go.Callee.builtin Go.Builtin.append, args := #[Go.Operand.tmp 85, Go.Operand.tmp 87], argTypes := #[24, 24] }, type := 24, pos := "ref.go:250", after := #[{ on := 5, ground := Go.Ground.data }, { on := 7, ground := Go.Ground.data }, { on := 5, ground := Go.Ground.chain }], guard := none }) rfl (fun K hK => ?_) AllReadyH.nil)
          refine step_append_R rfl (.tmp 85) (.tmp 87) rfl Wd.heap.size (.slice va i vc) i (flatL (hf s.H A) i) (some ⟨q, 0, none⟩) 1 1 (hdl y ka kc) (by rfl) (by rfl) HO2.out HBW.out.size ⟨fun _ => ⟨q, 0, rfl, hdv_range HQ.out⟩, fun e => by cases e⟩ rfl (hdl_one y ka kc) (by omega) ?_
          intro vb vd V3 hown hgr
          have HO3 : Hid (V3.ownsRow Wd.heap.size 29 3 (.slice vb (i + 1) vd) (i + 1) (flatL (hf s.H A) i ++ hdl y ka kc)) := hown
          have HB3 : Hid (Below Wd.heap.size Wd V3) := grown_below HO2.out hgr HBW.out (Nat.le_refl _)
          refine hK.out _ _ (SR.out V3 HB3.out) (fun _ => ?_)
          clear hK K hown hgr HO2 HQ HBW
          try simp only [Act.put, List.setIfInBounds_toArray, List.set_cons_zero, List.set_cons_succ]
          refine wpAnyH_ready (rs := [13]) (by kernel_rfl) (by simp) ?_
          refine (AllReadyH.cons (o := { dst := some 93, op := Go.Op.call { callee := Go.Callee.builtin Go.Builtin.append, args := #[Go.Operand.tmp 88, Go.Operand.tmp 92], argTypes := #[24, 24] }, type := 24, pos := "ref.go:250", after := #[{ on := 8, ground := Go.Ground.data }, { on := 12, ground := Go.Ground.data }, { on := 8, ground := Go.Ground.chain }], guard := none }) rfl (fun K hK => ?_) AllReadyH.nil)
          have HBU : Below Wd.heap.size Wd V3 := HB3.out
          refine step_append_R rfl (.tmp 88) (.tmp 92) rfl Wd.heap.size (.slice vb (i + 1) vd) (i + 1) (flatL (hf s.H A) i ++ hdl y ka kc) ax (s.hn - i) (hc - i) (flatL (fun j => hf s.H A (i + j)) (s.hn - i)) (by rfl) (by rfl) HO3.out HBU.size (by rw [← HAX.out]; exact (HSR.out.below (HB0.out.trans (HBU.mono HB0.out.size))).drop (hf_len _ _ _) HIL.out HCP.out) (flatL_length _ (fun j hj => rfl)) (fun u hu => by
            obtain ⟨j, _, hj⟩ := flatL_mem _ hu
            exact hdl_one _ _ _ u hj) (by omega) ?_
          intro vx vy V4 hown hgr
          have em : i + 1 + (s.hn - i) = s.hn + 1 := by omega
          have HB4 : Hid (Below Wd.heap.size Wd V4) := grown_below HO3.out hgr HB3.out (Nat.le_refl _)
          rw [em] at hown
          have HO4 : Hid (V4.ownsRow Wd.heap.size 29 3 (.slice vx (s.hn + 1) vy) (s.hn + 1) (flatL (hf (insG s.H i y) (insG A i (ka, kc))) (s.hn + 1))) := by
            have e0 := insF_mid (hf s.H A) i (s.hn - i) (hdl y ka kc)
            rw [show i + (s.hn - i) + 1 = s.hn + 1 by omega] at e0
            show V4.ownsRow Wd.heap.size 29 3 (.slice vx (s.hn + 1) vy) (s.hn + 1) (flatL (hf (insG s.H i y) (insG A i (ka, kc))) (s.hn + 1))
            rw [insG_hf, e0, ← List.append_assoc]
            exact hown
          refine hK.out _ _ (SR.out V4 HB4.out) (fun _ => ?_)
          clear hK K hown hgr HO3 HB3 HBU
          try simp only [Act.put, List.setIfInBounds_toArray, List.set_cons_zero, List.set_cons_succ]
          rw [em]
          refine wpAnyH_take (i := 14) (oi := { dst := some 8, op := Go.Op.assign (Go.Operand.tmp 93), type := 24, pos := "ref.go:250", after := #[{ on := 13, ground := Go.Ground.data }, { on := 13, ground := Go.Ground.chain }, { on := 0, ground := Go.Ground.phase }, { on := 1, ground := Go.Ground.phase }, { on := 2, ground := Go.Ground.phase }, { on := 3, ground := Go.Ground.phase }, { on := 4, ground := Go.Ground.phase }, { on := 5, ground := Go.Ground.phase }, { on := 6, ground := Go.Ground.phase }, { on := 7, ground := Go.Ground.phase }, { on := 8, ground := Go.Ground.phase }, { on := 9, ground := Go.Ground.phase }, { on := 10, ground := Go.Ground.phase }, { on := 11, ground := Go.Ground.phase }, { on := 12, ground := Go.Ground.phase }, { on := 13, ground := Go.Ground.phase }], guard := none }) (v := ?_) rfl (by kernel_rfl) (by kernel_rfl) (by kernel_rfl) (fun _ _ _ h => h) (Or.inl ⟨by rfl, ?_⟩) (by assumption) ?_
          rotate_left
          · intro wz hSw; (try dsimp only at hSw); go_simp; (try with_reducible rfl)
          try simp only [Act.put, List.setIfInBounds_toArray, List.set_cons_zero, List.set_cons_succ]
          refine wpAnyH_done (by kernel_rfl) (NoPanic.normal ?_) _
          try simp only [Act.put, List.setIfInBounds_toArray, List.set_cons_zero, List.set_cons_succ]
          clear hHeld S0 SR em
          have HX4 : Hid (V4.heap[w.heap.size]? = some (.cells #[.int .i64 s.nu, .int .i64 s.a, .int .i64 s.b, .slice pa s.pn pc, .slice (some ⟨b, off, none⟩) s.hn hc] 26 (0, 0)) ∧ V4.heap[w.heap.size + 1]? = some (.cells #[.int .i64 y.id, .int .i64 y.am, .slice ka y.n kc] 29 (0, 0)) ∧ V4.heap[w.heap.size + 2]? = some (.cells #[.int .i64 0, .int .i64 0, .int .i64 0, .slice none 0 0, .slice none 0 0] 26 (0, 0)) ∧ Below w.heap.size w V4) := ⟨(HB4.out.block _ (lt_of_block HXr.out.1)).trans HXr.out.1, (HB4.out.block _ (lt_of_block HXr.out.2.1)).trans HXr.out.2.1, (HB4.out.block _ (lt_of_block HXr.out.2.2.1)).trans HXr.out.2.2.1, HB0.out.trans (HB4.out.mono HB0.out.size)⟩
          have HWI : Hid (Calls Tryd.prog 29 #[.agg #[.int .i64 s.nu, .int .i64 s.a, .int .i64 s.b, .slice pa s.pn pc, .slice (some ⟨b, off, none⟩) s.hn hc], .int .i64 (-y.am), .int .i64 0, .slice pa s.pn pc, .slice vx (s.hn + 1) vy] V4 fun e w' => e = .returned (.agg #[.int .i64 (s.nu + 1), .int .i64 (s.a + (-y.am)), .int .i64 (s.b + 0), .slice pa s.pn pc, .slice vx (s.hn + 1) vy]) ∧ Below V4.heap.size V4 w') := HWT.out pa s.pn pc vx (s.hn + 1) vy V4
          clear HXr HB0 HB4
          obtain ⟨c0, c1, c2, c3, c4, cf⟩ := five_of HX4.out.1
          obtain ⟨k0, k1, k2⟩ := hd_new (x := y) HX4.out.2.1 rfl
          have en := EN.out
          go_wp2_with fail
          refine (to_0 (-y.am) V4).mono ?_
          rintro e Vw ⟨rfl, hVw⟩
          rw [hVw]
          clear hVw
          go_wp2_with fail
          refine HWI.out.mono ?_
          rintro e V6 ⟨rfl, hb6⟩
          have HX6 : Hid (V6.heap[w.heap.size + 2]? = some (.cells #[.int .i64 0, .int .i64 0, .int .i64 0, .slice none 0 0, .slice none 0 0] 26 (0, 0)) ∧ Below w.heap.size w V6) := ⟨(hb6.block _ (lt_of_block HX4.out.2.2.1)).trans HX4.out.2.2.1, HX4.out.2.2.2.trans (hb6.mono HX4.out.2.2.2.size)⟩
          have HO6 : Hid (V6.ownsRow Wd.heap.size 29 3 (.slice vx (s.hn + 1) vy) (s.hn + 1) (flatL (hf (insG s.H i y) (insG A i (ka, kc))) (s.hn + 1))) := own_below HO4.out hb6
          clear c0 c1 c2 c3 c4 cf k0 k1 k2 HWI HO4 hb6 HX4 en
          obtain ⟨d0, d1, d2, d3, d4, df⟩ := five_of HX6.out.1
          go_wp2
          refine bodyPost_ret (results_R2 Tryd.results9 _ _ (w.heap.size + 2) 26 _ _ _ _ _ (0, 0) rfl (five_all HX6.out.1)) rfl ⟨⟨i, HIL.out, HLO.out, HHI.out, ⟨pa, pc, vx, vy⟩, by rw [HSV.out]; rfl, ?_⟩, five_below HX6.out.2 (by omega)⟩
          exact HFIN.out i HIL.out A vx vy _ Wd.heap.size HKS.out (by have h1 := HWS.out; omega) (five_below HX6.out.2 (by omega)) (own_keep HO6.out (fun g e => five_other (by have h1 := (HO6.out.lt g e).1; have h2 := HWS.out; omega)))
        · have HBU : Below Wd.heap.size Wd Wd := Below.refl _ _
          refine step_sliceR rfl (.tmp 86) rfl y ka kc (by rfl) ?_
          intro q V1 hq hle hb1
          have HBW : Hid (Below Wd.heap.size Wd V1) := Below.transS HBU hb1
          have HQ1 : Hid (V1.heap[q]? = some (.cells (hdv y ka kc) 29 (0, 0))) := hq
          refine hK.out _ _ (SR.out V1 HBW.out) (fun _ => ?_)
          try simp only [Act.put, List.setIfInBounds_toArray, List.set_cons_zero, List.set_cons_succ]
          (try rw [Nat.zero_add])
          clear hK K hq hle
          have HBV : Hid (Below Wd.heap.size Wd V1) := HBW.out
          clear hb1
          refine wpAnyH_ready (rs := [5]) (by kernel_rfl) (by simp) ?_
          refine (AllReadyH.cons (o := { dst := some 85, op := Go.Op.call { callee := Go.Callee.builtin Go.Builtin.append, args := #[Go.Operand.tmp 80, Go.Operand.tmp 84], argTypes := #[24, 24] }, type := 24, pos := "ref.go:250", after := #[{ on := 0, ground := Go.Ground.data }, { on := 4, ground := Go.Ground.data }], guard := none }) rfl (fun K hK => ?_) AllReadyH.nil)
          have HBU : Below Wd.heap.size Wd V1 := HBV.out
          refine step_append_R rfl (.tmp 80) (.tmp 84) rfl Wd.heap.size (.slice none 0 0) 0 [] (some ⟨b, off, none⟩) i hc (flatL (hf s.H A) i) (by rfl) (by rfl) (World.ownsRow_nil _ _ _ _) HBU.size ((HSR.out.below (HB0.out.trans (HBU.mono HB0.out.size))).take (hf_len _ _ _) HIL.out (by simp)) (flatL_length i (hf_len _ _ _)) (hf_one _ _ _) (by omega) ?_
          intro va vc V2 hown hgr
          rw [Nat.zero_add, List.nil_append] at hown
          have hb1 : Below V1.heap.size V1 V2 := ⟨hgr.os, hgr.tape, hgr.output, hgr.size, fun k hk => hgr.block k hk (by simp [Value.ownBlock])⟩
          have HO1 : Hid (V2.ownsRow Wd.heap.size 29 3 (.slice va i vc) i (flatL (hf s.H A) i)) := hown
          have HBW : Hid (Below Wd.heap.size Wd V2) := Below.transS HBU hb1
          have HQ : Hid (V2.heap[q]? = some (.cells (hdv y ka kc) 29 (0, 0))) := (hb1.block _ (lt_of_block HQ1.out)).trans HQ1.out
          have HO2 : Hid (V2.ownsRow Wd.heap.size 29 3 (.slice va i vc) i (flatL (hf s.H A) i)) := HO1.out
          refine hK.out _ _ (SR.out V2 HBW.out) (fun _ => ?_)
          try simp only [Act.put, List.setIfInBounds_toArray, List.set_cons_zero, List.set_cons_succ]
          (try rw [Nat.zero_add])
          clear hK K hown hgr hb1 HQ1 HO1 HBV HBU
          refine wpAnyH_ready (rs := [8]) (by kernel_rfl) (by simp) ?_
          refine (AllReadyH.cons (o := { dst := some 88, op := Go.Op.call { callee := Go.Callee.builtin Go.Builtin.append, args := #[Go.Operand.tmp 85, Go.Operand.tmp 87], argTypes := #[24, 24] }, type := 24, pos := "ref.go:250", after := #[{ on := 5, ground := Go.Ground.data }, { on := 7, ground := Go.Ground.data }, { on := 5, ground := Go.Ground.chain }], guard := none }) rfl (fun K hK => ?_) AllReadyH.nil)
          refine step_append_R rfl (.tmp 85) (.tmp 87) rfl Wd.heap.size (.slice va i vc) i (flatL (hf s.H A) i) (some ⟨q, 0, none⟩) 1 1 (hdl y ka kc) (by rfl) (by rfl) HO2.out HBW.out.size ⟨fun _ => ⟨q, 0, rfl, hdv_range HQ.out⟩, fun e => by cases e⟩ rfl (hdl_one y ka kc) (by omega) ?_
          intro vb vd V3 hown hgr
          have HO3 : Hid (V3.ownsRow Wd.heap.size 29 3 (.slice vb (i + 1) vd) (i + 1) (flatL (hf s.H A) i ++ hdl y ka kc)) := hown
          have HB3 : Hid (Below Wd.heap.size Wd V3) := grown_below HO2.out hgr HBW.out (Nat.le_refl _)
          refine hK.out _ _ (SR.out V3 HB3.out) (fun _ => ?_)
          clear hK K hown hgr HO2 HQ HBW
          try simp only [Act.put, List.setIfInBounds_toArray, List.set_cons_zero, List.set_cons_succ]
          refine wpAnyH_ready (rs := [13]) (by kernel_rfl) (by simp) ?_
          refine (AllReadyH.cons (o := { dst := some 93, op := Go.Op.call { callee := Go.Callee.builtin Go.Builtin.append, args := #[Go.Operand.tmp 88, Go.Operand.tmp 92], argTypes := #[24, 24] }, type := 24, pos := "ref.go:250", after := #[{ on := 8, ground := Go.Ground.data }, { on := 12, ground := Go.Ground.data }, { on := 8, ground := Go.Ground.chain }], guard := none }) rfl (fun K hK => ?_) AllReadyH.nil)
          have HBU : Below Wd.heap.size Wd V3 := HB3.out
          refine step_append_R rfl (.tmp 88) (.tmp 92) rfl Wd.heap.size (.slice vb (i + 1) vd) (i + 1) (flatL (hf s.H A) i ++ hdl y ka kc) ax (s.hn - i) (hc - i) (flatL (fun j => hf s.H A (i + j)) (s.hn - i)) (by rfl) (by rfl) HO3.out HBU.size (by rw [← HAX.out]; exact (HSR.out.below (HB0.out.trans (HBU.mono HB0.out.size))).drop (hf_len _ _ _) HIL.out HCP.out) (flatL_length _ (fun j hj => rfl)) (fun u hu => by
            obtain ⟨j, _, hj⟩ := flatL_mem _ hu
            exact hdl_one _ _ _ u hj) (by omega) ?_
          intro vx vy V4 hown hgr
          have em : i + 1 + (s.hn - i) = s.hn + 1 := by omega
          have HB4 : Hid (Below Wd.heap.size Wd V4) := grown_below HO3.out hgr HB3.out (Nat.le_refl _)
          rw [em] at hown
          have HO4 : Hid (V4.ownsRow Wd.heap.size 29 3 (.slice vx (s.hn + 1) vy) (s.hn + 1) (flatL (hf (insG s.H i y) (insG A i (ka, kc))) (s.hn + 1))) := by
            have e0 := insF_mid (hf s.H A) i (s.hn - i) (hdl y ka kc)
            rw [show i + (s.hn - i) + 1 = s.hn + 1 by omega] at e0
            show V4.ownsRow Wd.heap.size 29 3 (.slice vx (s.hn + 1) vy) (s.hn + 1) (flatL (hf (insG s.H i y) (insG A i (ka, kc))) (s.hn + 1))
            rw [insG_hf, e0, ← List.append_assoc]
            exact hown
          refine hK.out _ _ (SR.out V4 HB4.out) (fun _ => ?_)
          clear hK K hown hgr HO3 HB3 HBU
          try simp only [Act.put, List.setIfInBounds_toArray, List.set_cons_zero, List.set_cons_succ]
          rw [em]
          refine wpAnyH_take (i := 14) (oi := { dst := some 8, op := Go.Op.assign (Go.Operand.tmp 93), type := 24, pos := "ref.go:250", after := #[{ on := 13, ground := Go.Ground.data }, { on := 13, ground := Go.Ground.chain }, { on := 0, ground := Go.Ground.phase }, { on := 1, ground := Go.Ground.phase }, { on := 2, ground := Go.Ground.phase }, { on := 3, ground := Go.Ground.phase }, { on := 4, ground := Go.Ground.phase }, { on := 5, ground := Go.Ground.phase }, { on := 6, ground := Go.Ground.phase }, { on := 7, ground := Go.Ground.phase }, { on := 8, ground := Go.Ground.phase }, { on := 9, ground := Go.Ground.phase }, { on := 10, ground := Go.Ground.phase }, { on := 11, ground := Go.Ground.phase }, { on := 12, ground := Go.Ground.phase }, { on := 13, ground := Go.Ground.phase }], guard := none }) (v := ?_) rfl (by kernel_rfl) (by kernel_rfl) (by kernel_rfl) (fun _ _ _ h => h) (Or.inl ⟨by rfl, ?_⟩) (by assumption) ?_
          rotate_left
          · intro wz hSw; (try dsimp only at hSw); go_simp; (try with_reducible rfl)
          try simp only [Act.put, List.setIfInBounds_toArray, List.set_cons_zero, List.set_cons_succ]
          refine wpAnyH_done (by kernel_rfl) (NoPanic.normal ?_) _
          try simp only [Act.put, List.setIfInBounds_toArray, List.set_cons_zero, List.set_cons_succ]
          clear hHeld S0 SR em
          have HX4 : Hid (V4.heap[w.heap.size]? = some (.cells #[.int .i64 s.nu, .int .i64 s.a, .int .i64 s.b, .slice pa s.pn pc, .slice (some ⟨b, off, none⟩) s.hn hc] 26 (0, 0)) ∧ V4.heap[w.heap.size + 1]? = some (.cells #[.int .i64 y.id, .int .i64 y.am, .slice ka y.n kc] 29 (0, 0)) ∧ V4.heap[w.heap.size + 2]? = some (.cells #[.int .i64 0, .int .i64 0, .int .i64 0, .slice none 0 0, .slice none 0 0] 26 (0, 0)) ∧ Below w.heap.size w V4) := ⟨(HB4.out.block _ (lt_of_block HXr.out.1)).trans HXr.out.1, (HB4.out.block _ (lt_of_block HXr.out.2.1)).trans HXr.out.2.1, (HB4.out.block _ (lt_of_block HXr.out.2.2.1)).trans HXr.out.2.2.1, HB0.out.trans (HB4.out.mono HB0.out.size)⟩
          have HWI : Hid (Calls Tryd.prog 29 #[.agg #[.int .i64 s.nu, .int .i64 s.a, .int .i64 s.b, .slice pa s.pn pc, .slice (some ⟨b, off, none⟩) s.hn hc], .int .i64 (-y.am), .int .i64 0, .slice pa s.pn pc, .slice vx (s.hn + 1) vy] V4 fun e w' => e = .returned (.agg #[.int .i64 (s.nu + 1), .int .i64 (s.a + (-y.am)), .int .i64 (s.b + 0), .slice pa s.pn pc, .slice vx (s.hn + 1) vy]) ∧ Below V4.heap.size V4 w') := HWT.out pa s.pn pc vx (s.hn + 1) vy V4
          clear HXr HB0 HB4
          obtain ⟨c0, c1, c2, c3, c4, cf⟩ := five_of HX4.out.1
          obtain ⟨k0, k1, k2⟩ := hd_new (x := y) HX4.out.2.1 rfl
          have en := EN.out
          go_wp2_with fail
          refine (to_0 (-y.am) V4).mono ?_
          rintro e Vw ⟨rfl, hVw⟩
          rw [hVw]
          clear hVw
          go_wp2_with fail
          refine HWI.out.mono ?_
          rintro e V6 ⟨rfl, hb6⟩
          have HX6 : Hid (V6.heap[w.heap.size + 2]? = some (.cells #[.int .i64 0, .int .i64 0, .int .i64 0, .slice none 0 0, .slice none 0 0] 26 (0, 0)) ∧ Below w.heap.size w V6) := ⟨(hb6.block _ (lt_of_block HX4.out.2.2.1)).trans HX4.out.2.2.1, HX4.out.2.2.2.trans (hb6.mono HX4.out.2.2.2.size)⟩
          have HO6 : Hid (V6.ownsRow Wd.heap.size 29 3 (.slice vx (s.hn + 1) vy) (s.hn + 1) (flatL (hf (insG s.H i y) (insG A i (ka, kc))) (s.hn + 1))) := own_below HO4.out hb6
          clear c0 c1 c2 c3 c4 cf k0 k1 k2 HWI HO4 hb6 HX4 en
          obtain ⟨d0, d1, d2, d3, d4, df⟩ := five_of HX6.out.1
          go_wp2
          refine bodyPost_ret (results_R2 Tryd.results9 _ _ (w.heap.size + 2) 26 _ _ _ _ _ (0, 0) rfl (five_all HX6.out.1)) rfl ⟨⟨i, HIL.out, HLO.out, HHI.out, ⟨pa, pc, vx, vy⟩, by rw [HSV.out]; rfl, ?_⟩, five_below HX6.out.2 (by omega)⟩
          exact HFIN.out i HIL.out A vx vy _ Wd.heap.size HKS.out (by have h1 := HWS.out; omega) (five_below HX6.out.2 (by omega)) (own_keep HO6.out (fun g e => five_other (by have h1 := (HO6.out.lt g e).1; have h2 := HWS.out; omega)))
set_option maxRecDepth 100000 in
set_option maxHeartbeats 6400000 in
theorem rkeep_ok_1 (s : Sv) (p : Pl) (y : Hd) (ka : Option Addr) (kc : Nat) (w : World) (h : SvAt w s p) (hs : s.Small) (hI : IsAt w ka y.n y.z) (hkn : ka = none → y.n = 0 ∧ kc = 0) (hyn : y.n ≤ 1000000) (hsp : ∀ a, p.ha = some a → ∃ bb off, a = ⟨bb, off, none⟩) (he : rkE s 1 y = 0) :
    Calls Tryd.prog 9 #[.agg (svv s p), .int .i64 1, .agg (hdv y ka kc)] w fun e w' => RKep s 1 y e w' ∧ Below w.heap.size w w' := by
  obtain ⟨hr, _, hd, hm, hb, h8, hh⟩ := asideE_ok he
  have hm := of_decide_eq_true hm
  clear he
  have HKP : Hid (HdAt w p.ha s.hn s.H ∧ s.hn ≤ p.hc ∧ (p.ha = none → s.hn = 0 ∧ p.hc = 0)) := ⟨h.hd, h.hcap, h.hnil⟩
  have HFIN : Hid (∀ (i : Nat), i ≤ s.hn → ∀ (A : Nat → Option Addr × Nat) (vx : Option Addr) (vy : Nat) (V : World) (B : Nat), (∀ i, i < s.hn → IsAt w (A i).1 (s.H i).n (s.H i).z ∧ ((A i).1 = none → (s.H i).n = 0 ∧ (A i).2 = 0)) → w.heap.size ≤ B → Below w.heap.size w V → V.ownsRow B 29 3 (.slice vx (s.hn + 1) vy) (s.hn + 1) (flatL (hf (insG s.H i y) (insG A i (ka, kc))) (s.hn + 1)) → SvAt V (keepY (asideS s 1 y.am) i y) ⟨p.pa, p.pc, vx, vy⟩) := fun i hi A vx vy V B hks hB hb ho => by
    have hv := h.below hb
    have hr := asideS_rows s 1 y.am
    have hrow := hd_of_row ho (fun j hj => by
      unfold insG
      by_cases h1 : j < i
      · simp only [h1, if_true]
        exact ⟨(hks j (by omega)).1.below hb, (hks j (by omega)).2⟩
      · simp only [h1, if_false]
        by_cases h2 : j = i
        · simp only [h2, if_true]
          exact ⟨hI.below hb, hkn⟩
        · simp only [h2, if_false]
          exact ⟨(hks (j - 1) (by omega)).1.below hb, (hks (j - 1) (by omega)).2⟩)
    refine ⟨?_, ?_, ?_, ?_, ?_, ?_⟩
    · show PyAt V p.pa (asideS s 1 y.am).pn (asideS s 1 y.am).P
      rw [hr.1, hr.2.1]; exact hv.py
    · show HdAt V vx ((asideS s 1 y.am).hn + 1) (insG (asideS s 1 y.am).H i y)
      rw [hr.2.2.1, hr.2.2.2]; exact hrow
    · show (asideS s 1 y.am).pn ≤ p.pc
      rw [hr.1]; exact hv.pcap
    · show (asideS s 1 y.am).hn + 1 ≤ vy
      rw [hr.2.2.1]; exact (own_nil ho).1
    · show p.pa = none → (asideS s 1 y.am).pn = 0 ∧ p.pc = 0
      rw [hr.1]; exact hv.pnil
    · show vx = none → (asideS s 1 y.am).hn + 1 = 0 ∧ vy = 0
      rw [hr.2.2.1]; exact (own_nil ho).2
  have HSV : Hid (∀ (i : Nat) (vx : Option Addr) (vy : Nat), svv (keepY (asideS s 1 y.am) i y) ⟨p.pa, p.pc, vx, vy⟩ = #[.int .i64 (s.nu + 1), .int .i64 s.a, .int .i64 (s.b + -y.am), .slice p.pa s.pn p.pc, .slice vx (s.hn + 1) vy]) := fun i vx vy => by simp [svv, keepY, asideS, giv, nxt]
  have HSP : Hid (∀ a, p.ha = some a → ∃ bb off, a = ⟨bb, off, none⟩) := hsp
  clear hsp
  have b0 := hr.1.1.1
  have b1 := hr.1.1.2.1
  have b2 := hr.1.1.2.2
  have b3 := hr.2
  have bam := hm.2.2.1
  have HWT : Hid (∀ (pa : Option Addr) (pn pc : Nat) (ha : Option Addr) (hn hc : Nat) (V : World), Calls Tryd.prog 29 #[.agg #[.int .i64 s.nu, .int .i64 s.a, .int .i64 s.b, .slice p.pa s.pn p.pc, .slice p.ha s.hn p.hc], .int .i64 0, .int .i64 (-y.am), .slice pa pn pc, .slice ha hn hc] V fun e w' => e = .returned (.agg #[.int .i64 (s.nu + 1), .int .i64 (s.a + 0), .int .i64 (s.b + (-y.am)), .slice pa pn pc, .slice ha hn hc]) ∧ Below V.heap.size V w') := fun pa pn pc ha hn hc V => rwith_any s p 0 (-y.am) pa pn pc ha hn hc V (by simp [wrap64]; omega) (by simp [wrap64]; omega) (by simp [wrap64]; omega)
  have EN : Hid (wrap64 (-y.am) = -y.am) := by show wrap64 (-y.am) = -y.am; simp [wrap64]; omega
  have hhn8 : s.hn ≤ 8 := by have := hr.1.2.1.1; omega
  clear b0 b1 b2 b3 bam
  obtain ⟨W0, hW0, r0, r1, r2, hsz, hb0⟩ := three_boxesR w s p y ka kc
  have HV : Hid (SvAt w s p ∧ s.Small ∧ IsAt w ka y.n y.z ∧ (ka = none → y.n = 0 ∧ kc = 0) ∧ y.n ≤ 1000000) := ⟨h, hs, hI, hkn, hyn⟩
  have hc := right_any s p W0 (h.below hb0) hs
  have HX0 : Hid (W0.heap[w.heap.size]? = some (.cells (svv s p) 26 (0, 0)) ∧ W0.heap[w.heap.size + 1]? = some (.cells (hdv y ka kc) 29 (0, 0)) ∧ W0.heap[w.heap.size + 2]? = some (.cells #[.int .i64 0, .int .i64 0, .int .i64 0, .slice none 0 0, .slice none 0 0] 26 (0, 0)) ∧ W0.heap.size = w.heap.size + 3 ∧ Below w.heap.size w W0) := ⟨r0, r1, r2, hsz, hb0⟩
  clear h hs hI hkn hyn r0 r1 r2 hsz hb0
  subst hW0
  unfold svv hdv at hc HX0 ⊢
  go_enter Tryd.func9, Tryd.ntmps9
  go_wp2_with fail
  generalize ((w.alloc (.cells #[.int .i64 s.nu, .int .i64 s.a, .int .i64 s.b, .slice p.pa s.pn p.pc, .slice p.ha s.hn p.hc] 26)).alloc (.cells #[.int .i64 y.id, .int .i64 y.am, .slice ka y.n kc] 29)).alloc (.cells #[.int .i64 0, .int .i64 0, .int .i64 0, .slice none 0 0, .slice none 0 0] 26) = W0 at *
  (try rw [show w.heap.size + 1 + 1 = w.heap.size + 2 from rfl])
  refine hc.mono ?_
  rintro e w1 ⟨rfl, hb1⟩
  have HX : Hid (w1.heap[w.heap.size]? = some (.cells #[.int .i64 s.nu, .int .i64 s.a, .int .i64 s.b, .slice p.pa s.pn p.pc, .slice p.ha s.hn p.hc] 26 (0, 0)) ∧ w1.heap[w.heap.size + 1]? = some (.cells #[.int .i64 y.id, .int .i64 y.am, .slice ka y.n kc] 29 (0, 0)) ∧ w1.heap[w.heap.size + 2]? = some (.cells #[.int .i64 0, .int .i64 0, .int .i64 0, .slice none 0 0, .slice none 0 0] 26 (0, 0)) ∧ Below w.heap.size w w1) := ⟨(hb1.block _ (lt_of_block HX0.out.1)).trans HX0.out.1, (hb1.block _ (lt_of_block HX0.out.2.1)).trans HX0.out.2.1, (hb1.block _ (lt_of_block HX0.out.2.2.1)).trans HX0.out.2.2.1, HX0.out.2.2.2.2.trans (hb1.mono HX0.out.2.2.2.2.size)⟩
  clear hc hb1 HX0
  obtain ⟨c0, c1, c2, c3, c4, cf⟩ := five_of HX.out.1
  obtain ⟨k0, k1, k2⟩ := hd_new (x := y) HX.out.2.1 rfl
  obtain ⟨d0, d1, d2, d3, d4, df⟩ := five_of HX.out.2.2.1
  rw [decide_eq_true hr]
  have h8' : ¬ (7 : Int) < (s.pn : Int) + (s.hn : Int) := by omega
  have ew : wrap64 ((s.pn : Int) + (s.hn : Int)) = (s.pn : Int) + (s.hn : Int) := by simp [wrap64]; omega
  have hh' : ¬ s.b < y.am := by have h : y.am ≤ s.b := hh; omega
  clear hh hr
  go_wp2_with fail
  refine (holdMay_any y ka kc w1 (HV.out.2.2.1.below HX.out.2.2.2) HV.out.2.2.2.2).mono ?_
  rintro e w2 ⟨rfl, hb2⟩
  have HX2 : Hid (w2.heap[w.heap.size]? = some (.cells #[.int .i64 s.nu, .int .i64 s.a, .int .i64 s.b, .slice p.pa s.pn p.pc, .slice p.ha s.hn p.hc] 26 (0, 0)) ∧ w2.heap[w.heap.size + 1]? = some (.cells #[.int .i64 y.id, .int .i64 y.am, .slice ka y.n kc] 29 (0, 0)) ∧ w2.heap[w.heap.size + 2]? = some (.cells #[.int .i64 0, .int .i64 0, .int .i64 0, .slice none 0 0, .slice none 0 0] 26 (0, 0)) ∧ Below w.heap.size w w2) := ⟨(hb2.block _ (lt_of_block HX.out.1)).trans HX.out.1, (hb2.block _ (lt_of_block HX.out.2.1)).trans HX.out.2.1, (hb2.block _ (lt_of_block HX.out.2.2.1)).trans HX.out.2.2.1, HX.out.2.2.2.trans (hb2.mono HX.out.2.2.2.size)⟩
  clear c0 c1 c2 c3 c4 cf k0 k1 k2 d0 d1 d2 d3 d4 df HX hb2
  have HX : Hid (w2.heap[w.heap.size]? = some (.cells #[.int .i64 s.nu, .int .i64 s.a, .int .i64 s.b, .slice p.pa s.pn p.pc, .slice p.ha s.hn p.hc] 26 (0, 0)) ∧ w2.heap[w.heap.size + 1]? = some (.cells #[.int .i64 y.id, .int .i64 y.am, .slice ka y.n kc] 29 (0, 0)) ∧ w2.heap[w.heap.size + 2]? = some (.cells #[.int .i64 0, .int .i64 0, .int .i64 0, .slice none 0 0, .slice none 0 0] 26 (0, 0)) ∧ Below w.heap.size w w2) := HX2.out
  clear HX2
  obtain ⟨c0, c1, c2, c3, c4, cf⟩ := five_of HX.out.1
  obtain ⟨k0, k1, k2⟩ := hd_new (x := y) HX.out.2.1 rfl
  obtain ⟨d0, d1, d2, d3, d4, df⟩ := five_of HX.out.2.2.1
  rw [decide_eq_true hm]
  go_wp2_with fail
  refine (holdAt_any p.ha s.hn p.hc s.H y.id w2 (HV.out.1.hd.below HX.out.2.2.2) (by have := HV.out.2.1.n; omega)).mono ?_
  rintro e w3 ⟨k, hk, rfl, hw3⟩
  rw [hw3]
  clear hw3
  have HH : Hid (HatR (fun j => (s.H j).id) s.hn y.id k) := hk
  have hkb := hat_hasB hk
  clear hk
  rw [hb] at hkb
  have hk0 : ¬ 0 ≤ k := of_decide_eq_false hkb
  clear hkb HH hb hm h8
  go_wp2_with fail
  have S0 : w2.drew.cell? ⟨w.heap.size, 2, none⟩ = some (.int .i64 s.b) ∧ w2.drew.cell? ⟨w.heap.size + 1, 1, none⟩ = some (.int .i64 y.am) := ⟨c2, k1⟩
  refine wp_region_noPanic ?_
  refine wp_region_held_drew (S := fun u => u.cell? ⟨w.heap.size, 2, none⟩ = some (.int .i64 s.b) ∧ u.cell? ⟨w.heap.size + 1, 1, none⟩ = some (.int .i64 y.am)) (by kernel_rfl) S0 (fun hHeld => ?_)
  have HBX : Hid (w2.drew.heap[w.heap.size]? = some (.cells #[.int .i64 s.nu, .int .i64 s.a, .int .i64 s.b, .slice p.pa s.pn p.pc, .slice p.ha s.hn p.hc] 26 (0, 0)) ∧ w2.drew.heap[w.heap.size + 1]? = some (.cells #[.int .i64 y.id, .int .i64 y.am, .slice ka y.n kc] 29 (0, 0))) := ⟨HX.out.1, HX.out.2.1⟩
  have HXd : Hid (w2.drew.heap[w.heap.size + 2]? = some (.cells #[.int .i64 0, .int .i64 0, .int .i64 0, .slice none 0 0, .slice none 0 0] 26 (0, 0)) ∧ Below w.heap.size w w2.drew) := ⟨HX.out.2.2.1, HX.out.2.2.2.drew⟩
  clear c0 c1 c2 c3 c4 cf k0 k1 k2 d0 d1 d2 d3 d4 df
  generalize w2.drew = Wd at *
  refine wpAnyH_take (i := 0) (oi := { dst := some 54, op := Go.Op.move (Go.Operand.tmp 1), type := 3, pos := "ref.go:242", after := #[], guard := none }) (v := ?_) rfl (by kernel_rfl) (by kernel_rfl) (by kernel_rfl) (fun _ _ _ h => h) (Or.inl ⟨by rfl, ?_⟩) (by assumption) ?_
  rotate_left
  · intro wz hSw; (try dsimp only at hSw); go_simp; (try with_reducible rfl)
  try simp only [Act.put, List.setIfInBounds_toArray, List.set_cons_zero, List.set_cons_succ]
  refine wpAnyH_take (i := 1) (oi := { dst := some 55, op := Go.Op.fieldAddr 26 (Go.Operand.tmp 3) 1, type := 0, pos := "ref.go:242", after := #[], guard := none }) (v := ?_) rfl (by kernel_rfl) (by kernel_rfl) (by kernel_rfl) (fun _ _ _ h => h) (Or.inl ⟨by rfl, ?_⟩) (by assumption) ?_
  rotate_left
  · intro wz hSw; (try dsimp only at hSw); go_simp; (try with_reducible rfl)
  try simp only [Act.put, List.setIfInBounds_toArray, List.set_cons_zero, List.set_cons_succ]
  refine wpAnyH_take (i := 2) (oi := { dst := some 56, op := Go.Op.indexAddr 22 (Go.Operand.tmp 55) (Go.Operand.tmp 54), type := 0, pos := "ref.go:242", after := #[{ on := 1, ground := Go.Ground.data }, { on := 0, ground := Go.Ground.data }], guard := none }) (v := ?_) rfl (by kernel_rfl) (by kernel_rfl) (by kernel_rfl) (fun _ _ _ h => h) (Or.inl ⟨by rfl, ?_⟩) (by assumption) ?_
  rotate_left
  · intro wz hSw; (try dsimp only at hSw); go_simp; (try with_reducible rfl)
  try simp only [Act.put, List.setIfInBounds_toArray, List.set_cons_zero, List.set_cons_succ]
  refine wpAnyH_take (i := 3) (oi := { dst := some 57, op := Go.Op.load 3 (Go.Operand.tmp 56), type := 3, pos := "ref.go:242", after := #[{ on := 2, ground := Go.Ground.data }], guard := none }) (v := ?_) rfl (by kernel_rfl) (by kernel_rfl) (by kernel_rfl) (fun _ _ _ h => h) (Or.inl ⟨by rfl, ?_⟩) (by assumption) ?_
  rotate_left
  · intro wz hSw; (try dsimp only at hSw); go_simp; (try with_reducible rfl)
  try simp only [Act.put, List.setIfInBounds_toArray, List.set_cons_zero, List.set_cons_succ]
  refine wpAnyH_take (i := 4) (oi := { dst := some 58, op := Go.Op.fieldAddr 29 (Go.Operand.tmp 5) 1, type := 0, pos := "ref.go:242", after := #[], guard := none }) (v := ?_) rfl (by kernel_rfl) (by kernel_rfl) (by kernel_rfl) (fun _ _ _ h => h) (Or.inl ⟨by rfl, ?_⟩) (by assumption) ?_
  rotate_left
  · intro wz hSw; (try dsimp only at hSw); go_simp; (try with_reducible rfl)
  try simp only [Act.put, List.setIfInBounds_toArray, List.set_cons_zero, List.set_cons_succ]
  refine wpAnyH_take (i := 5) (oi := { dst := some 59, op := Go.Op.load 3 (Go.Operand.tmp 58), type := 3, pos := "ref.go:242", after := #[{ on := 4, ground := Go.Ground.data }], guard := none }) (v := ?_) rfl (by kernel_rfl) (by kernel_rfl) (by kernel_rfl) (fun _ _ _ h => h) (Or.inl ⟨by rfl, ?_⟩) (by assumption) ?_
  rotate_left
  · intro wz hSw; (try dsimp only at hSw); go_simp; (try with_reducible rfl)
  try simp only [Act.put, List.setIfInBounds_toArray, List.set_cons_zero, List.set_cons_succ]
  refine wpAnyH_take (i := 6) (oi := { dst := some 60, op := Go.Op.binOp Go.BinOp.lss 3 (Go.Operand.tmp 57) (Go.Operand.tmp 59) 3, type := 4, pos := "ref.go:242", after := #[{ on := 3, ground := Go.Ground.data }, { on := 5, ground := Go.Ground.data }], guard := none }) (v := ?_) rfl (by kernel_rfl) (by kernel_rfl) (by kernel_rfl) (fun _ _ _ h => h) (Or.inl ⟨by rfl, ?_⟩) (by assumption) ?_
  rotate_left
  · intro wz hSw; (try dsimp only at hSw); go_simp; (try with_reducible rfl)
  try simp only [Act.put, List.setIfInBounds_toArray, List.set_cons_zero, List.set_cons_succ]
  refine wpAnyH_take (i := 7) (oi := { dst := some 53, op := Go.Op.assign (Go.Operand.tmp 60), type := 4, pos := "ref.go:242", after := #[{ on := 6, ground := Go.Ground.data }], guard := none }) (v := ?_) rfl (by kernel_rfl) (by kernel_rfl) (by kernel_rfl) (fun _ _ _ h => h) (Or.inl ⟨by rfl, ?_⟩) (by assumption) ?_
  rotate_left
  · intro wz hSw; (try dsimp only at hSw); go_simp; (try with_reducible rfl)
  try simp only [Act.put, List.setIfInBounds_toArray, List.set_cons_zero, List.set_cons_succ]
  refine wpAnyH_done (by kernel_rfl) (NoPanic.normal ?_) _
  try simp only [Act.put, List.setIfInBounds_toArray, List.set_cons_zero, List.set_cons_succ]
  clear hHeld S0
  clear h8' ew hd hk0
  have HX3 : Hid (Wd.heap[w.heap.size]? = some (.cells #[.int .i64 s.nu, .int .i64 s.a, .int .i64 s.b, .slice p.pa s.pn p.pc, .slice p.ha s.hn p.hc] 26 (0, 0)) ∧ Wd.heap[w.heap.size + 1]? = some (.cells #[.int .i64 y.id, .int .i64 y.am, .slice ka y.n kc] 29 (0, 0)) ∧ Wd.heap[w.heap.size + 2]? = some (.cells #[.int .i64 0, .int .i64 0, .int .i64 0, .slice none 0 0, .slice none 0 0] 26 (0, 0)) ∧ Below w.heap.size w Wd) := ⟨HBX.out.1, HBX.out.2, HXd.out.1, HXd.out.2⟩
  clear HXd HBX HX
  go_wp2
  clear hh'
  go_loopw [9] (fun iv wr => ∃ i : Nat, i ≤ s.hn ∧ iv = .int .i64 i ∧ (∀ j, j < i → (s.H j).id < y.id) ∧ wr.heap[w.heap.size]? = some (.cells #[.int .i64 s.nu, .int .i64 s.a, .int .i64 s.b, .slice p.pa s.pn p.pc, .slice p.ha s.hn p.hc] 26 (0, 0)) ∧ wr.heap[w.heap.size + 1]? = some (.cells #[.int .i64 y.id, .int .i64 y.am, .slice ka y.n kc] 29 (0, 0)) ∧ wr.heap[w.heap.size + 2]? = some (.cells #[.int .i64 0, .int .i64 0, .int .i64 0, .slice none 0 0, .slice none 0 0] 26 (0, 0)) ∧ Below w.heap.size w wr) (fun iv _ => s.hn + 1 - (intOf iv).toNat)
  case atStart => exact ⟨0, Nat.zero_le _, rfl, fun j hj => by omega, HX3.out⟩
  case round =>
    clear HX3
    obtain ⟨i, hi, rfl, hlo, hx⟩ := hrel
    have HX : Hid (wr.heap[w.heap.size]? = some (.cells #[.int .i64 s.nu, .int .i64 s.a, .int .i64 s.b, .slice p.pa s.pn p.pc, .slice p.ha s.hn p.hc] 26 (0, 0)) ∧ wr.heap[w.heap.size + 1]? = some (.cells #[.int .i64 y.id, .int .i64 y.am, .slice ka y.n kc] 29 (0, 0)) ∧ wr.heap[w.heap.size + 2]? = some (.cells #[.int .i64 0, .int .i64 0, .int .i64 0, .slice none 0 0, .slice none 0 0] 26 (0, 0)) ∧ Below w.heap.size w wr) := hx
    have HLO : Hid (∀ j, j < i → (s.H j).id < y.id) := hlo
    have HIL : Hid (i ≤ s.hn) := hi
    clear hx hlo
    obtain ⟨A, hsrc, hks⟩ := HKP.out.1.src HKP.out.2.2
    have HSR : Hid (Src w p.ha s.hn p.hc (flatL (hf s.H A) s.hn)) := hsrc
    have HKS : Hid (∀ i, i < s.hn → IsAt w (A i).1 (s.H i).n (s.H i).z ∧ ((A i).1 = none → (s.H i).n = 0 ∧ (A i).2 = 0)) := hks
    have HCP : Hid (s.hn ≤ p.hc) := HKP.out.2.1
    clear hsrc hks
    by_cases hlt : i < s.hn
    · have hlt' : (i : Int) < s.hn := by omega
      obtain ⟨b, off, hpa, hrg⟩ := HSR.out.1 (by omega)
      obtain ⟨pa, pc, ha, hc⟩ := p
      dsimp only at *
      subst hpa
      have hri := (flatL_range s.hn (hf_len s.H A s.hn)).1 hrg i hlt
      have S0 : wr.drew.cell? ⟨w.heap.size, 4, none⟩ = some (.slice (some ⟨b, off, none⟩) s.hn hc) ∧ wr.drew.cell? ⟨b, off + i * 3, none⟩ = some (.int .i64 (s.H i).id) ∧ wr.drew.cell? ⟨w.heap.size + 1, 0, none⟩ = some (.int .i64 y.id) := ⟨(five_of HX.out.1).c4, (hd_cells (range_below hri HX.out.2.2.2)).1, (hd_new (x := y) HX.out.2.1 rfl).1⟩
      clear hrg hri
      go_upto_region 17 with fail
      refine wp_region_noPanic ?_
      refine wp_region_held_drew (S := fun u => u.cell? ⟨w.heap.size, 4, none⟩ = some (.slice (some ⟨b, off, none⟩) s.hn hc) ∧ u.cell? ⟨b, off + i * 3, none⟩ = some (.int .i64 (s.H i).id) ∧ u.cell? ⟨w.heap.size + 1, 0, none⟩ = some (.int .i64 y.id)) (by kernel_rfl) S0 (fun hHeld => ?_)
      by_cases hid : (s.H i).id < y.id
      · have HN : Hid (∀ j, j < i + 1 → (s.H j).id < y.id) := fun j hj => by
          by_cases e : j = i
          · subst e; exact hid
          · exact HLO.out j (by omega)
        have HX1 : Hid (wr.drew.heap[w.heap.size]? = some (.cells #[.int .i64 s.nu, .int .i64 s.a, .int .i64 s.b, .slice pa s.pn pc, .slice (some ⟨b, off, none⟩) s.hn hc] 26 (0, 0)) ∧ wr.drew.heap[w.heap.size + 1]? = some (.cells #[.int .i64 y.id, .int .i64 y.am, .slice ka y.n kc] 29 (0, 0)) ∧ wr.drew.heap[w.heap.size + 2]? = some (.cells #[.int .i64 0, .int .i64 0, .int .i64 0, .slice none 0 0, .slice none 0 0] 26 (0, 0)) ∧ Below w.heap.size w wr.drew) := ⟨HX.out.1, HX.out.2.1, HX.out.2.2.1, HX.out.2.2.2.drew⟩
        generalize wr.drew = Wd at *
        refine wpAnyH_take (i := 0) (oi := { dst := some 62, op := Go.Op.move (Go.Operand.tmp 9), type := 3, pos := "ref.go:247", after := #[], guard := none }) (v := ?_) rfl (by kernel_rfl) (by kernel_rfl) (by kernel_rfl) (fun _ _ _ h => h) (Or.inl ⟨by rfl, ?_⟩) (by assumption) ?_
        rotate_left
        · intro wz hSw; (try dsimp only at hSw); go_simp; (try with_reducible rfl)
        try simp only [Act.put, List.setIfInBounds_toArray, List.set_cons_zero, List.set_cons_succ]
        refine wpAnyH_take (i := 1) (oi := { dst := some 63, op := Go.Op.fieldAddr 26 (Go.Operand.tmp 3) 3, type := 0, pos := "ref.go:247", after := #[], guard := none }) (v := ?_) rfl (by kernel_rfl) (by kernel_rfl) (by kernel_rfl) (fun _ _ _ h => h) (Or.inl ⟨by rfl, ?_⟩) (by assumption) ?_
        rotate_left
        · intro wz hSw; (try dsimp only at hSw); go_simp; (try with_reducible rfl)
        try simp only [Act.put, List.setIfInBounds_toArray, List.set_cons_zero, List.set_cons_succ]
        refine wpAnyH_take (i := 2) (oi := { dst := some 64, op := Go.Op.load 24 (Go.Operand.tmp 63), type := 24, pos := "ref.go:247", after := #[{ on := 1, ground := Go.Ground.data }], guard := none }) (v := ?_) rfl (by kernel_rfl) (by kernel_rfl) (by kernel_rfl) (fun _ _ _ h => h) (Or.inl ⟨by rfl, ?_⟩) (by assumption) ?_
        rotate_left
        · intro wz hSw; (try dsimp only at hSw); go_simp; (try with_reducible rfl)
        try simp only [Act.put, List.setIfInBounds_toArray, List.set_cons_zero, List.set_cons_succ]
        refine wpAnyH_take (i := 3) (oi := { dst := some 65, op := Go.Op.call { callee := Go.Callee.builtin Go.Builtin.len, args := #[Go.Operand.tmp 64], argTypes := #[24] }, type := 3, pos := "ref.go:247", after := #[{ on := 2, ground := Go.Ground.data }], guard := none }) (v := ?_) rfl (by kernel_rfl) (by kernel_rfl) (by kernel_rfl) (fun _ _ _ h => h) (Or.inl ⟨by rfl, ?_⟩) (by assumption) ?_
        rotate_left
        · intro wz hSw; (try dsimp only at hSw); go_simp; (try with_reducible rfl)
        try simp only [Act.put, List.setIfInBounds_toArray, List.set_cons_zero, List.set_cons_succ]
        refine wpAnyH_take (i := 4) (oi := { dst := some 66, op := Go.Op.binOp Go.BinOp.lss 3 (Go.Operand.tmp 62) (Go.Operand.tmp 65) 3, type := 4, pos := "ref.go:247", after := #[{ on := 0, ground := Go.Ground.data }, { on := 3, ground := Go.Ground.data }], guard := none }) (v := ?_) rfl (by kernel_rfl) (by kernel_rfl) (by kernel_rfl) (fun _ _ _ h => h) (Or.inl ⟨by rfl, ?_⟩) (by assumption) ?_
        rotate_left
        · intro wz hSw; (try dsimp only at hSw); go_simp; (try with_reducible rfl)
        try simp only [Act.put, List.setIfInBounds_toArray, List.set_cons_zero, List.set_cons_succ]
        refine wpAnyH_take (i := 5) (oi := { dst := some 67, op := Go.Op.move (Go.Operand.tmp 66), type := 4, pos := "ref.go:247", after := #[{ on := 4, ground := Go.Ground.data }], guard := none }) (v := ?_) rfl (by kernel_rfl) (by kernel_rfl) (by kernel_rfl) (fun _ _ _ h => h) (Or.inl ⟨by rfl, ?_⟩) (by assumption) ?_
        rotate_left
        · intro wz hSw; (try dsimp only at hSw); go_simp; (try with_reducible rfl)
        try simp only [Act.put, List.setIfInBounds_toArray, List.set_cons_zero, List.set_cons_succ]
        refine wpAnyH_take (i := 6) (oi := { dst := some 68, op := Go.Op.fieldAddr 26 (Go.Operand.tmp 3) 3, type := 0, pos := "ref.go:247", after := #[{ on := 5, ground := Go.Ground.guard }], guard := some (5, true) }) (v := ?_) rfl (by kernel_rfl) (by kernel_rfl) (by kernel_rfl) (fun _ _ _ h => h) (Or.inl ⟨by rfl, ?_⟩) (by assumption) ?_
        rotate_left
        · intro wz hSw; (try dsimp only at hSw); go_simp; (try with_reducible rfl)
        try simp only [Act.put, List.setIfInBounds_toArray, List.set_cons_zero, List.set_cons_succ]
        refine wpAnyH_take (i := 7) (oi := { dst := some 69, op := Go.Op.load 24 (Go.Operand.tmp 68), type := 24, pos := "ref.go:247", after := #[{ on := 6, ground := Go.Ground.data }, { on := 5, ground := Go.Ground.guard }], guard := some (5, true) }) (v := ?_) rfl (by kernel_rfl) (by kernel_rfl) (by kernel_rfl) (fun _ _ _ h => h) (Or.inl ⟨by rfl, ?_⟩) (by assumption) ?_
        rotate_left
        · intro wz hSw; (try dsimp only at hSw); go_simp; (try with_reducible rfl)
        try simp only [Act.put, List.setIfInBounds_toArray, List.set_cons_zero, List.set_cons_succ]
        refine wpAnyH_take (i := 8) (oi := { dst := some 70, op := Go.Op.move (Go.Operand.tmp 9), type := 3, pos := "ref.go:247", after := #[{ on := 5, ground := Go.Ground.guard }], guard := some (5, true) }) (v := ?_) rfl (by kernel_rfl) (by kernel_rfl) (by kernel_rfl) (fun _ _ _ h => h) (Or.inl ⟨by rfl, ?_⟩) (by assumption) ?_
        rotate_left
        · intro wz hSw; (try dsimp only at hSw); go_simp; (try with_reducible rfl)
        try simp only [Act.put, List.setIfInBounds_toArray, List.set_cons_zero, List.set_cons_succ]
        refine wpAnyH_take (i := 9) (oi := { dst := some 71, op := Go.Op.indexAddr 24 (Go.Operand.tmp 69) (Go.Operand.tmp 70), type := 0, pos := "ref.go:247", after := #[{ on := 7, ground := Go.Ground.data }, { on := 8, ground := Go.Ground.data }, { on := 5, ground := Go.Ground.guard }], guard := some (5, true) }) (v := ?_) rfl (by kernel_rfl) (by kernel_rfl) (by kernel_rfl) (fun _ _ _ h => h) (Or.inl ⟨by rfl, ?_⟩) (by assumption) ?_
        rotate_left
        · intro wz hSw; (try dsimp only at hSw); go_simp; (try with_reducible rfl)
        try simp only [Act.put, List.setIfInBounds_toArray, List.set_cons_zero, List.set_cons_succ]
        refine wpAnyH_take (i := 10) (oi := { dst := some 72, op := Go.Op.fieldAddr 29 (Go.Operand.tmp 71) 0, type := 0, pos := "ref.go:247", after := #[{ on := 9, ground := Go.Ground.data }, { on := 5, ground := Go.Ground.guard }], guard := some (5, true) }) (v := ?_) rfl (by kernel_rfl) (by kernel_rfl) (by kernel_rfl) (fun _ _ _ h => h) (Or.inl ⟨by rfl, ?_⟩) (by assumption) ?_
        rotate_left
        · intro wz hSw; (try dsimp only at hSw); go_simp; (try with_reducible rfl)
        try simp only [Act.put, List.setIfInBounds_toArray, List.set_cons_zero, List.set_cons_succ]
        refine wpAnyH_take (i := 11) (oi := { dst := some 73, op := Go.Op.load 3 (Go.Operand.tmp 72), type := 3, pos := "ref.go:247", after := #[{ on := 10, ground := Go.Ground.data }, { on := 5, ground := Go.Ground.guard }], guard := some (5, true) }) (v := ?_) rfl (by kernel_rfl) (by kernel_rfl) (by kernel_rfl) (fun _ _ _ h => h) (Or.inl ⟨by rfl, ?_⟩) (by assumption) ?_
        rotate_left
        · intro wz hSw; (try dsimp only at hSw); go_simp; (try with_reducible rfl)
        try simp only [Act.put, List.setIfInBounds_toArray, List.set_cons_zero, List.set_cons_succ]
        refine wpAnyH_take (i := 12) (oi := { dst := some 74, op := Go.Op.fieldAddr 29 (Go.Operand.tmp 5) 0, type := 0, pos := "ref.go:247", after := #[{ on := 5, ground := Go.Ground.guard }], guard := some (5, true) }) (v := ?_) rfl (by kernel_rfl) (by kernel_rfl) (by kernel_rfl) (fun _ _ _ h => h) (Or.inl ⟨by rfl, ?_⟩) (by assumption) ?_
        rotate_left
        · intro wz hSw; (try dsimp only at hSw); go_simp; (try with_reducible rfl)
        try simp only [Act.put, List.setIfInBounds_toArray, List.set_cons_zero, List.set_cons_succ]
        refine wpAnyH_take (i := 13) (oi := { dst := some 75, op := Go.Op.load 3 (Go.Operand.tmp 74), type := 3, pos := "ref.go:247", after := #[{ on := 12, ground := Go.Ground.data }, { on := 5, ground := Go.Ground.guard }], guard := some (5, true) }) (v := ?_) rfl (by kernel_rfl) (by kernel_rfl) (by kernel_rfl) (fun _ _ _ h => h) (Or.inl ⟨by rfl, ?_⟩) (by assumption) ?_
        rotate_left
        · intro wz hSw; (try dsimp only at hSw); go_simp; (try with_reducible rfl)
        try simp only [Act.put, List.setIfInBounds_toArray, List.set_cons_zero, List.set_cons_succ]
        refine wpAnyH_take (i := 14) (oi := { dst := some 76, op := Go.Op.binOp Go.BinOp.lss 3 (Go.Operand.tmp 73) (Go.Operand.tmp 75) 3, type := 4, pos := "ref.go:247", after := #[{ on := 11, ground := Go.Ground.data }, { on := 13, ground := Go.Ground.data }, { on := 5, ground := Go.Ground.guard }], guard := some (5, true) }) (v := ?_) rfl (by kernel_rfl) (by kernel_rfl) (by kernel_rfl) (fun _ _ _ h => h) (Or.inl ⟨by rfl, ?_⟩) (by assumption) ?_
        rotate_left
        · intro wz hSw; (try dsimp only at hSw); go_simp; (try with_reducible rfl)
        try simp only [Act.put, List.setIfInBounds_toArray, List.set_cons_zero, List.set_cons_succ]
        refine wpAnyH_take (i := 15) (oi := { dst := some 77, op := Go.Op.pick (Go.Operand.tmp 67) (Go.Operand.tmp 76) (Go.Operand.const (Go.Value.bool false)), type := 4, pos := "ref.go:247", after := #[{ on := 5, ground := Go.Ground.data }, { on := 14, ground := Go.Ground.data }], guard := none }) (v := ?_) rfl (by kernel_rfl) (by kernel_rfl) (by kernel_rfl) (fun _ _ _ h => h) (Or.inl ⟨by rfl, ?_⟩) (by assumption) ?_
        rotate_left
        · intro wz hSw; (try dsimp only at hSw); go_simp; (try with_reducible rfl)
        try simp only [Act.put, List.setIfInBounds_toArray, List.set_cons_zero, List.set_cons_succ]
        refine wpAnyH_done (by kernel_rfl) (NoPanic.normal ?_) _
        try simp only [Act.put, List.setIfInBounds_toArray, List.set_cons_zero, List.set_cons_succ]
        clear hHeld S0 hid HX
        go_wp2
        exact ⟨⟨i + 1, by omega, by go_num, HN.out, HX1.out⟩, by simp [intOf]; omega⟩
      · have HHI : Hid (i < s.hn → y.id ≤ (s.H i).id) := fun _ => Int.not_lt.1 hid
        refine wpAnyH_take (i := 0) (oi := { dst := some 62, op := Go.Op.move (Go.Operand.tmp 9), type := 3, pos := "ref.go:247", after := #[], guard := none }) (v := ?_) rfl (by kernel_rfl) (by kernel_rfl) (by kernel_rfl) (fun _ _ _ h => h) (Or.inl ⟨by rfl, ?_⟩) (by assumption) ?_
        rotate_left
        · intro wz hSw; (try dsimp only at hSw); go_simp; (try with_reducible rfl)
        try simp only [Act.put, List.setIfInBounds_toArray, List.set_cons_zero, List.set_cons_succ]
        refine wpAnyH_take (i := 1) (oi := { dst := some 63, op := Go.Op.fieldAddr 26 (Go.Operand.tmp 3) 3, type := 0, pos := "ref.go:247", after := #[], guard := none }) (v := ?_) rfl (by kernel_rfl) (by kernel_rfl) (by kernel_rfl) (fun _ _ _ h => h) (Or.inl ⟨by rfl, ?_⟩) (by assumption) ?_
        rotate_left
        · intro wz hSw; (try dsimp only at hSw); go_simp; (try with_reducible rfl)
        try simp only [Act.put, List.setIfInBounds_toArray, List.set_cons_zero, List.set_cons_succ]
        refine wpAnyH_take (i := 2) (oi := { dst := some 64, op := Go.Op.load 24 (Go.Operand.tmp 63), type := 24, pos := "ref.go:247", after := #[{ on := 1, ground := Go.Ground.data }], guard := none }) (v := ?_) rfl (by kernel_rfl) (by kernel_rfl) (by kernel_rfl) (fun _ _ _ h => h) (Or.inl ⟨by rfl, ?_⟩) (by assumption) ?_
        rotate_left
        · intro wz hSw; (try dsimp only at hSw); go_simp; (try with_reducible rfl)
        try simp only [Act.put, List.setIfInBounds_toArray, List.set_cons_zero, List.set_cons_succ]
        refine wpAnyH_take (i := 3) (oi := { dst := some 65, op := Go.Op.call { callee := Go.Callee.builtin Go.Builtin.len, args := #[Go.Operand.tmp 64], argTypes := #[24] }, type := 3, pos := "ref.go:247", after := #[{ on := 2, ground := Go.Ground.data }], guard := none }) (v := ?_) rfl (by kernel_rfl) (by kernel_rfl) (by kernel_rfl) (fun _ _ _ h => h) (Or.inl ⟨by rfl, ?_⟩) (by assumption) ?_
        rotate_left
        · intro wz hSw; (try dsimp only at hSw); go_simp; (try with_reducible rfl)
        try simp only [Act.put, List.setIfInBounds_toArray, List.set_cons_zero, List.set_cons_succ]
        refine wpAnyH_take (i := 4) (oi := { dst := some 66, op := Go.Op.binOp Go.BinOp.lss 3 (Go.Operand.tmp 62) (Go.Operand.tmp 65) 3, type := 4, pos := "ref.go:247", after := #[{ on := 0, ground := Go.Ground.data }, { on := 3, ground := Go.Ground.data }], guard := none }) (v := ?_) rfl (by kernel_rfl) (by kernel_rfl) (by kernel_rfl) (fun _ _ _ h => h) (Or.inl ⟨by rfl, ?_⟩) (by assumption) ?_
        rotate_left
        · intro wz hSw; (try dsimp only at hSw); go_simp; (try with_reducible rfl)
        try simp only [Act.put, List.setIfInBounds_toArray, List.set_cons_zero, List.set_cons_succ]
        refine wpAnyH_take (i := 5) (oi := { dst := some 67, op := Go.Op.move (Go.Operand.tmp 66), type := 4, pos := "ref.go:247", after := #[{ on := 4, ground := Go.Ground.data }], guard := none }) (v := ?_) rfl (by kernel_rfl) (by kernel_rfl) (by kernel_rfl) (fun _ _ _ h => h) (Or.inl ⟨by rfl, ?_⟩) (by assumption) ?_
        rotate_left
        · intro wz hSw; (try dsimp only at hSw); go_simp; (try with_reducible rfl)
        try simp only [Act.put, List.setIfInBounds_toArray, List.set_cons_zero, List.set_cons_succ]
        refine wpAnyH_take (i := 6) (oi := { dst := some 68, op := Go.Op.fieldAddr 26 (Go.Operand.tmp 3) 3, type := 0, pos := "ref.go:247", after := #[{ on := 5, ground := Go.Ground.guard }], guard := some (5, true) }) (v := ?_) rfl (by kernel_rfl) (by kernel_rfl) (by kernel_rfl) (fun _ _ _ h => h) (Or.inl ⟨by rfl, ?_⟩) (by assumption) ?_
        rotate_left
        · intro wz hSw; (try dsimp only at hSw); go_simp; (try with_reducible rfl)
        try simp only [Act.put, List.setIfInBounds_toArray, List.set_cons_zero, List.set_cons_succ]
        refine wpAnyH_take (i := 7) (oi := { dst := some 69, op := Go.Op.load 24 (Go.Operand.tmp 68), type := 24, pos := "ref.go:247", after := #[{ on := 6, ground := Go.Ground.data }, { on := 5, ground := Go.Ground.guard }], guard := some (5, true) }) (v := ?_) rfl (by kernel_rfl) (by kernel_rfl) (by kernel_rfl) (fun _ _ _ h => h) (Or.inl ⟨by rfl, ?_⟩) (by assumption) ?_
        rotate_left
        · intro wz hSw; (try dsimp only at hSw); go_simp; (try with_reducible rfl)
        try simp only [Act.put, List.setIfInBounds_toArray, List.set_cons_zero, List.set_cons_succ]
        refine wpAnyH_take (i := 8) (oi := { dst := some 70, op := Go.Op.move (Go.Operand.tmp 9), type := 3, pos := "ref.go:247", after := #[{ on := 5, ground := Go.Ground.guard }], guard := some (5, true) }) (v := ?_) rfl (by kernel_rfl) (by kernel_rfl) (by kernel_rfl) (fun _ _ _ h => h) (Or.inl ⟨by rfl, ?_⟩) (by assumption) ?_
        rotate_left
        · intro wz hSw; (try dsimp only at hSw); go_simp; (try with_reducible rfl)
        try simp only [Act.put, List.setIfInBounds_toArray, List.set_cons_zero, List.set_cons_succ]
        refine wpAnyH_take (i := 9) (oi := { dst := some 71, op := Go.Op.indexAddr 24 (Go.Operand.tmp 69) (Go.Operand.tmp 70), type := 0, pos := "ref.go:247", after := #[{ on := 7, ground := Go.Ground.data }, { on := 8, ground := Go.Ground.data }, { on := 5, ground := Go.Ground.guard }], guard := some (5, true) }) (v := ?_) rfl (by kernel_rfl) (by kernel_rfl) (by kernel_rfl) (fun _ _ _ h => h) (Or.inl ⟨by rfl, ?_⟩) (by assumption) ?_
        rotate_left
        · intro wz hSw; (try dsimp only at hSw); go_simp; (try with_reducible rfl)
        try simp only [Act.put, List.setIfInBounds_toArray, List.set_cons_zero, List.set_cons_succ]
        refine wpAnyH_take (i := 10) (oi := { dst := some 72, op := Go.Op.fieldAddr 29 (Go.Operand.tmp 71) 0, type := 0, pos := "ref.go:247", after := #[{ on := 9, ground := Go.Ground.data }, { on := 5, ground := Go.Ground.guard }], guard := some (5, true) }) (v := ?_) rfl (by kernel_rfl) (by kernel_rfl) (by kernel_rfl) (fun _ _ _ h => h) (Or.inl ⟨by rfl, ?_⟩) (by assumption) ?_
        rotate_left
        · intro wz hSw; (try dsimp only at hSw); go_simp; (try with_reducible rfl)
        try simp only [Act.put, List.setIfInBounds_toArray, List.set_cons_zero, List.set_cons_succ]
        refine wpAnyH_take (i := 11) (oi := { dst := some 73, op := Go.Op.load 3 (Go.Operand.tmp 72), type := 3, pos := "ref.go:247", after := #[{ on := 10, ground := Go.Ground.data }, { on := 5, ground := Go.Ground.guard }], guard := some (5, true) }) (v := ?_) rfl (by kernel_rfl) (by kernel_rfl) (by kernel_rfl) (fun _ _ _ h => h) (Or.inl ⟨by rfl, ?_⟩) (by assumption) ?_
        rotate_left
        · intro wz hSw; (try dsimp only at hSw); go_simp; (try with_reducible rfl)
        try simp only [Act.put, List.setIfInBounds_toArray, List.set_cons_zero, List.set_cons_succ]
        refine wpAnyH_take (i := 12) (oi := { dst := some 74, op := Go.Op.fieldAddr 29 (Go.Operand.tmp 5) 0, type := 0, pos := "ref.go:247", after := #[{ on := 5, ground := Go.Ground.guard }], guard := some (5, true) }) (v := ?_) rfl (by kernel_rfl) (by kernel_rfl) (by kernel_rfl) (fun _ _ _ h => h) (Or.inl ⟨by rfl, ?_⟩) (by assumption) ?_
        rotate_left
        · intro wz hSw; (try dsimp only at hSw); go_simp; (try with_reducible rfl)
        try simp only [Act.put, List.setIfInBounds_toArray, List.set_cons_zero, List.set_cons_succ]
        refine wpAnyH_take (i := 13) (oi := { dst := some 75, op := Go.Op.load 3 (Go.Operand.tmp 74), type := 3, pos := "ref.go:247", after := #[{ on := 12, ground := Go.Ground.data }, { on := 5, ground := Go.Ground.guard }], guard := some (5, true) }) (v := ?_) rfl (by kernel_rfl) (by kernel_rfl) (by kernel_rfl) (fun _ _ _ h => h) (Or.inl ⟨by rfl, ?_⟩) (by assumption) ?_
        rotate_left
        · intro wz hSw; (try dsimp only at hSw); go_simp; (try with_reducible rfl)
        try simp only [Act.put, List.setIfInBounds_toArray, List.set_cons_zero, List.set_cons_succ]
        refine wpAnyH_take (i := 14) (oi := { dst := some 76, op := Go.Op.binOp Go.BinOp.lss 3 (Go.Operand.tmp 73) (Go.Operand.tmp 75) 3, type := 4, pos := "ref.go:247", after := #[{ on := 11, ground := Go.Ground.data }, { on := 13, ground := Go.Ground.data }, { on := 5, ground := Go.Ground.guard }], guard := some (5, true) }) (v := ?_) rfl (by kernel_rfl) (by kernel_rfl) (by kernel_rfl) (fun _ _ _ h => h) (Or.inl ⟨by rfl, ?_⟩) (by assumption) ?_
        rotate_left
        · intro wz hSw; (try dsimp only at hSw); go_simp; (try with_reducible rfl)
        try simp only [Act.put, List.setIfInBounds_toArray, List.set_cons_zero, List.set_cons_succ]
        refine wpAnyH_take (i := 15) (oi := { dst := some 77, op := Go.Op.pick (Go.Operand.tmp 67) (Go.Operand.tmp 76) (Go.Operand.const (Go.Value.bool false)), type := 4, pos := "ref.go:247", after := #[{ on := 5, ground := Go.Ground.data }, { on := 14, ground := Go.Ground.data }], guard := none }) (v := ?_) rfl (by kernel_rfl) (by kernel_rfl) (by kernel_rfl) (fun _ _ _ h => h) (Or.inl ⟨by rfl, ?_⟩) (by assumption) ?_
        rotate_left
        · intro wz hSw; (try dsimp only at hSw); go_simp; (try with_reducible rfl)
        try simp only [Act.put, List.setIfInBounds_toArray, List.set_cons_zero, List.set_cons_succ]
        refine wpAnyH_done (by kernel_rfl) (NoPanic.normal ?_) _
        try simp only [Act.put, List.setIfInBounds_toArray, List.set_cons_zero, List.set_cons_succ]
        have HX1 : Hid (wr.drew.drew.heap[w.heap.size]? = some (.cells #[.int .i64 s.nu, .int .i64 s.a, .int .i64 s.b, .slice pa s.pn pc, .slice (some ⟨b, off, none⟩) s.hn hc] 26 (0, 0)) ∧ wr.drew.drew.heap[w.heap.size + 1]? = some (.cells #[.int .i64 y.id, .int .i64 y.am, .slice ka y.n kc] 29 (0, 0)) ∧ wr.drew.drew.heap[w.heap.size + 2]? = some (.cells #[.int .i64 0, .int .i64 0, .int .i64 0, .slice none 0 0, .slice none 0 0] 26 (0, 0)) ∧ Below w.heap.size w wr.drew.drew) := ⟨HX.out.1, HX.out.2.1, HX.out.2.2.1, HX.out.2.2.2.drew.drew⟩
        clear hHeld S0 hid hlt hlt'
        generalize wr.drew = Wy at *
        go_wp2_with fail
        generalize hWd : Wy.drew = Wd at HX1
        have HXr : Hid (Wd.heap[w.heap.size]? = some (.cells #[.int .i64 s.nu, .int .i64 s.a, .int .i64 s.b, .slice pa s.pn pc, .slice (some ⟨b, off, none⟩) s.hn hc] 26 (0, 0)) ∧ Wd.heap[w.heap.size + 1]? = some (.cells #[.int .i64 y.id, .int .i64 y.am, .slice ka y.n kc] 29 (0, 0)) ∧ Wd.heap[w.heap.size + 2]? = some (.cells #[.int .i64 0, .int .i64 0, .int .i64 0, .slice none 0 0, .slice none 0 0] 26 (0, 0)) ∧ Below w.heap.size w Wd) := HX1.out
        have HWS : Hid (w.heap.size + 2 < Wd.heap.size) := lt_of_block HX1.out.2.2.1
        clear HX1 HX
        have HB0 : Hid (Below w.heap.size w Wd) := HXr.out.2.2.2
        have SR : Hid (∀ u, Below Wd.heap.size Wd u → u.rangeAt (w.heap.size + 1) 0 (hdl y ka kc) ∧ u.cell? ⟨w.heap.size, 4, none⟩ = some (.slice (some ⟨b, off, none⟩) s.hn hc)) := fun u hb => ⟨range_below (hdv_range HXr.out.2.1) hb, by rw [hb.cell (p := ⟨w.heap.size, 4, none⟩) (lt_of_block HXr.out.1)]; exact (five_of HXr.out.1).c4⟩
        have S0 := SR.out Wd (Below.refl _ _)
        refine wp_region_noPanic ?_
        refine wp_region_held_drew (S := fun u => u.rangeAt (w.heap.size + 1) 0 (hdl y ka kc) ∧ u.cell? ⟨w.heap.size, 4, none⟩ = some (.slice (some ⟨b, off, none⟩) s.hn hc)) (by kernel_rfl) (by rw [hWd]; exact S0) (fun hHeld => ?_)
        rw [hWd] at hHeld ⊢
        clear hWd
        obtain ⟨ax, hax⟩ : ∃ ax : Option Addr, (if hc = i then some (⟨b, off, none⟩ : Addr) else some ⟨b, off + i * 3, none⟩) = ax := ⟨_, rfl⟩
        have HAX : Hid ((if hc = i then some (⟨b, off, none⟩ : Addr) else some ⟨b, off + i * 3, none⟩) = ax) := hax
        clear hax
        refine wpAnyH_take (i := 0) (oi := { dst := some 80, op := Go.Op.move (Go.Operand.tmp 8), type := 24, pos := "ref.go:250", after := #[], guard := none }) (v := ?_) rfl (by kernel_rfl) (by kernel_rfl) (by kernel_rfl) (fun _ _ _ h => h) (Or.inl ⟨by rfl, ?_⟩) (by assumption) ?_
        rotate_left
        · intro wz hSw; (try dsimp only at hSw); go_simp; (try with_reducible rfl)
        try simp only [Act.put, List.setIfInBounds_toArray, List.set_cons_zero, List.set_cons_succ]
        refine wpAnyH_take (i := 1) (oi := { dst := some 81, op := Go.Op.fieldAddr 26 (Go.Operand.tmp 3) 3, type := 0, pos := "ref.go:250", after := #[], guard := none }) (v := ?_) rfl (by kernel_rfl) (by kernel_rfl) (by kernel_rfl) (fun _ _ _ h => h) (Or.inl ⟨by rfl, ?_⟩) (by assumption) ?_
        rotate_left
        · intro wz hSw; (try dsimp only at hSw); go_simp; (try with_reducible rfl)
        try simp only [Act.put, List.setIfInBounds_toArray, List.set_cons_zero, List.set_cons_succ]
        refine wpAnyH_take (i := 2) (oi := { dst := some 82, op := Go.Op.load 24 (Go.Operand.tmp 81), type := 24, pos := "ref.go:250", after := #[{ on := 1, ground := Go.Ground.data }], guard := none }) (v := ?_) rfl (by kernel_rfl) (by kernel_rfl) (by kernel_rfl) (fun _ _ _ h => h) (Or.inl ⟨by rfl, ?_⟩) (by assumption) ?_
        rotate_left
        · intro wz hSw; (try dsimp only at hSw); go_simp; (try with_reducible rfl)
        try simp only [Act.put, List.setIfInBounds_toArray, List.set_cons_zero, List.set_cons_succ]
        refine wpAnyH_take (i := 3) (oi := { dst := some 83, op := Go.Op.move (Go.Operand.tmp 9), type := 3, pos := "ref.go:250", after := #[], guard := none }) (v := ?_) rfl (by kernel_rfl) (by kernel_rfl) (by kernel_rfl) (fun _ _ _ h => h) (Or.inl ⟨by rfl, ?_⟩) (by assumption) ?_
        rotate_left
        · intro wz hSw; (try dsimp only at hSw); go_simp; (try with_reducible rfl)
        try simp only [Act.put, List.setIfInBounds_toArray, List.set_cons_zero, List.set_cons_succ]
        refine wpAnyH_take (i := 4) (oi := { dst := some 84, op := Go.Op.slice 24 (Go.Operand.tmp 82) none (some (Go.Operand.tmp 83)) none, type := 24, pos := "ref.go:250", after := #[{ on := 2, ground := Go.Ground.data }, { on := 3, ground := Go.Ground.data }], guard := none }) (v := .slice (some ⟨b, off, none⟩) i hc) rfl (by kernel_rfl) (by kernel_rfl) (by kernel_rfl) (fun _ _ _ h => h) (Or.inl ⟨by rfl, ?_⟩) (by assumption) ?_
        · intro wz hSw; (try dsimp only at hSw); go_simp; try (intro hbad; have h1 := HCP.out; omega)
        try simp only [Act.put, List.setIfInBounds_toArray, List.set_cons_zero, List.set_cons_succ]
        refine wpAnyH_take (i := 6) (oi := { dst := some 86, op := Go.Op.load 29 (Go.Operand.tmp 5), type := 29, pos := "ref.go:250", after := #[], guard := none }) rfl (by kernel_rfl) (by kernel_rfl) (by kernel_rfl) (fun _ _ _ h => h) (yieldsIf_load_mid (by rfl) _ _ rfl (w.heap.size + 1) 0 rfl (hdl y ka kc) _ (fun _ h => h.1) Tryd.underlying29 rfl szHr) (by assumption) ?_
        try simp only [Act.put, List.setIfInBounds_toArray, List.set_cons_zero, List.set_cons_succ]
        refine wpAnyH_take (i := 9) (oi := { dst := some 89, op := Go.Op.fieldAddr 26 (Go.Operand.tmp 3) 3, type := 0, pos := "ref.go:250", after := #[], guard := none }) (v := ?_) rfl (by kernel_rfl) (by kernel_rfl) (by kernel_rfl) (fun _ _ _ h => h) (Or.inl ⟨by rfl, ?_⟩) (by assumption) ?_
        rotate_left
        · intro wz hSw; (try dsimp only at hSw); go_simp; (try with_reducible rfl)
        try simp only [Act.put, List.setIfInBounds_toArray, List.set_cons_zero, List.set_cons_succ]
        refine wpAnyH_take (i := 10) (oi := { dst := some 90, op := Go.Op.load 24 (Go.Operand.tmp 89), type := 24, pos := "ref.go:250", after := #[{ on := 9, ground := Go.Ground.data }], guard := none }) (v := ?_) rfl (by kernel_rfl) (by kernel_rfl) (by kernel_rfl) (fun _ _ _ h => h) (Or.inl ⟨by rfl, ?_⟩) (by assumption) ?_
        rotate_left
        · intro wz hSw; (try dsimp only at hSw); go_simp; (try with_reducible rfl)
        try simp only [Act.put, List.setIfInBounds_toArray, List.set_cons_zero, List.set_cons_succ]
        refine wpAnyH_take (i := 11) (oi := { dst := some 91, op := Go.Op.move (Go.Operand.tmp 9), type := 3, pos := "ref.go:250", after := #[], guard := none }) (v := ?_) rfl (by kernel_rfl) (by kernel_rfl) (by kernel_rfl) (fun _ _ _ h => h) (Or.inl ⟨by rfl, ?_⟩) (by assumption) ?_
        rotate_left
        · intro wz hSw; (try dsimp only at hSw); go_simp; (try with_reducible rfl)
        try simp only [Act.put, List.setIfInBounds_toArray, List.set_cons_zero, List.set_cons_succ]
        refine wpAnyH_take (i := 12) (oi := { dst := some 92, op := Go.Op.slice 24 (Go.Operand.tmp 90) (some (Go.Operand.tmp 91)) none none, type := 24, pos := "ref.go:250", after := #[{ on := 10, ground := Go.Ground.data }, { on := 11, ground := Go.Ground.data }], guard := none }) (v := .slice ax (s.hn - i) (hc - i)) rfl (by kernel_rfl) (by kernel_rfl) (by kernel_rfl) (fun _ _ _ h => h) (Or.inl ⟨by rfl, ?_⟩) (by assumption) ?_
        · intro wz hSw; (try dsimp only at hSw); rw [← HAX.out]; go_simp; try (intro hbad; have h1 := HCP.out; omega)
        try simp only [Act.put, List.setIfInBounds_toArray, List.set_cons_zero, List.set_cons_succ]
        refine wpAnyH_ready (rs := [5, 7]) (by kernel_rfl) (by simp) ?_
        refine (AllReadyH.cons (o := { dst := some 85, op := Go.Op.call { callee := Go.Callee.builtin Go.Builtin.append, args := #[Go.Operand.tmp 80, Go.Operand.tmp 84], argTypes := #[24, 24] }, type := 24, pos := "ref.go:250", after := #[{ on := 0, ground := Go.Ground.data }, { on := 4, ground := Go.Ground.data }], guard := none }) rfl (fun K hK => ?_) (AllReadyH.cons (o := { dst := some 87, op := Go.Op.buildSlice 24 1 #[(0, Go.Operand.tmp 86)], type := 24, pos := "ref.go:250", after := #[{ on := 6, ground := Go.Ground.data }], guard := none }) rfl (fun K hK => ?_) AllReadyH.nil))
        · have HBU : Below Wd.heap.size Wd Wd := Below.refl _ _
          refine step_append_R rfl (.tmp 80) (.tmp 84) rfl Wd.heap.size (.slice none 0 0) 0 [] (some ⟨b, off, none⟩) i hc (flatL (hf s.H A) i) (by rfl) (by rfl) (World.ownsRow_nil _ _ _ _) HBU.size ((HSR.out.below (HB0.out.trans (HBU.mono HB0.out.size))).take (hf_len _ _ _) HIL.out (by simp)) (flatL_length i (hf_len _ _ _)) (hf_one _ _ _) (by omega) ?_
          intro va vc V1 hown hgr
          rw [Nat.zero_add, List.nil_append] at hown
          have hb1 : Below Wd.heap.size Wd V1 := ⟨hgr.os, hgr.tape, hgr.output, hgr.size, fun k hk => hgr.block k hk (by simp [Value.ownBlock])⟩
          have HO1 : Hid (V1.ownsRow Wd.heap.size 29 3 (.slice va i vc) i (flatL (hf s.H A) i)) := hown
          have HBW : Hid (Below Wd.heap.size Wd V1) := Below.transS HBU hb1
          refine hK.out _ _ (SR.out V1 HBW.out) (fun _ => ?_)
          try simp only [Act.put, List.setIfInBounds_toArray, List.set_cons_zero, List.set_cons_succ]
          (try rw [Nat.zero_add])
          clear hK K hown hgr
          have HBV : Hid (Below Wd.heap.size Wd V1) := HBW.out
          clear hb1
          refine wpAnyH_ready (rs := [7]) (by kernel_rfl) (by simp) ?_
          refine (AllReadyH.cons (o := { dst := some 87, op := Go.Op.buildSlice 24 1 #[(0, Go.Operand.tmp 86)], type := 24, pos := "ref.go:250", after := #[{ on := 6, ground := Go.Ground.data }], guard := none }) rfl (fun K hK => ?_) AllReadyH.nil)
          have HBU : Below Wd.heap.size Wd V1 := HBV.out
          refine step_sliceR rfl (.tmp 86) rfl y ka kc (by rfl) ?_
          intro q V2 hq hle hb1
          have HBW : Hid (Below Wd.heap.size Wd V2) := Below.transS HBU hb1
          have HO2 : Hid (V2.ownsRow Wd.heap.size 29 3 (.slice va i vc) i (flatL (hf s.H A) i)) := own_below HO1.out hb1
          have HQ : Hid (V2.heap[q]? = some (.cells (hdv y ka kc) 29 (0, 0))) := hq
          refine hK.out _ _ (SR.out V2 HBW.out) (fun _ => ?_)
          try simp only [Act.put, List.setIfInBounds_toArray, List.set_cons_zero, List.set_cons_succ]
          (try rw [Nat.zero_add])
          clear hK K hq hle hb1 HO1 HBV HBU
          refine wpAnyH_ready (rs := [8]) (by kernel_rfl) (by simp) ?_
          refine (AllReadyH.cons (o := { dst := some 88, op := Go.Op.call { callee := Go.Callee.builtin Go.Builtin.append, args := #[Go.Operand.tmp 85, Go.Operand.tmp 87], argTypes := #[24, 24] }, type := 24, pos := "ref.go:250", after := #[{ on := 5, ground := Go.Ground.data }, { on := 7, ground := Go.Ground.data }, { on := 5, ground := Go.Ground.chain }], guard := none }) rfl (fun K hK => ?_) AllReadyH.nil)
          refine step_append_R rfl (.tmp 85) (.tmp 87) rfl Wd.heap.size (.slice va i vc) i (flatL (hf s.H A) i) (some ⟨q, 0, none⟩) 1 1 (hdl y ka kc) (by rfl) (by rfl) HO2.out HBW.out.size ⟨fun _ => ⟨q, 0, rfl, hdv_range HQ.out⟩, fun e => by cases e⟩ rfl (hdl_one y ka kc) (by omega) ?_
          intro vb vd V3 hown hgr
          have HO3 : Hid (V3.ownsRow Wd.heap.size 29 3 (.slice vb (i + 1) vd) (i + 1) (flatL (hf s.H A) i ++ hdl y ka kc)) := hown
          have HB3 : Hid (Below Wd.heap.size Wd V3) := grown_below HO2.out hgr HBW.out (Nat.le_refl _)
          refine hK.out _ _ (SR.out V3 HB3.out) (fun _ => ?_)
          clear hK K hown hgr HO2 HQ HBW
          try simp only [Act.put, List.setIfInBounds_toArray, List.set_cons_zero, List.set_cons_succ]
          refine wpAnyH_ready (rs := [13]) (by kernel_rfl) (by simp) ?_
          refine (AllReadyH.cons (o := { dst := some 93, op := Go.Op.call { callee := Go.Callee.builtin Go.Builtin.append, args := #[Go.Operand.tmp 88, Go.Operand.tmp 92], argTypes := #[24, 24] }, type := 24, pos := "ref.go:250", after := #[{ on := 8, ground := Go.Ground.data }, { on := 12, ground := Go.Ground.data }, { on := 8, ground := Go.Ground.chain }], guard := none }) rfl (fun K hK => ?_) AllReadyH.nil)
          have HBU : Below Wd.heap.size Wd V3 := HB3.out
          refine step_append_R rfl (.tmp 88) (.tmp 92) rfl Wd.heap.size (.slice vb (i + 1) vd) (i + 1) (flatL (hf s.H A) i ++ hdl y ka kc) ax (s.hn - i) (hc - i) (flatL (fun j => hf s.H A (i + j)) (s.hn - i)) (by rfl) (by rfl) HO3.out HBU.size (by rw [← HAX.out]; exact (HSR.out.below (HB0.out.trans (HBU.mono HB0.out.size))).drop (hf_len _ _ _) HIL.out HCP.out) (flatL_length _ (fun j hj => rfl)) (fun u hu => by
            obtain ⟨j, _, hj⟩ := flatL_mem _ hu
            exact hdl_one _ _ _ u hj) (by omega) ?_
          intro vx vy V4 hown hgr
          have em : i + 1 + (s.hn - i) = s.hn + 1 := by omega
          have HB4 : Hid (Below Wd.heap.size Wd V4) := grown_below HO3.out hgr HB3.out (Nat.le_refl _)
          rw [em] at hown
          have HO4 : Hid (V4.ownsRow Wd.heap.size 29 3 (.slice vx (s.hn + 1) vy) (s.hn + 1) (flatL (hf (insG s.H i y) (insG A i (ka, kc))) (s.hn + 1))) := by
            have e0 := insF_mid (hf s.H A) i (s.hn - i) (hdl y ka kc)
            rw [show i + (s.hn - i) + 1 = s.hn + 1 by omega] at e0
            show V4.ownsRow Wd.heap.size 29 3 (.slice vx (s.hn + 1) vy) (s.hn + 1) (flatL (hf (insG s.H i y) (insG A i (ka, kc))) (s.hn + 1))
            rw [insG_hf, e0, ← List.append_assoc]
            exact hown
          refine hK.out _ _ (SR.out V4 HB4.out) (fun _ => ?_)
          clear hK K hown hgr HO3 HB3 HBU
          try simp only [Act.put, List.setIfInBounds_toArray, List.set_cons_zero, List.set_cons_succ]
          rw [em]
          refine wpAnyH_take (i := 14) (oi := { dst := some 8, op := Go.Op.assign (Go.Operand.tmp 93), type := 24, pos := "ref.go:250", after := #[{ on := 13, ground := Go.Ground.data }, { on := 13, ground := Go.Ground.chain }, { on := 0, ground := Go.Ground.phase }, { on := 1, ground := Go.Ground.phase }, { on := 2, ground := Go.Ground.phase }, { on := 3, ground := Go.Ground.phase }, { on := 4, ground := Go.Ground.phase }, { on := 5, ground := Go.Ground.phase }, { on := 6, ground := Go.Ground.phase }, { on := 7, ground := Go.Ground.phase }, { on := 8, ground := Go.Ground.phase }, { on := 9, ground := Go.Ground.phase }, { on := 10, ground := Go.Ground.phase }, { on := 11, ground := Go.Ground.phase }, { on := 12, ground := Go.Ground.phase }, { on := 13, ground := Go.Ground.phase }], guard := none }) (v := ?_) rfl (by kernel_rfl) (by kernel_rfl) (by kernel_rfl) (fun _ _ _ h => h) (Or.inl ⟨by rfl, ?_⟩) (by assumption) ?_
          rotate_left
          · intro wz hSw; (try dsimp only at hSw); go_simp; (try with_reducible rfl)
          try simp only [Act.put, List.setIfInBounds_toArray, List.set_cons_zero, List.set_cons_succ]
          refine wpAnyH_done (by kernel_rfl) (NoPanic.normal ?_) _
          try simp only [Act.put, List.setIfInBounds_toArray, List.set_cons_zero, List.set_cons_succ]
          clear hHeld S0 SR em
          have HX4 : Hid (V4.heap[w.heap.size]? = some (.cells #[.int .i64 s.nu, .int .i64 s.a, .int .i64 s.b, .slice pa s.pn pc, .slice (some ⟨b, off, none⟩) s.hn hc] 26 (0, 0)) ∧ V4.heap[w.heap.size + 1]? = some (.cells #[.int .i64 y.id, .int .i64 y.am, .slice ka y.n kc] 29 (0, 0)) ∧ V4.heap[w.heap.size + 2]? = some (.cells #[.int .i64 0, .int .i64 0, .int .i64 0, .slice none 0 0, .slice none 0 0] 26 (0, 0)) ∧ Below w.heap.size w V4) := ⟨(HB4.out.block _ (lt_of_block HXr.out.1)).trans HXr.out.1, (HB4.out.block _ (lt_of_block HXr.out.2.1)).trans HXr.out.2.1, (HB4.out.block _ (lt_of_block HXr.out.2.2.1)).trans HXr.out.2.2.1, HB0.out.trans (HB4.out.mono HB0.out.size)⟩
          have HWI : Hid (Calls Tryd.prog 29 #[.agg #[.int .i64 s.nu, .int .i64 s.a, .int .i64 s.b, .slice pa s.pn pc, .slice (some ⟨b, off, none⟩) s.hn hc], .int .i64 0, .int .i64 (-y.am), .slice pa s.pn pc, .slice vx (s.hn + 1) vy] V4 fun e w' => e = .returned (.agg #[.int .i64 (s.nu + 1), .int .i64 (s.a + 0), .int .i64 (s.b + (-y.am)), .slice pa s.pn pc, .slice vx (s.hn + 1) vy]) ∧ Below V4.heap.size V4 w') := HWT.out pa s.pn pc vx (s.hn + 1) vy V4
          clear HXr HB0 HB4
          obtain ⟨c0, c1, c2, c3, c4, cf⟩ := five_of HX4.out.1
          obtain ⟨k0, k1, k2⟩ := hd_new (x := y) HX4.out.2.1 rfl
          have en := EN.out
          go_wp2_with fail
          refine (to_1 (-y.am) V4).mono ?_
          rintro e Vw ⟨rfl, hVw⟩
          rw [hVw]
          clear hVw
          go_wp2_with fail
          refine HWI.out.mono ?_
          rintro e V6 ⟨rfl, hb6⟩
          have HX6 : Hid (V6.heap[w.heap.size + 2]? = some (.cells #[.int .i64 0, .int .i64 0, .int .i64 0, .slice none 0 0, .slice none 0 0] 26 (0, 0)) ∧ Below w.heap.size w V6) := ⟨(hb6.block _ (lt_of_block HX4.out.2.2.1)).trans HX4.out.2.2.1, HX4.out.2.2.2.trans (hb6.mono HX4.out.2.2.2.size)⟩
          have HO6 : Hid (V6.ownsRow Wd.heap.size 29 3 (.slice vx (s.hn + 1) vy) (s.hn + 1) (flatL (hf (insG s.H i y) (insG A i (ka, kc))) (s.hn + 1))) := own_below HO4.out hb6
          clear c0 c1 c2 c3 c4 cf k0 k1 k2 HWI HO4 hb6 HX4 en
          obtain ⟨d0, d1, d2, d3, d4, df⟩ := five_of HX6.out.1
          go_wp2
          refine bodyPost_ret (results_R2 Tryd.results9 _ _ (w.heap.size + 2) 26 _ _ _ _ _ (0, 0) rfl (five_all HX6.out.1)) rfl ⟨⟨i, HIL.out, HLO.out, HHI.out, ⟨pa, pc, vx, vy⟩, by rw [HSV.out]; rfl, ?_⟩, five_below HX6.out.2 (by omega)⟩
          exact HFIN.out i HIL.out A vx vy _ Wd.heap.size HKS.out (by have h1 := HWS.out; omega) (five_below HX6.out.2 (by omega)) (own_keep HO6.out (fun g e => five_other (by have h1 := (HO6.out.lt g e).1; have h2 := HWS.out; omega)))
        · have HBU : Below Wd.heap.size Wd Wd := Below.refl _ _
          refine step_sliceR rfl (.tmp 86) rfl y ka kc (by rfl) ?_
          intro q V1 hq hle hb1
          have HBW : Hid (Below Wd.heap.size Wd V1) := Below.transS HBU hb1
          have HQ1 : Hid (V1.heap[q]? = some (.cells (hdv y ka kc) 29 (0, 0))) := hq
          refine hK.out _ _ (SR.out V1 HBW.out) (fun _ => ?_)
          try simp only [Act.put, List.setIfInBounds_toArray, List.set_cons_zero, List.set_cons_succ]
          (try rw [Nat.zero_add])
          clear hK K hq hle
          have HBV : Hid (Below Wd.heap.size Wd V1) := HBW.out
          clear hb1
          refine wpAnyH_ready (rs := [5]) (by kernel_rfl) (by simp) ?_
          refine (AllReadyH.cons (o := { dst := some 85, op := Go.Op.call { callee := Go.Callee.builtin Go.Builtin.append, args := #[Go.Operand.tmp 80, Go.Operand.tmp 84], argTypes := #[24, 24] }, type := 24, pos := "ref.go:250", after := #[{ on := 0, ground := Go.Ground.data }, { on := 4, ground := Go.Ground.data }], guard := none }) rfl (fun K hK => ?_) AllReadyH.nil)
          have HBU : Below Wd.heap.size Wd V1 := HBV.out
          refine step_append_R rfl (.tmp 80) (.tmp 84) rfl Wd.heap.size (.slice none 0 0) 0 [] (some ⟨b, off, none⟩) i hc (flatL (hf s.H A) i) (by rfl) (by rfl) (World.ownsRow_nil _ _ _ _) HBU.size ((HSR.out.below (HB0.out.trans (HBU.mono HB0.out.size))).take (hf_len _ _ _) HIL.out (by simp)) (flatL_length i (hf_len _ _ _)) (hf_one _ _ _) (by omega) ?_
          intro va vc V2 hown hgr
          rw [Nat.zero_add, List.nil_append] at hown
          have hb1 : Below V1.heap.size V1 V2 := ⟨hgr.os, hgr.tape, hgr.output, hgr.size, fun k hk => hgr.block k hk (by simp [Value.ownBlock])⟩
          have HO1 : Hid (V2.ownsRow Wd.heap.size 29 3 (.slice va i vc) i (flatL (hf s.H A) i)) := hown
          have HBW : Hid (Below Wd.heap.size Wd V2) := Below.transS HBU hb1
          have HQ : Hid (V2.heap[q]? = some (.cells (hdv y ka kc) 29 (0, 0))) := (hb1.block _ (lt_of_block HQ1.out)).trans HQ1.out
          have HO2 : Hid (V2.ownsRow Wd.heap.size 29 3 (.slice va i vc) i (flatL (hf s.H A) i)) := HO1.out
          refine hK.out _ _ (SR.out V2 HBW.out) (fun _ => ?_)
          try simp only [Act.put, List.setIfInBounds_toArray, List.set_cons_zero, List.set_cons_succ]
          (try rw [Nat.zero_add])
          clear hK K hown hgr hb1 HQ1 HO1 HBV HBU
          refine wpAnyH_ready (rs := [8]) (by kernel_rfl) (by simp) ?_
          refine (AllReadyH.cons (o := { dst := some 88, op := Go.Op.call { callee := Go.Callee.builtin Go.Builtin.append, args := #[Go.Operand.tmp 85, Go.Operand.tmp 87], argTypes := #[24, 24] }, type := 24, pos := "ref.go:250", after := #[{ on := 5, ground := Go.Ground.data }, { on := 7, ground := Go.Ground.data }, { on := 5, ground := Go.Ground.chain }], guard := none }) rfl (fun K hK => ?_) AllReadyH.nil)
          refine step_append_R rfl (.tmp 85) (.tmp 87) rfl Wd.heap.size (.slice va i vc) i (flatL (hf s.H A) i) (some ⟨q, 0, none⟩) 1 1 (hdl y ka kc) (by rfl) (by rfl) HO2.out HBW.out.size ⟨fun _ => ⟨q, 0, rfl, hdv_range HQ.out⟩, fun e => by cases e⟩ rfl (hdl_one y ka kc) (by omega) ?_
          intro vb vd V3 hown hgr
          have HO3 : Hid (V3.ownsRow Wd.heap.size 29 3 (.slice vb (i + 1) vd) (i + 1) (flatL (hf s.H A) i ++ hdl y ka kc)) := hown
          have HB3 : Hid (Below Wd.heap.size Wd V3) := grown_below HO2.out hgr HBW.out (Nat.le_refl _)
          refine hK.out _ _ (SR.out V3 HB3.out) (fun _ => ?_)
          clear hK K hown hgr HO2 HQ HBW
          try simp only [Act.put, List.setIfInBounds_toArray, List.set_cons_zero, List.set_cons_succ]
          refine wpAnyH_ready (rs := [13]) (by kernel_rfl) (by simp) ?_
          refine (AllReadyH.cons (o := { dst := some 93, op := Go.Op.call { callee := Go.Callee.builtin Go.Builtin.append, args := #[Go.Operand.tmp 88, Go.Operand.tmp 92], argTypes := #[24, 24] }, type := 24, pos := "ref.go:250", after := #[{ on := 8, ground := Go.Ground.data }, { on := 12, ground := Go.Ground.data }, { on := 8, ground := Go.Ground.chain }], guard := none }) rfl (fun K hK => ?_) AllReadyH.nil)
          have HBU : Below Wd.heap.size Wd V3 := HB3.out
          refine step_append_R rfl (.tmp 88) (.tmp 92) rfl Wd.heap.size (.slice vb (i + 1) vd) (i + 1) (flatL (hf s.H A) i ++ hdl y ka kc) ax (s.hn - i) (hc - i) (flatL (fun j => hf s.H A (i + j)) (s.hn - i)) (by rfl) (by rfl) HO3.out HBU.size (by rw [← HAX.out]; exact (HSR.out.below (HB0.out.trans (HBU.mono HB0.out.size))).drop (hf_len _ _ _) HIL.out HCP.out) (flatL_length _ (fun j hj => rfl)) (fun u hu => by
            obtain ⟨j, _, hj⟩ := flatL_mem _ hu
            exact hdl_one _ _ _ u hj) (by omega) ?_
          intro vx vy V4 hown hgr
          have em : i + 1 + (s.hn - i) = s.hn + 1 := by omega
          have HB4 : Hid (Below Wd.heap.size Wd V4) := grown_below HO3.out hgr HB3.out (Nat.le_refl _)
          rw [em] at hown
          have HO4 : Hid (V4.ownsRow Wd.heap.size 29 3 (.slice vx (s.hn + 1) vy) (s.hn + 1) (flatL (hf (insG s.H i y) (insG A i (ka, kc))) (s.hn + 1))) := by
            have e0 := insF_mid (hf s.H A) i (s.hn - i) (hdl y ka kc)
            rw [show i + (s.hn - i) + 1 = s.hn + 1 by omega] at e0
            show V4.ownsRow Wd.heap.size 29 3 (.slice vx (s.hn + 1) vy) (s.hn + 1) (flatL (hf (insG s.H i y) (insG A i (ka, kc))) (s.hn + 1))
            rw [insG_hf, e0, ← List.append_assoc]
            exact hown
          refine hK.out _ _ (SR.out V4 HB4.out) (fun _ => ?_)
          clear hK K hown hgr HO3 HB3 HBU
          try simp only [Act.put, List.setIfInBounds_toArray, List.set_cons_zero, List.set_cons_succ]
          rw [em]
          refine wpAnyH_take (i := 14) (oi := { dst := some 8, op := Go.Op.assign (Go.Operand.tmp 93), type := 24, pos := "ref.go:250", after := #[{ on := 13, ground := Go.Ground.data }, { on := 13, ground := Go.Ground.chain }, { on := 0, ground := Go.Ground.phase }, { on := 1, ground := Go.Ground.phase }, { on := 2, ground := Go.Ground.phase }, { on := 3, ground := Go.Ground.phase }, { on := 4, ground := Go.Ground.phase }, { on := 5, ground := Go.Ground.phase }, { on := 6, ground := Go.Ground.phase }, { on := 7, ground := Go.Ground.phase }, { on := 8, ground := Go.Ground.phase }, { on := 9, ground := Go.Ground.phase }, { on := 10, ground := Go.Ground.phase }, { on := 11, ground := Go.Ground.phase }, { on := 12, ground := Go.Ground.phase }, { on := 13, ground := Go.Ground.phase }], guard := none }) (v := ?_) rfl (by kernel_rfl) (by kernel_rfl) (by kernel_rfl) (fun _ _ _ h => h) (Or.inl ⟨by rfl, ?_⟩) (by assumption) ?_
          rotate_left
          · intro wz hSw; (try dsimp only at hSw); go_simp; (try with_reducible rfl)
          try simp only [Act.put, List.setIfInBounds_toArray, List.set_cons_zero, List.set_cons_succ]
          refine wpAnyH_done (by kernel_rfl) (NoPanic.normal ?_) _
          try simp only [Act.put, List.setIfInBounds_toArray, List.set_cons_zero, List.set_cons_succ]
          clear hHeld S0 SR em
          have HX4 : Hid (V4.heap[w.heap.size]? = some (.cells #[.int .i64 s.nu, .int .i64 s.a, .int .i64 s.b, .slice pa s.pn pc, .slice (some ⟨b, off, none⟩) s.hn hc] 26 (0, 0)) ∧ V4.heap[w.heap.size + 1]? = some (.cells #[.int .i64 y.id, .int .i64 y.am, .slice ka y.n kc] 29 (0, 0)) ∧ V4.heap[w.heap.size + 2]? = some (.cells #[.int .i64 0, .int .i64 0, .int .i64 0, .slice none 0 0, .slice none 0 0] 26 (0, 0)) ∧ Below w.heap.size w V4) := ⟨(HB4.out.block _ (lt_of_block HXr.out.1)).trans HXr.out.1, (HB4.out.block _ (lt_of_block HXr.out.2.1)).trans HXr.out.2.1, (HB4.out.block _ (lt_of_block HXr.out.2.2.1)).trans HXr.out.2.2.1, HB0.out.trans (HB4.out.mono HB0.out.size)⟩
          have HWI : Hid (Calls Tryd.prog 29 #[.agg #[.int .i64 s.nu, .int .i64 s.a, .int .i64 s.b, .slice pa s.pn pc, .slice (some ⟨b, off, none⟩) s.hn hc], .int .i64 0, .int .i64 (-y.am), .slice pa s.pn pc, .slice vx (s.hn + 1) vy] V4 fun e w' => e = .returned (.agg #[.int .i64 (s.nu + 1), .int .i64 (s.a + 0), .int .i64 (s.b + (-y.am)), .slice pa s.pn pc, .slice vx (s.hn + 1) vy]) ∧ Below V4.heap.size V4 w') := HWT.out pa s.pn pc vx (s.hn + 1) vy V4
          clear HXr HB0 HB4
          obtain ⟨c0, c1, c2, c3, c4, cf⟩ := five_of HX4.out.1
          obtain ⟨k0, k1, k2⟩ := hd_new (x := y) HX4.out.2.1 rfl
          have en := EN.out
          go_wp2_with fail
          refine (to_1 (-y.am) V4).mono ?_
          rintro e Vw ⟨rfl, hVw⟩
          rw [hVw]
          clear hVw
          go_wp2_with fail
          refine HWI.out.mono ?_
          rintro e V6 ⟨rfl, hb6⟩
          have HX6 : Hid (V6.heap[w.heap.size + 2]? = some (.cells #[.int .i64 0, .int .i64 0, .int .i64 0, .slice none 0 0, .slice none 0 0] 26 (0, 0)) ∧ Below w.heap.size w V6) := ⟨(hb6.block _ (lt_of_block HX4.out.2.2.1)).trans HX4.out.2.2.1, HX4.out.2.2.2.trans (hb6.mono HX4.out.2.2.2.size)⟩
          have HO6 : Hid (V6.ownsRow Wd.heap.size 29 3 (.slice vx (s.hn + 1) vy) (s.hn + 1) (flatL (hf (insG s.H i y) (insG A i (ka, kc))) (s.hn + 1))) := own_below HO4.out hb6
          clear c0 c1 c2 c3 c4 cf k0 k1 k2 HWI HO4 hb6 HX4 en
          obtain ⟨d0, d1, d2, d3, d4, df⟩ := five_of HX6.out.1
          go_wp2
          refine bodyPost_ret (results_R2 Tryd.results9 _ _ (w.heap.size + 2) 26 _ _ _ _ _ (0, 0) rfl (five_all HX6.out.1)) rfl ⟨⟨i, HIL.out, HLO.out, HHI.out, ⟨pa, pc, vx, vy⟩, by rw [HSV.out]; rfl, ?_⟩, five_below HX6.out.2 (by omega)⟩
          exact HFIN.out i HIL.out A vx vy _ Wd.heap.size HKS.out (by have h1 := HWS.out; omega) (five_below HX6.out.2 (by omega)) (own_keep HO6.out (fun g e => five_other (by have h1 := (HO6.out.lt g e).1; have h2 := HWS.out; omega)))
    · have hin : i = s.hn := by omega
      have hnn : ¬ ((i : Int) < s.hn) := by omega
      have HHI : Hid (i < s.hn → y.id ≤ (s.H i).id) := fun h => absurd h hlt
      obtain ⟨pa, pc, ha, hc⟩ := p
      cases ha with
      | none =>
        obtain ⟨hn0, hc0⟩ := HKP.out.2.2 rfl
        dsimp only at hc0
        subst hc0
        obtain rfl : i = 0 := by omega
        clear hin
        dsimp only at *
        have S0 : wr.drew.cell? ⟨w.heap.size, 4, none⟩ = some (.slice none s.hn 0) := (five_of HX.out.1).c4
        go_upto_region 17 with fail
        refine wp_region_noPanic ?_
        refine wp_region_held_drew (S := fun u => u.cell? ⟨w.heap.size, 4, none⟩ = some (.slice none s.hn 0)) (by kernel_rfl) S0 (fun hHeld => ?_)
        refine wpAnyH_take (i := 0) (oi := { dst := some 62, op := Go.Op.move (Go.Operand.tmp 9), type := 3, pos := "ref.go:247", after := #[], guard := none }) (v := ?_) rfl (by kernel_rfl) (by kernel_rfl) (by kernel_rfl) (fun _ _ _ h => h) (Or.inl ⟨by rfl, ?_⟩) (by assumption) ?_
        rotate_left
        · intro wz hSw; (try dsimp only at hSw); go_simp; (try with_reducible rfl)
        try simp only [Act.put, List.setIfInBounds_toArray, List.set_cons_zero, List.set_cons_succ]
        refine wpAnyH_take (i := 1) (oi := { dst := some 63, op := Go.Op.fieldAddr 26 (Go.Operand.tmp 3) 3, type := 0, pos := "ref.go:247", after := #[], guard := none }) (v := ?_) rfl (by kernel_rfl) (by kernel_rfl) (by kernel_rfl) (fun _ _ _ h => h) (Or.inl ⟨by rfl, ?_⟩) (by assumption) ?_
        rotate_left
        · intro wz hSw; (try dsimp only at hSw); go_simp; (try with_reducible rfl)
        try simp only [Act.put, List.setIfInBounds_toArray, List.set_cons_zero, List.set_cons_succ]
        refine wpAnyH_take (i := 2) (oi := { dst := some 64, op := Go.Op.load 24 (Go.Operand.tmp 63), type := 24, pos := "ref.go:247", after := #[{ on := 1, ground := Go.Ground.data }], guard := none }) (v := ?_) rfl (by kernel_rfl) (by kernel_rfl) (by kernel_rfl) (fun _ _ _ h => h) (Or.inl ⟨by rfl, ?_⟩) (by assumption) ?_
        rotate_left
        · intro wz hSw; (try dsimp only at hSw); go_simp; (try with_reducible rfl)
        try simp only [Act.put, List.setIfInBounds_toArray, List.set_cons_zero, List.set_cons_succ]
        refine wpAnyH_take (i := 3) (oi := { dst := some 65, op := Go.Op.call { callee := Go.Callee.builtin Go.Builtin.len, args := #[Go.Operand.tmp 64], argTypes := #[24] }, type := 3, pos := "ref.go:247", after := #[{ on := 2, ground := Go.Ground.data }], guard := none }) (v := ?_) rfl (by kernel_rfl) (by kernel_rfl) (by kernel_rfl) (fun _ _ _ h => h) (Or.inl ⟨by rfl, ?_⟩) (by assumption) ?_
        rotate_left
        · intro wz hSw; (try dsimp only at hSw); go_simp; (try with_reducible rfl)
        try simp only [Act.put, List.setIfInBounds_toArray, List.set_cons_zero, List.set_cons_succ]
        refine wpAnyH_take (i := 4) (oi := { dst := some 66, op := Go.Op.binOp Go.BinOp.lss 3 (Go.Operand.tmp 62) (Go.Operand.tmp 65) 3, type := 4, pos := "ref.go:247", after := #[{ on := 0, ground := Go.Ground.data }, { on := 3, ground := Go.Ground.data }], guard := none }) (v := ?_) rfl (by kernel_rfl) (by kernel_rfl) (by kernel_rfl) (fun _ _ _ h => h) (Or.inl ⟨by rfl, ?_⟩) (by assumption) ?_
        rotate_left
        · intro wz hSw; (try dsimp only at hSw); go_simp; (try with_reducible rfl)
        try simp only [Act.put, List.setIfInBounds_toArray, List.set_cons_zero, List.set_cons_succ]
        refine wpAnyH_take (i := 5) (oi := { dst := some 67, op := Go.Op.move (Go.Operand.tmp 66), type := 4, pos := "ref.go:247", after := #[{ on := 4, ground := Go.Ground.data }], guard := none }) (v := ?_) rfl (by kernel_rfl) (by kernel_rfl) (by kernel_rfl) (fun _ _ _ h => h) (Or.inl ⟨by rfl, ?_⟩) (by assumption) ?_
        rotate_left
        · intro wz hSw; (try dsimp only at hSw); go_simp; (try with_reducible rfl)
        try simp only [Act.put, List.setIfInBounds_toArray, List.set_cons_zero, List.set_cons_succ]
        refine wpAnyH_take (i := 6) (oi := { dst := some 68, op := Go.Op.fieldAddr 26 (Go.Operand.tmp 3) 3, type := 0, pos := "ref.go:247", after := #[{ on := 5, ground := Go.Ground.guard }], guard := some (5, true) }) (v := undef) rfl (by kernel_rfl) (by kernel_rfl) (by kernel_rfl) (fun _ _ _ h => h) (Or.inr ⟨by rfl, rfl⟩) (by assumption) ?_
        try simp only [Act.put, List.setIfInBounds_toArray, List.set_cons_zero, List.set_cons_succ]
        refine wpAnyH_take (i := 7) (oi := { dst := some 69, op := Go.Op.load 24 (Go.Operand.tmp 68), type := 24, pos := "ref.go:247", after := #[{ on := 6, ground := Go.Ground.data }, { on := 5, ground := Go.Ground.guard }], guard := some (5, true) }) (v := undef) rfl (by kernel_rfl) (by kernel_rfl) (by kernel_rfl) (fun _ _ _ h => h) (Or.inr ⟨by rfl, rfl⟩) (by assumption) ?_
        try simp only [Act.put, List.setIfInBounds_toArray, List.set_cons_zero, List.set_cons_succ]
        refine wpAnyH_take (i := 8) (oi := { dst := some 70, op := Go.Op.move (Go.Operand.tmp 9), type := 3, pos := "ref.go:247", after := #[{ on := 5, ground := Go.Ground.guard }], guard := some (5, true) }) (v := undef) rfl (by kernel_rfl) (by kernel_rfl) (by kernel_rfl) (fun _ _ _ h => h) (Or.inr ⟨by rfl, rfl⟩) (by assumption) ?_
        try simp only [Act.put, List.setIfInBounds_toArray, List.set_cons_zero, List.set_cons_succ]
        refine wpAnyH_take (i := 9) (oi := { dst := some 71, op := Go.Op.indexAddr 24 (Go.Operand.tmp 69) (Go.Operand.tmp 70), type := 0, pos := "ref.go:247", after := #[{ on := 7, ground := Go.Ground.data }, { on := 8, ground := Go.Ground.data }, { on := 5, ground := Go.Ground.guard }], guard := some (5, true) }) (v := undef) rfl (by kernel_rfl) (by kernel_rfl) (by kernel_rfl) (fun _ _ _ h => h) (Or.inr ⟨by rfl, rfl⟩) (by assumption) ?_
        try simp only [Act.put, List.setIfInBounds_toArray, List.set_cons_zero, List.set_cons_succ]
        refine wpAnyH_take (i := 10) (oi := { dst := some 72, op := Go.Op.fieldAddr 29 (Go.Operand.tmp 71) 0, type := 0, pos := "ref.go:247", after := #[{ on := 9, ground := Go.Ground.data }, { on := 5, ground := Go.Ground.guard }], guard := some (5, true) }) (v := undef) rfl (by kernel_rfl) (by kernel_rfl) (by kernel_rfl) (fun _ _ _ h => h) (Or.inr ⟨by rfl, rfl⟩) (by assumption) ?_
        try simp only [Act.put, List.setIfInBounds_toArray, List.set_cons_zero, List.set_cons_succ]
        refine wpAnyH_take (i := 11) (oi := { dst := some 73, op := Go.Op.load 3 (Go.Operand.tmp 72), type := 3, pos := "ref.go:247", after := #[{ on := 10, ground := Go.Ground.data }, { on := 5, ground := Go.Ground.guard }], guard := some (5, true) }) (v := undef) rfl (by kernel_rfl) (by kernel_rfl) (by kernel_rfl) (fun _ _ _ h => h) (Or.inr ⟨by rfl, rfl⟩) (by assumption) ?_
        try simp only [Act.put, List.setIfInBounds_toArray, List.set_cons_zero, List.set_cons_succ]
        refine wpAnyH_take (i := 12) (oi := { dst := some 74, op := Go.Op.fieldAddr 29 (Go.Operand.tmp 5) 0, type := 0, pos := "ref.go:247", after := #[{ on := 5, ground := Go.Ground.guard }], guard := some (5, true) }) (v := undef) rfl (by kernel_rfl) (by kernel_rfl) (by kernel_rfl) (fun _ _ _ h => h) (Or.inr ⟨by rfl, rfl⟩) (by assumption) ?_
        try simp only [Act.put, List.setIfInBounds_toArray, List.set_cons_zero, List.set_cons_succ]
        refine wpAnyH_take (i := 13) (oi := { dst := some 75, op := Go.Op.load 3 (Go.Operand.tmp 74), type := 3, pos := "ref.go:247", after := #[{ on := 12, ground := Go.Ground.data }, { on := 5, ground := Go.Ground.guard }], guard := some (5, true) }) (v := undef) rfl (by kernel_rfl) (by kernel_rfl) (by kernel_rfl) (fun _ _ _ h => h) (Or.inr ⟨by rfl, rfl⟩) (by assumption) ?_
        try simp only [Act.put, List.setIfInBounds_toArray, List.set_cons_zero, List.set_cons_succ]
        refine wpAnyH_take (i := 14) (oi := { dst := some 76, op := Go.Op.binOp Go.BinOp.lss 3 (Go.Operand.tmp 73) (Go.Operand.tmp 75) 3, type := 4, pos := "ref.go:247", after := #[{ on := 11, ground := Go.Ground.data }, { on := 13, ground := Go.Ground.data }, { on := 5, ground := Go.Ground.guard }], guard := some (5, true) }) (v := undef) rfl (by kernel_rfl) (by kernel_rfl) (by kernel_rfl) (fun _ _ _ h => h) (Or.inr ⟨by rfl, rfl⟩) (by assumption) ?_
        try simp only [Act.put, List.setIfInBounds_toArray, List.set_cons_zero, List.set_cons_succ]
        refine wpAnyH_take (i := 15) (oi := { dst := some 77, op := Go.Op.pick (Go.Operand.tmp 67) (Go.Operand.tmp 76) (Go.Operand.const (Go.Value.bool false)), type := 4, pos := "ref.go:247", after := #[{ on := 5, ground := Go.Ground.data }, { on := 14, ground := Go.Ground.data }], guard := none }) (v := ?_) rfl (by kernel_rfl) (by kernel_rfl) (by kernel_rfl) (fun _ _ _ h => h) (Or.inl ⟨by rfl, ?_⟩) (by assumption) ?_
        rotate_left
        · intro wz hSw; (try dsimp only at hSw); go_simp; (try with_reducible rfl)
        try simp only [Act.put, List.setIfInBounds_toArray, List.set_cons_zero, List.set_cons_succ]
        refine wpAnyH_done (by kernel_rfl) (NoPanic.normal ?_) _
        try simp only [Act.put, List.setIfInBounds_toArray, List.set_cons_zero, List.set_cons_succ]
        have HX1 : Hid (wr.drew.drew.heap[w.heap.size]? = some (.cells #[.int .i64 s.nu, .int .i64 s.a, .int .i64 s.b, .slice pa s.pn pc, .slice none s.hn 0] 26 (0, 0)) ∧ wr.drew.drew.heap[w.heap.size + 1]? = some (.cells #[.int .i64 y.id, .int .i64 y.am, .slice ka y.n kc] 29 (0, 0)) ∧ wr.drew.drew.heap[w.heap.size + 2]? = some (.cells #[.int .i64 0, .int .i64 0, .int .i64 0, .slice none 0 0, .slice none 0 0] 26 (0, 0)) ∧ Below w.heap.size w wr.drew.drew) := ⟨HX.out.1, HX.out.2.1, HX.out.2.2.1, HX.out.2.2.2.drew.drew⟩
        have HN0 : Hid (s.hn = 0) := hn0
        clear hHeld S0 hnn hn0
        generalize wr.drew = Wy at *
        go_wp2_with fail
        generalize hWd : Wy.drew = Wd at HX1
        have HXr : Hid (Wd.heap[w.heap.size]? = some (.cells #[.int .i64 s.nu, .int .i64 s.a, .int .i64 s.b, .slice pa s.pn pc, .slice none s.hn 0] 26 (0, 0)) ∧ Wd.heap[w.heap.size + 1]? = some (.cells #[.int .i64 y.id, .int .i64 y.am, .slice ka y.n kc] 29 (0, 0)) ∧ Wd.heap[w.heap.size + 2]? = some (.cells #[.int .i64 0, .int .i64 0, .int .i64 0, .slice none 0 0, .slice none 0 0] 26 (0, 0)) ∧ Below w.heap.size w Wd) := HX1.out
        have HWS : Hid (w.heap.size + 2 < Wd.heap.size) := lt_of_block HX1.out.2.2.1
        clear HX1 HX
        have HB0 : Hid (Below w.heap.size w Wd) := HXr.out.2.2.2
        have SR : Hid (∀ u, Below Wd.heap.size Wd u → u.rangeAt (w.heap.size + 1) 0 (hdl y ka kc) ∧ u.cell? ⟨w.heap.size, 4, none⟩ = some (.slice none s.hn 0)) := fun u hb => ⟨range_below (hdv_range HXr.out.2.1) hb, by rw [hb.cell (p := ⟨w.heap.size, 4, none⟩) (lt_of_block HXr.out.1)]; exact (five_of HXr.out.1).c4⟩
        have S0 := SR.out Wd (Below.refl _ _)
        refine wp_region_noPanic ?_
        refine wp_region_held_drew (S := fun u => u.rangeAt (w.heap.size + 1) 0 (hdl y ka kc) ∧ u.cell? ⟨w.heap.size, 4, none⟩ = some (.slice none s.hn 0)) (by kernel_rfl) (by rw [hWd]; exact S0) (fun hHeld => ?_)
        rw [hWd] at hHeld ⊢
        clear hWd
        refine wpAnyH_take (i := 0) (oi := { dst := some 80, op := Go.Op.move (Go.Operand.tmp 8), type := 24, pos := "ref.go:250", after := #[], guard := none }) (v := ?_) rfl (by kernel_rfl) (by kernel_rfl) (by kernel_rfl) (fun _ _ _ h => h) (Or.inl ⟨by rfl, ?_⟩) (by assumption) ?_
        rotate_left
        · intro wz hSw; (try dsimp only at hSw); go_simp; (try with_reducible rfl)
        try simp only [Act.put, List.setIfInBounds_toArray, List.set_cons_zero, List.set_cons_succ]
        refine wpAnyH_take (i := 1) (oi := { dst := some 81, op := Go.Op.fieldAddr 26 (Go.Operand.tmp 3) 3, type := 0, pos := "ref.go:250", after := #[], guard := none }) (v := ?_) rfl (by kernel_rfl) (by kernel_rfl) (by kernel_rfl) (fun _ _ _ h => h) (Or.inl ⟨by rfl, ?_⟩) (by assumption) ?_
        rotate_left
        · intro wz hSw; (try dsimp only at hSw); go_simp; (try with_reducible rfl)
        try simp only [Act.put, List.setIfInBounds_toArray, List.set_cons_zero, List.set_cons_succ]
        refine wpAnyH_take (i := 2) (oi := { dst := some 82, op := Go.Op.load 24 (Go.Operand.tmp 81), type := 24, pos := "ref.go:250", after := #[{ on := 1, ground := Go.Ground.data }], guard := none }) (v := ?_) rfl (by kernel_rfl) (by kernel_rfl) (by kernel_rfl) (fun _ _ _ h => h) (Or.inl ⟨by rfl, ?_⟩) (by assumption) ?_
        rotate_left
        · intro wz hSw; (try dsimp only at hSw); go_simp; (try with_reducible rfl)
        try simp only [Act.put, List.setIfInBounds_toArray, List.set_cons_zero, List.set_cons_succ]
        refine wpAnyH_take (i := 3) (oi := { dst := some 83, op := Go.Op.move (Go.Operand.tmp 9), type := 3, pos := "ref.go:250", after := #[], guard := none }) (v := ?_) rfl (by kernel_rfl) (by kernel_rfl) (by kernel_rfl) (fun _ _ _ h => h) (Or.inl ⟨by rfl, ?_⟩) (by assumption) ?_
        rotate_left
        · intro wz hSw; (try dsimp only at hSw); go_simp; (try with_reducible rfl)
        try simp only [Act.put, List.setIfInBounds_toArray, List.set_cons_zero, List.set_cons_succ]
        refine wpAnyH_take (i := 4) (oi := { dst := some 84, op := Go.Op.slice 24 (Go.Operand.tmp 82) none (some (Go.Operand.tmp 83)) none, type := 24, pos := "ref.go:250", after := #[{ on := 2, ground := Go.Ground.data }, { on := 3, ground := Go.Ground.data }], guard := none }) (v := .slice none 0 0) rfl (by kernel_rfl) (by kernel_rfl) (by kernel_rfl) (fun _ _ _ h => h) (Or.inl ⟨by rfl, ?_⟩) (by assumption) ?_
        · intro wz hSw; (try dsimp only at hSw); go_simp; try (intro hbad; have h1 := HCP.out; omega)
        try simp only [Act.put, List.setIfInBounds_toArray, List.set_cons_zero, List.set_cons_succ]
        refine wpAnyH_take (i := 6) (oi := { dst := some 86, op := Go.Op.load 29 (Go.Operand.tmp 5), type := 29, pos := "ref.go:250", after := #[], guard := none }) rfl (by kernel_rfl) (by kernel_rfl) (by kernel_rfl) (fun _ _ _ h => h) (yieldsIf_load_mid (by rfl) _ _ rfl (w.heap.size + 1) 0 rfl (hdl y ka kc) _ (fun _ h => h.1) Tryd.underlying29 rfl szHr) (by assumption) ?_
        try simp only [Act.put, List.setIfInBounds_toArray, List.set_cons_zero, List.set_cons_succ]
        refine wpAnyH_take (i := 9) (oi := { dst := some 89, op := Go.Op.fieldAddr 26 (Go.Operand.tmp 3) 3, type := 0, pos := "ref.go:250", after := #[], guard := none }) (v := ?_) rfl (by kernel_rfl) (by kernel_rfl) (by kernel_rfl) (fun _ _ _ h => h) (Or.inl ⟨by rfl, ?_⟩) (by assumption) ?_
        rotate_left
        · intro wz hSw; (try dsimp only at hSw); go_simp; (try with_reducible rfl)
        try simp only [Act.put, List.setIfInBounds_toArray, List.set_cons_zero, List.set_cons_succ]
        refine wpAnyH_take (i := 10) (oi := { dst := some 90, op := Go.Op.load 24 (Go.Operand.tmp 89), type := 24, pos := "ref.go:250", after := #[{ on := 9, ground := Go.Ground.data }], guard := none }) (v := ?_) rfl (by kernel_rfl) (by kernel_rfl) (by kernel_rfl) (fun _ _ _ h => h) (Or.inl ⟨by rfl, ?_⟩) (by assumption) ?_
        rotate_left
        · intro wz hSw; (try dsimp only at hSw); go_simp; (try with_reducible rfl)
        try simp only [Act.put, List.setIfInBounds_toArray, List.set_cons_zero, List.set_cons_succ]
        refine wpAnyH_take (i := 11) (oi := { dst := some 91, op := Go.Op.move (Go.Operand.tmp 9), type := 3, pos := "ref.go:250", after := #[], guard := none }) (v := ?_) rfl (by kernel_rfl) (by kernel_rfl) (by kernel_rfl) (fun _ _ _ h => h) (Or.inl ⟨by rfl, ?_⟩) (by assumption) ?_
        rotate_left
        · intro wz hSw; (try dsimp only at hSw); go_simp; (try with_reducible rfl)
        try simp only [Act.put, List.setIfInBounds_toArray, List.set_cons_zero, List.set_cons_succ]
        refine wpAnyH_take (i := 12) (oi := { dst := some 92, op := Go.Op.slice 24 (Go.Operand.tmp 90) (some (Go.Operand.tmp 91)) none none, type := 24, pos := "ref.go:250", after := #[{ on := 10, ground := Go.Ground.data }, { on := 11, ground := Go.Ground.data }], guard := none }) (v := .slice none s.hn 0) rfl (by kernel_rfl) (by kernel_rfl) (by kernel_rfl) (fun _ _ _ h => h) (Or.inl ⟨by rfl, ?_⟩) (by assumption) ?_
        · intro wz hSw; (try dsimp only at hSw); go_simp; try (intro hbad; have h1 := HCP.out; omega)
        try simp only [Act.put, List.setIfInBounds_toArray, List.set_cons_zero, List.set_cons_succ]
        refine wpAnyH_ready (rs := [5, 7]) (by kernel_rfl) (by simp) ?_
        refine (AllReadyH.cons (o := { dst := some 85, op := Go.Op.call { callee := Go.Callee.builtin Go.Builtin.append, args := #[Go.Operand.tmp 80, Go.Operand.tmp 84], argTypes := #[24, 24] }, type := 24, pos := "ref.go:250", after := #[{ on := 0, ground := Go.Ground.data }, { on := 4, ground := Go.Ground.data }], guard := none }) rfl (fun K hK => ?_) (AllReadyH.cons (o := { dst := some 87, op := Go.Op.buildSlice 24 1 #[(0, Go.Operand.tmp 86)], type := 24, pos := "ref.go:250", after := #[{ on := 6, ground := Go.Ground.data }], guard := none }) rfl (fun K hK => ?_) AllReadyH.nil))
        · have HBU : Below Wd.heap.size Wd Wd := Below.refl _ _
          refine step_append_R rfl (.tmp 80) (.tmp 84) rfl Wd.heap.size (.slice none 0 0) 0 [] none 0 0 (flatL (hf s.H A) 0) (by rfl) (by rfl) (World.ownsRow_nil _ _ _ _) HBU.size ⟨fun h => absurd h (Nat.lt_irrefl _), fun _ => ⟨rfl, rfl⟩⟩ (flatL_length 0 (hf_len _ _ _)) (hf_one _ _ _) (by omega) ?_
          intro va vc V1 hown hgr
          rw [Nat.zero_add, List.nil_append] at hown
          have hb1 : Below Wd.heap.size Wd V1 := ⟨hgr.os, hgr.tape, hgr.output, hgr.size, fun k hk => hgr.block k hk (by simp [Value.ownBlock])⟩
          have HO1 : Hid (V1.ownsRow Wd.heap.size 29 3 (.slice va 0 vc) 0 (flatL (hf s.H A) 0)) := hown
          have HBW : Hid (Below Wd.heap.size Wd V1) := Below.transS HBU hb1
          refine hK.out _ _ (SR.out V1 HBW.out) (fun _ => ?_)
          try simp only [Act.put, List.setIfInBounds_toArray, List.set_cons_zero, List.set_cons_succ]
          (try rw [Nat.zero_add])
          clear hK K hown hgr
          have HBV : Hid (Below Wd.heap.size Wd V1) := HBW.out
          clear hb1
          refine wpAnyH_ready (rs := [7]) (by kernel_rfl) (by simp) ?_
          refine (AllReadyH.cons (o := { dst := some 87, op := Go.Op.buildSlice 24 1 #[(0, Go.Operand.tmp 86)], type := 24, pos := "ref.go:250", after := #[{ on := 6, ground := Go.Ground.data }], guard := none }) rfl (fun K hK => ?_) AllReadyH.nil)
          have HBU : Below Wd.heap.size Wd V1 := HBV.out
          refine step_sliceR rfl (.tmp 86) rfl y ka kc (by rfl) ?_
          intro q V2 hq hle hb1
          have HBW : Hid (Below Wd.heap.size Wd V2) := Below.transS HBU hb1
          have HO2 : Hid (V2.ownsRow Wd.heap.size 29 3 (.slice va 0 vc) 0 (flatL (hf s.H A) 0)) := own_below HO1.out hb1
          have HQ : Hid (V2.heap[q]? = some (.cells (hdv y ka kc) 29 (0, 0))) := hq
          refine hK.out _ _ (SR.out V2 HBW.out) (fun _ => ?_)
          try simp only [Act.put, List.setIfInBounds_toArray, List.set_cons_zero, List.set_cons_succ]
          (try rw [Nat.zero_add])
          clear hK K hq hle hb1 HO1 HBV HBU
          refine wpAnyH_ready (rs := [8]) (by kernel_rfl) (by simp) ?_
          refine (AllReadyH.cons (o := { dst := some 88, op := Go.Op.call { callee := Go.Callee.builtin Go.Builtin.append, args := #[Go.Operand.tmp 85, Go.Operand.tmp 87], argTypes := #[24, 24] }, type := 24, pos := "ref.go:250", after := #[{ on := 5, ground := Go.Ground.data }, { on := 7, ground := Go.Ground.data }, { on := 5, ground := Go.Ground.chain }], guard := none }) rfl (fun K hK => ?_) AllReadyH.nil)
          refine step_append_R rfl (.tmp 85) (.tmp 87) rfl Wd.heap.size (.slice va 0 vc) 0 (flatL (hf s.H A) 0) (some ⟨q, 0, none⟩) 1 1 (hdl y ka kc) (by rfl) (by rfl) HO2.out HBW.out.size ⟨fun _ => ⟨q, 0, rfl, hdv_range HQ.out⟩, fun e => by cases e⟩ rfl (hdl_one y ka kc) (by omega) ?_
          intro vb vd V3 hown hgr
          have HO3 : Hid (V3.ownsRow Wd.heap.size 29 3 (.slice vb (0 + 1) vd) (0 + 1) (flatL (hf s.H A) 0 ++ hdl y ka kc)) := hown
          have HB3 : Hid (Below Wd.heap.size Wd V3) := grown_below HO2.out hgr HBW.out (Nat.le_refl _)
          refine hK.out _ _ (SR.out V3 HB3.out) (fun _ => ?_)
          clear hK K hown hgr HO2 HQ HBW
          try simp only [Act.put, List.setIfInBounds_toArray, List.set_cons_zero, List.set_cons_succ]
          refine wpAnyH_ready (rs := [13]) (by kernel_rfl) (by simp) ?_
          refine (AllReadyH.cons (o := { dst := some 93, op := Go.Op.call { callee := Go.Callee.builtin Go.Builtin.append, args := #[Go.Operand.tmp 88, Go.Operand.tmp 92], argTypes := #[24, 24] }, type := 24, pos := "ref.go:250", after := #[{ on := 8, ground := Go.Ground.data }, { on := 12, ground := Go.Ground.data }, { on := 8, ground := Go.Ground.chain }], guard := none }) rfl (fun K hK => ?_) AllReadyH.nil)
          have HBU : Below Wd.heap.size Wd V3 := HB3.out
          refine step_append_R rfl (.tmp 88) (.tmp 92) rfl Wd.heap.size (.slice vb (0 + 1) vd) (0 + 1) (flatL (hf s.H A) 0 ++ hdl y ka kc) none (s.hn) (0) (flatL (fun j => hf s.H A (0 + j)) (s.hn)) (by rfl) (by rfl) HO3.out HBU.size ⟨fun h => absurd h (by have := HN0.out; omega), fun _ => ⟨HN0.out, rfl⟩⟩ (flatL_length _ (fun j hj => rfl)) (fun u hu => by
            obtain ⟨j, _, hj⟩ := flatL_mem _ hu
            exact hdl_one _ _ _ u hj) (by omega) ?_
          intro vx vy V4 hown hgr
          have em : 0 + 1 + (s.hn) = s.hn + 1 := by omega
          have HB4 : Hid (Below Wd.heap.size Wd V4) := grown_below HO3.out hgr HB3.out (Nat.le_refl _)
          rw [em] at hown
          have HO4 : Hid (V4.ownsRow Wd.heap.size 29 3 (.slice vx (s.hn + 1) vy) (s.hn + 1) (flatL (hf (insG s.H 0 y) (insG A 0 (ka, kc))) (s.hn + 1))) := by
            have e0 := insF_mid (hf s.H A) 0 (s.hn) (hdl y ka kc)
            rw [show 0 + (s.hn) + 1 = s.hn + 1 by omega] at e0
            show V4.ownsRow Wd.heap.size 29 3 (.slice vx (s.hn + 1) vy) (s.hn + 1) (flatL (hf (insG s.H 0 y) (insG A 0 (ka, kc))) (s.hn + 1))
            rw [insG_hf, e0, ← List.append_assoc]
            exact hown
          refine hK.out _ _ (SR.out V4 HB4.out) (fun _ => ?_)
          clear hK K hown hgr HO3 HB3 HBU
          try simp only [Act.put, List.setIfInBounds_toArray, List.set_cons_zero, List.set_cons_succ]
          rw [em]
          refine wpAnyH_take (i := 14) (oi := { dst := some 8, op := Go.Op.assign (Go.Operand.tmp 93), type := 24, pos := "ref.go:250", after := #[{ on := 13, ground := Go.Ground.data }, { on := 13, ground := Go.Ground.chain }, { on := 0, ground := Go.Ground.phase }, { on := 1, ground := Go.Ground.phase }, { on := 2, ground := Go.Ground.phase }, { on := 3, ground := Go.Ground.phase }, { on := 4, ground := Go.Ground.phase }, { on := 5, ground := Go.Ground.phase }, { on := 6, ground := Go.Ground.phase }, { on := 7, ground := Go.Ground.phase }, { on := 8, ground := Go.Ground.phase }, { on := 9, ground := Go.Ground.phase }, { on := 10, ground := Go.Ground.phase }, { on := 11, ground := Go.Ground.phase }, { on := 12, ground := Go.Ground.phase }, { on := 13, ground := Go.Ground.phase }], guard := none }) (v := ?_) rfl (by kernel_rfl) (by kernel_rfl) (by kernel_rfl) (fun _ _ _ h => h) (Or.inl ⟨by rfl, ?_⟩) (by assumption) ?_
          rotate_left
          · intro wz hSw; (try dsimp only at hSw); go_simp; (try with_reducible rfl)
          try simp only [Act.put, List.setIfInBounds_toArray, List.set_cons_zero, List.set_cons_succ]
          refine wpAnyH_done (by kernel_rfl) (NoPanic.normal ?_) _
          try simp only [Act.put, List.setIfInBounds_toArray, List.set_cons_zero, List.set_cons_succ]
          clear hHeld S0 SR em
          have HX4 : Hid (V4.heap[w.heap.size]? = some (.cells #[.int .i64 s.nu, .int .i64 s.a, .int .i64 s.b, .slice pa s.pn pc, .slice none s.hn 0] 26 (0, 0)) ∧ V4.heap[w.heap.size + 1]? = some (.cells #[.int .i64 y.id, .int .i64 y.am, .slice ka y.n kc] 29 (0, 0)) ∧ V4.heap[w.heap.size + 2]? = some (.cells #[.int .i64 0, .int .i64 0, .int .i64 0, .slice none 0 0, .slice none 0 0] 26 (0, 0)) ∧ Below w.heap.size w V4) := ⟨(HB4.out.block _ (lt_of_block HXr.out.1)).trans HXr.out.1, (HB4.out.block _ (lt_of_block HXr.out.2.1)).trans HXr.out.2.1, (HB4.out.block _ (lt_of_block HXr.out.2.2.1)).trans HXr.out.2.2.1, HB0.out.trans (HB4.out.mono HB0.out.size)⟩
          have HWI : Hid (Calls Tryd.prog 29 #[.agg #[.int .i64 s.nu, .int .i64 s.a, .int .i64 s.b, .slice pa s.pn pc, .slice none s.hn 0], .int .i64 0, .int .i64 (-y.am), .slice pa s.pn pc, .slice vx (s.hn + 1) vy] V4 fun e w' => e = .returned (.agg #[.int .i64 (s.nu + 1), .int .i64 (s.a + 0), .int .i64 (s.b + (-y.am)), .slice pa s.pn pc, .slice vx (s.hn + 1) vy]) ∧ Below V4.heap.size V4 w') := HWT.out pa s.pn pc vx (s.hn + 1) vy V4
          clear HXr HB0 HB4
          obtain ⟨c0, c1, c2, c3, c4, cf⟩ := five_of HX4.out.1
          obtain ⟨k0, k1, k2⟩ := hd_new (x := y) HX4.out.2.1 rfl
          have en := EN.out
          go_wp2_with fail
          refine (to_1 (-y.am) V4).mono ?_
          rintro e Vw ⟨rfl, hVw⟩
          rw [hVw]
          clear hVw
          go_wp2_with fail
          refine HWI.out.mono ?_
          rintro e V6 ⟨rfl, hb6⟩
          have HX6 : Hid (V6.heap[w.heap.size + 2]? = some (.cells #[.int .i64 0, .int .i64 0, .int .i64 0, .slice none 0 0, .slice none 0 0] 26 (0, 0)) ∧ Below w.heap.size w V6) := ⟨(hb6.block _ (lt_of_block HX4.out.2.2.1)).trans HX4.out.2.2.1, HX4.out.2.2.2.trans (hb6.mono HX4.out.2.2.2.size)⟩
          have HO6 : Hid (V6.ownsRow Wd.heap.size 29 3 (.slice vx (s.hn + 1) vy) (s.hn + 1) (flatL (hf (insG s.H 0 y) (insG A 0 (ka, kc))) (s.hn + 1))) := own_below HO4.out hb6
          clear c0 c1 c2 c3 c4 cf k0 k1 k2 HWI HO4 hb6 HX4 en
          obtain ⟨d0, d1, d2, d3, d4, df⟩ := five_of HX6.out.1
          go_wp2
          refine bodyPost_ret (results_R2 Tryd.results9 _ _ (w.heap.size + 2) 26 _ _ _ _ _ (0, 0) rfl (five_all HX6.out.1)) rfl ⟨⟨0, HIL.out, HLO.out, HHI.out, ⟨pa, pc, vx, vy⟩, by rw [HSV.out]; rfl, ?_⟩, five_below HX6.out.2 (by omega)⟩
          exact HFIN.out 0 HIL.out A vx vy _ Wd.heap.size HKS.out (by have h1 := HWS.out; omega) (five_below HX6.out.2 (by omega)) (own_keep HO6.out (fun g e => five_other (by have h1 := (HO6.out.lt g e).1; have h2 := HWS.out; omega)))
        · have HBU : Below Wd.heap.size Wd Wd := Below.refl _ _
          refine step_sliceR rfl (.tmp 86) rfl y ka kc (by rfl) ?_
          intro q V1 hq hle hb1
          have HBW : Hid (Below Wd.heap.size Wd V1) := Below.transS HBU hb1
          have HQ1 : Hid (V1.heap[q]? = some (.cells (hdv y ka kc) 29 (0, 0))) := hq
          refine hK.out _ _ (SR.out V1 HBW.out) (fun _ => ?_)
          try simp only [Act.put, List.setIfInBounds_toArray, List.set_cons_zero, List.set_cons_succ]
          (try rw [Nat.zero_add])
          clear hK K hq hle
          have HBV : Hid (Below Wd.heap.size Wd V1) := HBW.out
          clear hb1
          refine wpAnyH_ready (rs := [5]) (by kernel_rfl) (by simp) ?_
          refine (AllReadyH.cons (o := { dst := some 85, op := Go.Op.call { callee := Go.Callee.builtin Go.Builtin.append, args := #[Go.Operand.tmp 80, Go.Operand.tmp 84], argTypes := #[24, 24] }, type := 24, pos := "ref.go:250", after := #[{ on := 0, ground := Go.Ground.data }, { on := 4, ground := Go.Ground.data }], guard := none }) rfl (fun K hK => ?_) AllReadyH.nil)
          have HBU : Below Wd.heap.size Wd V1 := HBV.out
          refine step_append_R rfl (.tmp 80) (.tmp 84) rfl Wd.heap.size (.slice none 0 0) 0 [] none 0 0 (flatL (hf s.H A) 0) (by rfl) (by rfl) (World.ownsRow_nil _ _ _ _) HBU.size ⟨fun h => absurd h (Nat.lt_irrefl _), fun _ => ⟨rfl, rfl⟩⟩ (flatL_length 0 (hf_len _ _ _)) (hf_one _ _ _) (by omega) ?_
          intro va vc V2 hown hgr
          rw [Nat.zero_add, List.nil_append] at hown
          have hb1 : Below V1.heap.size V1 V2 := ⟨hgr.os, hgr.tape, hgr.output, hgr.size, fun k hk => hgr.block k hk (by simp [Value.ownBlock])⟩
          have HO1 : Hid (V2.ownsRow Wd.heap.size 29 3 (.slice va 0 vc) 0 (flatL (hf s.H A) 0)) := hown
          have HBW : Hid (Below Wd.heap.size Wd V2) := Below.transS HBU hb1
          have HQ : Hid (V2.heap[q]? = some (.cells (hdv y ka kc) 29 (0, 0))) := (hb1.block _ (lt_of_block HQ1.out)).trans HQ1.out
          have HO2 : Hid (V2.ownsRow Wd.heap.size 29 3 (.slice va 0 vc) 0 (flatL (hf s.H A) 0)) := HO1.out
          refine hK.out _ _ (SR.out V2 HBW.out) (fun _ => ?_)
          try simp only [Act.put, List.setIfInBounds_toArray, List.set_cons_zero, List.set_cons_succ]
          (try rw [Nat.zero_add])
          clear hK K hown hgr hb1 HQ1 HO1 HBV HBU
          refine wpAnyH_ready (rs := [8]) (by kernel_rfl) (by simp) ?_
          refine (AllReadyH.cons (o := { dst := some 88, op := Go.Op.call { callee := Go.Callee.builtin Go.Builtin.append, args := #[Go.Operand.tmp 85, Go.Operand.tmp 87], argTypes := #[24, 24] }, type := 24, pos := "ref.go:250", after := #[{ on := 5, ground := Go.Ground.data }, { on := 7, ground := Go.Ground.data }, { on := 5, ground := Go.Ground.chain }], guard := none }) rfl (fun K hK => ?_) AllReadyH.nil)
          refine step_append_R rfl (.tmp 85) (.tmp 87) rfl Wd.heap.size (.slice va 0 vc) 0 (flatL (hf s.H A) 0) (some ⟨q, 0, none⟩) 1 1 (hdl y ka kc) (by rfl) (by rfl) HO2.out HBW.out.size ⟨fun _ => ⟨q, 0, rfl, hdv_range HQ.out⟩, fun e => by cases e⟩ rfl (hdl_one y ka kc) (by omega) ?_
          intro vb vd V3 hown hgr
          have HO3 : Hid (V3.ownsRow Wd.heap.size 29 3 (.slice vb (0 + 1) vd) (0 + 1) (flatL (hf s.H A) 0 ++ hdl y ka kc)) := hown
          have HB3 : Hid (Below Wd.heap.size Wd V3) := grown_below HO2.out hgr HBW.out (Nat.le_refl _)
          refine hK.out _ _ (SR.out V3 HB3.out) (fun _ => ?_)
          clear hK K hown hgr HO2 HQ HBW
          try simp only [Act.put, List.setIfInBounds_toArray, List.set_cons_zero, List.set_cons_succ]
          refine wpAnyH_ready (rs := [13]) (by kernel_rfl) (by simp) ?_
          refine (AllReadyH.cons (o := { dst := some 93, op := Go.Op.call { callee := Go.Callee.builtin Go.Builtin.append, args := #[Go.Operand.tmp 88, Go.Operand.tmp 92], argTypes := #[24, 24] }, type := 24, pos := "ref.go:250", after := #[{ on := 8, ground := Go.Ground.data }, { on := 12, ground := Go.Ground.data }, { on := 8, ground := Go.Ground.chain }], guard := none }) rfl (fun K hK => ?_) AllReadyH.nil)
          have HBU : Below Wd.heap.size Wd V3 := HB3.out
          refine step_append_R rfl (.tmp 88) (.tmp 92) rfl Wd.heap.size (.slice vb (0 + 1) vd) (0 + 1) (flatL (hf s.H A) 0 ++ hdl y ka kc) none (s.hn) (0) (flatL (fun j => hf s.H A (0 + j)) (s.hn)) (by rfl) (by rfl) HO3.out HBU.size ⟨fun h => absurd h (by have := HN0.out; omega), fun _ => ⟨HN0.out, rfl⟩⟩ (flatL_length _ (fun j hj => rfl)) (fun u hu => by
            obtain ⟨j, _, hj⟩ := flatL_mem _ hu
            exact hdl_one _ _ _ u hj) (by omega) ?_
          intro vx vy V4 hown hgr
          have em : 0 + 1 + (s.hn) = s.hn + 1 := by omega
          have HB4 : Hid (Below Wd.heap.size Wd V4) := grown_below HO3.out hgr HB3.out (Nat.le_refl _)
          rw [em] at hown
          have HO4 : Hid (V4.ownsRow Wd.heap.size 29 3 (.slice vx (s.hn + 1) vy) (s.hn + 1) (flatL (hf (insG s.H 0 y) (insG A 0 (ka, kc))) (s.hn + 1))) := by
            have e0 := insF_mid (hf s.H A) 0 (s.hn) (hdl y ka kc)
            rw [show 0 + (s.hn) + 1 = s.hn + 1 by omega] at e0
            show V4.ownsRow Wd.heap.size 29 3 (.slice vx (s.hn + 1) vy) (s.hn + 1) (flatL (hf (insG s.H 0 y) (insG A 0 (ka, kc))) (s.hn + 1))
            rw [insG_hf, e0, ← List.append_assoc]
            exact hown
          refine hK.out _ _ (SR.out V4 HB4.out) (fun _ => ?_)
          clear hK K hown hgr HO3 HB3 HBU
          try simp only [Act.put, List.setIfInBounds_toArray, List.set_cons_zero, List.set_cons_succ]
          rw [em]
          refine wpAnyH_take (i := 14) (oi := { dst := some 8, op := Go.Op.assign (Go.Operand.tmp 93), type := 24, pos := "ref.go:250", after := #[{ on := 13, ground := Go.Ground.data }, { on := 13, ground := Go.Ground.chain }, { on := 0, ground := Go.Ground.phase }, { on := 1, ground := Go.Ground.phase }, { on := 2, ground := Go.Ground.phase }, { on := 3, ground := Go.Ground.phase }, { on := 4, ground := Go.Ground.phase }, { on := 5, ground := Go.Ground.phase }, { on := 6, ground := Go.Ground.phase }, { on := 7, ground := Go.Ground.phase }, { on := 8, ground := Go.Ground.phase }, { on := 9, ground := Go.Ground.phase }, { on := 10, ground := Go.Ground.phase }, { on := 11, ground := Go.Ground.phase }, { on := 12, ground := Go.Ground.phase }, { on := 13, ground := Go.Ground.phase }], guard := none }) (v := ?_) rfl (by kernel_rfl) (by kernel_rfl) (by kernel_rfl) (fun _ _ _ h => h) (Or.inl ⟨by rfl, ?_⟩) (by assumption) ?_
          rotate_left
          · intro wz hSw; (try dsimp only at hSw); go_simp; (try with_reducible rfl)
          try simp only [Act.put, List.setIfInBounds_toArray, List.set_cons_zero, List.set_cons_succ]
          refine wpAnyH_done (by kernel_rfl) (NoPanic.normal ?_) _
          try simp only [Act.put, List.setIfInBounds_toArray, List.set_cons_zero, List.set_cons_succ]
          clear hHeld S0 SR em
          have HX4 : Hid (V4.heap[w.heap.size]? = some (.cells #[.int .i64 s.nu, .int .i64 s.a, .int .i64 s.b, .slice pa s.pn pc, .slice none s.hn 0] 26 (0, 0)) ∧ V4.heap[w.heap.size + 1]? = some (.cells #[.int .i64 y.id, .int .i64 y.am, .slice ka y.n kc] 29 (0, 0)) ∧ V4.heap[w.heap.size + 2]? = some (.cells #[.int .i64 0, .int .i64 0, .int .i64 0, .slice none 0 0, .slice none 0 0] 26 (0, 0)) ∧ Below w.heap.size w V4) := ⟨(HB4.out.block _ (lt_of_block HXr.out.1)).trans HXr.out.1, (HB4.out.block _ (lt_of_block HXr.out.2.1)).trans HXr.out.2.1, (HB4.out.block _ (lt_of_block HXr.out.2.2.1)).trans HXr.out.2.2.1, HB0.out.trans (HB4.out.mono HB0.out.size)⟩
          have HWI : Hid (Calls Tryd.prog 29 #[.agg #[.int .i64 s.nu, .int .i64 s.a, .int .i64 s.b, .slice pa s.pn pc, .slice none s.hn 0], .int .i64 0, .int .i64 (-y.am), .slice pa s.pn pc, .slice vx (s.hn + 1) vy] V4 fun e w' => e = .returned (.agg #[.int .i64 (s.nu + 1), .int .i64 (s.a + 0), .int .i64 (s.b + (-y.am)), .slice pa s.pn pc, .slice vx (s.hn + 1) vy]) ∧ Below V4.heap.size V4 w') := HWT.out pa s.pn pc vx (s.hn + 1) vy V4
          clear HXr HB0 HB4
          obtain ⟨c0, c1, c2, c3, c4, cf⟩ := five_of HX4.out.1
          obtain ⟨k0, k1, k2⟩ := hd_new (x := y) HX4.out.2.1 rfl
          have en := EN.out
          go_wp2_with fail
          refine (to_1 (-y.am) V4).mono ?_
          rintro e Vw ⟨rfl, hVw⟩
          rw [hVw]
          clear hVw
          go_wp2_with fail
          refine HWI.out.mono ?_
          rintro e V6 ⟨rfl, hb6⟩
          have HX6 : Hid (V6.heap[w.heap.size + 2]? = some (.cells #[.int .i64 0, .int .i64 0, .int .i64 0, .slice none 0 0, .slice none 0 0] 26 (0, 0)) ∧ Below w.heap.size w V6) := ⟨(hb6.block _ (lt_of_block HX4.out.2.2.1)).trans HX4.out.2.2.1, HX4.out.2.2.2.trans (hb6.mono HX4.out.2.2.2.size)⟩
          have HO6 : Hid (V6.ownsRow Wd.heap.size 29 3 (.slice vx (s.hn + 1) vy) (s.hn + 1) (flatL (hf (insG s.H 0 y) (insG A 0 (ka, kc))) (s.hn + 1))) := own_below HO4.out hb6
          clear c0 c1 c2 c3 c4 cf k0 k1 k2 HWI HO4 hb6 HX4 en
          obtain ⟨d0, d1, d2, d3, d4, df⟩ := five_of HX6.out.1
          go_wp2
          refine bodyPost_ret (results_R2 Tryd.results9 _ _ (w.heap.size + 2) 26 _ _ _ _ _ (0, 0) rfl (five_all HX6.out.1)) rfl ⟨⟨0, HIL.out, HLO.out, HHI.out, ⟨pa, pc, vx, vy⟩, by rw [HSV.out]; rfl, ?_⟩, five_below HX6.out.2 (by omega)⟩
          exact HFIN.out 0 HIL.out A vx vy _ Wd.heap.size HKS.out (by have h1 := HWS.out; omega) (five_below HX6.out.2 (by omega)) (own_keep HO6.out (fun g e => five_other (by have h1 := (HO6.out.lt g e).1; have h2 := HWS.out; omega)))
      | some a =>
        obtain ⟨b, off, rfl⟩ := HSP.out a rfl
        clear hin
        dsimp only at *
        have S0 : wr.drew.cell? ⟨w.heap.size, 4, none⟩ = some (.slice (some ⟨b, off, none⟩) s.hn hc) := (five_of HX.out.1).c4
        go_upto_region 17 with fail
        refine wp_region_noPanic ?_
        refine wp_region_held_drew (S := fun u => u.cell? ⟨w.heap.size, 4, none⟩ = some (.slice (some ⟨b, off, none⟩) s.hn hc)) (by kernel_rfl) S0 (fun hHeld => ?_)
        refine wpAnyH_take (i := 0) (oi := { dst := some 62, op := Go.Op.move (Go.Operand.tmp 9), type := 3, pos := "ref.go:247", after := #[], guard := none }) (v := ?_) rfl (by kernel_rfl) (by kernel_rfl) (by kernel_rfl) (fun _ _ _ h => h) (Or.inl ⟨by rfl, ?_⟩) (by assumption) ?_
        rotate_left
        · intro wz hSw; (try dsimp only at hSw); go_simp; (try with_reducible rfl)
        try simp only [Act.put, List.setIfInBounds_toArray, List.set_cons_zero, List.set_cons_succ]
        refine wpAnyH_take (i := 1) (oi := { dst := some 63, op := Go.Op.fieldAddr 26 (Go.Operand.tmp 3) 3, type := 0, pos := "ref.go:247", after := #[], guard := none }) (v := ?_) rfl (by kernel_rfl) (by kernel_rfl) (by kernel_rfl) (fun _ _ _ h => h) (Or.inl ⟨by rfl, ?_⟩) (by assumption) ?_
        rotate_left
        · intro wz hSw; (try dsimp only at hSw); go_simp; (try with_reducible rfl)
        try simp only [Act.put, List.setIfInBounds_toArray, List.set_cons_zero, List.set_cons_succ]
        refine wpAnyH_take (i := 2) (oi := { dst := some 64, op := Go.Op.load 24 (Go.Operand.tmp 63), type := 24, pos := "ref.go:247", after := #[{ on := 1, ground := Go.Ground.data }], guard := none }) (v := ?_) rfl (by kernel_rfl) (by kernel_rfl) (by kernel_rfl) (fun _ _ _ h => h) (Or.inl ⟨by rfl, ?_⟩) (by assumption) ?_
        rotate_left
        · intro wz hSw; (try dsimp only at hSw); go_simp; (try with_reducible rfl)
        try simp only [Act.put, List.setIfInBounds_toArray, List.set_cons_zero, List.set_cons_succ]
        refine wpAnyH_take (i := 3) (oi := { dst := some 65, op := Go.Op.call { callee := Go.Callee.builtin Go.Builtin.len, args := #[Go.Operand.tmp 64], argTypes := #[24] }, type := 3, pos := "ref.go:247", after := #[{ on := 2, ground := Go.Ground.data }], guard := none }) (v := ?_) rfl (by kernel_rfl) (by kernel_rfl) (by kernel_rfl) (fun _ _ _ h => h) (Or.inl ⟨by rfl, ?_⟩) (by assumption) ?_
        rotate_left
        · intro wz hSw; (try dsimp only at hSw); go_simp; (try with_reducible rfl)
        try simp only [Act.put, List.setIfInBounds_toArray, List.set_cons_zero, List.set_cons_succ]
        refine wpAnyH_take (i := 4) (oi := { dst := some 66, op := Go.Op.binOp Go.BinOp.lss 3 (Go.Operand.tmp 62) (Go.Operand.tmp 65) 3, type := 4, pos := "ref.go:247", after := #[{ on := 0, ground := Go.Ground.data }, { on := 3, ground := Go.Ground.data }], guard := none }) (v := ?_) rfl (by kernel_rfl) (by kernel_rfl) (by kernel_rfl) (fun _ _ _ h => h) (Or.inl ⟨by rfl, ?_⟩) (by assumption) ?_
        rotate_left
        · intro wz hSw; (try dsimp only at hSw); go_simp; (try with_reducible rfl)
        try simp only [Act.put, List.setIfInBounds_toArray, List.set_cons_zero, List.set_cons_succ]
        refine wpAnyH_take (i := 5) (oi := { dst := some 67, op := Go.Op.move (Go.Operand.tmp 66), type := 4, pos := "ref.go:247", after := #[{ on := 4, ground := Go.Ground.data }], guard := none }) (v := ?_) rfl (by kernel_rfl) (by kernel_rfl) (by kernel_rfl) (fun _ _ _ h => h) (Or.inl ⟨by rfl, ?_⟩) (by assumption) ?_
        rotate_left
        · intro wz hSw; (try dsimp only at hSw); go_simp; (try with_reducible rfl)
        try simp only [Act.put, List.setIfInBounds_toArray, List.set_cons_zero, List.set_cons_succ]
        refine wpAnyH_take (i := 6) (oi := { dst := some 68, op := Go.Op.fieldAddr 26 (Go.Operand.tmp 3) 3, type := 0, pos := "ref.go:247", after := #[{ on := 5, ground := Go.Ground.guard }], guard := some (5, true) }) (v := undef) rfl (by kernel_rfl) (by kernel_rfl) (by kernel_rfl) (fun _ _ _ h => h) (Or.inr ⟨by rfl, rfl⟩) (by assumption) ?_
        try simp only [Act.put, List.setIfInBounds_toArray, List.set_cons_zero, List.set_cons_succ]
        refine wpAnyH_take (i := 7) (oi := { dst := some 69, op := Go.Op.load 24 (Go.Operand.tmp 68), type := 24, pos := "ref.go:247", after := #[{ on := 6, ground := Go.Ground.data }, { on := 5, ground := Go.Ground.guard }], guard := some (5, true) }) (v := undef) rfl (by kernel_rfl) (by kernel_rfl) (by kernel_rfl) (fun _ _ _ h => h) (Or.inr ⟨by rfl, rfl⟩) (by assumption) ?_
        try simp only [Act.put, List.setIfInBounds_toArray, List.set_cons_zero, List.set_cons_succ]
        refine wpAnyH_take (i := 8) (oi := { dst := some 70, op := Go.Op.move (Go.Operand.tmp 9), type := 3, pos := "ref.go:247", after := #[{ on := 5, ground := Go.Ground.guard }], guard := some (5, true) }) (v := undef) rfl (by kernel_rfl) (by kernel_rfl) (by kernel_rfl) (fun _ _ _ h => h) (Or.inr ⟨by rfl, rfl⟩) (by assumption) ?_
        try simp only [Act.put, List.setIfInBounds_toArray, List.set_cons_zero, List.set_cons_succ]
        refine wpAnyH_take (i := 9) (oi := { dst := some 71, op := Go.Op.indexAddr 24 (Go.Operand.tmp 69) (Go.Operand.tmp 70), type := 0, pos := "ref.go:247", after := #[{ on := 7, ground := Go.Ground.data }, { on := 8, ground := Go.Ground.data }, { on := 5, ground := Go.Ground.guard }], guard := some (5, true) }) (v := undef) rfl (by kernel_rfl) (by kernel_rfl) (by kernel_rfl) (fun _ _ _ h => h) (Or.inr ⟨by rfl, rfl⟩) (by assumption) ?_
        try simp only [Act.put, List.setIfInBounds_toArray, List.set_cons_zero, List.set_cons_succ]
        refine wpAnyH_take (i := 10) (oi := { dst := some 72, op := Go.Op.fieldAddr 29 (Go.Operand.tmp 71) 0, type := 0, pos := "ref.go:247", after := #[{ on := 9, ground := Go.Ground.data }, { on := 5, ground := Go.Ground.guard }], guard := some (5, true) }) (v := undef) rfl (by kernel_rfl) (by kernel_rfl) (by kernel_rfl) (fun _ _ _ h => h) (Or.inr ⟨by rfl, rfl⟩) (by assumption) ?_
        try simp only [Act.put, List.setIfInBounds_toArray, List.set_cons_zero, List.set_cons_succ]
        refine wpAnyH_take (i := 11) (oi := { dst := some 73, op := Go.Op.load 3 (Go.Operand.tmp 72), type := 3, pos := "ref.go:247", after := #[{ on := 10, ground := Go.Ground.data }, { on := 5, ground := Go.Ground.guard }], guard := some (5, true) }) (v := undef) rfl (by kernel_rfl) (by kernel_rfl) (by kernel_rfl) (fun _ _ _ h => h) (Or.inr ⟨by rfl, rfl⟩) (by assumption) ?_
        try simp only [Act.put, List.setIfInBounds_toArray, List.set_cons_zero, List.set_cons_succ]
        refine wpAnyH_take (i := 12) (oi := { dst := some 74, op := Go.Op.fieldAddr 29 (Go.Operand.tmp 5) 0, type := 0, pos := "ref.go:247", after := #[{ on := 5, ground := Go.Ground.guard }], guard := some (5, true) }) (v := undef) rfl (by kernel_rfl) (by kernel_rfl) (by kernel_rfl) (fun _ _ _ h => h) (Or.inr ⟨by rfl, rfl⟩) (by assumption) ?_
        try simp only [Act.put, List.setIfInBounds_toArray, List.set_cons_zero, List.set_cons_succ]
        refine wpAnyH_take (i := 13) (oi := { dst := some 75, op := Go.Op.load 3 (Go.Operand.tmp 74), type := 3, pos := "ref.go:247", after := #[{ on := 12, ground := Go.Ground.data }, { on := 5, ground := Go.Ground.guard }], guard := some (5, true) }) (v := undef) rfl (by kernel_rfl) (by kernel_rfl) (by kernel_rfl) (fun _ _ _ h => h) (Or.inr ⟨by rfl, rfl⟩) (by assumption) ?_
        try simp only [Act.put, List.setIfInBounds_toArray, List.set_cons_zero, List.set_cons_succ]
        refine wpAnyH_take (i := 14) (oi := { dst := some 76, op := Go.Op.binOp Go.BinOp.lss 3 (Go.Operand.tmp 73) (Go.Operand.tmp 75) 3, type := 4, pos := "ref.go:247", after := #[{ on := 11, ground := Go.Ground.data }, { on := 13, ground := Go.Ground.data }, { on := 5, ground := Go.Ground.guard }], guard := some (5, true) }) (v := undef) rfl (by kernel_rfl) (by kernel_rfl) (by kernel_rfl) (fun _ _ _ h => h) (Or.inr ⟨by rfl, rfl⟩) (by assumption) ?_
        try simp only [Act.put, List.setIfInBounds_toArray, List.set_cons_zero, List.set_cons_succ]
        refine wpAnyH_take (i := 15) (oi := { dst := some 77, op := Go.Op.pick (Go.Operand.tmp 67) (Go.Operand.tmp 76) (Go.Operand.const (Go.Value.bool false)), type := 4, pos := "ref.go:247", after := #[{ on := 5, ground := Go.Ground.data }, { on := 14, ground := Go.Ground.data }], guard := none }) (v := ?_) rfl (by kernel_rfl) (by kernel_rfl) (by kernel_rfl) (fun _ _ _ h => h) (Or.inl ⟨by rfl, ?_⟩) (by assumption) ?_
        rotate_left
        · intro wz hSw; (try dsimp only at hSw); go_simp; (try with_reducible rfl)
        try simp only [Act.put, List.setIfInBounds_toArray, List.set_cons_zero, List.set_cons_succ]
        refine wpAnyH_done (by kernel_rfl) (NoPanic.normal ?_) _
        try simp only [Act.put, List.setIfInBounds_toArray, List.set_cons_zero, List.set_cons_succ]
        have HX1 : Hid (wr.drew.drew.heap[w.heap.size]? = some (.cells #[.int .i64 s.nu, .int .i64 s.a, .int .i64 s.b, .slice pa s.pn pc, .slice (some ⟨b, off, none⟩) s.hn hc] 26 (0, 0)) ∧ wr.drew.drew.heap[w.heap.size + 1]? = some (.cells #[.int .i64 y.id, .int .i64 y.am, .slice ka y.n kc] 29 (0, 0)) ∧ wr.drew.drew.heap[w.heap.size + 2]? = some (.cells #[.int .i64 0, .int .i64 0, .int .i64 0, .slice none 0 0, .slice none 0 0] 26 (0, 0)) ∧ Below w.heap.size w wr.drew.drew) := ⟨HX.out.1, HX.out.2.1, HX.out.2.2.1, HX.out.2.2.2.drew.drew⟩
        clear hHeld S0 hnn hlt
        generalize wr.drew = Wy at *
        go_wp2_with fail
        generalize hWd : Wy.drew = Wd at HX1
        have HXr : Hid (Wd.heap[w.heap.size]? = some (.cells #[.int .i64 s.nu, .int .i64 s.a, .int .i64 s.b, .slice pa s.pn pc, .slice (some ⟨b, off, none⟩) s.hn hc] 26 (0, 0)) ∧ Wd.heap[w.heap.size + 1]? = some (.cells #[.int .i64 y.id, .int .i64 y.am, .slice ka y.n kc] 29 (0, 0)) ∧ Wd.heap[w.heap.size + 2]? = some (.cells #[.int .i64 0, .int .i64 0, .int .i64 0, .slice none 0 0, .slice none 0 0] 26 (0, 0)) ∧ Below w.heap.size w Wd) := HX1.out
        have HWS : Hid (w.heap.size + 2 < Wd.heap.size) := lt_of_block HX1.out.2.2.1
        clear HX1 HX
        have HB0 : Hid (Below w.heap.size w Wd) := HXr.out.2.2.2
        have SR : Hid (∀ u, Below Wd.heap.size Wd u → u.rangeAt (w.heap.size + 1) 0 (hdl y ka kc) ∧ u.cell? ⟨w.heap.size, 4, none⟩ = some (.slice (some ⟨b, off, none⟩) s.hn hc)) := fun u hb => ⟨range_below (hdv_range HXr.out.2.1) hb, by rw [hb.cell (p := ⟨w.heap.size, 4, none⟩) (lt_of_block HXr.out.1)]; exact (five_of HXr.out.1).c4⟩
        have S0 := SR.out Wd (Below.refl _ _)
        refine wp_region_noPanic ?_
        refine wp_region_held_drew (S := fun u => u.rangeAt (w.heap.size + 1) 0 (hdl y ka kc) ∧ u.cell? ⟨w.heap.size, 4, none⟩ = some (.slice (some ⟨b, off, none⟩) s.hn hc)) (by kernel_rfl) (by rw [hWd]; exact S0) (fun hHeld => ?_)
        rw [hWd] at hHeld ⊢
        clear hWd
        obtain ⟨ax, hax⟩ : ∃ ax : Option Addr, (if hc = i then some (⟨b, off, none⟩ : Addr) else some ⟨b, off + i * 3, none⟩) = ax := ⟨_, rfl⟩
        have HAX : Hid ((if hc = i then some (⟨b, off, none⟩ : Addr) else some ⟨b, off + i * 3, none⟩) = ax) := hax
        clear hax
        refine wpAnyH_take (i := 0) (oi := { dst := some 80, op := Go.Op.move (Go.Operand.tmp 8), type := 24, pos := "ref.go:250", after := #[], guard := none }) (v := ?_) rfl (by kernel_rfl) (by kernel_rfl) (by kernel_rfl) (fun _ _ _ h => h) (Or.inl ⟨by rfl, ?_⟩) (by assumption) ?_
        rotate_left
        · intro wz hSw; (try dsimp only at hSw); go_simp; (try with_reducible rfl)
        try simp only [Act.put, List.setIfInBounds_toArray, List.set_cons_zero, List.set_cons_succ]
        refine wpAnyH_take (i := 1) (oi := { dst := some 81, op := Go.Op.fieldAddr 26 (Go.Operand.tmp 3) 3, type := 0, pos := "ref.go:250", after := #[], guard := none }) (v := ?_) rfl (by kernel_rfl) (by kernel_rfl) (by kernel_rfl) (fun _ _ _ h => h) (Or.inl ⟨by rfl, ?_⟩) (by assumption) ?_
        rotate_left
        · intro wz hSw; (try dsimp only at hSw); go_simp; (try with_reducible rfl)
        try simp only [Act.put, List.setIfInBounds_toArray, List.set_cons_zero, List.set_cons_succ]
        refine wpAnyH_take (i := 2) (oi := { dst := some 82, op := Go.Op.load 24 (Go.Operand.tmp 81), type := 24, pos := "ref.go:250", after := #[{ on := 1, ground := Go.Ground.data }], guard := none }) (v := ?_) rfl (by kernel_rfl) (by kernel_rfl) (by kernel_rfl) (fun _ _ _ h => h) (Or.inl ⟨by rfl, ?_⟩) (by assumption) ?_
        rotate_left
        · intro wz hSw; (try dsimp only at hSw); go_simp; (try with_reducible rfl)
        try simp only [Act.put, List.setIfInBounds_toArray, List.set_cons_zero, List.set_cons_succ]
        refine wpAnyH_take (i := 3) (oi := { dst := some 83, op := Go.Op.move (Go.Operand.tmp 9), type := 3, pos := "ref.go:250", after := #[], guard := none }) (v := ?_) rfl (by kernel_rfl) (by kernel_rfl) (by kernel_rfl) (fun _ _ _ h => h) (Or.inl ⟨by rfl, ?_⟩) (by assumption) ?_
        rotate_left
        · intro wz hSw; (try dsimp only at hSw); go_simp; (try with_reducible rfl)
        try simp only [Act.put, List.setIfInBounds_toArray, List.set_cons_zero, List.set_cons_succ]
        refine wpAnyH_take (i := 4) (oi := { dst := some 84, op := Go.Op.slice 24 (Go.Operand.tmp 82) none (some (Go.Operand.tmp 83)) none, type := 24, pos := "ref.go:250", after := #[{ on := 2, ground := Go.Ground.data }, { on := 3, ground := Go.Ground.data }], guard := none }) (v := .slice (some ⟨b, off, none⟩) i hc) rfl (by kernel_rfl) (by kernel_rfl) (by kernel_rfl) (fun _ _ _ h => h) (Or.inl ⟨by rfl, ?_⟩) (by assumption) ?_
        · intro wz hSw; (try dsimp only at hSw); go_simp; try (intro hbad; have h1 := HCP.out; omega)
        try simp only [Act.put, List.setIfInBounds_toArray, List.set_cons_zero, List.set_cons_succ]
        refine wpAnyH_take (i := 6) (oi := { dst := some 86, op := Go.Op.load 29 (Go.Operand.tmp 5), type := 29, pos := "ref.go:250", after := #[], guard := none }) rfl (by kernel_rfl) (by kernel_rfl) (by kernel_rfl) (fun _ _ _ h => h) (yieldsIf_load_mid (by rfl) _ _ rfl (w.heap.size + 1) 0 rfl (hdl y ka kc) _ (fun _ h => h.1) Tryd.underlying29 rfl szHr) (by assumption) ?_
        try simp only [Act.put, List.setIfInBounds_toArray, List.set_cons_zero, List.set_cons_succ]
        refine wpAnyH_take (i := 9) (oi := { dst := some 89, op := Go.Op.fieldAddr 26 (Go.Operand.tmp 3) 3, type := 0, pos := "ref.go:250", after := #[], guard := none }) (v := ?_) rfl (by kernel_rfl) (by kernel_rfl) (by kernel_rfl) (fun _ _ _ h => h) (Or.inl ⟨by rfl, ?_⟩) (by assumption) ?_
        rotate_left
        · intro wz hSw; (try dsimp only at hSw); go_simp; (try with_reducible rfl)
        try simp only [Act.put, List.setIfInBounds_toArray, List.set_cons_zero, List.set_cons_succ]
        refine wpAnyH_take (i := 10) (oi := { dst := some 90, op := Go.Op.load 24 (Go.Operand.tmp 89), type := 24, pos := "ref.go:250", after := #[{ on := 9, ground := Go.Ground.data }], guard := none }) (v := ?_) rfl (by kernel_rfl) (by kernel_rfl) (by kernel_rfl) (fun _ _ _ h => h) (Or.inl ⟨by rfl, ?_⟩) (by assumption) ?_
        rotate_left
        · intro wz hSw; (try dsimp only at hSw); go_simp; (try with_reducible rfl)
        try simp only [Act.put, List.setIfInBounds_toArray, List.set_cons_zero, List.set_cons_succ]
        refine wpAnyH_take (i := 11) (oi := { dst := some 91, op := Go.Op.move (Go.Operand.tmp 9), type := 3, pos := "ref.go:250", after := #[], guard := none }) (v := ?_) rfl (by kernel_rfl) (by kernel_rfl) (by kernel_rfl) (fun _ _ _ h => h) (Or.inl ⟨by rfl, ?_⟩) (by assumption) ?_
        rotate_left
        · intro wz hSw; (try dsimp only at hSw); go_simp; (try with_reducible rfl)
        try simp only [Act.put, List.setIfInBounds_toArray, List.set_cons_zero, List.set_cons_succ]
        refine wpAnyH_take (i := 12) (oi := { dst := some 92, op := Go.Op.slice 24 (Go.Operand.tmp 90) (some (Go.Operand.tmp 91)) none none, type := 24, pos := "ref.go:250", after := #[{ on := 10, ground := Go.Ground.data }, { on := 11, ground := Go.Ground.data }], guard := none }) (v := .slice ax (s.hn - i) (hc - i)) rfl (by kernel_rfl) (by kernel_rfl) (by kernel_rfl) (fun _ _ _ h => h) (Or.inl ⟨by rfl, ?_⟩) (by assumption) ?_
        · intro wz hSw; (try dsimp only at hSw); rw [← HAX.out]; go_simp; try (intro hbad; have h1 := HCP.out; omega)
        try simp only [Act.put, List.setIfInBounds_toArray, List.set_cons_zero, List.set_cons_succ]
        refine wpAnyH_ready (rs := [5, 7]) (by kernel_rfl) (by simp) ?_
        refine (AllReadyH.cons (o := { dst := some 85, op := Go.Op.call { callee := Go.Callee.builtin Go.Builtin.append, args := #[Go.Operand.tmp 80, Go.Operand.tmp 84], argTypes := #[24, 24] }, type := 24, pos := "ref.go:250", after := #[{ on := 0, ground := Go.Ground.data }, { on := 4, ground := Go.Ground.data }], guard := none }) rfl (fun K hK => ?_) (AllReadyH.cons (o := { dst := some 87, op := Go.Op.buildSlice 24 1 #[(0, Go.Operand.tmp 86)], type := 24, pos := "ref.go:250", after := #[{ on := 6, ground := Go.Ground.data }], guard := none }) rfl (fun K hK => ?_) AllReadyH.nil))
        · have HBU : Below Wd.heap.size Wd Wd := Below.refl _ _
          refine step_append_R rfl (.tmp 80) (.tmp 84) rfl Wd.heap.size (.slice none 0 0) 0 [] (some ⟨b, off, none⟩) i hc (flatL (hf s.H A) i) (by rfl) (by rfl) (World.ownsRow_nil _ _ _ _) HBU.size ((HSR.out.below (HB0.out.trans (HBU.mono HB0.out.size))).take (hf_len _ _ _) HIL.out (by simp)) (flatL_length i (hf_len _ _ _)) (hf_one _ _ _) (by omega) ?_
          intro va vc V1 hown hgr
          rw [Nat.zero_add, List.nil_append] at hown
          have hb1 : Below Wd.heap.size Wd V1 := ⟨hgr.os, hgr.tape, hgr.output, hgr.size, fun k hk => hgr.block k hk (by simp [Value.ownBlock])⟩
          have HO1 : Hid (V1.ownsRow Wd.heap.size 29 3 (.slice va i vc) i (flatL (hf s.H A) i)) := hown
          have HBW : Hid (Below Wd.heap.size Wd V1) := Below.transS HBU hb1
          refine hK.out _ _ (SR.out V1 HBW.out) (fun _ => ?_)
          try simp only [Act.put, List.setIfInBounds_toArray, List.set_cons_zero, List.set_cons_succ]
          (try rw [Nat.zero_add])
          clear hK K hown hgr
          have HBV : Hid (Below Wd.heap.size Wd V1) := HBW.out
          clear hb1
          refine wpAnyH_ready (rs := [7]) (by kernel_rfl) (by simp) ?_
          refine (AllReadyH.cons (o := { dst := some 87, op := Go.Op.buildSlice 24 1 #[(0, Go.Operand.tmp 86)], type := 24, pos := "ref.go:250", after := #[{ on := 6, ground := Go.Ground.data }], guard := none }) rfl (fun K hK => ?_) AllReadyH.nil)
          have HBU : Below Wd.heap.size Wd V1 := HBV.out
          refine step_sliceR rfl (.tmp 86) rfl y ka kc (by rfl) ?_
          intro q V2 hq hle hb1
          have HBW : Hid (Below Wd.heap.size Wd V2) := Below.transS HBU hb1
          have HO2 : Hid (V2.ownsRow Wd.heap.size 29 3 (.slice va i vc) i (flatL (hf s.H A) i)) := own_below HO1.out hb1
          have HQ : Hid (V2.heap[q]? = some (.cells (hdv y ka kc) 29 (0, 0))) := hq
          refine hK.out _ _ (SR.out V2 HBW.out) (fun _ => ?_)
          try simp only [Act.put, List.setIfInBounds_toArray, List.set_cons_zero, List.set_cons_succ]
          (try rw [Nat.zero_add])
          clear hK K hq hle hb1 HO1 HBV HBU
          refine wpAnyH_ready (rs := [8]) (by kernel_rfl) (by simp) ?_
          refine (AllReadyH.cons (o := { dst := some 88, op := Go.Op.call { callee := Go.Callee.builtin Go.Builtin.append, args := #[Go.Operand.tmp 85, Go.Operand.tmp 87], argTypes := #[24, 24] }, type := 24, pos := "ref.go:250", after := #[{ on := 5, ground := Go.Ground.data }, { on := 7, ground := Go.Ground.data }, { on := 5, ground := Go.Ground.chain }], guard := none }) rfl (fun K hK => ?_) AllReadyH.nil)
          refine step_append_R rfl (.tmp 85) (.tmp 87) rfl Wd.heap.size (.slice va i vc) i (flatL (hf s.H A) i) (some ⟨q, 0, none⟩) 1 1 (hdl y ka kc) (by rfl) (by rfl) HO2.out HBW.out.size ⟨fun _ => ⟨q, 0, rfl, hdv_range HQ.out⟩, fun e => by cases e⟩ rfl (hdl_one y ka kc) (by omega) ?_
          intro vb vd V3 hown hgr
          have HO3 : Hid (V3.ownsRow Wd.heap.size 29 3 (.slice vb (i + 1) vd) (i + 1) (flatL (hf s.H A) i ++ hdl y ka kc)) := hown
          have HB3 : Hid (Below Wd.heap.size Wd V3) := grown_below HO2.out hgr HBW.out (Nat.le_refl _)
          refine hK.out _ _ (SR.out V3 HB3.out) (fun _ => ?_)
          clear hK K hown hgr HO2 HQ HBW
          try simp only [Act.put, List.setIfInBounds_toArray, List.set_cons_zero, List.set_cons_succ]
          refine wpAnyH_ready (rs := [13]) (by kernel_rfl) (by simp) ?_
          refine (AllReadyH.cons (o := { dst := some 93, op := Go.Op.call { callee := Go.Callee.builtin Go.Builtin.append, args := #[Go.Operand.tmp 88, Go.Operand.tmp 92], argTypes := #[24, 24] }, type := 24, pos := "ref.go:250", after := #[{ on := 8, ground := Go.Ground.data }, { on := 12, ground := Go.Ground.data }, { on := 8, ground := Go.Ground.chain }], guard := none }) rfl (fun K hK => ?_) AllReadyH.nil)
          have HBU : Below Wd.heap.size Wd V3 := HB3.out
          refine step_append_R rfl (.tmp 88) (.tmp 92) rfl Wd.heap.size (.slice vb (i + 1) vd) (i + 1) (flatL (hf s.H A) i ++ hdl y ka kc) ax (s.hn - i) (hc - i) (flatL (fun j => hf s.H A (i + j)) (s.hn - i)) (by rfl) (by rfl) HO3.out HBU.size (by rw [← HAX.out]; exact (HSR.out.below (HB0.out.trans (HBU.mono HB0.out.size))).drop (hf_len _ _ _) HIL.out HCP.out) (flatL_length _ (fun j hj => rfl)) (fun u hu => by
            obtain ⟨j, _, hj⟩ := flatL_mem _ hu
            exact hdl_one _ _ _ u hj) (by omega) ?_
          intro vx vy V4 hown hgr
          have em : i + 1 + (s.hn - i) = s.hn + 1 := by omega
          have HB4 : Hid (Below Wd.heap.size Wd V4) := grown_below HO3.out hgr HB3.out (Nat.le_refl _)
          rw [em] at hown
          have HO4 : Hid (V4.ownsRow Wd.heap.size 29 3 (.slice vx (s.hn + 1) vy) (s.hn + 1) (flatL (hf (insG s.H i y) (insG A i (ka, kc))) (s.hn + 1))) := by
            have e0 := insF_mid (hf s.H A) i (s.hn - i) (hdl y ka kc)
            rw [show i + (s.hn - i) + 1 = s.hn + 1 by omega] at e0
            show V4.ownsRow Wd.heap.size 29 3 (.slice vx (s.hn + 1) vy) (s.hn + 1) (flatL (hf (insG s.H i y) (insG A i (ka, kc))) (s.hn + 1))
            rw [insG_hf, e0, ← List.append_assoc]
            exact hown
          refine hK.out _ _ (SR.out V4 HB4.out) (fun _ => ?_)
          clear hK K hown hgr HO3 HB3 HBU
          try simp only [Act.put, List.setIfInBounds_toArray, List.set_cons_zero, List.set_cons_succ]
          rw [em]
          refine wpAnyH_take (i := 14) (oi := { dst := some 8, op := Go.Op.assign (Go.Operand.tmp 93), type := 24, pos := "ref.go:250", after := #[{ on := 13, ground := Go.Ground.data }, { on := 13, ground := Go.Ground.chain }, { on := 0, ground := Go.Ground.phase }, { on := 1, ground := Go.Ground.phase }, { on := 2, ground := Go.Ground.phase }, { on := 3, ground := Go.Ground.phase }, { on := 4, ground := Go.Ground.phase }, { on := 5, ground := Go.Ground.phase }, { on := 6, ground := Go.Ground.phase }, { on := 7, ground := Go.Ground.phase }, { on := 8, ground := Go.Ground.phase }, { on := 9, ground := Go.Ground.phase }, { on := 10, ground := Go.Ground.phase }, { on := 11, ground := Go.Ground.phase }, { on := 12, ground := Go.Ground.phase }, { on := 13, ground := Go.Ground.phase }], guard := none }) (v := ?_) rfl (by kernel_rfl) (by kernel_rfl) (by kernel_rfl) (fun _ _ _ h => h) (Or.inl ⟨by rfl, ?_⟩) (by assumption) ?_
          rotate_left
          · intro wz hSw; (try dsimp only at hSw); go_simp; (try with_reducible rfl)
          try simp only [Act.put, List.setIfInBounds_toArray, List.set_cons_zero, List.set_cons_succ]
          refine wpAnyH_done (by kernel_rfl) (NoPanic.normal ?_) _
          try simp only [Act.put, List.setIfInBounds_toArray, List.set_cons_zero, List.set_cons_succ]
          clear hHeld S0 SR em
          have HX4 : Hid (V4.heap[w.heap.size]? = some (.cells #[.int .i64 s.nu, .int .i64 s.a, .int .i64 s.b, .slice pa s.pn pc, .slice (some ⟨b, off, none⟩) s.hn hc] 26 (0, 0)) ∧ V4.heap[w.heap.size + 1]? = some (.cells #[.int .i64 y.id, .int .i64 y.am, .slice ka y.n kc] 29 (0, 0)) ∧ V4.heap[w.heap.size + 2]? = some (.cells #[.int .i64 0, .int .i64 0, .int .i64 0, .slice none 0 0, .slice none 0 0] 26 (0, 0)) ∧ Below w.heap.size w V4) := ⟨(HB4.out.block _ (lt_of_block HXr.out.1)).trans HXr.out.1, (HB4.out.block _ (lt_of_block HXr.out.2.1)).trans HXr.out.2.1, (HB4.out.block _ (lt_of_block HXr.out.2.2.1)).trans HXr.out.2.2.1, HB0.out.trans (HB4.out.mono HB0.out.size)⟩
          have HWI : Hid (Calls Tryd.prog 29 #[.agg #[.int .i64 s.nu, .int .i64 s.a, .int .i64 s.b, .slice pa s.pn pc, .slice (some ⟨b, off, none⟩) s.hn hc], .int .i64 0, .int .i64 (-y.am), .slice pa s.pn pc, .slice vx (s.hn + 1) vy] V4 fun e w' => e = .returned (.agg #[.int .i64 (s.nu + 1), .int .i64 (s.a + 0), .int .i64 (s.b + (-y.am)), .slice pa s.pn pc, .slice vx (s.hn + 1) vy]) ∧ Below V4.heap.size V4 w') := HWT.out pa s.pn pc vx (s.hn + 1) vy V4
          clear HXr HB0 HB4
          obtain ⟨c0, c1, c2, c3, c4, cf⟩ := five_of HX4.out.1
          obtain ⟨k0, k1, k2⟩ := hd_new (x := y) HX4.out.2.1 rfl
          have en := EN.out
          go_wp2_with fail
          refine (to_1 (-y.am) V4).mono ?_
          rintro e Vw ⟨rfl, hVw⟩
          rw [hVw]
          clear hVw
          go_wp2_with fail
          refine HWI.out.mono ?_
          rintro e V6 ⟨rfl, hb6⟩
          have HX6 : Hid (V6.heap[w.heap.size + 2]? = some (.cells #[.int .i64 0, .int .i64 0, .int .i64 0, .slice none 0 0, .slice none 0 0] 26 (0, 0)) ∧ Below w.heap.size w V6) := ⟨(hb6.block _ (lt_of_block HX4.out.2.2.1)).trans HX4.out.2.2.1, HX4.out.2.2.2.trans (hb6.mono HX4.out.2.2.2.size)⟩
          have HO6 : Hid (V6.ownsRow Wd.heap.size 29 3 (.slice vx (s.hn + 1) vy) (s.hn + 1) (flatL (hf (insG s.H i y) (insG A i (ka, kc))) (s.hn + 1))) := own_below HO4.out hb6
          clear c0 c1 c2 c3 c4 cf k0 k1 k2 HWI HO4 hb6 HX4 en
          obtain ⟨d0, d1, d2, d3, d4, df⟩ := five_of HX6.out.1
          go_wp2
          refine bodyPost_ret (results_R2 Tryd.results9 _ _ (w.heap.size + 2) 26 _ _ _ _ _ (0, 0) rfl (five_all HX6.out.1)) rfl ⟨⟨i, HIL.out, HLO.out, HHI.out, ⟨pa, pc, vx, vy⟩, by rw [HSV.out]; rfl, ?_⟩, five_below HX6.out.2 (by omega)⟩
          exact HFIN.out i HIL.out A vx vy _ Wd.heap.size HKS.out (by have h1 := HWS.out; omega) (five_below HX6.out.2 (by omega)) (own_keep HO6.out (fun g e => five_other (by have h1 := (HO6.out.lt g e).1; have h2 := HWS.out; omega)))
        · have HBU : Below Wd.heap.size Wd Wd := Below.refl _ _
          refine step_sliceR rfl (.tmp 86) rfl y ka kc (by rfl) ?_
          intro q V1 hq hle hb1
          have HBW : Hid (Below Wd.heap.size Wd V1) := Below.transS HBU hb1
          have HQ1 : Hid (V1.heap[q]? = some (.cells (hdv y ka kc) 29 (0, 0))) := hq
          refine hK.out _ _ (SR.out V1 HBW.out) (fun _ => ?_)
          try simp only [Act.put, List.setIfInBounds_toArray, List.set_cons_zero, List.set_cons_succ]
          (try rw [Nat.zero_add])
          clear hK K hq hle
          have HBV : Hid (Below Wd.heap.size Wd V1) := HBW.out
          clear hb1
          refine wpAnyH_ready (rs := [5]) (by kernel_rfl) (by simp) ?_
          refine (AllReadyH.cons (o := { dst := some 85, op := Go.Op.call { callee := Go.Callee.builtin Go.Builtin.append, args := #[Go.Operand.tmp 80, Go.Operand.tmp 84], argTypes := #[24, 24] }, type := 24, pos := "ref.go:250", after := #[{ on := 0, ground := Go.Ground.data }, { on := 4, ground := Go.Ground.data }], guard := none }) rfl (fun K hK => ?_) AllReadyH.nil)
          have HBU : Below Wd.heap.size Wd V1 := HBV.out
          refine step_append_R rfl (.tmp 80) (.tmp 84) rfl Wd.heap.size (.slice none 0 0) 0 [] (some ⟨b, off, none⟩) i hc (flatL (hf s.H A) i) (by rfl) (by rfl) (World.ownsRow_nil _ _ _ _) HBU.size ((HSR.out.below (HB0.out.trans (HBU.mono HB0.out.size))).take (hf_len _ _ _) HIL.out (by simp)) (flatL_length i (hf_len _ _ _)) (hf_one _ _ _) (by omega) ?_
          intro va vc V2 hown hgr
          rw [Nat.zero_add, List.nil_append] at hown
          have hb1 : Below V1.heap.size V1 V2 := ⟨hgr.os, hgr.tape, hgr.output, hgr.size, fun k hk => hgr.block k hk (by simp [Value.ownBlock])⟩
          have HO1 : Hid (V2.ownsRow Wd.heap.size 29 3 (.slice va i vc) i (flatL (hf s.H A) i)) := hown
          have HBW : Hid (Below Wd.heap.size Wd V2) := Below.transS HBU hb1
          have HQ : Hid (V2.heap[q]? = some (.cells (hdv y ka kc) 29 (0, 0))) := (hb1.block _ (lt_of_block HQ1.out)).trans HQ1.out
          have HO2 : Hid (V2.ownsRow Wd.heap.size 29 3 (.slice va i vc) i (flatL (hf s.H A) i)) := HO1.out
          refine hK.out _ _ (SR.out V2 HBW.out) (fun _ => ?_)
          try simp only [Act.put, List.setIfInBounds_toArray, List.set_cons_zero, List.set_cons_succ]
          (try rw [Nat.zero_add])
          clear hK K hown hgr hb1 HQ1 HO1 HBV HBU
          refine wpAnyH_ready (rs := [8]) (by kernel_rfl) (by simp) ?_
          refine (AllReadyH.cons (o := { dst := some 88, op := Go.Op.call { callee := Go.Callee.builtin Go.Builtin.append, args := #[Go.Operand.tmp 85, Go.Operand.tmp 87], argTypes := #[24, 24] }, type := 24, pos := "ref.go:250", after := #[{ on := 5, ground := Go.Ground.data }, { on := 7, ground := Go.Ground.data }, { on := 5, ground := Go.Ground.chain }], guard := none }) rfl (fun K hK => ?_) AllReadyH.nil)
          refine step_append_R rfl (.tmp 85) (.tmp 87) rfl Wd.heap.size (.slice va i vc) i (flatL (hf s.H A) i) (some ⟨q, 0, none⟩) 1 1 (hdl y ka kc) (by rfl) (by rfl) HO2.out HBW.out.size ⟨fun _ => ⟨q, 0, rfl, hdv_range HQ.out⟩, fun e => by cases e⟩ rfl (hdl_one y ka kc) (by omega) ?_
          intro vb vd V3 hown hgr
          have HO3 : Hid (V3.ownsRow Wd.heap.size 29 3 (.slice vb (i + 1) vd) (i + 1) (flatL (hf s.H A) i ++ hdl y ka kc)) := hown
          have HB3 : Hid (Below Wd.heap.size Wd V3) := grown_below HO2.out hgr HBW.out (Nat.le_refl _)
          refine hK.out _ _ (SR.out V3 HB3.out) (fun _ => ?_)
          clear hK K hown hgr HO2 HQ HBW
          try simp only [Act.put, List.setIfInBounds_toArray, List.set_cons_zero, List.set_cons_succ]
          refine wpAnyH_ready (rs := [13]) (by kernel_rfl) (by simp) ?_
          refine (AllReadyH.cons (o := { dst := some 93, op := Go.Op.call { callee := Go.Callee.builtin Go.Builtin.append, args := #[Go.Operand.tmp 88, Go.Operand.tmp 92], argTypes := #[24, 24] }, type := 24, pos := "ref.go:250", after := #[{ on := 8, ground := Go.Ground.data }, { on := 12, ground := Go.Ground.data }, { on := 8, ground := Go.Ground.chain }], guard := none }) rfl (fun K hK => ?_) AllReadyH.nil)
          have HBU : Below Wd.heap.size Wd V3 := HB3.out
          refine step_append_R rfl (.tmp 88) (.tmp 92) rfl Wd.heap.size (.slice vb (i + 1) vd) (i + 1) (flatL (hf s.H A) i ++ hdl y ka kc) ax (s.hn - i) (hc - i) (flatL (fun j => hf s.H A (i + j)) (s.hn - i)) (by rfl) (by rfl) HO3.out HBU.size (by rw [← HAX.out]; exact (HSR.out.below (HB0.out.trans (HBU.mono HB0.out.size))).drop (hf_len _ _ _) HIL.out HCP.out) (flatL_length _ (fun j hj => rfl)) (fun u hu => by
            obtain ⟨j, _, hj⟩ := flatL_mem _ hu
            exact hdl_one _ _ _ u hj) (by omega) ?_
          intro vx vy V4 hown hgr
          have em : i + 1 + (s.hn - i) = s.hn + 1 := by omega
          have HB4 : Hid (Below Wd.heap.size Wd V4) := grown_below HO3.out hgr HB3.out (Nat.le_refl _)
          rw [em] at hown
          have HO4 : Hid (V4.ownsRow Wd.heap.size 29 3 (.slice vx (s.hn + 1) vy) (s.hn + 1) (flatL (hf (insG s.H i y) (insG A i (ka, kc))) (s.hn + 1))) := by
            have e0 := insF_mid (hf s.H A) i (s.hn - i) (hdl y ka kc)
            rw [show i + (s.hn - i) + 1 = s.hn + 1 by omega] at e0
            show V4.ownsRow Wd.heap.size 29 3 (.slice vx (s.hn + 1) vy) (s.hn + 1) (flatL (hf (insG s.H i y) (insG A i (ka, kc))) (s.hn + 1))
            rw [insG_hf, e0, ← List.append_assoc]
            exact hown
          refine hK.out _ _ (SR.out V4 HB4.out) (fun _ => ?_)
          clear hK K hown hgr HO3 HB3 HBU
          try simp only [Act.put, List.setIfInBounds_toArray, List.set_cons_zero, List.set_cons_succ]
          rw [em]
          refine wpAnyH_take (i := 14) (oi := { dst := some 8, op := Go.Op.assign (Go.Operand.tmp 93), type := 24, pos := "ref.go:250", after := #[{ on := 13, ground := Go.Ground.data }, { on := 13, ground := Go.Ground.chain }, { on := 0, ground := Go.Ground.phase }, { on := 1, ground := Go.Ground.phase }, { on := 2, ground := Go.Ground.phase }, { on := 3, ground := Go.Ground.phase }, { on := 4, ground := Go.Ground.phase }, { on := 5, ground := Go.Ground.phase }, { on := 6, ground := Go.Ground.phase }, { on := 7, ground := Go.Ground.phase }, { on := 8, ground := Go.Ground.phase }, { on := 9, ground := Go.Ground.phase }, { on := 10, ground := Go.Ground.phase }, { on := 11, ground := Go.Ground.phase }, { on := 12, ground := Go.Ground.phase }, { on := 13, ground := Go.Ground.phase }], guard := none }) (v := ?_) rfl (by kernel_rfl) (by kernel_rfl) (by kernel_rfl) (fun _ _ _ h => h) (Or.inl ⟨by rfl, ?_⟩) (by assumption) ?_
          rotate_left
          · intro wz hSw; (try dsimp only at hSw); go_simp; (try with_reducible rfl)
          try simp only [Act.put, List.setIfInBounds_toArray, List.set_cons_zero, List.set_cons_succ]
          refine wpAnyH_done (by kernel_rfl) (NoPanic.normal ?_) _
          try simp only [Act.put, List.setIfInBounds_toArray, List.set_cons_zero, List.set_cons_succ]
          clear hHeld S0 SR em
          have HX4 : Hid (V4.heap[w.heap.size]? = some (.cells #[.int .i64 s.nu, .int .i64 s.a, .int .i64 s.b, .slice pa s.pn pc, .slice (some ⟨b, off, none⟩) s.hn hc] 26 (0, 0)) ∧ V4.heap[w.heap.size + 1]? = some (.cells #[.int .i64 y.id, .int .i64 y.am, .slice ka y.n kc] 29 (0, 0)) ∧ V4.heap[w.heap.size + 2]? = some (.cells #[.int .i64 0, .int .i64 0, .int .i64 0, .slice none 0 0, .slice none 0 0] 26 (0, 0)) ∧ Below w.heap.size w V4) := ⟨(HB4.out.block _ (lt_of_block HXr.out.1)).trans HXr.out.1, (HB4.out.block _ (lt_of_block HXr.out.2.1)).trans HXr.out.2.1, (HB4.out.block _ (lt_of_block HXr.out.2.2.1)).trans HXr.out.2.2.1, HB0.out.trans (HB4.out.mono HB0.out.size)⟩
          have HWI : Hid (Calls Tryd.prog 29 #[.agg #[.int .i64 s.nu, .int .i64 s.a, .int .i64 s.b, .slice pa s.pn pc, .slice (some ⟨b, off, none⟩) s.hn hc], .int .i64 0, .int .i64 (-y.am), .slice pa s.pn pc, .slice vx (s.hn + 1) vy] V4 fun e w' => e = .returned (.agg #[.int .i64 (s.nu + 1), .int .i64 (s.a + 0), .int .i64 (s.b + (-y.am)), .slice pa s.pn pc, .slice vx (s.hn + 1) vy]) ∧ Below V4.heap.size V4 w') := HWT.out pa s.pn pc vx (s.hn + 1) vy V4
          clear HXr HB0 HB4
          obtain ⟨c0, c1, c2, c3, c4, cf⟩ := five_of HX4.out.1
          obtain ⟨k0, k1, k2⟩ := hd_new (x := y) HX4.out.2.1 rfl
          have en := EN.out
          go_wp2_with fail
          refine (to_1 (-y.am) V4).mono ?_
          rintro e Vw ⟨rfl, hVw⟩
          rw [hVw]
          clear hVw
          go_wp2_with fail
          refine HWI.out.mono ?_
          rintro e V6 ⟨rfl, hb6⟩
          have HX6 : Hid (V6.heap[w.heap.size + 2]? = some (.cells #[.int .i64 0, .int .i64 0, .int .i64 0, .slice none 0 0, .slice none 0 0] 26 (0, 0)) ∧ Below w.heap.size w V6) := ⟨(hb6.block _ (lt_of_block HX4.out.2.2.1)).trans HX4.out.2.2.1, HX4.out.2.2.2.trans (hb6.mono HX4.out.2.2.2.size)⟩
          have HO6 : Hid (V6.ownsRow Wd.heap.size 29 3 (.slice vx (s.hn + 1) vy) (s.hn + 1) (flatL (hf (insG s.H i y) (insG A i (ka, kc))) (s.hn + 1))) := own_below HO4.out hb6
          clear c0 c1 c2 c3 c4 cf k0 k1 k2 HWI HO4 hb6 HX4 en
          obtain ⟨d0, d1, d2, d3, d4, df⟩ := five_of HX6.out.1
          go_wp2
          refine bodyPost_ret (results_R2 Tryd.results9 _ _ (w.heap.size + 2) 26 _ _ _ _ _ (0, 0) rfl (five_all HX6.out.1)) rfl ⟨⟨i, HIL.out, HLO.out, HHI.out, ⟨pa, pc, vx, vy⟩, by rw [HSV.out]; rfl, ?_⟩, five_below HX6.out.2 (by omega)⟩
          exact HFIN.out i HIL.out A vx vy _ Wd.heap.size HKS.out (by have h1 := HWS.out; omega) (five_below HX6.out.2 (by omega)) (own_keep HO6.out (fun g e => five_other (by have h1 := (HO6.out.lt g e).1; have h2 := HWS.out; omega)))
end Go.Proofs.YtjlobimncpiacaaDoor
