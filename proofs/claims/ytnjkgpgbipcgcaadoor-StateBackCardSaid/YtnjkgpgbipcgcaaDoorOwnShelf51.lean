/- StateBack: the walk. -/
import Derived.Test.YtnjkgpgbipcgcaaDoorOwnShelf34
import Derived.Test.YtnjkgpgbipcgcaaDoorOwnShelf48
import Derived.Test.YtnjkgpgbipcgcaaDoorOwnShelf47
import Derived.Test.YtnjkgpgbipcgcaaDoorOwnShelf49
import Derived.Test.YtnjkgpgbipcgcaaDoorOwnShelf45
import Derived.Test.YtnjkgpgbipcgcaaDoorOwnShelf50
import Derived.OrdersHeld
import Derived.Test.YtnjkgpgbipcgcaaDoorOwnShelf11
namespace Go.Proofs.YtnjkgpgbipcgcaaDoor
open Go.RowKit

theorem vAnyH_more {P : Program} {md : Region.Mode} {ops : Array Oper} {Q : Exit → Act → World → Prop} {S S' : World → Prop} (hS : ∀ w, S' w → S w) : ∀ (fuel : Nat) (listed : Array Bool) (a : Act) (w : World), wpAnyH P md ops Q S' fuel listed a w → wpAnyH P md ops Q S fuel listed a w
  | 0, _, _, _, h => h
  | fuel + 1, _, _, _, h => ⟨h.1, fun i hi => wpOp_mono (fun a' w' h' => ⟨hS w' h'.1, vAnyH_more hS fuel _ a' w' h'.2⟩) (h.2 i hi)⟩
theorem hidB {p : Prop} (h : p) : Hid p := h
theorem SlAt.keepV {w w' : World} {ad : Option Addr} {n : Nat} {z : Nat → Int} (h : SlAt w ad n z) (hb : Below w.heap.size w w') : SlAt w' ad n z := h.frm (S := []) (Frm.ofBelow hb) (by simp)
theorem vGlob {w w' : World} (h : Glob w) (hb : Below w.heap.size w w') : Glob w' := h.below hb h.pos
theorem sv_cells {w : World} {g : Nat} {s : Sv} {p : Pl} {t : TypeId} {fr : Nat × Nat} (h : w.heap[g]? = some (.cells (svv s p) t fr)) : w.rangeAt g 0 (svv s p).toList := fun j v hv => by
  rw [Nat.zero_add, cell_of_row _ _ j _ _ _ h]
  simpa using hv
set_option maxRecDepth 100000 in
set_option maxHeartbeats 3200000 in
theorem back_any (s : Sv) (p : Pl) (w : World) (hg : Glob w) (hT : Tab w) (hgl : 3 ≤ w.heap.size) (h : SvAt w s p) (h1 : s.pn ≤ 140737488355328) (h2 : s.hn ≤ 140737488355328) (h3 : ∀ i, i < s.hn → (s.H i).n ≤ 140737488355328) (hi : s.Ints) :
    Calls Tryd.prog 4 #[.agg (svv s p)] w fun e w' => e = .returned (.bool true) ∧ Below w.heap.size w w' := by
  have hb0 : Below w.heap.size w (w.alloc (.cells (svv s p) 56)) := (Below.refl _ w).alloc (Nat.le_refl _) _
  have hr0 := heap_alloc_new w (.cells (svv s p) 56)
  have hl := long_any s p _ (h.below hb0) h1 h2 h3
  have HH : Hid (Glob w ∧ Tab w ∧ 3 ≤ w.heap.size ∧ SvAt w s p ∧ s.Ints) := ⟨hg, hT, hgl, h, hi⟩
  have HR0 : Hid ((w.alloc (.cells (svv s p) 56)).rangeAt w.heap.size 0 (svv s p).toList) := sv_cells hr0
  clear hg hT hgl h h1 h2 h3 hi
  by_cases hlg : lngS s = true
  · rw [hlg] at hl
    clear hlg hr0
    go_enter Tryd.func4, Tryd.ntmps4
    go_wp2_with (first | (refine Go.Great.wpList_boxTo rfl _ _ rfl _ rfl _ rfl (svv s p) rfl ?_) | (refine wpList_load_mid rfl 56 _ rfl w.heap.size 0 rfl (svv s p).toList _ HR0.out Tryd.underlying56 rfl szSr ?_) | fail)
    refine hl.mono ?_
    rintro e w1 ⟨rfl, hb1⟩
    clear hl
    go_wp2_with fail
    refine (sure_any w1).mono ?_
    rintro e w2 ⟨rfl, hb2⟩
    have HE : Hid (Below w.heap.size w w2) := (hb0.trans (hb1.mono hb0.size)).trans (hb2.mono (by have := hb0.size; have := hb1.size; omega))
    clear hb0 hb1 hb2
    go_wp2
    go_ret
    exact ⟨rfl, HE.out⟩
  · have hlf : lngS s = false := by simpa using hlg
    rw [hlf] at hl
    have HSM : Hid s.Small := lngS_no hlf
    clear hlg hlf
    go_enter Tryd.func4, Tryd.ntmps4
    go_wp2_with (first | (refine Go.Great.wpList_boxTo rfl _ _ rfl _ rfl _ rfl (svv s p) rfl ?_) | (refine wpList_load_mid rfl 56 _ rfl w.heap.size 0 rfl (svv s p).toList _ HR0.out Tryd.underlying56 rfl szSr ?_) | fail)
    generalize w.alloc (.cells (svv s p) 56) = W0 at *
    refine hl.mono ?_
    rintro e w1 ⟨rfl, hb1⟩
    have HB1 : Hid (Below w.heap.size w w1) := hb0.trans (hb1.mono hb0.size)
    have HR1 : Hid (w1.rangeAt w.heap.size 0 (svv s p).toList) := range_below HR0.out hb1
    clear hl hr0 hb0 hb1 HR0
    go_wp2_with (first | (refine wpList_load_mid rfl 56 _ rfl w.heap.size 0 rfl (svv s p).toList _ HR1.out Tryd.underlying56 rfl szSr ?_) | fail)
    refine (give_any s p w1 (HH.out.2.2.2.1.below HB1.out) HSM.out).mono ?_
    rintro e w2 ⟨⟨q, A, rfl, hO⟩, hb2⟩
    have hb2' : Below w1.heap.size w1 (w2.alloc (.cells (svv s q) 28)) := hb2.alloc hb2.size _
    have HB2 : Hid (Below w.heap.size w (w2.alloc (.cells (svv s q) 28))) := HB1.out.trans (hb2'.mono HB1.out.size)
    have x2 := heap_alloc_new w2 (.cells (svv s q) 28)
    have HA2 : Hid (SvAt (w2.alloc (.cells (svv s q) 28)) s q) := hO.at.below ((Below.refl _ w2).alloc (Nat.le_refl _) _)
    clear hO hb2 hb2' HB1 HR1
    unfold svv at x2 HB2 HA2 ⊢
    go_wp2_with fail
    have hkE := encode_cap s q _ HA2.out HSM.out
    have HLL : Hid ((laidS s).length ≤ 279545) := laidS_len s HSM.out
    unfold svv at hkE
    generalize w2.alloc (.cells #[.int .i64 s.nu, .int .i64 s.a, .int .i64 s.b, .slice q.pa s.pn q.pc, .slice q.ha s.hn q.hc] 28) = W2 at *
    generalize w2.heap.size = X at *
    refine hkE.mono ?_
    rintro e w3 ⟨ad, cap, rfl, hcap, hsl, hnil, hb3⟩
    clear hkE
    have hby : ByQ (some (laidS s)) := by
      rintro l' h j hj
      cases h
      exact hsl.1 j hj
    have HBO := hidB (back_ok HH.out.2.2.2.2 hby)
    have HLO := hidB (fun h => laid_ok hby (l := laidS s) h)
    have HB3 : Hid (Below w.heap.size w w3) := HB2.out.trans (hb3.mono HB2.out.size)
    have HX3 : Hid (∀ w', Below w3.heap.size w3 w' → w'.heap[X]? = some (.cells (svv s q) 28 (0, 0)) ∧ SvAt w' s q ∧ SlAt w' ad (laidS s).length (fn (laidS s))) := fun w' hb => by
      have hbb := hb3.trans (hb.mono hb3.size)
      exact ⟨by rw [hbb.block _ (lt_of_block x2)]; exact x2, HA2.out.below hbb, hsl.keepV hb⟩
    obtain ⟨L, hL⟩ : ∃ L, laidS s = L := ⟨_, rfl⟩
    have HLs : Hid (laidS s = L) := hL
    rw [hL] at HBO HLO HX3 hcap hsl hnil HLL ⊢
    have hkD := decode_any ad cap L w3 hsl hnil (by have := HLL.out; omega)
    obtain ⟨t, ht⟩ : ∃ t, decT L = t := ⟨_, rfl⟩
    obtain ⟨er, her⟩ : ∃ er, decE L = er := ⟨_, rfl⟩
    have HT : Hid (decT L = t ∧ decE L = er ∧ t.Small) := ⟨ht, her, by rw [← ht]; exact decT_small L⟩
    have HNIL : Hid ((ad = none → L.length = 0 ∧ cap = 0) ∧ L.length ≤ cap) := ⟨hnil, hcap⟩
    rw [ht, her] at hkD
    clear hL ht her hby hsl hnil hcap hb3 x2 HA2 HB2
    go_wp2_with fail
    refine hkD.mono ?_
    rintro e w4 ⟨p4, rfl, hA4, hb4⟩
    clear hkD
    have hb4' : Below w3.heap.size w3 (w4.alloc (.cells (svv t p4) 28)) := hb4.alloc hb4.size _
    have x4 := heap_alloc_new w4 (.cells (svv t p4) 28)
    have hA4' := hA4.below ((Below.refl _ w4).alloc (Nat.le_refl _) (.cells (svv t p4) 28))
    unfold svv at x4 hb4' hA4' ⊢
    clear hA4 hb4
    obtain ⟨x3, _, _⟩ := HX3.out _ hb4'
    have c0 := cell_of_row _ _ 0 _ _ _ x3
    have c1 := cell_of_row _ _ 1 _ _ _ x3
    have c2 := cell_of_row _ _ 2 _ _ _ x3
    have c3 := cell_of_row _ _ 3 _ _ _ x3
    have c4 := cell_of_row _ _ 4 _ _ _ x3
    have HRX : Hid ((w4.alloc (.cells #[.int .i64 t.nu, .int .i64 t.a, .int .i64 t.b, .slice p4.pa t.pn p4.pc, .slice p4.ha t.hn p4.hc] 28)).rangeAt X 0 (svv s q).toList) := sv_cells x3
    clear x3 c0 c1 c2 c3 c4
    go_wp2_with (first | (refine wpList_load_mid rfl 28 _ rfl X 0 rfl (svv s q).toList _ HRX.out Tryd.underlying28 rfl szS ?_) | fail)
    have hkC := check_any s q _ (HX3.out _ hb4').2.1 HSM.out
    have HX4 : Hid (∀ w', Below (w4.alloc (.cells #[.int .i64 t.nu, .int .i64 t.a, .int .i64 t.b, .slice p4.pa t.pn p4.pc, .slice p4.ha t.hn p4.hc] 28)).heap.size (w4.alloc (.cells #[.int .i64 t.nu, .int .i64 t.a, .int .i64 t.b, .slice p4.pa t.pn p4.pc, .slice p4.ha t.hn p4.hc] 28)) w' → w'.rangeAt w4.heap.size 0 (svv t p4).toList ∧ w'.rangeAt X 0 (svv s q).toList ∧ SvAt w' t p4 ∧ SvAt w' s q ∧ SlAt w' ad L.length (fn L)) := fun w' hb => by
      have h1 := HX3.out w' (hb4'.trans (hb.mono hb4'.size))
      exact ⟨range_below (sv_cells (s := t) (p := p4) x4) hb, sv_cells h1.1, hA4'.below hb, h1.2.1, h1.2.2⟩
    have HB4 : Hid (Below w.heap.size w (w4.alloc (.cells #[.int .i64 t.nu, .int .i64 t.a, .int .i64 t.b, .slice p4.pa t.pn p4.pc, .slice p4.ha t.hn p4.hc] 28))) := HB3.out.trans (hb4'.mono HB3.out.size)
    clear HX3 HB3 hb4' x4 hA4' HRX
    generalize w4.alloc (.cells #[.int .i64 t.nu, .int .i64 t.a, .int .i64 t.b, .slice p4.pa t.pn p4.pc, .slice p4.ha t.hn p4.hc] 28) = W4 at *
    generalize w4.heap.size = Y at *
    refine hkC.mono ?_
    rintro e w5 ⟨rfl, hb5⟩
    have HB5 : Hid (Below w.heap.size w w5) := HB4.out.trans (hb5.mono HB4.out.size)
    have HX5 : Hid (∀ w', Below w5.heap.size w5 w' → w'.rangeAt Y 0 (svv t p4).toList ∧ w'.rangeAt X 0 (svv s q).toList ∧ SvAt w' t p4 ∧ SvAt w' s q ∧ SlAt w' ad L.length (fn L)) := fun w' hb => HX4.out w' (hb5.trans (hb.mono hb5.size))
    clear hkC hb5 HX4 HB4
    by_cases hok : SOk s
    · have hd : decOk L := HBO.out.2 hok
      have h0 : er = 0 := by rw [← HT.out.2.1]; exact if_pos hd
      have HLT : Hid (laidS t = L) := by rw [← HT.out.1]; exact HLO.out (by rw [HT.out.2.1]; exact h0)
      subst h0
      have e1 : errV (chkE s) = .nilIface := by rw [chkE, if_pos hok]; rfl
      have e0 : errV 0 = .nilIface := rfl
      rw [e1, e0]
      clear hok hd e1 e0
      go_wp2_with fail
      have HS : Hid (∀ w', Below w5.heap.size w5 w' → (w'.rangeAt Y 0 (svv t p4).toList ∧ w'.rangeAt X 0 (svv s q).toList) ∧ (convert 37 9 (.slice ad L.length cap)).run Tryd.prog w' = .ok (.string (strB (fn L) L.length)) w') := fun w' hb => by
        obtain ⟨h1, h2, _, _, h5⟩ := HX5.out w' hb
        exact ⟨⟨h1, h2⟩, conv_any ad _ cap _ w' h5 HNIL.out.1⟩
      have S0 := HS.out w5.drew (Below.refl _ w5).drew
      refine wp_region_noPanic ?_
      refine wp_region_held_drew (S := fun w' => (w'.rangeAt Y 0 (svv t p4).toList ∧ w'.rangeAt X 0 (svv s q).toList) ∧ (convert 37 9 (.slice ad L.length cap)).run Tryd.prog w' = .ok (.string (strB (fn L) L.length)) w') (by kernel_rfl) S0 (fun hHeld => ?_)
      refine wpAnyH_take (i := 0) (oi := { dst := some 49, op := Go.Op.move (Go.Operand.tmp 6), type := 41, pos := "law.go:171", after := #[], guard := none }) (v := ?_) rfl (by kernel_rfl) (by kernel_rfl) (by kernel_rfl) (fun _ _ _ h => h) (Or.inl ⟨by rfl, ?_⟩) (by assumption) ?_
      rotate_left
      · intro wz hSw; (try dsimp only at hSw); go_simp; (try with_reducible rfl)
      try simp only [Act.put, List.setIfInBounds_toArray, List.set_cons_zero, List.set_cons_succ]
      refine wpAnyH_take (i := 1) (oi := { dst := some 50, op := Go.Op.binOp Go.BinOp.eql 41 (Go.Operand.tmp 49) (Go.Operand.const Go.Value.nilIface) 41, type := 4, pos := "law.go:171", after := #[{ on := 0, ground := Go.Ground.data }], guard := none }) (v := ?_) rfl (by kernel_rfl) (by kernel_rfl) (by kernel_rfl) (fun _ _ _ h => h) (Or.inl ⟨by rfl, ?_⟩) (by assumption) ?_
      rotate_left
      · intro wz hSw; (try dsimp only at hSw); go_simp; (try with_reducible rfl)
      try simp only [Act.put, List.setIfInBounds_toArray, List.set_cons_zero, List.set_cons_succ]
      refine wpAnyH_take (i := 2) (oi := { dst := some 51, op := Go.Op.move (Go.Operand.tmp 50), type := 4, pos := "law.go:171", after := #[{ on := 1, ground := Go.Ground.data }], guard := none }) (v := ?_) rfl (by kernel_rfl) (by kernel_rfl) (by kernel_rfl) (fun _ _ _ h => h) (Or.inl ⟨by rfl, ?_⟩) (by assumption) ?_
      rotate_left
      · intro wz hSw; (try dsimp only at hSw); go_simp; (try with_reducible rfl)
      try simp only [Act.put, List.setIfInBounds_toArray, List.set_cons_zero, List.set_cons_succ]
      refine wpAnyH_take (i := 6) (oi := { dst := some 55, op := Go.Op.move (Go.Operand.tmp 4), type := 37, pos := "law.go:171", after := #[{ on := 2, ground := Go.Ground.guard }], guard := some (2, true) }) (v := ?_) rfl (by kernel_rfl) (by kernel_rfl) (by kernel_rfl) (fun _ _ _ h => h) (Or.inl ⟨by rfl, ?_⟩) (by assumption) ?_
      rotate_left
      · intro wz hSw; (try dsimp only at hSw); go_simp; (try with_reducible rfl)
      try simp only [Act.put, List.setIfInBounds_toArray, List.set_cons_zero, List.set_cons_succ]
      refine wpAnyH_take (i := 7) (oi := { dst := some 56, op := Go.Op.convert 37 9 (Go.Operand.tmp 55), type := 9, pos := "law.go:171", after := #[{ on := 6, ground := Go.Ground.data }, { on := 2, ground := Go.Ground.guard }], guard := some (2, true) }) (v := ?_) rfl (by kernel_rfl) (by kernel_rfl) (by kernel_rfl) (fun _ _ _ h => h) (Or.inl ⟨by rfl, ?_⟩) (by assumption) ?_
      rotate_left
      · intro wz hSw; (try dsimp only at hSw); go_simp; (try with_reducible rfl)
      try simp only [Act.put, List.setIfInBounds_toArray, List.set_cons_zero, List.set_cons_succ]
      refine wpAnyH_take (i := 3) (oi := { dst := some 52, op := Go.Op.load 28 (Go.Operand.tmp 5), type := 28, pos := "law.go:171", after := #[{ on := 2, ground := Go.Ground.guard }], guard := some (2, true) }) rfl (by kernel_rfl) (by kernel_rfl) (by kernel_rfl) (fun _ _ _ h => h) (yieldsIf_load_mid (by rfl) _ _ rfl Y 0 rfl (svv t p4).toList _ (fun _ h => h.1.1) Tryd.underlying28 rfl szS) (by assumption) ?_
      try simp only [Act.put, List.setIfInBounds_toArray, List.set_cons_zero, List.set_cons_succ]
      refine wpAnyH_ready (rs := [4]) (by kernel_rfl) (by simp) ?_
      refine (AllReadyH.cons (o := { dst := some 53, op := Go.Op.call { callee := Go.Callee.value (Go.Operand.func 16), args := #[Go.Operand.tmp 52], argTypes := #[28] }, type := 37, pos := "law.go:171", after := #[{ on := 3, ground := Go.Ground.data }, { on := 2, ground := Go.Ground.chain }, { on := 2, ground := Go.Ground.guard }], guard := some (2, true) }) rfl (fun K hK => ?_) AllReadyH.nil)
      go_simp
      have kE := encode_any t p4 w5.drew (HX5.out w5.drew (Below.refl _ w5).drew).2.2.1 HT.out.2.2
      rw [HLT.out] at kE
      refine kE.mono ?_
      rintro e w6 ⟨ad6, cap6, rfl, hsl6, hnil6, hb6⟩
      have HB6 : Hid (Below w5.heap.size w5 w6) := (Below.refl _ w5).drew.trans hb6
      clear kE hb6
      have HS6 : Hid (∀ w', Below w6.heap.size w6 w' → ((w'.rangeAt Y 0 (svv t p4).toList ∧ w'.rangeAt X 0 (svv s q).toList) ∧ (convert 37 9 (.slice ad L.length cap)).run Tryd.prog w' = .ok (.string (strB (fn L) L.length)) w') ∧ (convert 37 9 (.slice ad6 L.length cap6)).run Tryd.prog w' = .ok (.string (strB (fn L) L.length)) w') := fun w' hb =>
        ⟨HS.out w' (HB6.out.trans (hb.mono HB6.out.size)), conv_any ad6 _ cap6 _ w' (hsl6.keepV hb) hnil6⟩
      refine hK.out _ _ (HS.out w6 HB6.out) (fun _ => ?_)
      clear hK K hsl6 hnil6
      refine vAnyH_more (S' := fun w' => ((w'.rangeAt Y 0 (svv t p4).toList ∧ w'.rangeAt X 0 (svv s q).toList) ∧ (convert 37 9 (.slice ad L.length cap)).run Tryd.prog w' = .ok (.string (strB (fn L) L.length)) w') ∧ (convert 37 9 (.slice ad6 L.length cap6)).run Tryd.prog w' = .ok (.string (strB (fn L) L.length)) w') (fun _ h => h.1) _ _ _ _ ?_
      have S6 := HS6.out w6 (Below.refl _ w6)
      refine wpAnyH_take (i := 5) (oi := { dst := some 54, op := Go.Op.convert 37 9 (Go.Operand.tmp 53), type := 9, pos := "law.go:171", after := #[{ on := 4, ground := Go.Ground.data }, { on := 2, ground := Go.Ground.guard }], guard := some (2, true) }) (v := ?_) rfl (by kernel_rfl) (by kernel_rfl) (by kernel_rfl) (fun _ _ _ h => h) (Or.inl ⟨by rfl, ?_⟩) (by assumption) ?_
      rotate_left
      · intro wz hSw; (try dsimp only at hSw); go_simp; (try with_reducible rfl)
      try simp only [Act.put, List.setIfInBounds_toArray, List.set_cons_zero, List.set_cons_succ]
      refine wpAnyH_take (i := 8) (oi := { dst := some 57, op := Go.Op.binOp Go.BinOp.eql 9 (Go.Operand.tmp 54) (Go.Operand.tmp 56) 9, type := 4, pos := "law.go:171", after := #[{ on := 5, ground := Go.Ground.data }, { on := 7, ground := Go.Ground.data }, { on := 2, ground := Go.Ground.guard }], guard := some (2, true) }) (v := ?_) rfl (by kernel_rfl) (by kernel_rfl) (by kernel_rfl) (fun _ _ _ h => h) (Or.inl ⟨by rfl, ?_⟩) (by assumption) ?_
      rotate_left
      · intro wz hSw; (try dsimp only at hSw); go_simp; (try with_reducible rfl)
      try simp only [Act.put, List.setIfInBounds_toArray, List.set_cons_zero, List.set_cons_succ]
      refine wpAnyH_take (i := 9) (oi := { dst := some 58, op := Go.Op.pick (Go.Operand.tmp 51) (Go.Operand.tmp 57) (Go.Operand.const (Go.Value.bool false)), type := 4, pos := "law.go:171", after := #[{ on := 2, ground := Go.Ground.data }, { on := 8, ground := Go.Ground.data }], guard := none }) (v := ?_) rfl (by kernel_rfl) (by kernel_rfl) (by kernel_rfl) (fun _ _ _ h => h) (Or.inl ⟨by rfl, ?_⟩) (by assumption) ?_
      rotate_left
      · intro wz hSw; (try dsimp only at hSw); go_simp; (try with_reducible rfl)
      try simp only [Act.put, List.setIfInBounds_toArray, List.set_cons_zero, List.set_cons_succ]
      refine wpAnyH_take (i := 10) (oi := { dst := some 59, op := Go.Op.move (Go.Operand.tmp 58), type := 4, pos := "law.go:171", after := #[{ on := 9, ground := Go.Ground.data }, { on := 4, ground := Go.Ground.chain }], guard := none }) (v := ?_) rfl (by kernel_rfl) (by kernel_rfl) (by kernel_rfl) (fun _ _ _ h => h) (Or.inl ⟨by rfl, ?_⟩) (by assumption) ?_
      rotate_left
      · intro wz hSw; (try dsimp only at hSw); go_simp; (try with_reducible rfl)
      try simp only [Act.put, List.setIfInBounds_toArray, List.set_cons_zero, List.set_cons_succ]
      refine wpAnyH_take (i := 11) (oi := { dst := some 60, op := Go.Op.load 28 (Go.Operand.tmp 5), type := 28, pos := "law.go:171", after := #[{ on := 10, ground := Go.Ground.guard }], guard := some (10, true) }) rfl (by kernel_rfl) (by kernel_rfl) (by kernel_rfl) (fun _ _ _ h => h) (yieldsIf_load_mid (by rfl) _ _ rfl Y 0 rfl (svv t p4).toList _ (fun _ h => h.1.1.1) Tryd.underlying28 rfl szS) (by assumption) ?_
      try simp only [Act.put, List.setIfInBounds_toArray, List.set_cons_zero, List.set_cons_succ]
      refine wpAnyH_take (i := 13) (oi := { dst := some 62, op := Go.Op.load 28 (Go.Operand.tmp 3), type := 28, pos := "law.go:171", after := #[{ on := 10, ground := Go.Ground.guard }], guard := some (10, true) }) rfl (by kernel_rfl) (by kernel_rfl) (by kernel_rfl) (fun _ _ _ h => h) (yieldsIf_load_mid (by rfl) _ _ rfl X 0 rfl (svv s q).toList _ (fun _ h => h.1.1.2) Tryd.underlying28 rfl szS) (by assumption) ?_
      try simp only [Act.put, List.setIfInBounds_toArray, List.set_cons_zero, List.set_cons_succ]
      refine wpAnyH_ready (rs := [12]) (by kernel_rfl) (by simp) ?_
      refine (AllReadyH.cons (o := { dst := some 61, op := Go.Op.call { callee := Go.Callee.value (Go.Operand.func 19), args := #[Go.Operand.tmp 60], argTypes := #[28] }, type := 31, pos := "law.go:171", after := #[{ on := 11, ground := Go.Ground.data }, { on := 10, ground := Go.Ground.chain }, { on := 10, ground := Go.Ground.guard }], guard := some (10, true) }) rfl (fun K hK => ?_) AllReadyH.nil)
      go_simp
      have hw6 : Below w.heap.size w w6 := HB5.out.trans (HB6.out.mono HB5.out.size)
      have kS := stSum_any t p4 w6 (HX5.out w6 HB6.out).2.2.1 HT.out.2.2 (HH.out.2.1.frm (S := []) (Frm.ofBelow hw6) (fun k hk => by cases hk)) (by have := hw6.size; have := HH.out.2.2.1; omega)
      rw [HLT.out] at kS
      refine kS.mono ?_
      rintro e w7 ⟨rfl, hb7⟩
      have HB7 : Hid (Below w6.heap.size w6 w7) := hb7
      have HW7 : Hid (Below w.heap.size w w7) := hw6.trans (hb7.mono hw6.size)
      clear kS hb7 hw6
      refine hK.out _ _ (HS6.out w7 HB7.out) (fun _ => ?_)
      clear hK K
      refine wpAnyH_ready (rs := [14]) (by kernel_rfl) (by simp) ?_
      refine (AllReadyH.cons (o := { dst := some 63, op := Go.Op.call { callee := Go.Callee.value (Go.Operand.func 19), args := #[Go.Operand.tmp 62], argTypes := #[28] }, type := 31, pos := "law.go:171", after := #[{ on := 13, ground := Go.Ground.data }, { on := 12, ground := Go.Ground.chain }, { on := 10, ground := Go.Ground.guard }], guard := some (10, true) }) rfl (fun K hK => ?_) AllReadyH.nil)
      go_simp
      have kS := stSum_any s q w7 (HX5.out w7 (HB6.out.trans (HB7.out.mono HB6.out.size))).2.2.2.1 HSM.out (HH.out.2.1.frm (S := []) (Frm.ofBelow HW7.out) (fun k hk => by cases hk)) (by have := HW7.out.size; have := HH.out.2.2.1; omega)
      rw [HLs.out] at kS
      refine kS.mono ?_
      rintro e w8 ⟨rfl, hb8⟩
      have HB8 : Hid (Below w6.heap.size w6 w8) := HB7.out.trans (hb8.mono HB7.out.size)
      have HW8 : Hid (Below w.heap.size w w8) := HW7.out.trans (hb8.mono HW7.out.size)
      clear kS hb8
      refine hK.out _ _ (HS6.out w8 HB8.out) (fun _ => ?_)
      clear hK K
      refine wpAnyH_take (i := 15) (oi := { dst := some 64, op := Go.Op.binOp Go.BinOp.eql 31 (Go.Operand.tmp 61) (Go.Operand.tmp 63) 31, type := 4, pos := "law.go:171", after := #[{ on := 12, ground := Go.Ground.data }, { on := 14, ground := Go.Ground.data }, { on := 10, ground := Go.Ground.guard }], guard := some (10, true) }) (v := .bool true) rfl (by kernel_rfl) (by kernel_rfl) (by kernel_rfl) (fun _ _ _ h => h) (Or.inl ⟨by rfl, ?_⟩) (by assumption) ?_
      · intro wz hSw; (try dsimp only at hSw); exact exec_eqS _ _ rfl (nb L) rfl rfl wz
      try simp only [Act.put, List.setIfInBounds_toArray, List.set_cons_zero, List.set_cons_succ]
      refine wpAnyH_take (i := 16) (oi := { dst := some 65, op := Go.Op.pick (Go.Operand.tmp 59) (Go.Operand.tmp 64) (Go.Operand.const (Go.Value.bool false)), type := 4, pos := "law.go:171", after := #[{ on := 10, ground := Go.Ground.data }, { on := 15, ground := Go.Ground.data }], guard := none }) (v := ?_) rfl (by kernel_rfl) (by kernel_rfl) (by kernel_rfl) (fun _ _ _ h => h) (Or.inl ⟨by rfl, ?_⟩) (by assumption) ?_
      rotate_left
      · intro wz hSw; (try dsimp only at hSw); go_simp; (try with_reducible rfl)
      try simp only [Act.put, List.setIfInBounds_toArray, List.set_cons_zero, List.set_cons_succ]
      refine wpAnyH_take (i := 17) (oi := { dst := some 66, op := Go.Op.move (Go.Operand.tmp 65), type := 4, pos := "law.go:171", after := #[{ on := 16, ground := Go.Ground.data }, { on := 14, ground := Go.Ground.chain }], guard := none }) (v := ?_) rfl (by kernel_rfl) (by kernel_rfl) (by kernel_rfl) (fun _ _ _ h => h) (Or.inl ⟨by rfl, ?_⟩) (by assumption) ?_
      rotate_left
      · intro wz hSw; (try dsimp only at hSw); go_simp; (try with_reducible rfl)
      try simp only [Act.put, List.setIfInBounds_toArray, List.set_cons_zero, List.set_cons_succ]
      refine wpAnyH_ready (rs := [18]) (by kernel_rfl) (by simp) ?_
      refine (AllReadyH.cons (o := { dst := some 67, op := Go.Op.call { callee := Go.Callee.value (Go.Operand.func 13), args := #[], argTypes := #[] }, type := 4, pos := "law.go:171", after := #[{ on := 17, ground := Go.Ground.chain }, { on := 17, ground := Go.Ground.guard }], guard := some (17, true) }) rfl (fun K hK => ?_) AllReadyH.nil)
      go_simp
      refine (sure_any w8).mono ?_
      rintro e w9 ⟨rfl, hb9⟩
      have HB9 : Hid (Below w6.heap.size w6 w9) := HB8.out.trans (hb9.mono HB8.out.size)
      have HW9 : Hid (Below w.heap.size w w9) := HW8.out.trans (hb9.mono HW8.out.size)
      clear hb9
      refine hK.out _ _ (HS6.out w9 HB9.out) (fun _ => ?_)
      clear hK K
      refine wpAnyH_take (i := 19) (oi := { dst := some 68, op := Go.Op.pick (Go.Operand.tmp 66) (Go.Operand.tmp 67) (Go.Operand.const (Go.Value.bool false)), type := 4, pos := "law.go:171", after := #[{ on := 17, ground := Go.Ground.data }, { on := 18, ground := Go.Ground.data }], guard := none }) (v := ?_) rfl (by kernel_rfl) (by kernel_rfl) (by kernel_rfl) (fun _ _ _ h => h) (Or.inl ⟨by rfl, ?_⟩) (by assumption) ?_
      rotate_left
      · intro wz hSw; (try dsimp only at hSw); go_simp; (try with_reducible rfl)
      try simp only [Act.put, List.setIfInBounds_toArray, List.set_cons_zero, List.set_cons_succ]
      refine wpAnyH_take (i := 20) (oi := { dst := some 2, op := Go.Op.assign (Go.Operand.tmp 68), type := 4, pos := "law.go:171", after := #[{ on := 19, ground := Go.Ground.data }, { on := 18, ground := Go.Ground.chain }, { on := 0, ground := Go.Ground.phase }, { on := 1, ground := Go.Ground.phase }, { on := 2, ground := Go.Ground.phase }, { on := 3, ground := Go.Ground.phase }, { on := 4, ground := Go.Ground.phase }, { on := 5, ground := Go.Ground.phase }, { on := 6, ground := Go.Ground.phase }, { on := 7, ground := Go.Ground.phase }, { on := 8, ground := Go.Ground.phase }, { on := 9, ground := Go.Ground.phase }, { on := 10, ground := Go.Ground.phase }, { on := 11, ground := Go.Ground.phase }, { on := 12, ground := Go.Ground.phase }, { on := 13, ground := Go.Ground.phase }, { on := 14, ground := Go.Ground.phase }, { on := 15, ground := Go.Ground.phase }, { on := 16, ground := Go.Ground.phase }, { on := 17, ground := Go.Ground.phase }, { on := 18, ground := Go.Ground.phase }, { on := 19, ground := Go.Ground.phase }], guard := none }) (v := ?_) rfl (by kernel_rfl) (by kernel_rfl) (by kernel_rfl) (fun _ _ _ h => h) (Or.inl ⟨by rfl, ?_⟩) (by assumption) ?_
      rotate_left
      · intro wz hSw; (try dsimp only at hSw); go_simp; (try with_reducible rfl)
      try simp only [Act.put, List.setIfInBounds_toArray, List.set_cons_zero, List.set_cons_succ]
      refine wpAnyH_done (by kernel_rfl) (NoPanic.normal ?_) _
      try simp only [Act.put, List.setIfInBounds_toArray, List.set_cons_zero, List.set_cons_succ]
      clear hHeld S0 S6
      go_wp2
      go_ret
      exact ⟨rfl, HW9.out⟩
    · have hd : ¬ decOk L := fun h => hok (HBO.out.1 h)
      have h0 : er = 3 := by rw [← HT.out.2.1]; exact if_neg hd
      have ht0 : t = sv0 := by rw [← HT.out.1]; exact if_neg hd
      subst h0
      subst ht0
      have e1 : errV (chkE s) = .iface 72 (.int .i64 1) := by rw [chkE, if_neg hok]; rfl
      rw [e1]
      clear hok hd e1
      go_wp2_with fail
      refine (num_any 3 w5 (vGlob HH.out.1 HB5.out)).mono ?_
      rintro e w6 ⟨rfl, hb6⟩
      obtain ⟨hr5, _⟩ := HX5.out w6 hb6
      have c0 : w6.cell? ⟨Y, 0, none⟩ = some (.int .i64 0) := hr5 0 (.int .i64 0) rfl
      have c1 : w6.cell? ⟨Y, 1, none⟩ = some (.int .i64 0) := by have := hr5 1 (.int .i64 0) rfl; rwa [Nat.zero_add] at this
      have c2 : w6.cell? ⟨Y, 2, none⟩ = some (.int .i64 0) := by have := hr5 2 (.int .i64 0) rfl; rwa [Nat.zero_add] at this
      have c3 : w6.cell? ⟨Y, 3, none⟩ = some (.slice p4.pa 0 p4.pc) := by have := hr5 3 (.slice p4.pa 0 p4.pc) rfl; rwa [Nat.zero_add] at this
      have c4 : w6.cell? ⟨Y, 4, none⟩ = some (.slice p4.ha 0 p4.hc) := by have := hr5 4 (.slice p4.ha 0 p4.hc) rfl; rwa [Nat.zero_add] at this
      have HB6 : Hid (Below w.heap.size w w6) := HB5.out.trans (hb6.mono HB5.out.size)
      clear hr5 hb6
      go_wp2_with fail
      refine (sure_any w6).mono ?_
      rintro e w7 ⟨rfl, hb7⟩
      have HB7 : Hid (Below w.heap.size w w7) := HB6.out.trans (hb7.mono HB6.out.size)
      clear hb7 c0 c1 c2 c3 c4
      go_wp2
      go_ret
      exact ⟨rfl, HB7.out⟩
end Go.Proofs.YtnjkgpgbipcgcaaDoor
