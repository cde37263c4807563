/- StateSizes: the walk. -/
import Derived.Test.YtbeenjlojmmhfaaDoorVMovesW
import Derived.Test.YtbeenjlojmmhfaaDoorVSize
namespace Go.Proofs.YtbeenjlojmmhfaaDoor
open Go.RowKit

theorem sizeF_tot (s : Sv) (f n : Int) (h : (sizeF s f n).2 = 0) : totF (sizeF s f n).1 - n = totF s := by
  rcases sizeF_cases s f n with ⟨_, h1⟩ | ⟨hr, _, x, y, e, hxy, h1, h2, h3⟩
  · exact absurd h h1
  · obtain ⟨h4, h5⟩ := giv_ok hr h1 h2 (by omega)
    rw [e, totF, if_pos h4, totF, if_pos hr.1, h5]
    omega
theorem totF_bd (s : Sv) : 0 ≤ totF s ∧ totF s ≤ 1125899906842624 := by
  unfold totF
  split
  · rename_i hk
    have := tot_bd hk
    omega
  · omega
theorem sizeF_wrap (s : Sv) (f n : Int) : wrap64 (totF (sizeF s f n).1 - n) = totF (sizeF s f n).1 - n ∨ (sizeF s f n).2 ≠ 0 := by
  by_cases h : (sizeF s f n).2 = 0
  · left
    rw [sizeF_tot s f n h]
    have := totF_bd s
    simp [wrap64]
    omega
  · exact .inr h

set_option maxRecDepth 100000 in
set_option maxHeartbeats 3200000 in
theorem sizes_any (s : Sv) (p : Pl) (f n : Int) (w : World) (hg : Glob w) (h : StIn w s p) :
    Calls Tryd.prog 5 #[.agg (svv s p), .int .i64 f, .int .i64 n] w fun e w' => e = .returned (.bool true) ∧ Below w.heap.size w w' := by
  have hb0 : Below w.heap.size w (w.alloc (.cells (svv s p) 26)) := (Below.refl _ w).alloc (Nat.le_refl _) _
  have hr0 := heap_alloc_new w (.cells (svv s p) 26)
  have hl := long_any s p _ (h.at_.below hb0) h.pn h.hn h.ks
  have HH : Hid (Glob w ∧ SvAt w s p) := ⟨hg, h.at_⟩
  clear hg h
  by_cases hlg : lngS s = true
  · rw [hlg] at hl
    unfold svv at hb0 hr0 hl ⊢
    go_enter Tryd.func5, Tryd.ntmps5
    go_wp2_with fail
    generalize w.alloc (.cells #[.int .i64 s.nu, .int .i64 s.a, .int .i64 s.b, .slice p.pa s.pn p.pc, .slice p.ha s.hn p.hc] 26) = W0 at *
    refine hl.mono ?_
    rintro e w1 ⟨rfl, hb1⟩
    clear hl hr0
    go_wp2_with fail
    refine (sure_any w1).mono ?_
    rintro e w2 ⟨rfl, hb2⟩
    have HE : Hid (Below w.heap.size w w2) := (hb0.trans (hb1.mono hb0.size)).trans (hb2.mono (by have := hb0.size; have := hb1.size; omega))
    clear hb0 hb1 hb2
    go_wp2
    go_ret
    exact ⟨rfl, HE.out⟩
  · have hlf : lngS s = false := by simpa using hlg
    rw [hlf] at hl
    have hsm := lngS_no hlf
    have HM : Hid ((sizeF s f n).1.Small ∧ s.Small) := ⟨sizeF_small hsm f n, hsm⟩
    have HZ : Hid ((sizeF s f n).2 = 0 → totF (sizeF s f n).1 - n = totF s) := sizeF_tot s f n
    have HZ2 : Hid (wrap64 (totF (sizeF s f n).1 - n) = totF (sizeF s f n).1 - n ∨ (sizeF s f n).2 ≠ 0) := sizeF_wrap s f n
    clear hlg hlf hsm
    unfold svv at hb0 hr0 hl ⊢
    go_enter Tryd.func5, Tryd.ntmps5
    go_wp2_with fail
    generalize w.alloc (.cells #[.int .i64 s.nu, .int .i64 s.a, .int .i64 s.b, .slice p.pa s.pn p.pc, .slice p.ha s.hn p.hc] 26) = W0 at *
    refine hl.mono ?_
    rintro e w1 ⟨rfl, hb1⟩
    have HB1 : Hid (Below w.heap.size w w1) := hb0.trans (hb1.mono hb0.size)
    have k1 := hb1.block _ (lt_of_block hr0)
    rw [hr0] at k1
    have HK1 : Hid (w1.heap[w.heap.size]? = some (.cells #[.int .i64 s.nu, .int .i64 s.a, .int .i64 s.b, .slice p.pa s.pn p.pc, .slice p.ha s.hn p.hc] 26 (0, 0))) := k1
    obtain ⟨c0, c1, c2, c3, c4, _⟩ := five_of k1
    have hgv := give_any s p w1 (HH.out.2.below HB1.out) HM.out.2
    unfold svv at hgv
    clear hl hr0 hb0 hb1 k1
    go_wp2_with fail
    refine hgv.mono ?_
    rintro e w2 ⟨⟨q, A, rfl, hO⟩, hb2⟩
    have HB2 : Hid (Below w.heap.size w w2) := HB1.out.trans (hb2.mono HB1.out.size)
    have k2 := hb2.block _ (lt_of_block HK1.out)
    rw [HK1.out] at k2
    have hmv := psize_any s q f n w2 hO.at HM.out.2
    unfold svv at hmv
    clear hgv hO hb2 c0 c1 c2 c3 c4 HK1 HB1
    obtain ⟨c0, c1, c2, c3, c4, _⟩ := five_of k2
    have HK2 : Hid (w2.heap[w.heap.size]? = some (.cells #[.int .i64 s.nu, .int .i64 s.a, .int .i64 s.b, .slice p.pa s.pn p.pc, .slice p.ha s.hn p.hc] 26 (0, 0))) := k2
    clear k2
    go_wp2_with fail
    refine hmv.mono ?_
    rintro e w3 ⟨q3, rfl, hA3, hb3⟩
    have hb3' : Below w2.heap.size w2 (w3.alloc (.cells (svv (sizeF s f n).1 q3) 32)) := hb3.alloc hb3.size _
    have HB3 : Hid (Below w.heap.size w (w3.alloc (.cells (svv (sizeF s f n).1 q3) 32))) := HB2.out.trans (hb3'.mono HB2.out.size)
    have hA3' := hA3.below ((Below.refl _ w3).alloc (Nat.le_refl _) (.cells (svv (sizeF s f n).1 q3) 32))
    have k3 := hb3'.block _ (lt_of_block HK2.out)
    rw [HK2.out] at k3
    have x3 := heap_alloc_new w3 (.cells (svv (sizeF s f n).1 q3) 32)
    obtain ⟨er, her⟩ : ∃ er, (sizeF s f n).2 = er := ⟨_, rfl⟩
    obtain ⟨t, ht⟩ : ∃ t, (sizeF s f n).1 = t := ⟨_, rfl⟩
    rw [ht] at hA3 hA3' hb3' HB3 k3 x3 HM
    rw [her, ht] at HZ HZ2
    have HER : Hid ((sizeF s f n).2 = er ∧ (sizeF s f n).1 = t) := ⟨her, ht⟩
    simp only [her, ht]
    clear hmv hA3 hb3 hb3' c0 c1 c2 c3 c4 HK2 HB2 her ht
    unfold svv at HB3 hA3' k3 x3
    obtain ⟨c0, c1, c2, c3, c4, _⟩ := five_of k3
    go_wp2_with fail
    generalize w3.alloc (.cells #[.int .i64 t.nu, .int .i64 t.a, .int .i64 t.b, .slice q3.pa t.pn q3.pc, .slice q3.ha t.hn q3.hc] 32) = W3 at *
    have hrm := rsize_any s p f n W3 (HH.out.2.below HB3.out) HM.out.2
    rw [HER.out.1, HER.out.2] at hrm
    unfold svv at hrm
    have HK3 : Hid (W3.heap[w3.heap.size]? = some (.cells #[.int .i64 t.nu, .int .i64 t.a, .int .i64 t.b, .slice q3.pa t.pn q3.pc, .slice q3.ha t.hn q3.hc] 32 (0, 0)) ∧ SvAt W3 t q3) := ⟨x3, hA3'⟩
    have HKI : Hid (W3.heap[w.heap.size]? = some (.cells #[.int .i64 s.nu, .int .i64 s.a, .int .i64 s.b, .slice p.pa s.pn p.pc, .slice p.ha s.hn p.hc] 26 (0, 0))) := k3
    clear k3 x3 hA3' HER
    refine hrm.mono ?_
    rintro e w4 ⟨q4, rfl, hA4, hb4⟩
    have hb4' : Below W3.heap.size W3 (w4.alloc (.cells (svv t q4) 26)) := hb4.alloc hb4.size _
    have HB4 : Hid (Below w.heap.size w (w4.alloc (.cells (svv t q4) 26))) := HB3.out.trans (hb4'.mono HB3.out.size)
    have hA4' := hA4.below ((Below.refl _ w4).alloc (Nat.le_refl _) (.cells (svv t q4) 26))
    have hA3' := HK3.out.2.below hb4'
    have k4 := hb4'.block _ (lt_of_block HK3.out.1)
    rw [HK3.out.1] at k4
    have i4 := hb4'.block _ (lt_of_block HKI.out)
    rw [HKI.out] at i4
    have x4 := heap_alloc_new w4 (.cells (svv t q4) 26)
    clear hrm hA4 hb4 hb4' c0 c1 c2 c3 c4 HK3 HB3 HKI
    unfold svv at HB4 hA4' hA3' k4 x4 i4
    have HA : Hid _ := And.intro hA3' hA4'
    clear hA3' hA4'
    go_wp2_with fail
    generalize w4.alloc (.cells #[.int .i64 t.nu, .int .i64 t.a, .int .i64 t.b, .slice q4.pa t.pn q4.pc, .slice q4.ha t.hn q4.hc] 26) = W4 at *
    have HR : Hid (∀ w', Below W4.heap.size W4 w' → w'.rangeAt w3.heap.size 0 (svl t q3) ∧ w'.rangeAt w4.heap.size 0 (svl t q4) ∧ w'.rangeAt w.heap.size 0 (svl s p)) := fun w' hb => ⟨range_below (svl_range k4) hb, range_below (svl_range x4) hb, range_below (svl_range i4) hb⟩
    clear x4 k4 i4
    have hbd := (Below.refl W4.heap.size W4).drew
    have S0 := HR.out W4.drew hbd
    have hsa := same_any t q3 q4 er W4.drew (HH.out.1.belowA HB4.out.drew) (HA.out.1.below hbd) (HA.out.2.below hbd) HM.out.1
    by_cases her0 : er = 0
    · subst her0
      have hz := HZ.out rfl
      have hzw : wrap64 (totF t - n) = totF t - n := HZ2.out.resolve_right (fun h => h rfl)
      rw [hz] at hzw
      have hzk : IntKind.i64.wrap (totF s) = totF s := by
        have := totF_bd s
        simp [IntKind.wrap, IntKind.bits, IntKind.signed]
        omega
      have e0 : errV 0 = .nilIface := rfl
      rw [e0] at hsa ⊢
      refine wp_region_noPanic ?_
      refine wp_region_held_drew (S := fun w' => w'.rangeAt w3.heap.size 0 (svl t q3) ∧ w'.rangeAt w4.heap.size 0 (svl t q4) ∧ w'.rangeAt w.heap.size 0 (svl s p)) (by kernel_rfl) S0 (fun hHeld => ?_)
      refine wpAnyH_take (i := 0) (oi := { dst := some 29, op := Go.Op.load 32 (Go.Operand.tmp 7), type := 32, pos := "law.go:205", after := #[], guard := none }) rfl (by kernel_rfl) (by kernel_rfl) (by kernel_rfl) (fun _ _ _ h => h) (yieldsIf_load_mid (by rfl) _ _ rfl w3.heap.size 0 rfl (svl t q3) _ (fun _ h => h.1) Tryd.underlying32 rfl szS) (by assumption) ?_
      try simp only [Act.put, List.setIfInBounds_toArray, List.set_cons_zero, List.set_cons_succ]
      refine wpAnyH_take (i := 1) (oi := { dst := some 30, op := Go.Op.move (Go.Operand.tmp 8), type := 34, pos := "law.go:205", after := #[], guard := none }) (v := ?_) rfl (by kernel_rfl) (by kernel_rfl) (by kernel_rfl) (fun _ _ _ h => h) (Or.inl ⟨by rfl, ?_⟩) (by assumption) ?_
      rotate_left
      · intro wz hSw; (try dsimp only at hSw); go_simp; (try with_reducible rfl)
      try simp only [Act.put, List.setIfInBounds_toArray, List.set_cons_zero, List.set_cons_succ]
      refine wpAnyH_take (i := 2) (oi := { dst := some 31, op := Go.Op.load 26 (Go.Operand.tmp 9), type := 26, pos := "law.go:205", after := #[], guard := none }) rfl (by kernel_rfl) (by kernel_rfl) (by kernel_rfl) (fun _ _ _ h => h) (yieldsIf_load_mid (by rfl) _ _ rfl w4.heap.size 0 rfl (svl t q4) _ (fun _ h => h.2.1) Tryd.underlying26 rfl szSr) (by assumption) ?_
      try simp only [Act.put, List.setIfInBounds_toArray, List.set_cons_zero, List.set_cons_succ]
      refine wpAnyH_take (i := 3) (oi := { dst := some 32, op := Go.Op.move (Go.Operand.tmp 10), type := 3, pos := "law.go:205", after := #[], guard := none }) (v := ?_) rfl (by kernel_rfl) (by kernel_rfl) (by kernel_rfl) (fun _ _ _ h => h) (Or.inl ⟨by rfl, ?_⟩) (by assumption) ?_
      rotate_left
      · intro wz hSw; (try dsimp only at hSw); go_simp; (try with_reducible rfl)
      try simp only [Act.put, List.setIfInBounds_toArray, List.set_cons_zero, List.set_cons_succ]
      refine wpAnyH_ready (rs := [4]) (by kernel_rfl) (by simp) ?_
      refine (AllReadyH.cons (o := { dst := some 33, op := Go.Op.call { callee := Go.Callee.value (Go.Operand.func 12), args := #[Go.Operand.tmp 29, Go.Operand.tmp 30, Go.Operand.tmp 31, Go.Operand.tmp 32], argTypes := #[32, 34, 26, 3] }, type := 4, pos := "law.go:205", after := #[{ on := 0, ground := Go.Ground.data }, { on := 1, ground := Go.Ground.data }, { on := 2, ground := Go.Ground.data }, { on := 3, ground := Go.Ground.data }], guard := none }) rfl (fun K hK => ?_) AllReadyH.nil)
      go_simp
      refine hsa.mono ?_
      rintro e w5 ⟨rfl, hb5⟩
      have HB5 : Hid (Below W4.heap.size W4 w5) := hbd.trans hb5
      clear hsa hb5
      refine hK.out _ _ (HR.out w5 HB5.out) (fun _ => ?_)
      clear hK K
      refine wpAnyH_take (i := 5) (oi := { dst := some 34, op := Go.Op.move (Go.Operand.tmp 33), type := 4, pos := "law.go:205", after := #[{ on := 4, ground := Go.Ground.data }, { on := 4, ground := Go.Ground.chain }], guard := none }) (v := ?_) rfl (by kernel_rfl) (by kernel_rfl) (by kernel_rfl) (fun _ _ _ h => h) (Or.inl ⟨by rfl, ?_⟩) (by assumption) ?_
      rotate_left
      · intro wz hSw; (try dsimp only at hSw); go_simp; (try with_reducible rfl)
      try simp only [Act.put, List.setIfInBounds_toArray, List.set_cons_zero, List.set_cons_succ]
      refine wpAnyH_take (i := 6) (oi := { dst := some 35, op := Go.Op.move (Go.Operand.tmp 8), type := 34, pos := "law.go:205", after := #[{ on := 5, ground := Go.Ground.guard }], guard := some (5, true) }) (v := ?_) rfl (by kernel_rfl) (by kernel_rfl) (by kernel_rfl) (fun _ _ _ h => h) (Or.inl ⟨by rfl, ?_⟩) (by assumption) ?_
      rotate_left
      · intro wz hSw; (try dsimp only at hSw); go_simp; (try with_reducible rfl)
      try simp only [Act.put, List.setIfInBounds_toArray, List.set_cons_zero, List.set_cons_succ]
      refine wpAnyH_take (i := 7) (oi := { dst := some 36, op := Go.Op.binOp Go.BinOp.neq 34 (Go.Operand.tmp 35) (Go.Operand.const Go.Value.nilIface) 34, type := 4, pos := "law.go:205", after := #[{ on := 6, ground := Go.Ground.data }, { on := 5, ground := Go.Ground.guard }], guard := some (5, true) }) (v := ?_) rfl (by kernel_rfl) (by kernel_rfl) (by kernel_rfl) (fun _ _ _ h => h) (Or.inl ⟨by rfl, ?_⟩) (by assumption) ?_
      rotate_left
      · intro wz hSw; (try dsimp only at hSw); go_simp; (try with_reducible rfl)
      try simp only [Act.put, List.setIfInBounds_toArray, List.set_cons_zero, List.set_cons_succ]
      refine wpAnyH_take (i := 8) (oi := { dst := some 37, op := Go.Op.move (Go.Operand.tmp 36), type := 4, pos := "law.go:205", after := #[{ on := 7, ground := Go.Ground.data }, { on := 5, ground := Go.Ground.chain }, { on := 5, ground := Go.Ground.guard }], guard := some (5, true) }) (v := ?_) rfl (by kernel_rfl) (by kernel_rfl) (by kernel_rfl) (fun _ _ _ h => h) (Or.inl ⟨by rfl, ?_⟩) (by assumption) ?_
      rotate_left
      · intro wz hSw; (try dsimp only at hSw); go_simp; (try with_reducible rfl)
      try simp only [Act.put, List.setIfInBounds_toArray, List.set_cons_zero, List.set_cons_succ]
      refine wpAnyH_take (i := 9) (oi := { dst := some 38, op := Go.Op.load 32 (Go.Operand.tmp 7), type := 32, pos := "law.go:205", after := #[{ on := 8, ground := Go.Ground.guard }], guard := some (8, false) }) rfl (by kernel_rfl) (by kernel_rfl) (by kernel_rfl) (fun _ _ _ h => h) (yieldsIf_load_mid (by rfl) _ _ rfl w3.heap.size 0 rfl (svl t q3) _ (fun _ h => h.1) Tryd.underlying32 rfl szS) (by assumption) ?_
      try simp only [Act.put, List.setIfInBounds_toArray, List.set_cons_zero, List.set_cons_succ]
      refine wpAnyH_take (i := 11) (oi := { dst := some 40, op := Go.Op.move (Go.Operand.tmp 2), type := 3, pos := "law.go:205", after := #[{ on := 8, ground := Go.Ground.guard }], guard := some (8, false) }) (v := ?_) rfl (by kernel_rfl) (by kernel_rfl) (by kernel_rfl) (fun _ _ _ h => h) (Or.inl ⟨by rfl, ?_⟩) (by assumption) ?_
      rotate_left
      · intro wz hSw; (try dsimp only at hSw); go_simp; (try with_reducible rfl)
      try simp only [Act.put, List.setIfInBounds_toArray, List.set_cons_zero, List.set_cons_succ]
      refine wpAnyH_take (i := 13) (oi := { dst := some 42, op := Go.Op.load 26 (Go.Operand.tmp 3), type := 26, pos := "law.go:205", after := #[{ on := 8, ground := Go.Ground.guard }], guard := some (8, false) }) rfl (by kernel_rfl) (by kernel_rfl) (by kernel_rfl) (fun _ _ _ h => h) (yieldsIf_load_mid (by rfl) _ _ rfl w.heap.size 0 rfl (svl s p) _ (fun _ h => h.2.2) Tryd.underlying26 rfl szSr) (by assumption) ?_
      try simp only [Act.put, List.setIfInBounds_toArray, List.set_cons_zero, List.set_cons_succ]
      refine wpAnyH_ready (rs := [10]) (by kernel_rfl) (by simp) ?_
      refine (AllReadyH.cons (o := { dst := some 39, op := Go.Op.call { callee := Go.Callee.value (Go.Operand.func 21), args := #[Go.Operand.tmp 38], argTypes := #[32] }, type := 3, pos := "law.go:205", after := #[{ on := 9, ground := Go.Ground.data }, { on := 8, ground := Go.Ground.chain }, { on := 8, ground := Go.Ground.guard }], guard := some (8, false) }) rfl (fun K hK => ?_) AllReadyH.nil)
      go_simp
      refine (total_any t q3 w5 (HA.out.1.below HB5.out) HM.out.1).mono ?_
      rintro e w6 ⟨rfl, hb6⟩
      have HB6 : Hid (Below W4.heap.size W4 w6) := Below.transS HB5.out hb6
      clear hb6 HB5
      refine hK.out _ _ (HR.out w6 HB6.out) (fun _ => ?_)
      clear hK K
      refine wpAnyH_take (i := 12) (oi := { dst := some 41, op := Go.Op.binOp Go.BinOp.sub 3 (Go.Operand.tmp 39) (Go.Operand.tmp 40) 3, type := 3, pos := "law.go:205", after := #[{ on := 10, ground := Go.Ground.data }, { on := 11, ground := Go.Ground.data }, { on := 8, ground := Go.Ground.guard }], guard := some (8, false) }) (v := .int .i64 (totF s)) rfl (by kernel_rfl) (by kernel_rfl) (by kernel_rfl) (fun _ _ _ h => h) (Or.inl ⟨by rfl, ?_⟩) (by assumption) ?_
      · intro wz hSw; (try dsimp only at hSw); go_simp; try (exact hzk)
      try simp only [Act.put, List.setIfInBounds_toArray, List.set_cons_zero, List.set_cons_succ]
      refine wpAnyH_ready (rs := [14]) (by kernel_rfl) (by simp) ?_
      refine (AllReadyH.cons (o := { dst := some 43, op := Go.Op.call { callee := Go.Callee.value (Go.Operand.func 22), args := #[Go.Operand.tmp 42], argTypes := #[26] }, type := 3, pos := "law.go:205", after := #[{ on := 13, ground := Go.Ground.data }, { on := 10, ground := Go.Ground.chain }, { on := 8, ground := Go.Ground.guard }], guard := some (8, false) }) rfl (fun K hK => ?_) AllReadyH.nil)
      go_simp
      have hb6w : Below w.heap.size w w6 := HB4.out.trans (HB6.out.mono HB4.out.size)
      refine (rtotal_any s p w6 (HH.out.2.below hb6w) HM.out.2).mono ?_
      rintro e w7 ⟨rfl, hb7⟩
      have HB7 : Hid (Below W4.heap.size W4 w7) := Below.transS HB6.out hb7
      clear hb7 HB6 hb6w
      refine hK.out _ _ (HR.out w7 HB7.out) (fun _ => ?_)
      clear hK K
      have hqq : (totF s == totF s) = true := by simp
      refine wpAnyH_take (i := 15) (oi := { dst := some 44, op := Go.Op.binOp Go.BinOp.eql 3 (Go.Operand.tmp 41) (Go.Operand.tmp 43) 3, type := 4, pos := "law.go:205", after := #[{ on := 12, ground := Go.Ground.data }, { on := 14, ground := Go.Ground.data }, { on := 8, ground := Go.Ground.guard }], guard := some (8, false) }) (v := ?_) rfl (by kernel_rfl) (by kernel_rfl) (by kernel_rfl) (fun _ _ _ h => h) (Or.inl ⟨by rfl, ?_⟩) (by assumption) ?_
      rotate_left
      · intro wz hSw; (try dsimp only at hSw); go_simp; (try with_reducible rfl)
      try simp only [Act.put, List.setIfInBounds_toArray, List.set_cons_zero, List.set_cons_succ]
      refine wpAnyH_take (i := 16) (oi := { dst := some 45, op := Go.Op.pick (Go.Operand.tmp 37) (Go.Operand.const (Go.Value.bool true)) (Go.Operand.tmp 44), type := 4, pos := "law.go:205", after := #[{ on := 8, ground := Go.Ground.data }, { on := 15, ground := Go.Ground.data }, { on := 5, ground := Go.Ground.guard }], guard := some (5, true) }) (v := ?_) rfl (by kernel_rfl) (by kernel_rfl) (by kernel_rfl) (fun _ _ _ h => h) (Or.inl ⟨by rfl, ?_⟩) (by assumption) ?_
      rotate_left
      · intro wz hSw; (try dsimp only at hSw); go_simp; (try with_reducible rfl)
      try simp only [Act.put, List.setIfInBounds_toArray, List.set_cons_zero, List.set_cons_succ]
      refine wpAnyH_take (i := 17) (oi := { dst := some 46, op := Go.Op.pick (Go.Operand.tmp 34) (Go.Operand.tmp 45) (Go.Operand.const (Go.Value.bool false)), type := 4, pos := "law.go:205", after := #[{ on := 5, ground := Go.Ground.data }, { on := 16, ground := Go.Ground.data }], guard := none }) (v := ?_) rfl (by kernel_rfl) (by kernel_rfl) (by kernel_rfl) (fun _ _ _ h => h) (Or.inl ⟨by rfl, ?_⟩) (by assumption) ?_
      rotate_left
      · intro wz hSw; (try dsimp only at hSw); go_simp; (try with_reducible rfl)
      try simp only [Act.put, List.setIfInBounds_toArray, List.set_cons_zero, List.set_cons_succ]
      refine wpAnyH_take (i := 18) (oi := { dst := some 47, op := Go.Op.move (Go.Operand.tmp 46), type := 4, pos := "law.go:205", after := #[{ on := 17, ground := Go.Ground.data }, { on := 14, ground := Go.Ground.chain }], guard := none }) (v := ?_) rfl (by kernel_rfl) (by kernel_rfl) (by kernel_rfl) (fun _ _ _ h => h) (Or.inl ⟨by rfl, ?_⟩) (by assumption) ?_
      rotate_left
      · intro wz hSw; (try dsimp only at hSw); go_simp; (try with_reducible rfl)
      try simp only [Act.put, List.setIfInBounds_toArray, List.set_cons_zero, List.set_cons_succ]
      refine wpAnyH_ready (rs := [19]) (by kernel_rfl) (by simp) ?_
      refine (AllReadyH.cons (o := { dst := some 48, op := Go.Op.call { callee := Go.Callee.value (Go.Operand.func 8), args := #[], argTypes := #[] }, type := 4, pos := "law.go:205", after := #[{ on := 18, ground := Go.Ground.chain }, { on := 18, ground := Go.Ground.guard }], guard := some (18, true) }) rfl (fun K hK => ?_) AllReadyH.nil)
      go_simp
      refine (sure_any w7).mono ?_
      rintro e w8 ⟨rfl, hb8⟩
      have HB8 : Hid (Below W4.heap.size W4 w8) := Below.transS HB7.out hb8
      clear hb8 HB7
      refine hK.out _ _ (HR.out w8 HB8.out) (fun _ => ?_)
      clear hK K
      refine wpAnyH_take (i := 20) (oi := { dst := some 49, op := Go.Op.pick (Go.Operand.tmp 47) (Go.Operand.tmp 48) (Go.Operand.const (Go.Value.bool false)), type := 4, pos := "law.go:205", after := #[{ on := 18, ground := Go.Ground.data }, { on := 19, ground := Go.Ground.data }], guard := none }) (v := ?_) rfl (by kernel_rfl) (by kernel_rfl) (by kernel_rfl) (fun _ _ _ h => h) (Or.inl ⟨by rfl, ?_⟩) (by assumption) ?_
      rotate_left
      · intro wz hSw; (try dsimp only at hSw); go_simp; (try with_reducible rfl)
      try simp only [Act.put, List.setIfInBounds_toArray, List.set_cons_zero, List.set_cons_succ]
      refine wpAnyH_take (i := 21) (oi := { dst := some 6, op := Go.Op.assign (Go.Operand.tmp 49), type := 4, pos := "law.go:205", after := #[{ on := 20, ground := Go.Ground.data }, { on := 19, ground := Go.Ground.chain }, { on := 0, ground := Go.Ground.phase }, { on := 1, ground := Go.Ground.phase }, { on := 2, ground := Go.Ground.phase }, { on := 3, ground := Go.Ground.phase }, { on := 4, ground := Go.Ground.phase }, { on := 5, ground := Go.Ground.phase }, { on := 6, ground := Go.Ground.phase }, { on := 7, ground := Go.Ground.phase }, { on := 8, ground := Go.Ground.phase }, { on := 9, ground := Go.Ground.phase }, { on := 10, ground := Go.Ground.phase }, { on := 11, ground := Go.Ground.phase }, { on := 12, ground := Go.Ground.phase }, { on := 13, ground := Go.Ground.phase }, { on := 14, ground := Go.Ground.phase }, { on := 15, ground := Go.Ground.phase }, { on := 16, ground := Go.Ground.phase }, { on := 17, ground := Go.Ground.phase }, { on := 18, ground := Go.Ground.phase }, { on := 19, ground := Go.Ground.phase }, { on := 20, ground := Go.Ground.phase }], guard := none }) (v := ?_) rfl (by kernel_rfl) (by kernel_rfl) (by kernel_rfl) (fun _ _ _ h => h) (Or.inl ⟨by rfl, ?_⟩) (by assumption) ?_
      rotate_left
      · intro wz hSw; (try dsimp only at hSw); go_simp; (try with_reducible rfl)
      try simp only [Act.put, List.setIfInBounds_toArray, List.set_cons_zero, List.set_cons_succ]
      refine wpAnyH_done (by kernel_rfl) (NoPanic.normal ?_) _
      try simp only [Act.put, List.setIfInBounds_toArray, List.set_cons_zero, List.set_cons_succ]
      clear hHeld S0
      have HE : Hid (Below w.heap.size w w8) := HB4.out.trans (HB8.out.mono HB4.out.size)
      go_wp2
      go_ret
      exact ⟨rfl, HE.out⟩
    · have e0 : errV er = .iface 59 (.int .i64 er) := errV_ne her0
      rw [e0] at hsa ⊢
      refine wp_region_noPanic ?_
      refine wp_region_held_drew (S := fun w' => w'.rangeAt w3.heap.size 0 (svl t q3) ∧ w'.rangeAt w4.heap.size 0 (svl t q4) ∧ w'.rangeAt w.heap.size 0 (svl s p)) (by kernel_rfl) S0 (fun hHeld => ?_)
      refine wpAnyH_take (i := 0) (oi := { dst := some 29, op := Go.Op.load 32 (Go.Operand.tmp 7), type := 32, pos := "law.go:205", after := #[], guard := none }) rfl (by kernel_rfl) (by kernel_rfl) (by kernel_rfl) (fun _ _ _ h => h) (yieldsIf_load_mid (by rfl) _ _ rfl w3.heap.size 0 rfl (svl t q3) _ (fun _ h => h.1) Tryd.underlying32 rfl szS) (by assumption) ?_
      try simp only [Act.put, List.setIfInBounds_toArray, List.set_cons_zero, List.set_cons_succ]
      refine wpAnyH_take (i := 1) (oi := { dst := some 30, op := Go.Op.move (Go.Operand.tmp 8), type := 34, pos := "law.go:205", after := #[], guard := none }) (v := ?_) rfl (by kernel_rfl) (by kernel_rfl) (by kernel_rfl) (fun _ _ _ h => h) (Or.inl ⟨by rfl, ?_⟩) (by assumption) ?_
      rotate_left
      · intro wz hSw; (try dsimp only at hSw); go_simp; (try with_reducible rfl)
      try simp only [Act.put, List.setIfInBounds_toArray, List.set_cons_zero, List.set_cons_succ]
      refine wpAnyH_take (i := 2) (oi := { dst := some 31, op := Go.Op.load 26 (Go.Operand.tmp 9), type := 26, pos := "law.go:205", after := #[], guard := none }) rfl (by kernel_rfl) (by kernel_rfl) (by kernel_rfl) (fun _ _ _ h => h) (yieldsIf_load_mid (by rfl) _ _ rfl w4.heap.size 0 rfl (svl t q4) _ (fun _ h => h.2.1) Tryd.underlying26 rfl szSr) (by assumption) ?_
      try simp only [Act.put, List.setIfInBounds_toArray, List.set_cons_zero, List.set_cons_succ]
      refine wpAnyH_take (i := 3) (oi := { dst := some 32, op := Go.Op.move (Go.Operand.tmp 10), type := 3, pos := "law.go:205", after := #[], guard := none }) (v := ?_) rfl (by kernel_rfl) (by kernel_rfl) (by kernel_rfl) (fun _ _ _ h => h) (Or.inl ⟨by rfl, ?_⟩) (by assumption) ?_
      rotate_left
      · intro wz hSw; (try dsimp only at hSw); go_simp; (try with_reducible rfl)
      try simp only [Act.put, List.setIfInBounds_toArray, List.set_cons_zero, List.set_cons_succ]
      refine wpAnyH_ready (rs := [4]) (by kernel_rfl) (by simp) ?_
      refine (AllReadyH.cons (o := { dst := some 33, op := Go.Op.call { callee := Go.Callee.value (Go.Operand.func 12), args := #[Go.Operand.tmp 29, Go.Operand.tmp 30, Go.Operand.tmp 31, Go.Operand.tmp 32], argTypes := #[32, 34, 26, 3] }, type := 4, pos := "law.go:205", after := #[{ on := 0, ground := Go.Ground.data }, { on := 1, ground := Go.Ground.data }, { on := 2, ground := Go.Ground.data }, { on := 3, ground := Go.Ground.data }], guard := none }) rfl (fun K hK => ?_) AllReadyH.nil)
      go_simp
      refine hsa.mono ?_
      rintro e w5 ⟨rfl, hb5⟩
      have HB5 : Hid (Below W4.heap.size W4 w5) := hbd.trans hb5
      clear hsa hb5
      refine hK.out _ _ (HR.out w5 HB5.out) (fun _ => ?_)
      clear hK K
      refine wpAnyH_take (i := 5) (oi := { dst := some 34, op := Go.Op.move (Go.Operand.tmp 33), type := 4, pos := "law.go:205", after := #[{ on := 4, ground := Go.Ground.data }, { on := 4, ground := Go.Ground.chain }], guard := none }) (v := ?_) rfl (by kernel_rfl) (by kernel_rfl) (by kernel_rfl) (fun _ _ _ h => h) (Or.inl ⟨by rfl, ?_⟩) (by assumption) ?_
      rotate_left
      · intro wz hSw; (try dsimp only at hSw); go_simp; (try with_reducible rfl)
      try simp only [Act.put, List.setIfInBounds_toArray, List.set_cons_zero, List.set_cons_succ]
      refine wpAnyH_take (i := 6) (oi := { dst := some 35, op := Go.Op.move (Go.Operand.tmp 8), type := 34, pos := "law.go:205", after := #[{ on := 5, ground := Go.Ground.guard }], guard := some (5, true) }) (v := ?_) rfl (by kernel_rfl) (by kernel_rfl) (by kernel_rfl) (fun _ _ _ h => h) (Or.inl ⟨by rfl, ?_⟩) (by assumption) ?_
      rotate_left
      · intro wz hSw; (try dsimp only at hSw); go_simp; (try with_reducible rfl)
      try simp only [Act.put, List.setIfInBounds_toArray, List.set_cons_zero, List.set_cons_succ]
      refine wpAnyH_take (i := 7) (oi := { dst := some 36, op := Go.Op.binOp Go.BinOp.neq 34 (Go.Operand.tmp 35) (Go.Operand.const Go.Value.nilIface) 34, type := 4, pos := "law.go:205", after := #[{ on := 6, ground := Go.Ground.data }, { on := 5, ground := Go.Ground.guard }], guard := some (5, true) }) (v := ?_) rfl (by kernel_rfl) (by kernel_rfl) (by kernel_rfl) (fun _ _ _ h => h) (Or.inl ⟨by rfl, ?_⟩) (by assumption) ?_
      rotate_left
      · intro wz hSw; (try dsimp only at hSw); go_simp; (try with_reducible rfl)
      try simp only [Act.put, List.setIfInBounds_toArray, List.set_cons_zero, List.set_cons_succ]
      refine wpAnyH_take (i := 8) (oi := { dst := some 37, op := Go.Op.move (Go.Operand.tmp 36), type := 4, pos := "law.go:205", after := #[{ on := 7, ground := Go.Ground.data }, { on := 5, ground := Go.Ground.chain }, { on := 5, ground := Go.Ground.guard }], guard := some (5, true) }) (v := ?_) rfl (by kernel_rfl) (by kernel_rfl) (by kernel_rfl) (fun _ _ _ h => h) (Or.inl ⟨by rfl, ?_⟩) (by assumption) ?_
      rotate_left
      · intro wz hSw; (try dsimp only at hSw); go_simp; (try with_reducible rfl)
      try simp only [Act.put, List.setIfInBounds_toArray, List.set_cons_zero, List.set_cons_succ]
      refine wpAnyH_take (i := 9) (oi := { dst := some 38, op := Go.Op.load 32 (Go.Operand.tmp 7), type := 32, pos := "law.go:205", after := #[{ on := 8, ground := Go.Ground.guard }], guard := some (8, false) }) (v := undef) rfl (by kernel_rfl) (by kernel_rfl) (by kernel_rfl) (fun _ _ _ h => h) (Or.inr ⟨by rfl, rfl⟩) (by assumption) ?_
      try simp only [Act.put, List.setIfInBounds_toArray, List.set_cons_zero, List.set_cons_succ]
      refine wpAnyH_take (i := 10) (oi := { dst := some 39, op := Go.Op.call { callee := Go.Callee.value (Go.Operand.func 21), args := #[Go.Operand.tmp 38], argTypes := #[32] }, type := 3, pos := "law.go:205", after := #[{ on := 9, ground := Go.Ground.data }, { on := 8, ground := Go.Ground.chain }, { on := 8, ground := Go.Ground.guard }], guard := some (8, false) }) (v := undef) rfl (by kernel_rfl) (by kernel_rfl) (by kernel_rfl) (fun _ _ _ h => h) (Or.inr ⟨by rfl, rfl⟩) (by assumption) ?_
      try simp only [Act.put, List.setIfInBounds_toArray, List.set_cons_zero, List.set_cons_succ]
      refine wpAnyH_take (i := 11) (oi := { dst := some 40, op := Go.Op.move (Go.Operand.tmp 2), type := 3, pos := "law.go:205", after := #[{ on := 8, ground := Go.Ground.guard }], guard := some (8, false) }) (v := undef) rfl (by kernel_rfl) (by kernel_rfl) (by kernel_rfl) (fun _ _ _ h => h) (Or.inr ⟨by rfl, rfl⟩) (by assumption) ?_
      try simp only [Act.put, List.setIfInBounds_toArray, List.set_cons_zero, List.set_cons_succ]
      refine wpAnyH_take (i := 12) (oi := { dst := some 41, op := Go.Op.binOp Go.BinOp.sub 3 (Go.Operand.tmp 39) (Go.Operand.tmp 40) 3, type := 3, pos := "law.go:205", after := #[{ on := 10, ground := Go.Ground.data }, { on := 11, ground := Go.Ground.data }, { on := 8, ground := Go.Ground.guard }], guard := some (8, false) }) (v := undef) rfl (by kernel_rfl) (by kernel_rfl) (by kernel_rfl) (fun _ _ _ h => h) (Or.inr ⟨by rfl, rfl⟩) (by assumption) ?_
      try simp only [Act.put, List.setIfInBounds_toArray, List.set_cons_zero, List.set_cons_succ]
      refine wpAnyH_take (i := 13) (oi := { dst := some 42, op := Go.Op.load 26 (Go.Operand.tmp 3), type := 26, pos := "law.go:205", after := #[{ on := 8, ground := Go.Ground.guard }], guard := some (8, false) }) (v := undef) rfl (by kernel_rfl) (by kernel_rfl) (by kernel_rfl) (fun _ _ _ h => h) (Or.inr ⟨by rfl, rfl⟩) (by assumption) ?_
      try simp only [Act.put, List.setIfInBounds_toArray, List.set_cons_zero, List.set_cons_succ]
      refine wpAnyH_take (i := 14) (oi := { dst := some 43, op := Go.Op.call { callee := Go.Callee.value (Go.Operand.func 22), args := #[Go.Operand.tmp 42], argTypes := #[26] }, type := 3, pos := "law.go:205", after := #[{ on := 13, ground := Go.Ground.data }, { on := 10, ground := Go.Ground.chain }, { on := 8, ground := Go.Ground.guard }], guard := some (8, false) }) (v := undef) rfl (by kernel_rfl) (by kernel_rfl) (by kernel_rfl) (fun _ _ _ h => h) (Or.inr ⟨by rfl, rfl⟩) (by assumption) ?_
      try simp only [Act.put, List.setIfInBounds_toArray, List.set_cons_zero, List.set_cons_succ]
      refine wpAnyH_take (i := 15) (oi := { dst := some 44, op := Go.Op.binOp Go.BinOp.eql 3 (Go.Operand.tmp 41) (Go.Operand.tmp 43) 3, type := 4, pos := "law.go:205", after := #[{ on := 12, ground := Go.Ground.data }, { on := 14, ground := Go.Ground.data }, { on := 8, ground := Go.Ground.guard }], guard := some (8, false) }) (v := undef) rfl (by kernel_rfl) (by kernel_rfl) (by kernel_rfl) (fun _ _ _ h => h) (Or.inr ⟨by rfl, rfl⟩) (by assumption) ?_
      try simp only [Act.put, List.setIfInBounds_toArray, List.set_cons_zero, List.set_cons_succ]
      refine wpAnyH_take (i := 16) (oi := { dst := some 45, op := Go.Op.pick (Go.Operand.tmp 37) (Go.Operand.const (Go.Value.bool true)) (Go.Operand.tmp 44), type := 4, pos := "law.go:205", after := #[{ on := 8, ground := Go.Ground.data }, { on := 15, ground := Go.Ground.data }, { on := 5, ground := Go.Ground.guard }], guard := some (5, true) }) (v := ?_) rfl (by kernel_rfl) (by kernel_rfl) (by kernel_rfl) (fun _ _ _ h => h) (Or.inl ⟨by rfl, ?_⟩) (by assumption) ?_
      rotate_left
      · intro wz hSw; (try dsimp only at hSw); go_simp; (try with_reducible rfl)
      try simp only [Act.put, List.setIfInBounds_toArray, List.set_cons_zero, List.set_cons_succ]
      refine wpAnyH_take (i := 17) (oi := { dst := some 46, op := Go.Op.pick (Go.Operand.tmp 34) (Go.Operand.tmp 45) (Go.Operand.const (Go.Value.bool false)), type := 4, pos := "law.go:205", after := #[{ on := 5, ground := Go.Ground.data }, { on := 16, ground := Go.Ground.data }], guard := none }) (v := ?_) rfl (by kernel_rfl) (by kernel_rfl) (by kernel_rfl) (fun _ _ _ h => h) (Or.inl ⟨by rfl, ?_⟩) (by assumption) ?_
      rotate_left
      · intro wz hSw; (try dsimp only at hSw); go_simp; (try with_reducible rfl)
      try simp only [Act.put, List.setIfInBounds_toArray, List.set_cons_zero, List.set_cons_succ]
      refine wpAnyH_take (i := 18) (oi := { dst := some 47, op := Go.Op.move (Go.Operand.tmp 46), type := 4, pos := "law.go:205", after := #[{ on := 17, ground := Go.Ground.data }, { on := 14, ground := Go.Ground.chain }], guard := none }) (v := ?_) rfl (by kernel_rfl) (by kernel_rfl) (by kernel_rfl) (fun _ _ _ h => h) (Or.inl ⟨by rfl, ?_⟩) (by assumption) ?_
      rotate_left
      · intro wz hSw; (try dsimp only at hSw); go_simp; (try with_reducible rfl)
      try simp only [Act.put, List.setIfInBounds_toArray, List.set_cons_zero, List.set_cons_succ]
      refine wpAnyH_ready (rs := [19]) (by kernel_rfl) (by simp) ?_
      refine (AllReadyH.cons (o := { dst := some 48, op := Go.Op.call { callee := Go.Callee.value (Go.Operand.func 8), args := #[], argTypes := #[] }, type := 4, pos := "law.go:205", after := #[{ on := 18, ground := Go.Ground.chain }, { on := 18, ground := Go.Ground.guard }], guard := some (18, true) }) rfl (fun K hK => ?_) AllReadyH.nil)
      go_simp
      refine (sure_any w5).mono ?_
      rintro e w8 ⟨rfl, hb8⟩
      have HB8 : Hid (Below W4.heap.size W4 w8) := Below.transS HB5.out hb8
      clear hb8 HB5
      refine hK.out _ _ (HR.out w8 HB8.out) (fun _ => ?_)
      clear hK K
      refine wpAnyH_take (i := 20) (oi := { dst := some 49, op := Go.Op.pick (Go.Operand.tmp 47) (Go.Operand.tmp 48) (Go.Operand.const (Go.Value.bool false)), type := 4, pos := "law.go:205", after := #[{ on := 18, ground := Go.Ground.data }, { on := 19, ground := Go.Ground.data }], guard := none }) (v := ?_) rfl (by kernel_rfl) (by kernel_rfl) (by kernel_rfl) (fun _ _ _ h => h) (Or.inl ⟨by rfl, ?_⟩) (by assumption) ?_
      rotate_left
      · intro wz hSw; (try dsimp only at hSw); go_simp; (try with_reducible rfl)
      try simp only [Act.put, List.setIfInBounds_toArray, List.set_cons_zero, List.set_cons_succ]
      refine wpAnyH_take (i := 21) (oi := { dst := some 6, op := Go.Op.assign (Go.Operand.tmp 49), type := 4, pos := "law.go:205", after := #[{ on := 20, ground := Go.Ground.data }, { on := 19, ground := Go.Ground.chain }, { on := 0, ground := Go.Ground.phase }, { on := 1, ground := Go.Ground.phase }, { on := 2, ground := Go.Ground.phase }, { on := 3, ground := Go.Ground.phase }, { on := 4, ground := Go.Ground.phase }, { on := 5, ground := Go.Ground.phase }, { on := 6, ground := Go.Ground.phase }, { on := 7, ground := Go.Ground.phase }, { on := 8, ground := Go.Ground.phase }, { on := 9, ground := Go.Ground.phase }, { on := 10, ground := Go.Ground.phase }, { on := 11, ground := Go.Ground.phase }, { on := 12, ground := Go.Ground.phase }, { on := 13, ground := Go.Ground.phase }, { on := 14, ground := Go.Ground.phase }, { on := 15, ground := Go.Ground.phase }, { on := 16, ground := Go.Ground.phase }, { on := 17, ground := Go.Ground.phase }, { on := 18, ground := Go.Ground.phase }, { on := 19, ground := Go.Ground.phase }, { on := 20, ground := Go.Ground.phase }], guard := none }) (v := ?_) rfl (by kernel_rfl) (by kernel_rfl) (by kernel_rfl) (fun _ _ _ h => h) (Or.inl ⟨by rfl, ?_⟩) (by assumption) ?_
      rotate_left
      · intro wz hSw; (try dsimp only at hSw); go_simp; (try with_reducible rfl)
      try simp only [Act.put, List.setIfInBounds_toArray, List.set_cons_zero, List.set_cons_succ]
      refine wpAnyH_done (by kernel_rfl) (NoPanic.normal ?_) _
      try simp only [Act.put, List.setIfInBounds_toArray, List.set_cons_zero, List.set_cons_succ]
      clear hHeld S0
      have HE : Hid (Below w.heap.size w w8) := HB4.out.trans (HB8.out.mono HB4.out.size)
      go_wp2
      go_ret
      exact ⟨rfl, HE.out⟩
end Go.Proofs.YtbeenjlojmmhfaaDoor
