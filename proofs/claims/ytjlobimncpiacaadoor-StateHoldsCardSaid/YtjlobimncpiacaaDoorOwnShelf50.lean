/- StateHolds: the walk. -/
import Derived.Test.YtjlobimncpiacaaDoorOwnShelf48
import Derived.Deep.DeepCutAuto
import Derived.Deep.CutBlock
import Derived.Test.YtjlobimncpiacaaDoorOwnShelf49
namespace Go.Proofs.YtjlobimncpiacaaDoor
open Go.RowKit

theorem three_in (w : World) (o1 o2 o3 : Obj) : Below w.heap.size w (((w.alloc o1).alloc o2).alloc o3) := (three_new w o1 o2 o3).2
set_option maxRecDepth 100000 in
set_option maxHeartbeats 12800000 in
theorem holds_any (s : Sv) (p : Pl) (y : Hd) (ka : Option Addr) (kc : Nat) (n0 n1 : Int) (w : World) (hg : Glob w) (h : StIn w s p) (hI : IsAt w ka y.n y.z) (hkn : ka = none → y.n = 0 ∧ kc = 0) (hyl : y.n ≤ 140737488355328) (hsp : ∀ a, p.ha = some a → ∃ bb off, a = ⟨bb, off, none⟩) :
    Calls Tryd.prog 3 #[.agg (svv s p), .agg (hdv y ka kc), .agg #[.int .i64 n0, .int .i64 n1]] w fun e w' => e = .returned (.bool true) ∧ Below w.heap.size w w' := by
  have hb0 : Below w.heap.size w (((w.alloc (.cells (svv s p) 26)).alloc (.cells (hdv y ka kc) 29)).alloc (.cells #[.int .i64 n0, .int .i64 n1] 22)) := three_in w _ _ _
  have r0 : (((w.alloc (.cells (svv s p) 26)).alloc (.cells (hdv y ka kc) 29)).alloc (.cells #[.int .i64 n0, .int .i64 n1] 22)).heap[w.heap.size]? = some (.cells (svv s p) 26 (0, 0)) := by rw [Below.heap_alloc _ _ _ (by simp; omega), Below.heap_alloc _ _ _ (by simp)]; exact heap_alloc_new w _
  have r1 : (((w.alloc (.cells (svv s p) 26)).alloc (.cells (hdv y ka kc) 29)).alloc (.cells #[.int .i64 n0, .int .i64 n1] 22)).heap[w.heap.size + 1]? = some (.cells (hdv y ka kc) 29 (0, 0)) := by
    rw [Below.heap_alloc _ _ _ (by simp)]
    have := heap_alloc_new (w.alloc (.cells (svv s p) 26)) (.cells (hdv y ka kc) 29)
    simpa using this
  have r2 : (((w.alloc (.cells (svv s p) 26)).alloc (.cells (hdv y ka kc) 29)).alloc (.cells #[.int .i64 n0, .int .i64 n1] 22)).heap[w.heap.size + 2]? = some (.cells #[.int .i64 n0, .int .i64 n1] 22 (0, 0)) := by
    have := heap_alloc_new ((w.alloc (.cells (svv s p) 26)).alloc (.cells (hdv y ka kc) 29)) (.cells #[.int .i64 n0, .int .i64 n1] 22)
    have e2 : ((w.alloc (.cells (svv s p) 26)).alloc (.cells (hdv y ka kc) 29)).heap.size = w.heap.size + 2 := by simp
    rw [e2] at this
    exact this
  obtain ⟨W0, hW0⟩ : ∃ W, ((w.alloc (.cells (svv s p) 26)).alloc (.cells (hdv y ka kc) 29)).alloc (.cells #[.int .i64 n0, .int .i64 n1] 22) = W := ⟨_, rfl⟩
  rw [hW0] at hb0 r0 r1 r2
  have hl := long_any s p W0 (h.at_.below hb0) h.pn h.hn h.ks
  have HS1 : Hid (∀ w', Below W0.heap.size W0 w' → w'.heap[w.heap.size]? = some (.cells (svv s p) 26 (0, 0)) ∧ w'.heap[w.heap.size + 1]? = some (.cells (hdv y ka kc) 29 (0, 0)) ∧ w'.heap[w.heap.size + 2]? = some (.cells #[.int .i64 n0, .int .i64 n1] 22 (0, 0)) ∧ SvAt w' s p ∧ IsAt w' ka y.n y.z ∧ Glob w' ∧ Below w.heap.size w w') := fun w' hb => by
    have hbw := hb0.trans (hb.mono hb0.size)
    exact ⟨by rw [hb.block _ (lt_of_block r0)]; exact r0, by rw [hb.block _ (lt_of_block r1)]; exact r1, by rw [hb.block _ (lt_of_block r2)]; exact r2, h.at_.below hbw, hI.below hbw, hg.belowA hbw, hbw⟩
  have HKN : Hid (ka = none → y.n = 0 ∧ kc = 0) := hkn
  have HSP : Hid (∀ a, p.ha = some a → ∃ bb off, a = ⟨bb, off, none⟩) := hsp
  clear hg h hI hkn hsp hb0 r0 r1 r2
  obtain ⟨c0, c1, c2, c3, c4, _⟩ := five_of (HS1.out W0 (Below.refl _ _)).1
  unfold svv at hW0 hl HS1 ⊢
  unfold hdv at hW0 HS1 ⊢
  go_enter Tryd.func3, Tryd.ntmps3
  go_wp2_with fail
  clear hW0
  refine hl.mono ?_
  rintro e w1 ⟨rfl, hb1⟩
  clear hl c0 c1 c2 c3 c4
  have hcl : w1.cell? ⟨w.heap.size + 1, 2, none⟩ = some (.slice ka y.n kc) := by rw [cell_of_row _ _ 2 _ _ _ (HS1.out w1 hb1).2.1]; rfl
  by_cases hbad : lngS s = true ∨ 100 < y.n
  · have HE1 : Hid (Below w.heap.size w w1) := (HS1.out w1 hb1).2.2.2.2.2.2
    clear hb1
    by_cases hlg : lngS s = true
    · rw [hlg]
      clear hbad
      go_wp2_with fail
      refine (sure_any w1).mono ?_
      rintro e w2 ⟨rfl, hb2⟩
      have HE : Hid (Below w.heap.size w w2) := HE1.out.trans (hb2.mono HE1.out.size)
      clear hb2
      go_wp2
      go_ret
      exact ⟨rfl, HE.out⟩
    · have hlf : lngS s = false := by simpa using hlg
      rw [hlf]
      have hy1 : (100 : Int) < y.n := by rcases hbad with h | h; exact absurd h hlg; omega
      clear hbad
      go_wp2_with fail
      refine (sure_any w1).mono ?_
      rintro e w2 ⟨rfl, hb2⟩
      have HE : Hid (Below w.heap.size w w2) := HE1.out.trans (hb2.mono HE1.out.size)
      clear hb2
      go_wp2
      go_ret
      exact ⟨rfl, HE.out⟩
  · have hlf : lngS s = false := by
      by_cases h : lngS s = true
      · exact absurd (.inl h) hbad
      · simpa using h
    have hy1 : ¬ (100 : Int) < y.n := by intro h; exact hbad (.inr (by omega))
    rw [hlf]
    have hsm := lngS_no hlf
    have hyn : y.n ≤ 100 := by omega
    have HM : Hid (s.Small ∧ y.n ≤ 100) := ⟨hsm, hyn⟩
    have HM1 : Hid ((keepF s n0 y).1.Small) := keepF_small hsm n0 (by omega)
    have HM2 : Hid ((freeF s y.id n1).1.Small) := freeF_small hsm y.id n1
    have HM3 : Hid ((sizeF s n0 n1).1.Small) := sizeF_small hsm n0 n1
    obtain ⟨t1, ht1⟩ : ∃ t, (keepF s n0 y).1 = t := ⟨_, rfl⟩
    obtain ⟨e1, he1⟩ : ∃ t, (keepF s n0 y).2 = t := ⟨_, rfl⟩
    obtain ⟨t2, ht2⟩ : ∃ t, (freeF s y.id n1).1 = t := ⟨_, rfl⟩
    obtain ⟨e2, he2⟩ : ∃ t, (freeF s y.id n1).2 = t := ⟨_, rfl⟩
    obtain ⟨t3, ht3⟩ : ∃ t, (sizeF s n0 n1).1 = t := ⟨_, rfl⟩
    obtain ⟨e3, he3⟩ : ∃ t, (sizeF s n0 n1).2 = t := ⟨_, rfl⟩
    rw [ht1] at HM1
    rw [ht2] at HM2
    rw [ht3] at HM3
    have HT1 : Hid ((keepF s n0 y).1 = t1 ∧ (keepF s n0 y).2 = e1) := ⟨ht1, he1⟩
    have HT2 : Hid ((freeF s y.id n1).1 = t2 ∧ (freeF s y.id n1).2 = e2) := ⟨ht2, he2⟩
    have HT3 : Hid ((sizeF s n0 n1).1 = t3 ∧ (sizeF s n0 n1).2 = e3) := ⟨ht3, he3⟩
    clear hbad hlf hsm hyn hyl ht1 he1 ht2 he2 ht3 he3
    have HS2 : Hid (Below W0.heap.size W0 w1) := hb1
    obtain ⟨c0, c1, c2, c3, c4, _⟩ := five_of (HS1.out w1 hb1).1
    have hgv := give_any s p w1 (HS1.out w1 hb1).2.2.2.1 HM.out.1
    unfold svv at hgv
    clear hb1
    go_wp2_with fail
    refine hgv.mono ?_
    rintro e w2 ⟨⟨q, A, rfl, hO⟩, hb2⟩
    clear hgv c0 c1 c2 c3 c4 hcl hy1
    obtain ⟨W2, hW2⟩ : ∃ W, w2.alloc (.cells #[.int .i64 s.nu, .int .i64 s.a, .int .i64 s.b, .slice q.pa s.pn q.pc, .slice q.ha s.hn q.hc] 35) = W := ⟨_, rfl⟩
    have hx2 : W2.heap[w2.heap.size]? = some (.cells #[.int .i64 s.nu, .int .i64 s.a, .int .i64 s.b, .slice q.pa s.pn q.pc, .slice q.ha s.hn q.hc] 35 (0, 0)) := by rw [← hW2]; exact heap_alloc_new _ _
    have ha2 : Below w2.heap.size w2 W2 := by rw [← hW2]; exact (Below.refl _ _).alloc (Nat.le_refl _) _
    have hb2' : Below W0.heap.size W0 W2 := Below.transS (Below.transS HS2.out hb2) ha2
    have HF : Hid (∀ w', Below W2.heap.size W2 w' → w'.heap[w.heap.size]? = some (.cells #[.int .i64 s.nu, .int .i64 s.a, .int .i64 s.b, .slice p.pa s.pn p.pc, .slice p.ha s.hn p.hc] 26 (0, 0)) ∧ w'.heap[w.heap.size + 1]? = some (.cells #[.int .i64 y.id, .int .i64 y.am, .slice ka y.n kc] 29 (0, 0)) ∧ w'.heap[w.heap.size + 2]? = some (.cells #[.int .i64 n0, .int .i64 n1] 22 (0, 0)) ∧ w'.heap[w2.heap.size]? = some (.cells #[.int .i64 s.nu, .int .i64 s.a, .int .i64 s.b, .slice q.pa s.pn q.pc, .slice q.ha s.hn q.hc] 35 (0, 0)) ∧ SvAt w' s p ∧ SvAt w' s q ∧ IsAt w' ka y.n y.z ∧ Glob w' ∧ Below w.heap.size w w') := fun w' hb => by
      obtain ⟨h1, h2, h3, h4, h5, h6, h7⟩ := HS1.out w' (Below.transS hb2' hb)
      exact ⟨h1, h2, h3, by rw [hb.block _ (lt_of_block hx2)]; exact hx2, h4, (hO.at.below ha2).below hb, h5, h6, h7⟩
    clear HS1 HS2 hO hb2 hb2' ha2 hx2
    go_upto_region 5 with fail
    clear hW2
    generalize w2.heap.size = g7 at *
    go_cut [9] (fun a wc => ∃ (g9 : Nat) (ka' : Option Addr) (kc' : Nat), a = .pointer (some ⟨g9, 0, none⟩) ∧ Hid ((ka' = none → y.n = 0 ∧ kc' = 0) ∧ HBx w wc s p q y ka kc ka' kc' n0 n1 g7 g9))
    case first =>
      have hu0 : Below W2.heap.size W2 W2.drew := (Below.refl _ _).drew
      have HD : Hid (∀ w', Below W2.drew.heap.size W2.drew w' → Below W2.heap.size W2 w') := fun w' hb => Below.transS hu0 hb
      have HS : Hid (∀ w', Below W2.drew.heap.size W2.drew w' → w'.cell? ⟨w.heap.size + 1, 0, none⟩ = some (.int .i64 y.id) ∧ w'.cell? ⟨w.heap.size + 1, 1, none⟩ = some (.int .i64 y.am) ∧ w'.cell? ⟨w.heap.size + 1, 2, none⟩ = some (.slice ka y.n kc)) := fun w' hb => by
        obtain ⟨_, h1, _⟩ := HF.out w' (HD.out w' hb)
        exact ⟨by rw [cell_of_row _ _ 0 _ _ _ h1]; rfl, by rw [cell_of_row _ _ 1 _ _ _ h1]; rfl, by rw [cell_of_row _ _ 2 _ _ _ h1]; rfl⟩
      have S0 := HS.out W2.drew (Below.refl _ _)
      refine wp_region_noPanic ?_
      refine wp_region_held_drew (S := fun w' => w'.cell? ⟨w.heap.size + 1, 0, none⟩ = some (.int .i64 y.id) ∧ w'.cell? ⟨w.heap.size + 1, 1, none⟩ = some (.int .i64 y.am) ∧ w'.cell? ⟨w.heap.size + 1, 2, none⟩ = some (.slice ka y.n kc)) (by kernel_rfl) S0 (fun hHeld => ?_)
      clear hu0
      generalize W2.drew = Wd at *
      refine wpAnyH_take (i := 0) (oi := { dst := some 33, op := Go.Op.fieldAddr 29 (Go.Operand.tmp 4) 0, type := 0, pos := "law.go:104", after := #[], guard := none }) (v := ?_) rfl (by kernel_rfl) (by kernel_rfl) (by kernel_rfl) (fun _ _ _ h => h) (Or.inl ⟨by rfl, ?_⟩) (by assumption) ?_
      rotate_left
      · intro wz hSw; (try dsimp only at hSw); go_simp; (try with_reducible rfl)
      try simp only [Act.put, List.setIfInBounds_toArray, List.set_cons_zero, List.set_cons_succ]
      refine wpAnyH_take (i := 1) (oi := { dst := some 34, op := Go.Op.load 3 (Go.Operand.tmp 33), type := 3, pos := "law.go:104", after := #[{ on := 0, ground := Go.Ground.data }], guard := none }) (v := ?_) rfl (by kernel_rfl) (by kernel_rfl) (by kernel_rfl) (fun _ _ _ h => h) (Or.inl ⟨by rfl, ?_⟩) (by assumption) ?_
      rotate_left
      · intro wz hSw; (try dsimp only at hSw); go_simp; (try with_reducible rfl)
      try simp only [Act.put, List.setIfInBounds_toArray, List.set_cons_zero, List.set_cons_succ]
      refine wpAnyH_take (i := 2) (oi := { dst := some 35, op := Go.Op.fieldAddr 29 (Go.Operand.tmp 4) 1, type := 0, pos := "law.go:104", after := #[], guard := none }) (v := ?_) rfl (by kernel_rfl) (by kernel_rfl) (by kernel_rfl) (fun _ _ _ h => h) (Or.inl ⟨by rfl, ?_⟩) (by assumption) ?_
      rotate_left
      · intro wz hSw; (try dsimp only at hSw); go_simp; (try with_reducible rfl)
      try simp only [Act.put, List.setIfInBounds_toArray, List.set_cons_zero, List.set_cons_succ]
      refine wpAnyH_take (i := 3) (oi := { dst := some 36, op := Go.Op.load 3 (Go.Operand.tmp 35), type := 3, pos := "law.go:104", after := #[{ on := 2, ground := Go.Ground.data }], guard := none }) (v := ?_) rfl (by kernel_rfl) (by kernel_rfl) (by kernel_rfl) (fun _ _ _ h => h) (Or.inl ⟨by rfl, ?_⟩) (by assumption) ?_
      rotate_left
      · intro wz hSw; (try dsimp only at hSw); go_simp; (try with_reducible rfl)
      try simp only [Act.put, List.setIfInBounds_toArray, List.set_cons_zero, List.set_cons_succ]
      refine wpAnyH_take (i := 4) (oi := { dst := some 37, op := Go.Op.move (Go.Operand.tmp 8), type := 27, pos := "law.go:104", after := #[], guard := none }) (v := ?_) rfl (by kernel_rfl) (by kernel_rfl) (by kernel_rfl) (fun _ _ _ h => h) (Or.inl ⟨by rfl, ?_⟩) (by assumption) ?_
      rotate_left
      · intro wz hSw; (try dsimp only at hSw); go_simp; (try with_reducible rfl)
      try simp only [Act.put, List.setIfInBounds_toArray, List.set_cons_zero, List.set_cons_succ]
      refine wpAnyH_take (i := 5) (oi := { dst := some 38, op := Go.Op.fieldAddr 29 (Go.Operand.tmp 4) 2, type := 0, pos := "law.go:104", after := #[], guard := none }) (v := ?_) rfl (by kernel_rfl) (by kernel_rfl) (by kernel_rfl) (fun _ _ _ h => h) (Or.inl ⟨by rfl, ?_⟩) (by assumption) ?_
      rotate_left
      · intro wz hSw; (try dsimp only at hSw); go_simp; (try with_reducible rfl)
      try simp only [Act.put, List.setIfInBounds_toArray, List.set_cons_zero, List.set_cons_succ]
      refine wpAnyH_take (i := 6) (oi := { dst := some 39, op := Go.Op.load 27 (Go.Operand.tmp 38), type := 27, pos := "law.go:104", after := #[{ on := 5, ground := Go.Ground.data }], guard := none }) (v := ?_) rfl (by kernel_rfl) (by kernel_rfl) (by kernel_rfl) (fun _ _ _ h => h) (Or.inl ⟨by rfl, ?_⟩) (by assumption) ?_
      rotate_left
      · intro wz hSw; (try dsimp only at hSw); go_simp; (try with_reducible rfl)
      try simp only [Act.put, List.setIfInBounds_toArray, List.set_cons_zero, List.set_cons_succ]
      refine wpAnyH_ready (rs := [7, 9]) (by kernel_rfl) (by simp) ?_
      refine (AllReadyH.cons (o := { dst := some 40, op := Go.Op.call { callee := Go.Callee.builtin Go.Builtin.append, args := #[Go.Operand.tmp 37, Go.Operand.tmp 39], argTypes := #[27, 27] }, type := 27, pos := "law.go:104", after := #[{ on := 4, ground := Go.Ground.data }, { on := 6, ground := Go.Ground.data }], guard := none }) rfl (fun K hK => ?_) (AllReadyH.cons (o := { dst := some 9, op := Go.Op.alloc 37, type := 0, pos := "law.go:104", after := #[], guard := none }) rfl (fun K hK => ?_) AllReadyH.nil))
      · refine step_append_kV rfl _ _ rfl y ka kc (by rfl) (by rfl) (HF.out Wd (HD.out Wd (Below.refl _ _))).2.2.2.2.2.2.1 HKN.out (by have := HM.out.2; omega) ?_
        intro ka' kc' u1 hok hb1
        have S1 := HS.out u1 hb1
        refine hK.out _ _ S1 (fun _ => ?_)
        clear hK K
        try simp only [Act.put, List.setIfInBounds_toArray, List.set_cons_zero, List.set_cons_succ]
        refine wpAnyH_take (i := 8) (oi := { dst := some 41, op := Go.Op.build 37 #[(0, Go.Operand.tmp 34), (1, Go.Operand.tmp 36), (2, Go.Operand.tmp 40)], type := 37, pos := "law.go:104", after := #[{ on := 1, ground := Go.Ground.data }, { on := 3, ground := Go.Ground.data }, { on := 7, ground := Go.Ground.data }], guard := none }) (v := .agg #[.int .i64 y.id, .int .i64 y.am, .slice ka' y.n kc']) rfl (by kernel_rfl) (by kernel_rfl) (by kernel_rfl) (fun _ _ _ h => h) (Or.inl ⟨by rfl, ?_⟩) (by assumption) ?_
        · intro wz hSw; (try dsimp only at hSw); kernel_rfl
        try simp only [Act.put, List.setIfInBounds_toArray, List.set_cons_zero, List.set_cons_succ]
        refine wpAnyH_ready (rs := [9]) (by kernel_rfl) (by simp) ?_
        refine (AllReadyH.cons (o := { dst := some 9, op := Go.Op.alloc 37, type := 0, pos := "law.go:104", after := #[], guard := none }) rfl (fun K hK => ?_) AllReadyH.nil)
        refine step_allocQ rfl rfl ?_
        intro pg u2 hp9 hl9 hb2
        have S2 := HS.out u2 (Below.transS hb1 hb2)
        refine hK.out _ _ S2 (fun _ => ?_)
        clear hK K
        try simp only [Act.put, List.setIfInBounds_toArray, List.set_cons_zero, List.set_cons_succ]
        have hs1 := hb1.size
        have hs2 := hb2.size
        have hl2 := lt_of_block hp9
        have hbz : Below Wd.heap.size Wd u2 := Below.transS hb1 hb2
        have hokz : u2.ownsRow Wd.heap.size 3 1 (.slice ka' y.n kc') y.n (kL y) := own_below hok hb2
        have hg9 : u2.heap[pg]? = some (.cells #[.int .i64 0, .int .i64 0, .slice none 0 0] 37 (0, 0)) := hp9
        refine wpAnyH_ready (rs := [10]) (by kernel_rfl) (by simp) ?_
        refine (AllReadyH.cons (o := { dst := none, op := Go.Op.store 37 (Go.Operand.tmp 9) (Go.Operand.tmp 41), type := 0, pos := "law.go:104", after := #[{ on := 9, ground := Go.Ground.data }, { on := 8, ground := Go.Ground.data }, { on := 7, ground := Go.Ground.chain }, { on := 0, ground := Go.Ground.phase }, { on := 1, ground := Go.Ground.phase }, { on := 2, ground := Go.Ground.phase }, { on := 3, ground := Go.Ground.phase }, { on := 4, ground := Go.Ground.phase }, { on := 5, ground := Go.Ground.phase }, { on := 6, ground := Go.Ground.phase }, { on := 7, ground := Go.Ground.phase }, { on := 8, ground := Go.Ground.phase }, { on := 9, ground := Go.Ground.phase }], guard := none }) rfl (fun K hK => ?_) AllReadyH.nil)
        refine step_storeQ rfl _ _ rfl pg (by rfl) y.id y.am ka' y.n kc' (by rfl) hg9 ?_
        intro w3 hx3 hF3
        have hb3 : Below Wd.heap.size Wd w3 := hbz.trans (hF3.below (by omega) (by simp; omega))
        have hok3 : w3.ownsRow Wd.heap.size 3 1 (.slice ka' y.n kc') y.n (kL y) := own_keep hokz (fun g e => hF3.block g ((hokz).lt g e).2 (fun e2 => own_neT hokz hg9 (by decide) (by rw [e, List.mem_singleton.1 e2])))
        have S3 := HS.out w3 hb3
        refine hK.out _ _ S3 (fun _ => ?_)
        clear hK K
        try simp only [Act.put]
        refine wpAnyH_done (by kernel_rfl) (NoPanic.normal ?_) _
        try simp only [Act.put, List.setIfInBounds_toArray, List.set_cons_zero, List.set_cons_succ]
        go_wp2_with fail
        go_meet
        obtain ⟨f1, f2, f3, f4, f5, f6, f7, f8, f9⟩ := HF.out w3 (HD.out w3 hb3)
        exact ⟨pg, ka', kc', rfl, ⟨own_none hok3, ⟨f1, f2, f3, f4, hx3, f5, f6, f7, kL_isAt hok3, f8, f9⟩⟩⟩
      · refine step_allocQ rfl rfl ?_
        intro pg u1 hp9 hl9 hb1
        have S1 := HS.out u1 hb1
        refine hK.out _ _ S1 (fun _ => ?_)
        clear hK K
        try simp only [Act.put, List.setIfInBounds_toArray, List.set_cons_zero, List.set_cons_succ]
        refine wpAnyH_ready (rs := [7]) (by kernel_rfl) (by simp) ?_
        refine (AllReadyH.cons (o := { dst := some 40, op := Go.Op.call { callee := Go.Callee.builtin Go.Builtin.append, args := #[Go.Operand.tmp 37, Go.Operand.tmp 39], argTypes := #[27, 27] }, type := 27, pos := "law.go:104", after := #[{ on := 4, ground := Go.Ground.data }, { on := 6, ground := Go.Ground.data }], guard := none }) rfl (fun K hK => ?_) AllReadyH.nil)
        refine step_append_kV rfl _ _ rfl y ka kc (by rfl) (by rfl) (HF.out u1 (HD.out u1 hb1)).2.2.2.2.2.2.1 HKN.out (by have := HM.out.2; omega) ?_
        intro ka' kc' u2 hok hb2
        have S2 := HS.out u2 (Below.transS hb1 hb2)
        refine hK.out _ _ S2 (fun _ => ?_)
        clear hK K
        try simp only [Act.put, List.setIfInBounds_toArray, List.set_cons_zero, List.set_cons_succ]
        refine wpAnyH_take (i := 8) (oi := { dst := some 41, op := Go.Op.build 37 #[(0, Go.Operand.tmp 34), (1, Go.Operand.tmp 36), (2, Go.Operand.tmp 40)], type := 37, pos := "law.go:104", after := #[{ on := 1, ground := Go.Ground.data }, { on := 3, ground := Go.Ground.data }, { on := 7, ground := Go.Ground.data }], guard := none }) (v := .agg #[.int .i64 y.id, .int .i64 y.am, .slice ka' y.n kc']) rfl (by kernel_rfl) (by kernel_rfl) (by kernel_rfl) (fun _ _ _ h => h) (Or.inl ⟨by rfl, ?_⟩) (by assumption) ?_
        · intro wz hSw; (try dsimp only at hSw); kernel_rfl
        try simp only [Act.put, List.setIfInBounds_toArray, List.set_cons_zero, List.set_cons_succ]
        have hs1 := hb1.size
        have hs2 := hb2.size
        have hl2 := lt_of_block hp9
        have hbz : Below Wd.heap.size Wd u2 := Below.transS hb1 hb2
        have hg9 : u2.heap[pg]? = some (.cells #[.int .i64 0, .int .i64 0, .slice none 0 0] 37 (0, 0)) := by rw [hb2.block _ hl2]; exact hp9
        refine wpAnyH_ready (rs := [10]) (by kernel_rfl) (by simp) ?_
        refine (AllReadyH.cons (o := { dst := none, op := Go.Op.store 37 (Go.Operand.tmp 9) (Go.Operand.tmp 41), type := 0, pos := "law.go:104", after := #[{ on := 9, ground := Go.Ground.data }, { on := 8, ground := Go.Ground.data }, { on := 7, ground := Go.Ground.chain }, { on := 0, ground := Go.Ground.phase }, { on := 1, ground := Go.Ground.phase }, { on := 2, ground := Go.Ground.phase }, { on := 3, ground := Go.Ground.phase }, { on := 4, ground := Go.Ground.phase }, { on := 5, ground := Go.Ground.phase }, { on := 6, ground := Go.Ground.phase }, { on := 7, ground := Go.Ground.phase }, { on := 8, ground := Go.Ground.phase }, { on := 9, ground := Go.Ground.phase }], guard := none }) rfl (fun K hK => ?_) AllReadyH.nil)
        refine step_storeQ rfl _ _ rfl pg (by rfl) y.id y.am ka' y.n kc' (by rfl) hg9 ?_
        intro w3 hx3 hF3
        have hb3 : Below Wd.heap.size Wd w3 := hbz.trans (hF3.below (by omega) (by simp; omega))
        have hok3 : w3.ownsRow u1.heap.size 3 1 (.slice ka' y.n kc') y.n (kL y) := own_keep hok (fun g e => hF3.block g ((hok).lt g e).2 (fun e2 => own_neT hok hg9 (by decide) (by rw [e, List.mem_singleton.1 e2])))
        have S3 := HS.out w3 hb3
        refine hK.out _ _ S3 (fun _ => ?_)
        clear hK K
        try simp only [Act.put]
        refine wpAnyH_done (by kernel_rfl) (NoPanic.normal ?_) _
        try simp only [Act.put, List.setIfInBounds_toArray, List.set_cons_zero, List.set_cons_succ]
        go_wp2_with fail
        go_meet
        obtain ⟨f1, f2, f3, f4, f5, f6, f7, f8, f9⟩ := HF.out w3 (HD.out w3 hb3)
        exact ⟨pg, ka', kc', rfl, ⟨own_none hok3, ⟨f1, f2, f3, f4, hx3, f5, f6, f7, kL_isAt hok3, f8, f9⟩⟩⟩
    case rest =>
    obtain ⟨g9, ka', kc', rfl, HP⟩ := hcut
    clear HF
    have HKN2 : Hid (ka' = none → y.n = 0 ∧ kc' = 0) := HP.out.1
    have HX5 : Hid (HBx w wc s p q y ka kc ka' kc' n0 n1 g7 g9) := HP.out.2
    clear HP
    generalize wc = W5 at *
    obtain ⟨a0, a1, a2, a3, a4, b0, b1, b2, c0, c1, d0, d1, d2, d3, d4, f0, f1, f2⟩ := HX5.out.cells
    have hk := pkeep_any s q n0 y ka' kc' W5 HX5.out.sq HM.out.1 HX5.out.i2 HKN2.out (by have := HM.out.2; omega)
    rw [HT1.out.1, HT1.out.2] at hk
    unfold svv at hk
    unfold hdv at hk
    go_wp2_with fail
    refine hk.mono ?_
    rintro e w6 ⟨q6, rfl, hA6, hb6⟩
    clear hk a0 a1 a2 a3 a4 b0 b1 b2 c0 c1 d0 d1 d2 d3 d4 f0 f1 f2
    obtain ⟨W6, hW6⟩ : ∃ W, w6.alloc (.cells #[.int .i64 t1.nu, .int .i64 t1.a, .int .i64 t1.b, .slice q6.pa t1.pn q6.pc, .slice q6.ha t1.hn q6.hc] 35) = W := ⟨_, rfl⟩
    have hx6 : W6.heap[w6.heap.size]? = some (.cells #[.int .i64 t1.nu, .int .i64 t1.a, .int .i64 t1.b, .slice q6.pa t1.pn q6.pc, .slice q6.ha t1.hn q6.hc] 35 (0, 0)) := by rw [← hW6]; exact heap_alloc_new _ _
    have ha6 : Below w6.heap.size w6 W6 := by rw [← hW6]; exact (Below.refl _ _).alloc (Nat.le_refl _) _
    have hy6 : Below W5.heap.size W5 W6 := Below.transS hb6 ha6
    have HX6 : Hid (HBx w W6 s p q y ka kc ka' kc' n0 n1 g7 g9) := HX5.out.below hy6
    have HR6 : Hid (∀ w', Below W6.heap.size W6 w' → w'.rangeAt w6.heap.size 0 (svl t1 q6) ∧ SvAt w' t1 q6) := fun w' hb => ⟨range_below (svl_range hx6) hb, (hA6.below ha6).below hb⟩
    clear hx6 ha6 hA6 hb6 hy6 HX5
    obtain ⟨g6v, hgv6⟩ : ∃ g, w6.heap.size = g := ⟨_, rfl⟩
    rw [hgv6] at HR6
    obtain ⟨a0, a1, a2, a3, a4, b0, b1, b2, c0, c1, d0, d1, d2, d3, d4, f0, f1, f2⟩ := HX6.out.cells
    have hk := rkeep_any s p n0 y ka kc W6 HX6.out.sp HM.out.1 HX6.out.i1 HKN.out (by have := HM.out.2; omega) HSP.out
    rw [HT1.out.1, HT1.out.2] at hk
    unfold svv at hk
    unfold hdv at hk
    go_wp2_with fail
    clear hW6
    refine hk.mono ?_
    rintro e w7 ⟨q7, rfl, hA7, hb7⟩
    clear hk a0 a1 a2 a3 a4 b0 b1 b2 c0 c1 d0 d1 d2 d3 d4 f0 f1 f2
    obtain ⟨W7, hW7⟩ : ∃ W, w7.alloc (.cells #[.int .i64 t1.nu, .int .i64 t1.a, .int .i64 t1.b, .slice q7.pa t1.pn q7.pc, .slice q7.ha t1.hn q7.hc] 26) = W := ⟨_, rfl⟩
    have hx7 : W7.heap[w7.heap.size]? = some (.cells #[.int .i64 t1.nu, .int .i64 t1.a, .int .i64 t1.b, .slice q7.pa t1.pn q7.pc, .slice q7.ha t1.hn q7.hc] 26 (0, 0)) := by rw [← hW7]; exact heap_alloc_new _ _
    have ha7 : Below w7.heap.size w7 W7 := by rw [← hW7]; exact (Below.refl _ _).alloc (Nat.le_refl _) _
    have hy7 : Below W6.heap.size W6 W7 := Below.transS hb7 ha7
    have HX7 : Hid (HBx w W7 s p q y ka kc ka' kc' n0 n1 g7 g9) := HX6.out.below hy7
    have HR7 : Hid (∀ w', Below W7.heap.size W7 w' → w'.rangeAt w7.heap.size 0 (svl t1 q7) ∧ SvAt w' t1 q7) := fun w' hb => ⟨range_below (svl_range hx7) hb, (hA7.below ha7).below hb⟩
    have HR6n : Hid (∀ w', Below W7.heap.size W7 w' → w'.rangeAt g6v 0 (svl t1 q6) ∧ SvAt w' t1 q6) := fun w' hb => HR6.out w' (Below.transS hy7 hb)
    clear HR6
    have HR6 := HR6n
    clear HR6n
    clear hx7 ha7 hA7 hb7 hy7 HX6
    obtain ⟨g7v, hgv7⟩ : ∃ g, w7.heap.size = g := ⟨_, rfl⟩
    rw [hgv7] at HR7
    obtain ⟨a0, a1, a2, a3, a4, b0, b1, b2, c0, c1, d0, d1, d2, d3, d4, f0, f1, f2⟩ := HX7.out.cells
    have hk := pfree_any s q y.id n1 W7 HX7.out.sq HM.out.1
    rw [HT2.out.1, HT2.out.2] at hk
    unfold svv at hk
    go_wp2_with fail
    clear hW7
    refine hk.mono ?_
    rintro e w8 ⟨q8, rfl, hA8, hb8⟩
    clear hk a0 a1 a2 a3 a4 b0 b1 b2 c0 c1 d0 d1 d2 d3 d4 f0 f1 f2
    obtain ⟨W8, hW8⟩ : ∃ W, w8.alloc (.cells #[.int .i64 t2.nu, .int .i64 t2.a, .int .i64 t2.b, .slice q8.pa t2.pn q8.pc, .slice q8.ha t2.hn q8.hc] 35) = W := ⟨_, rfl⟩
    have hx8 : W8.heap[w8.heap.size]? = some (.cells #[.int .i64 t2.nu, .int .i64 t2.a, .int .i64 t2.b, .slice q8.pa t2.pn q8.pc, .slice q8.ha t2.hn q8.hc] 35 (0, 0)) := by rw [← hW8]; exact heap_alloc_new _ _
    have ha8 : Below w8.heap.size w8 W8 := by rw [← hW8]; exact (Below.refl _ _).alloc (Nat.le_refl _) _
    have hy8 : Below W7.heap.size W7 W8 := Below.transS hb8 ha8
    have HX8 : Hid (HBx w W8 s p q y ka kc ka' kc' n0 n1 g7 g9) := HX7.out.below hy8
    have HR8 : Hid (∀ w', Below W8.heap.size W8 w' → w'.rangeAt w8.heap.size 0 (svl t2 q8) ∧ SvAt w' t2 q8) := fun w' hb => ⟨range_below (svl_range hx8) hb, (hA8.below ha8).below hb⟩
    have HR6n : Hid (∀ w', Below W8.heap.size W8 w' → w'.rangeAt g6v 0 (svl t1 q6) ∧ SvAt w' t1 q6) := fun w' hb => HR6.out w' (Below.transS hy8 hb)
    clear HR6
    have HR6 := HR6n
    clear HR6n
    have HR7n : Hid (∀ w', Below W8.heap.size W8 w' → w'.rangeAt g7v 0 (svl t1 q7) ∧ SvAt w' t1 q7) := fun w' hb => HR7.out w' (Below.transS hy8 hb)
    clear HR7
    have HR7 := HR7n
    clear HR7n
    clear hx8 ha8 hA8 hb8 hy8 HX7
    obtain ⟨g8v, hgv8⟩ : ∃ g, w8.heap.size = g := ⟨_, rfl⟩
    rw [hgv8] at HR8
    obtain ⟨a0, a1, a2, a3, a4, b0, b1, b2, c0, c1, d0, d1, d2, d3, d4, f0, f1, f2⟩ := HX8.out.cells
    have hk := rfreeF_any s p y.id n1 W8 HX8.out.sp HM.out.1
    rw [HT2.out.1, HT2.out.2] at hk
    unfold svv at hk
    go_wp2_with fail
    clear hW8
    refine hk.mono ?_
    rintro e w9 ⟨q9, rfl, hA9, hb9⟩
    clear hk a0 a1 a2 a3 a4 b0 b1 b2 c0 c1 d0 d1 d2 d3 d4 f0 f1 f2
    obtain ⟨W9, hW9⟩ : ∃ W, w9.alloc (.cells #[.int .i64 t2.nu, .int .i64 t2.a, .int .i64 t2.b, .slice q9.pa t2.pn q9.pc, .slice q9.ha t2.hn q9.hc] 26) = W := ⟨_, rfl⟩
    have hx9 : W9.heap[w9.heap.size]? = some (.cells #[.int .i64 t2.nu, .int .i64 t2.a, .int .i64 t2.b, .slice q9.pa t2.pn q9.pc, .slice q9.ha t2.hn q9.hc] 26 (0, 0)) := by rw [← hW9]; exact heap_alloc_new _ _
    have ha9 : Below w9.heap.size w9 W9 := by rw [← hW9]; exact (Below.refl _ _).alloc (Nat.le_refl _) _
    have hy9 : Below W8.heap.size W8 W9 := Below.transS hb9 ha9
    have HX9 : Hid (HBx w W9 s p q y ka kc ka' kc' n0 n1 g7 g9) := HX8.out.below hy9
    have HR9 : Hid (∀ w', Below W9.heap.size W9 w' → w'.rangeAt w9.heap.size 0 (svl t2 q9) ∧ SvAt w' t2 q9) := fun w' hb => ⟨range_below (svl_range hx9) hb, (hA9.below ha9).below hb⟩
    have HR6n : Hid (∀ w', Below W9.heap.size W9 w' → w'.rangeAt g6v 0 (svl t1 q6) ∧ SvAt w' t1 q6) := fun w' hb => HR6.out w' (Below.transS hy9 hb)
    clear HR6
    have HR6 := HR6n
    clear HR6n
    have HR7n : Hid (∀ w', Below W9.heap.size W9 w' → w'.rangeAt g7v 0 (svl t1 q7) ∧ SvAt w' t1 q7) := fun w' hb => HR7.out w' (Below.transS hy9 hb)
    clear HR7
    have HR7 := HR7n
    clear HR7n
    have HR8n : Hid (∀ w', Below W9.heap.size W9 w' → w'.rangeAt g8v 0 (svl t2 q8) ∧ SvAt w' t2 q8) := fun w' hb => HR8.out w' (Below.transS hy9 hb)
    clear HR8
    have HR8 := HR8n
    clear HR8n
    clear hx9 ha9 hA9 hb9 hy9 HX8
    obtain ⟨g9v, hgv9⟩ : ∃ g, w9.heap.size = g := ⟨_, rfl⟩
    rw [hgv9] at HR9
    obtain ⟨a0, a1, a2, a3, a4, b0, b1, b2, c0, c1, d0, d1, d2, d3, d4, f0, f1, f2⟩ := HX9.out.cells
    have hk := psize_any s q n0 n1 W9 HX9.out.sq HM.out.1
    rw [HT3.out.1, HT3.out.2] at hk
    unfold svv at hk
    go_wp2_with fail
    clear hW9
    refine hk.mono ?_
    rintro e w10 ⟨q10, rfl, hA10, hb10⟩
    clear hk a0 a1 a2 a3 a4 b0 b1 b2 c0 c1 d0 d1 d2 d3 d4 f0 f1 f2
    obtain ⟨W10, hW10⟩ : ∃ W, w10.alloc (.cells #[.int .i64 t3.nu, .int .i64 t3.a, .int .i64 t3.b, .slice q10.pa t3.pn q10.pc, .slice q10.ha t3.hn q10.hc] 35) = W := ⟨_, rfl⟩
    have hx10 : W10.heap[w10.heap.size]? = some (.cells #[.int .i64 t3.nu, .int .i64 t3.a, .int .i64 t3.b, .slice q10.pa t3.pn q10.pc, .slice q10.ha t3.hn q10.hc] 35 (0, 0)) := by rw [← hW10]; exact heap_alloc_new _ _
    have ha10 : Below w10.heap.size w10 W10 := by rw [← hW10]; exact (Below.refl _ _).alloc (Nat.le_refl _) _
    have hy10 : Below W9.heap.size W9 W10 := Below.transS hb10 ha10
    have HX10 : Hid (HBx w W10 s p q y ka kc ka' kc' n0 n1 g7 g9) := HX9.out.below hy10
    have HR10 : Hid (∀ w', Below W10.heap.size W10 w' → w'.rangeAt w10.heap.size 0 (svl t3 q10) ∧ SvAt w' t3 q10) := fun w' hb => ⟨range_below (svl_range hx10) hb, (hA10.below ha10).below hb⟩
    have HR6n : Hid (∀ w', Below W10.heap.size W10 w' → w'.rangeAt g6v 0 (svl t1 q6) ∧ SvAt w' t1 q6) := fun w' hb => HR6.out w' (Below.transS hy10 hb)
    clear HR6
    have HR6 := HR6n
    clear HR6n
    have HR7n : Hid (∀ w', Below W10.heap.size W10 w' → w'.rangeAt g7v 0 (svl t1 q7) ∧ SvAt w' t1 q7) := fun w' hb => HR7.out w' (Below.transS hy10 hb)
    clear HR7
    have HR7 := HR7n
    clear HR7n
    have HR8n : Hid (∀ w', Below W10.heap.size W10 w' → w'.rangeAt g8v 0 (svl t2 q8) ∧ SvAt w' t2 q8) := fun w' hb => HR8.out w' (Below.transS hy10 hb)
    clear HR8
    have HR8 := HR8n
    clear HR8n
    have HR9n : Hid (∀ w', Below W10.heap.size W10 w' → w'.rangeAt g9v 0 (svl t2 q9) ∧ SvAt w' t2 q9) := fun w' hb => HR9.out w' (Below.transS hy10 hb)
    clear HR9
    have HR9 := HR9n
    clear HR9n
    clear hx10 ha10 hA10 hb10 hy10 HX9
    obtain ⟨g10v, hgv10⟩ : ∃ g, w10.heap.size = g := ⟨_, rfl⟩
    rw [hgv10] at HR10
    obtain ⟨a0, a1, a2, a3, a4, b0, b1, b2, c0, c1, d0, d1, d2, d3, d4, f0, f1, f2⟩ := HX10.out.cells
    have hk := rsize_any s p n0 n1 W10 HX10.out.sp HM.out.1
    rw [HT3.out.1, HT3.out.2] at hk
    unfold svv at hk
    go_wp2_with fail
    clear hW10
    refine hk.mono ?_
    rintro e w11 ⟨q11, rfl, hA11, hb11⟩
    clear hk a0 a1 a2 a3 a4 b0 b1 b2 c0 c1 d0 d1 d2 d3 d4 f0 f1 f2
    obtain ⟨W11, hW11⟩ : ∃ W, w11.alloc (.cells #[.int .i64 t3.nu, .int .i64 t3.a, .int .i64 t3.b, .slice q11.pa t3.pn q11.pc, .slice q11.ha t3.hn q11.hc] 26) = W := ⟨_, rfl⟩
    have hx11 : W11.heap[w11.heap.size]? = some (.cells #[.int .i64 t3.nu, .int .i64 t3.a, .int .i64 t3.b, .slice q11.pa t3.pn q11.pc, .slice q11.ha t3.hn q11.hc] 26 (0, 0)) := by rw [← hW11]; exact heap_alloc_new _ _
    have ha11 : Below w11.heap.size w11 W11 := by rw [← hW11]; exact (Below.refl _ _).alloc (Nat.le_refl _) _
    have hy11 : Below W10.heap.size W10 W11 := Below.transS hb11 ha11
    have HX11 : Hid (HBx w W11 s p q y ka kc ka' kc' n0 n1 g7 g9) := HX10.out.below hy11
    have HR11 : Hid (∀ w', Below W11.heap.size W11 w' → w'.rangeAt w11.heap.size 0 (svl t3 q11) ∧ SvAt w' t3 q11) := fun w' hb => ⟨range_below (svl_range hx11) hb, (hA11.below ha11).below hb⟩
    have HR6n : Hid (∀ w', Below W11.heap.size W11 w' → w'.rangeAt g6v 0 (svl t1 q6) ∧ SvAt w' t1 q6) := fun w' hb => HR6.out w' (Below.transS hy11 hb)
    clear HR6
    have HR6 := HR6n
    clear HR6n
    have HR7n : Hid (∀ w', Below W11.heap.size W11 w' → w'.rangeAt g7v 0 (svl t1 q7) ∧ SvAt w' t1 q7) := fun w' hb => HR7.out w' (Below.transS hy11 hb)
    clear HR7
    have HR7 := HR7n
    clear HR7n
    have HR8n : Hid (∀ w', Below W11.heap.size W11 w' → w'.rangeAt g8v 0 (svl t2 q8) ∧ SvAt w' t2 q8) := fun w' hb => HR8.out w' (Below.transS hy11 hb)
    clear HR8
    have HR8 := HR8n
    clear HR8n
    have HR9n : Hid (∀ w', Below W11.heap.size W11 w' → w'.rangeAt g9v 0 (svl t2 q9) ∧ SvAt w' t2 q9) := fun w' hb => HR9.out w' (Below.transS hy11 hb)
    clear HR9
    have HR9 := HR9n
    clear HR9n
    have HR10n : Hid (∀ w', Below W11.heap.size W11 w' → w'.rangeAt g10v 0 (svl t3 q10) ∧ SvAt w' t3 q10) := fun w' hb => HR10.out w' (Below.transS hy11 hb)
    clear HR10
    have HR10 := HR10n
    clear HR10n
    clear hx11 ha11 hA11 hb11 hy11 HX10
    obtain ⟨g11v, hgv11⟩ : ∃ g, w11.heap.size = g := ⟨_, rfl⟩
    rw [hgv11] at HR11
    obtain ⟨a0, a1, a2, a3, a4, b0, b1, b2, c0, c1, d0, d1, d2, d3, d4, f0, f1, f2⟩ := HX11.out.cells
    go_wp2_with fail
    clear hW11 a0 a1 a2 a3 a4 b0 b1 b2 c0 c1 d0 d1 d2 d3 d4 f0 f1 f2
    have HSS : Hid (∀ w', Below W11.heap.size W11 w' → SHo w' g6v g7v g8v g9v g10v g11v g7 w.heap.size t1 t2 t3 s q6 q7 q8 q9 q10 q11 q p) := fun w' hb => by
      have hx := HX11.out.below hb
      exact ⟨(HR6.out w' hb).1, (HR7.out w' hb).1, (HR8.out w' hb).1, (HR9.out w' hb).1, (HR10.out w' hb).1, (HR11.out w' hb).1, svl_range hx.b7, svl_range hx.b3⟩
    have hbd := (Below.refl W11.heap.size W11).drew
    have S0 := HSS.out W11.drew hbd
    refine wp_region_noPanic ?_
    refine wp_region_held_drew (S := fun w' => SHo w' g6v g7v g8v g9v g10v g11v g7 w.heap.size t1 t2 t3 s q6 q7 q8 q9 q10 q11 q p) (by kernel_rfl) S0 (fun hHeld => ?_)
    have HD : Hid (Below W11.heap.size W11 W11.drew) := hbd
    clear hbd
    generalize W11.drew = Wd at *
    refine wpAnyH_take (i := 0) (oi := { dst := some 94, op := Go.Op.load 35 (Go.Operand.tmp 10), type := 35, pos := "law.go:111", after := #[], guard := none }) rfl (by kernel_rfl) (by kernel_rfl) (by kernel_rfl) (fun _ _ _ h => h) (yieldsIf_load_mid (by rfl) _ _ rfl g6v 0 rfl (svl t1 q6) _ (fun _ h => h.r1) Tryd.underlying35 rfl szS) (by assumption) ?_
    try simp only [Act.put, List.setIfInBounds_toArray, List.set_cons_zero, List.set_cons_succ]
    refine wpAnyH_take (i := 1) (oi := { dst := some 95, op := Go.Op.move (Go.Operand.tmp 11), type := 39, pos := "law.go:111", after := #[], guard := none }) (v := ?_) rfl (by kernel_rfl) (by kernel_rfl) (by kernel_rfl) (fun _ _ _ h => h) (Or.inl ⟨by rfl, ?_⟩) (by assumption) ?_
    rotate_left
    · intro wz hSw; (try dsimp only at hSw); go_simp; (try with_reducible rfl)
    try simp only [Act.put, List.setIfInBounds_toArray, List.set_cons_zero, List.set_cons_succ]
    refine wpAnyH_take (i := 2) (oi := { dst := some 96, op := Go.Op.load 26 (Go.Operand.tmp 12), type := 26, pos := "law.go:111", after := #[], guard := none }) rfl (by kernel_rfl) (by kernel_rfl) (by kernel_rfl) (fun _ _ _ h => h) (yieldsIf_load_mid (by rfl) _ _ rfl g7v 0 rfl (svl t1 q7) _ (fun _ h => h.r2) Tryd.underlying26 rfl szSr) (by assumption) ?_
    try simp only [Act.put, List.setIfInBounds_toArray, List.set_cons_zero, List.set_cons_succ]
    refine wpAnyH_take (i := 3) (oi := { dst := some 97, op := Go.Op.move (Go.Operand.tmp 13), type := 3, pos := "law.go:111", after := #[], guard := none }) (v := ?_) rfl (by kernel_rfl) (by kernel_rfl) (by kernel_rfl) (fun _ _ _ h => h) (Or.inl ⟨by rfl, ?_⟩) (by assumption) ?_
    rotate_left
    · intro wz hSw; (try dsimp only at hSw); go_simp; (try with_reducible rfl)
    try simp only [Act.put, List.setIfInBounds_toArray, List.set_cons_zero, List.set_cons_succ]
    refine wpAnyH_ready (rs := [4]) (by kernel_rfl) (by simp) ?_
    refine (AllReadyH.cons (o := { dst := some 98, op := Go.Op.call { callee := Go.Callee.value (Go.Operand.func 14), args := #[Go.Operand.tmp 94, Go.Operand.tmp 95, Go.Operand.tmp 96, Go.Operand.tmp 97], argTypes := #[35, 39, 26, 3] }, type := 4, pos := "law.go:111", after := #[{ on := 0, ground := Go.Ground.data }, { on := 1, ground := Go.Ground.data }, { on := 2, ground := Go.Ground.data }, { on := 3, ground := Go.Ground.data }], guard := none }) rfl (fun K hK => ?_) AllReadyH.nil)
    go_simp
    refine (same_any t1 q6 q7 e1 Wd (HX11.out.below HD.out).gl (HR6.out _ HD.out).2 (HR7.out _ HD.out).2 HM1.out).mono ?_
    rintro e v0 ⟨rfl, hb⟩
    have HV0 : Hid (Below W11.heap.size W11 v0) := Below.transS HD.out hb
    clear hb
    have S1 := HSS.out v0 HV0.out
    refine hK.out _ _ S1 (fun _ => ?_)
    clear hK K
    try simp only [Act.put, List.setIfInBounds_toArray, List.set_cons_zero, List.set_cons_succ]
    refine wpAnyH_take (i := 5) (oi := { dst := some 99, op := Go.Op.move (Go.Operand.tmp 98), type := 4, pos := "law.go:111", after := #[{ on := 4, ground := Go.Ground.data }, { on := 4, ground := Go.Ground.chain }], guard := none }) (v := ?_) rfl (by kernel_rfl) (by kernel_rfl) (by kernel_rfl) (fun _ _ _ h => h) (Or.inl ⟨by rfl, ?_⟩) (by assumption) ?_
    rotate_left
    · intro wz hSw; (try dsimp only at hSw); go_simp; (try with_reducible rfl)
    try simp only [Act.put, List.setIfInBounds_toArray, List.set_cons_zero, List.set_cons_succ]
    refine wpAnyH_take (i := 6) (oi := { dst := some 100, op := Go.Op.load 35 (Go.Operand.tmp 14), type := 35, pos := "law.go:111", after := #[{ on := 5, ground := Go.Ground.guard }], guard := some (5, true) }) rfl (by kernel_rfl) (by kernel_rfl) (by kernel_rfl) (fun _ _ _ h => h) (yieldsIf_load_mid (by rfl) _ _ rfl g8v 0 rfl (svl t2 q8) _ (fun _ h => h.r3) Tryd.underlying35 rfl szS) (by assumption) ?_
    try simp only [Act.put, List.setIfInBounds_toArray, List.set_cons_zero, List.set_cons_succ]
    refine wpAnyH_take (i := 7) (oi := { dst := some 101, op := Go.Op.move (Go.Operand.tmp 15), type := 39, pos := "law.go:111", after := #[{ on := 5, ground := Go.Ground.guard }], guard := some (5, true) }) (v := ?_) rfl (by kernel_rfl) (by kernel_rfl) (by kernel_rfl) (fun _ _ _ h => h) (Or.inl ⟨by rfl, ?_⟩) (by assumption) ?_
    rotate_left
    · intro wz hSw; (try dsimp only at hSw); go_simp; (try with_reducible rfl)
    try simp only [Act.put, List.setIfInBounds_toArray, List.set_cons_zero, List.set_cons_succ]
    refine wpAnyH_take (i := 8) (oi := { dst := some 102, op := Go.Op.load 26 (Go.Operand.tmp 16), type := 26, pos := "law.go:111", after := #[{ on := 5, ground := Go.Ground.guard }], guard := some (5, true) }) rfl (by kernel_rfl) (by kernel_rfl) (by kernel_rfl) (fun _ _ _ h => h) (yieldsIf_load_mid (by rfl) _ _ rfl g9v 0 rfl (svl t2 q9) _ (fun _ h => h.r4) Tryd.underlying26 rfl szSr) (by assumption) ?_
    try simp only [Act.put, List.setIfInBounds_toArray, List.set_cons_zero, List.set_cons_succ]
    refine wpAnyH_take (i := 9) (oi := { dst := some 103, op := Go.Op.move (Go.Operand.tmp 17), type := 3, pos := "law.go:111", after := #[{ on := 5, ground := Go.Ground.guard }], guard := some (5, true) }) (v := ?_) rfl (by kernel_rfl) (by kernel_rfl) (by kernel_rfl) (fun _ _ _ h => h) (Or.inl ⟨by rfl, ?_⟩) (by assumption) ?_
    rotate_left
    · intro wz hSw; (try dsimp only at hSw); go_simp; (try with_reducible rfl)
    try simp only [Act.put, List.setIfInBounds_toArray, List.set_cons_zero, List.set_cons_succ]
    refine wpAnyH_ready (rs := [10]) (by kernel_rfl) (by simp) ?_
    refine (AllReadyH.cons (o := { dst := some 104, op := Go.Op.call { callee := Go.Callee.value (Go.Operand.func 14), args := #[Go.Operand.tmp 100, Go.Operand.tmp 101, Go.Operand.tmp 102, Go.Operand.tmp 103], argTypes := #[35, 39, 26, 3] }, type := 4, pos := "law.go:111", after := #[{ on := 6, ground := Go.Ground.data }, { on := 7, ground := Go.Ground.data }, { on := 8, ground := Go.Ground.data }, { on := 9, ground := Go.Ground.data }, { on := 5, ground := Go.Ground.chain }, { on := 5, ground := Go.Ground.guard }], guard := some (5, true) }) rfl (fun K hK => ?_) AllReadyH.nil)
    go_simp
    refine (same_any t2 q8 q9 e2 v0 (HX11.out.below HV0.out).gl (HR8.out _ HV0.out).2 (HR9.out _ HV0.out).2 HM2.out).mono ?_
    rintro e v1 ⟨rfl, hb⟩
    have HV1 : Hid (Below W11.heap.size W11 v1) := Below.transS HV0.out hb
    clear hb
    have S2 := HSS.out v1 HV1.out
    refine hK.out _ _ S2 (fun _ => ?_)
    clear hK K
    try simp only [Act.put, List.setIfInBounds_toArray, List.set_cons_zero, List.set_cons_succ]
    refine wpAnyH_take (i := 11) (oi := { dst := some 105, op := Go.Op.pick (Go.Operand.tmp 99) (Go.Operand.tmp 104) (Go.Operand.const (Go.Value.bool false)), type := 4, pos := "law.go:111", after := #[{ on := 5, ground := Go.Ground.data }, { on := 10, ground := Go.Ground.data }], guard := none }) (v := ?_) rfl (by kernel_rfl) (by kernel_rfl) (by kernel_rfl) (fun _ _ _ h => h) (Or.inl ⟨by rfl, ?_⟩) (by assumption) ?_
    rotate_left
    · intro wz hSw; (try dsimp only at hSw); go_simp; (try with_reducible rfl)
    try simp only [Act.put, List.setIfInBounds_toArray, List.set_cons_zero, List.set_cons_succ]
    refine wpAnyH_take (i := 12) (oi := { dst := some 106, op := Go.Op.move (Go.Operand.tmp 105), type := 4, pos := "law.go:111", after := #[{ on := 11, ground := Go.Ground.data }, { on := 10, ground := Go.Ground.chain }], guard := none }) (v := ?_) rfl (by kernel_rfl) (by kernel_rfl) (by kernel_rfl) (fun _ _ _ h => h) (Or.inl ⟨by rfl, ?_⟩) (by assumption) ?_
    rotate_left
    · intro wz hSw; (try dsimp only at hSw); go_simp; (try with_reducible rfl)
    try simp only [Act.put, List.setIfInBounds_toArray, List.set_cons_zero, List.set_cons_succ]
    refine wpAnyH_take (i := 13) (oi := { dst := some 107, op := Go.Op.load 35 (Go.Operand.tmp 18), type := 35, pos := "law.go:111", after := #[{ on := 12, ground := Go.Ground.guard }], guard := some (12, true) }) rfl (by kernel_rfl) (by kernel_rfl) (by kernel_rfl) (fun _ _ _ h => h) (yieldsIf_load_mid (by rfl) _ _ rfl g10v 0 rfl (svl t3 q10) _ (fun _ h => h.r5) Tryd.underlying35 rfl szS) (by assumption) ?_
    try simp only [Act.put, List.setIfInBounds_toArray, List.set_cons_zero, List.set_cons_succ]
    refine wpAnyH_take (i := 14) (oi := { dst := some 108, op := Go.Op.move (Go.Operand.tmp 19), type := 39, pos := "law.go:111", after := #[{ on := 12, ground := Go.Ground.guard }], guard := some (12, true) }) (v := ?_) rfl (by kernel_rfl) (by kernel_rfl) (by kernel_rfl) (fun _ _ _ h => h) (Or.inl ⟨by rfl, ?_⟩) (by assumption) ?_
    rotate_left
    · intro wz hSw; (try dsimp only at hSw); go_simp; (try with_reducible rfl)
    try simp only [Act.put, List.setIfInBounds_toArray, List.set_cons_zero, List.set_cons_succ]
    refine wpAnyH_take (i := 15) (oi := { dst := some 109, op := Go.Op.load 26 (Go.Operand.tmp 20), type := 26, pos := "law.go:111", after := #[{ on := 12, ground := Go.Ground.guard }], guard := some (12, true) }) rfl (by kernel_rfl) (by kernel_rfl) (by kernel_rfl) (fun _ _ _ h => h) (yieldsIf_load_mid (by rfl) _ _ rfl g11v 0 rfl (svl t3 q11) _ (fun _ h => h.r6) Tryd.underlying26 rfl szSr) (by assumption) ?_
    try simp only [Act.put, List.setIfInBounds_toArray, List.set_cons_zero, List.set_cons_succ]
    refine wpAnyH_take (i := 16) (oi := { dst := some 110, op := Go.Op.move (Go.Operand.tmp 21), type := 3, pos := "law.go:111", after := #[{ on := 12, ground := Go.Ground.guard }], guard := some (12, true) }) (v := ?_) rfl (by kernel_rfl) (by kernel_rfl) (by kernel_rfl) (fun _ _ _ h => h) (Or.inl ⟨by rfl, ?_⟩) (by assumption) ?_
    rotate_left
    · intro wz hSw; (try dsimp only at hSw); go_simp; (try with_reducible rfl)
    try simp only [Act.put, List.setIfInBounds_toArray, List.set_cons_zero, List.set_cons_succ]
    refine wpAnyH_ready (rs := [17]) (by kernel_rfl) (by simp) ?_
    refine (AllReadyH.cons (o := { dst := some 111, op := Go.Op.call { callee := Go.Callee.value (Go.Operand.func 14), args := #[Go.Operand.tmp 107, Go.Operand.tmp 108, Go.Operand.tmp 109, Go.Operand.tmp 110], argTypes := #[35, 39, 26, 3] }, type := 4, pos := "law.go:111", after := #[{ on := 13, ground := Go.Ground.data }, { on := 14, ground := Go.Ground.data }, { on := 15, ground := Go.Ground.data }, { on := 16, ground := Go.Ground.data }, { on := 12, ground := Go.Ground.chain }, { on := 12, ground := Go.Ground.guard }], guard := some (12, true) }) rfl (fun K hK => ?_) AllReadyH.nil)
    go_simp
    refine (same_any t3 q10 q11 e3 v1 (HX11.out.below HV1.out).gl (HR10.out _ HV1.out).2 (HR11.out _ HV1.out).2 HM3.out).mono ?_
    rintro e v2 ⟨rfl, hb⟩
    have HV2 : Hid (Below W11.heap.size W11 v2) := Below.transS HV1.out hb
    clear hb
    have S3 := HSS.out v2 HV2.out
    refine hK.out _ _ S3 (fun _ => ?_)
    clear hK K
    try simp only [Act.put, List.setIfInBounds_toArray, List.set_cons_zero, List.set_cons_succ]
    refine wpAnyH_take (i := 18) (oi := { dst := some 112, op := Go.Op.pick (Go.Operand.tmp 106) (Go.Operand.tmp 111) (Go.Operand.const (Go.Value.bool false)), type := 4, pos := "law.go:111", after := #[{ on := 12, ground := Go.Ground.data }, { on := 17, ground := Go.Ground.data }], guard := none }) (v := ?_) rfl (by kernel_rfl) (by kernel_rfl) (by kernel_rfl) (fun _ _ _ h => h) (Or.inl ⟨by rfl, ?_⟩) (by assumption) ?_
    rotate_left
    · intro wz hSw; (try dsimp only at hSw); go_simp; (try with_reducible rfl)
    try simp only [Act.put, List.setIfInBounds_toArray, List.set_cons_zero, List.set_cons_succ]
    refine wpAnyH_take (i := 19) (oi := { dst := some 113, op := Go.Op.move (Go.Operand.tmp 112), type := 4, pos := "law.go:111", after := #[{ on := 18, ground := Go.Ground.data }, { on := 17, ground := Go.Ground.chain }], guard := none }) (v := ?_) rfl (by kernel_rfl) (by kernel_rfl) (by kernel_rfl) (fun _ _ _ h => h) (Or.inl ⟨by rfl, ?_⟩) (by assumption) ?_
    rotate_left
    · intro wz hSw; (try dsimp only at hSw); go_simp; (try with_reducible rfl)
    try simp only [Act.put, List.setIfInBounds_toArray, List.set_cons_zero, List.set_cons_succ]
    refine wpAnyH_take (i := 20) (oi := { dst := some 114, op := Go.Op.load 35 (Go.Operand.tmp 7), type := 35, pos := "law.go:111", after := #[{ on := 19, ground := Go.Ground.guard }], guard := some (19, true) }) rfl (by kernel_rfl) (by kernel_rfl) (by kernel_rfl) (fun _ _ _ h => h) (yieldsIf_load_mid (by rfl) _ _ rfl g7 0 rfl (svl s q) _ (fun _ h => h.r7) Tryd.underlying35 rfl szS) (by assumption) ?_
    try simp only [Act.put, List.setIfInBounds_toArray, List.set_cons_zero, List.set_cons_succ]
    refine wpAnyH_take (i := 23) (oi := { dst := some 117, op := Go.Op.load 26 (Go.Operand.tmp 3), type := 26, pos := "law.go:111", after := #[{ on := 19, ground := Go.Ground.guard }], guard := some (19, true) }) rfl (by kernel_rfl) (by kernel_rfl) (by kernel_rfl) (fun _ _ _ h => h) (yieldsIf_load_mid (by rfl) _ _ rfl w.heap.size 0 rfl (svl s p) _ (fun _ h => h.r8) Tryd.underlying26 rfl szSr) (by assumption) ?_
    try simp only [Act.put, List.setIfInBounds_toArray, List.set_cons_zero, List.set_cons_succ]
    refine wpAnyH_ready (rs := [21]) (by kernel_rfl) (by simp) ?_
    refine (AllReadyH.cons (o := { dst := some 115, op := Go.Op.call { callee := Go.Callee.value (Go.Operand.func 15), args := #[Go.Operand.tmp 114], argTypes := #[35] }, type := 47, pos := "law.go:111", after := #[{ on := 20, ground := Go.Ground.data }, { on := 19, ground := Go.Ground.chain }, { on := 19, ground := Go.Ground.guard }], guard := some (19, true) }) rfl (fun K hK => ?_) AllReadyH.nil)
    go_simp
    refine (encode_any s q v2 (HX11.out.below HV2.out).sq HM.out.1).mono ?_
    rintro e v3 ⟨ad, cap, rfl, hsl, hnil, hb⟩
    have HV3 : Hid (Below W11.heap.size W11 v3) := Below.transS HV2.out hb
    have HC3 : Hid (SlAt v3 ad (laidS s).length (fn (laidS s)) ∧ (ad = none → (laidS s).length = 0 ∧ cap = 0)) := ⟨hsl, hnil⟩
    clear hsl hnil hb
    obtain ⟨l, hl⟩ : ∃ l, laidS s = l := ⟨_, rfl⟩
    have HL : Hid (laidS s = l) := hl
    rw [hl] at HC3
    simp only [hl]
    clear hl
    refine hK.out _ _ (HSS.out v3 HV3.out) (fun _ => ?_)
    clear hK K
    try simp only [Act.put, List.setIfInBounds_toArray, List.set_cons_zero, List.set_cons_succ]
    have T3 : SHo v3 g6v g7v g8v g9v g10v g11v g7 w.heap.size t1 t2 t3 s q6 q7 q8 q9 q10 q11 q p ∧ (convert 47 9 (.slice ad l.length cap)).run Tryd.prog v3 = .ok (.string (strB (fn l) l.length)) v3 := ⟨HSS.out v3 HV3.out, conv_any ad _ cap _ v3 HC3.out.1 HC3.out.2⟩
    refine wpAnyH_more (S' := fun w' => SHo w' g6v g7v g8v g9v g10v g11v g7 w.heap.size t1 t2 t3 s q6 q7 q8 q9 q10 q11 q p ∧ (convert 47 9 (.slice ad l.length cap)).run Tryd.prog w' = .ok (.string (strB (fn l) l.length)) w') (fun _ h => h.1) _ _ _ _ ?_
    refine wpAnyH_take (i := 22) (oi := { dst := some 116, op := Go.Op.convert 47 9 (Go.Operand.tmp 115), type := 9, pos := "law.go:111", after := #[{ on := 21, ground := Go.Ground.data }, { on := 19, ground := Go.Ground.guard }], guard := some (19, true) }) (v := ?_) rfl (by kernel_rfl) (by kernel_rfl) (by kernel_rfl) (fun _ _ _ h => h) (Or.inl ⟨by rfl, ?_⟩) (by assumption) ?_
    rotate_left
    · intro wz hSw; (try dsimp only at hSw); go_simp; (try with_reducible rfl)
    try simp only [Act.put, List.setIfInBounds_toArray, List.set_cons_zero, List.set_cons_succ]
    refine wpAnyH_ready (rs := [24]) (by kernel_rfl) (by simp) ?_
    refine (AllReadyH.cons (o := { dst := some 118, op := Go.Op.call { callee := Go.Callee.value (Go.Operand.func 16), args := #[Go.Operand.tmp 117], argTypes := #[26] }, type := 47, pos := "law.go:111", after := #[{ on := 23, ground := Go.Ground.data }, { on := 21, ground := Go.Ground.chain }, { on := 19, ground := Go.Ground.guard }], guard := some (19, true) }) rfl (fun K hK => ?_) AllReadyH.nil)
    go_simp
    refine (rencode_any s p v3 (HX11.out.below HV3.out).sp HM.out.1).mono ?_
    rintro e v4 ⟨x4, rfl, hO4⟩
    rw [HL.out] at hO4
    have HV4 : Hid (Below W11.heap.size W11 v4) := Below.transS HV3.out hO4.below
    have T4 : SHo v4 g6v g7v g8v g9v g10v g11v g7 w.heap.size t1 t2 t3 s q6 q7 q8 q9 q10 q11 q p ∧ (convert 47 9 (.slice ad l.length cap)).run Tryd.prog v4 = .ok (.string (strB (fn l) l.length)) v4 := ⟨HSS.out v4 HV4.out, conv_any ad _ cap _ v4 (HC3.out.1.below hO4.below) HC3.out.2⟩
    have hcv := conv_ow hO4
    have HB34 : Hid (Below v3.heap.size v3 v4) := hO4.below
    clear hO4 T3
    refine hK.out _ _ T4 (fun _ => ?_)
    clear hK K
    refine wpAnyH_ready (rs := [25]) (by kernel_rfl) (by simp) ?_
    refine (AllReadyH.cons (o := { dst := some 119, op := Go.Op.convert 47 9 (Go.Operand.tmp 118), type := 9, pos := "law.go:111", after := #[{ on := 24, ground := Go.Ground.data }, { on := 19, ground := Go.Ground.guard }], guard := some (19, true) }) rfl (fun K hK => ?_) AllReadyH.nil)
    go_simp
    refine hK.out _ _ T4 (fun _ => ?_)
    clear hK K hcv
    try simp only [Act.put, List.setIfInBounds_toArray, List.set_cons_zero, List.set_cons_succ]
    refine wpAnyH_take (i := 26) (oi := { dst := some 120, op := Go.Op.binOp Go.BinOp.eql 9 (Go.Operand.tmp 116) (Go.Operand.tmp 119) 9, type := 4, pos := "law.go:111", after := #[{ on := 22, ground := Go.Ground.data }, { on := 25, ground := Go.Ground.data }, { on := 19, ground := Go.Ground.guard }], guard := some (19, true) }) (v := ?_) rfl (by kernel_rfl) (by kernel_rfl) (by kernel_rfl) (fun _ _ _ h => h) (Or.inl ⟨by rfl, ?_⟩) (by assumption) ?_
    rotate_left
    · intro wz hSw; (try dsimp only at hSw); go_simp; (try with_reducible rfl)
    try simp only [Act.put, List.setIfInBounds_toArray, List.set_cons_zero, List.set_cons_succ]
    refine wpAnyH_take (i := 27) (oi := { dst := some 121, op := Go.Op.pick (Go.Operand.tmp 113) (Go.Operand.tmp 120) (Go.Operand.const (Go.Value.bool false)), type := 4, pos := "law.go:111", after := #[{ on := 19, ground := Go.Ground.data }, { on := 26, ground := Go.Ground.data }], guard := none }) (v := ?_) rfl (by kernel_rfl) (by kernel_rfl) (by kernel_rfl) (fun _ _ _ h => h) (Or.inl ⟨by rfl, ?_⟩) (by assumption) ?_
    rotate_left
    · intro wz hSw; (try dsimp only at hSw); go_simp; (try with_reducible rfl)
    try simp only [Act.put, List.setIfInBounds_toArray, List.set_cons_zero, List.set_cons_succ]
    refine wpAnyH_take (i := 28) (oi := { dst := some 122, op := Go.Op.move (Go.Operand.tmp 121), type := 4, pos := "law.go:111", after := #[{ on := 27, ground := Go.Ground.data }, { on := 24, ground := Go.Ground.chain }], guard := none }) (v := ?_) rfl (by kernel_rfl) (by kernel_rfl) (by kernel_rfl) (fun _ _ _ h => h) (Or.inl ⟨by rfl, ?_⟩) (by assumption) ?_
    rotate_left
    · intro wz hSw; (try dsimp only at hSw); go_simp; (try with_reducible rfl)
    try simp only [Act.put, List.setIfInBounds_toArray, List.set_cons_zero, List.set_cons_succ]
    refine wpAnyH_ready (rs := [29]) (by kernel_rfl) (by simp) ?_
    refine (AllReadyH.cons (o := { dst := some 123, op := Go.Op.call { callee := Go.Callee.value (Go.Operand.func 6), args := #[], argTypes := #[] }, type := 4, pos := "law.go:111", after := #[{ on := 28, ground := Go.Ground.chain }, { on := 28, ground := Go.Ground.guard }], guard := some (28, true) }) rfl (fun K hK => ?_) AllReadyH.nil)
    go_simp
    refine (sure_any v4).mono ?_
    rintro e v5 ⟨rfl, hb5⟩
    have HV5 : Hid (Below W11.heap.size W11 v5) := Below.transS HV4.out hb5
    have T5 : SHo v5 g6v g7v g8v g9v g10v g11v g7 w.heap.size t1 t2 t3 s q6 q7 q8 q9 q10 q11 q p ∧ (convert 47 9 (.slice ad l.length cap)).run Tryd.prog v5 = .ok (.string (strB (fn l) l.length)) v5 := ⟨HSS.out v5 HV5.out, conv_any ad _ cap _ v5 (HC3.out.1.below (Below.transS HB34.out hb5)) HC3.out.2⟩
    clear hb5
    refine hK.out _ _ T5 (fun _ => ?_)
    clear hK K
    try simp only [Act.put, List.setIfInBounds_toArray, List.set_cons_zero, List.set_cons_succ]
    refine wpAnyH_take (i := 30) (oi := { dst := some 124, op := Go.Op.pick (Go.Operand.tmp 122) (Go.Operand.tmp 123) (Go.Operand.const (Go.Value.bool false)), type := 4, pos := "law.go:111", after := #[{ on := 28, ground := Go.Ground.data }, { on := 29, ground := Go.Ground.data }], guard := none }) (v := ?_) rfl (by kernel_rfl) (by kernel_rfl) (by kernel_rfl) (fun _ _ _ h => h) (Or.inl ⟨by rfl, ?_⟩) (by assumption) ?_
    rotate_left
    · intro wz hSw; (try dsimp only at hSw); go_simp; (try with_reducible rfl)
    try simp only [Act.put, List.setIfInBounds_toArray, List.set_cons_zero, List.set_cons_succ]
    refine wpAnyH_take (i := 31) (oi := { dst := some 6, op := Go.Op.assign (Go.Operand.tmp 124), type := 4, pos := "law.go:111", after := #[{ on := 30, ground := Go.Ground.data }, { on := 29, ground := Go.Ground.chain }, { on := 0, ground := Go.Ground.phase }, { on := 1, ground := Go.Ground.phase }, { on := 2, ground := Go.Ground.phase }, { on := 3, ground := Go.Ground.phase }, { on := 4, ground := Go.Ground.phase }, { on := 5, ground := Go.Ground.phase }, { on := 6, ground := Go.Ground.phase }, { on := 7, ground := Go.Ground.phase }, { on := 8, ground := Go.Ground.phase }, { on := 9, ground := Go.Ground.phase }, { on := 10, ground := Go.Ground.phase }, { on := 11, ground := Go.Ground.phase }, { on := 12, ground := Go.Ground.phase }, { on := 13, ground := Go.Ground.phase }, { on := 14, ground := Go.Ground.phase }, { on := 15, ground := Go.Ground.phase }, { on := 16, ground := Go.Ground.phase }, { on := 17, ground := Go.Ground.phase }, { on := 18, ground := Go.Ground.phase }, { on := 19, ground := Go.Ground.phase }, { on := 20, ground := Go.Ground.phase }, { on := 21, ground := Go.Ground.phase }, { on := 22, ground := Go.Ground.phase }, { on := 23, ground := Go.Ground.phase }, { on := 24, ground := Go.Ground.phase }, { on := 25, ground := Go.Ground.phase }, { on := 26, ground := Go.Ground.phase }, { on := 27, ground := Go.Ground.phase }, { on := 28, ground := Go.Ground.phase }, { on := 29, ground := Go.Ground.phase }, { on := 30, ground := Go.Ground.phase }], guard := none }) (v := ?_) rfl (by kernel_rfl) (by kernel_rfl) (by kernel_rfl) (fun _ _ _ h => h) (Or.inl ⟨by rfl, ?_⟩) (by assumption) ?_
    rotate_left
    · intro wz hSw; (try dsimp only at hSw); go_simp; (try with_reducible rfl)
    try simp only [Act.put, List.setIfInBounds_toArray, List.set_cons_zero, List.set_cons_succ]
    refine wpAnyH_done (by kernel_rfl) (NoPanic.normal ?_) _
    try simp only [Act.put, List.setIfInBounds_toArray, List.set_cons_zero, List.set_cons_succ]
    have HE : Hid (Below w.heap.size w v5) := HX11.out.bw.trans (HV5.out.mono HX11.out.bw.size)
    clear hHeld S0 S1 S2 S3 T4 T5
    go_wp2
    go_ret
    exact ⟨rfl, HE.out⟩
end Go.Proofs.YtjlobimncpiacaaDoor
/- StateHolds: the walk, as the row asks for it; a state that came in has its holds at an address without a spot. -/
namespace Go.Proofs.YtjlobimncpiacaaDoor
open Go.ChangeShapes Go.WideShapes Go.RowKit Go.ChangeAt

set_option maxRecDepth 20000 in
theorem holds_spot {W : World} {base : Nat} {s : Sv} {p : Pl} (h : Value.okWide Tryd.prog W .any base 26 (.agg (svv s p))) : ∀ a, p.ha = some a → ∃ bb off, a = ⟨bb, off, none⟩ := by
  simp only [Value.okWide, Tryd.underlying26] at h
  obtain ⟨cs, h1, _, ts, h2, _, h3⟩ := h
  obtain rfl : svv s p = cs := Value.agg.inj h1
  have e : ts = [3, 3, 3, 23, 24] := Option.some.inj (h2.symm.trans (show Tryd.prog.cellTypes Tryd.prog.depth 26 = some [3, 3, 3, 23, 24] by kernel_rfl))
  subst e
  intro a ha
  obtain ⟨u, hu, hc⟩ := h3 4 (.slice p.ha s.hn p.hc) rfl
  obtain rfl : 24 = u := Option.some.inj hu
  rw [ha] at hc
  simp only [Cell.okWide, Tryd.underlying24, Cell.ok, World.has] at hc
  obtain ⟨b, off, spot⟩ := a
  obtain ⟨_, _, _, hs, _⟩ := hc
  have hs' : spot = none := hs
  subst hs'
  exact ⟨b, off, rfl⟩
theorem holds_card (s : Sv) (p : Pl) (y : Hd) (ka : Option Addr) (kc : Nat) (n0 n1 : Int) (w : World) (hg : Glob w) (h : StIn w s p) (_ : s.Ib) (hsp : ∀ a, p.ha = some a → ∃ bb off, a = ⟨bb, off, none⟩) (hI : IsAt w ka y.n y.z) (hkn : ka = none → y.n = 0 ∧ kc = 0) (hyl : y.n ≤ 140737488355328) (_ : Ib y.id ∧ Ib y.am) (_ : Ib n0) (_ : Ib n1) :
    Calls Tryd.prog 3 #[.agg (svv s p), .agg (hdv y ka kc), .agg #[.int .i64 n0, .int .i64 n1]] w fun e w' => e = .returned (.bool true) ∧ Below w.heap.size w w' := holds_any s p y ka kc n0 n1 w hg h hI hkn hyl hsp
end Go.Proofs.YtjlobimncpiacaaDoor
