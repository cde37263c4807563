/- TreePaths: the walk. -/
import Derived.Test.YtlnoabedcnlpoaaDoorJNexts
import Derived.Test.YtlnoabedcnlpoaaDoorJRNew
namespace Go.Proofs.YtlnoabedcnlpoaaDoor
open Go.RowKit

/-- Both sides begin alike. -/
theorem beg_both (c : Tc) : ∃ (m : Nat) (y : Nat → Int) (er : Int), m ≤ 8 ∧
    (∀ w e w', BegR c w e w' → ∃ ad cap, e = .returned (.tuple #[.slice ad m cap, errV er]) ∧ IsAt w' ad m y) ∧
    (∀ w e w', RBegR c w e w' → ∃ ad cap, e = .returned (.tuple #[.slice ad m cap, .int .i64 er]) ∧ IsAt w' ad m y) := by
  by_cases h0 : chkT c = 0
  · have hd := (chkT_ok h0).1.1
    refine ⟨c.dp.toNat, fun _ => c.fi, 0, by omega, fun w e w' h => ?_, fun w e w' h => ?_⟩
    · obtain ⟨g, k, hk, he, hI⟩ := h.ok h0
      obtain rfl : k = c.dp.toNat := by omega
      exact ⟨_, _, he, hI⟩
    · obtain ⟨ad, k, cap, hk, he, hI⟩ := h.ok h0
      obtain rfl : k = c.dp.toNat := by omega
      exact ⟨_, _, he, hI⟩
  · exact ⟨0, fun _ => c.fi, chkT c, by omega, fun w e w' h => ⟨none, 0, h.bad h0, IsAt.nil _ _ _⟩, fun w e w' h => ⟨none, 0, h.bad h0, IsAt.nil _ _ _⟩⟩
set_option maxRecDepth 100000 in
set_option maxHeartbeats 3200000 in
theorem paths_any (c : Tc) (ka : Option Addr) (kc : Nat) (ad : Option Addr) (n cap : Nat) (z : Nat → Int) (bd : Option Addr) (m cap2 : Nat) (y : Nat → Int) (w : World) (h : LawIn w c ka ad n z) (h2 : IsAt w bd m y) :
    Calls Tryd.prog 3 #[.agg (tcv c ka kc), .slice ad n cap, .slice bd m cap2] w fun e w' => e = .returned (.bool true) ∧ Below w.heap.size w w' := by
  have HH := hidV (And.intro h h2)
  clear h h2
  obtain ⟨bm, bz, be, hb0, hb1, hb2⟩ := beg_both c
  obtain ⟨nm, nz', ne', hn0, hn1, hn2⟩ := nx_both c z n
  have HM := hidV (And.intro (And.intro hb0 (And.intro hb1 hb2)) (And.intro hn0 (And.intro hn1 hn2)))
  clear hb0 hb1 hb2 hn0 hn1 hn2
  go_enter Tryd.func3, Tryd.ntmps3
  go_upto_region 1 with (first | (refine wpList_boxN rfl _ _ rfl (tcv c ka kc) rfl ?_; intro v1 N1) | fail)
  have HX : Hid (Below w.heap.size w v1 ∧ (∀ w' : World, Below v1.heap.size v1 w' → w'.rangeAt w.heap.size 0 (tcl c ka kc))) :=
    ⟨N1.below, fun w' hb => tcl_range (heap_below hb N1.blk)⟩
  clear N1
  have ks := (tcBox (HX.out.2 v1 (Below.refl _ _))).ks
  by_cases q1 : (100 : Int) < c.kn
  · go_wp2_with fail
    refine (sure_any v1).mono ?_
    rintro e v2 ⟨rfl, hb⟩
    have HE := hidV (Below.transS HX.out.1 hb)
    clear hb
    go_wp2
    go_ret
    exact ⟨rfl, HE.out⟩
  by_cases q2 : (100 : Int) < n
  · go_wp2_with fail
    refine (sure_any v1).mono ?_
    rintro e v2 ⟨rfl, hb⟩
    have HE := hidV (Below.transS HX.out.1 hb)
    clear hb
    go_wp2
    go_ret
    exact ⟨rfl, HE.out⟩
  by_cases q3 : (100 : Int) < m
  · go_wp2_with fail
    refine (sure_any v1).mono ?_
    rintro e v2 ⟨rfl, hb⟩
    have HE := hidV (Below.transS HX.out.1 hb)
    clear hb
    go_wp2
    go_ret
    exact ⟨rfl, HE.out⟩
  have HN : Hid (c.kn ≤ 100 ∧ n ≤ 100 ∧ m ≤ 100) := ⟨by omega, by omega, by omega⟩
  have HI := hidV (TcIn.mk (HH.out.1.keys.below HX.out.1) (by have := HN.out; omega) HH.out.1.st)
  have HR1 := hidV (HX.out.2 v1 (Below.refl _ _))
  go_wp2_with (first | (refine wpList_loadR (by rfl) _ rfl w.heap.size rfl c ka kc HR1.out ?_) | fail)
  clear q1 q2 q3 ks
  refine (giveTree_any c ka kc v1 HI.out).mono ?_
  rintro e v2 ⟨⟨ka', kc', rfl, hI2⟩, hb2⟩
  have HB2 := hidV hb2
  have HI2 := hidV hI2
  clear hb2 hI2 HR1
  go_upto_region 4 with (first | (refine wpList_allocN 32 (tcv tc0 none 0) run_allocTc rfl rfl ?_; intro v3 N3) | (refine wpList_storeG 32 szT rfl _ _ rfl v2.heap.size rfl (tcv c ka' kc') (tcv tc0 none 0) (tcv_size _ _ _) (tcv_size _ _ _) (all_oneCell_toArray (tcl_one _ _ _)) 32 rfl N3.blk ?_; intro v4 hg4 hf4) | fail)
  have HB4 : Hid (Below v2.heap.size v2 v4) := N3.below.trans (hf4.below N3.below.size (by simp))
  have HT : Hid (∀ w' : World, Below v4.heap.size v4 w' → w'.rangeAt v2.heap.size 0 (tcl c ka' kc')) := fun w' hb => tcl_range (heap_below hb hg4)
  have HBW := hidV (Below.transS HB2.out HB4.out)
  clear N3 hg4 hf4
  -- Begin, twice
  have HT4 := hidV (HT.out v4 (Below.refl _ _))
  go_wp2_with (first | (refine wpList_loadT (by rfl) _ rfl v2.heap.size rfl c ka' kc' HT4.out ?_) | fail)
  refine (begin_any c ka' kc' v4 (HI2.out.below HB4.out)).mono ?_
  intro e v5 hE
  obtain ⟨a5, c5, rfl, hA5⟩ := HM.out.1.2.1 _ _ _ hE
  have HB5 := hidV hE.below
  have HA5 := hidV hA5
  clear hE hA5 HT4
  have HR5 := hidV (HX.out.2 v5 (Below.transS HBW.out HB5.out))
  go_wp2_with (first | (refine wpList_loadR (by rfl) _ rfl w.heap.size rfl c ka kc HR5.out ?_) | fail)
  refine (rbegin_any c ka kc v5 (HI.out.below (Below.transS HBW.out HB5.out))).mono ?_
  intro e v6 hE
  obtain ⟨a6, c6, rfl, hA6⟩ := HM.out.1.2.2 _ _ _ hE
  have HB6 := hidV (Below.transS HB5.out hE.below)
  have HA6 := hidV (And.intro (HA5.out.below hE.below) hA6)
  clear hE hA6 HR5 HA5
  -- Next, twice
  have HT6 := hidV (HT.out v6 HB6.out)
  go_wp2_with (first | (refine wpList_loadT (by rfl) _ rfl v2.heap.size rfl c ka' kc' HT6.out ?_) | fail)
  refine (next_any c ka' kc' ad n cap z v6 (HH.out.1.path.below (Below.transS HX.out.1 (Below.transS HBW.out HB6.out))) (by have := HN.out; omega) (HI2.out.below (Below.transS HB4.out HB6.out))).mono ?_
  intro e v7 hE
  obtain ⟨a7, c7, rfl, hA7⟩ := HM.out.2.2.1 _ _ _ hE
  have HB7 := hidV (Below.transS HB6.out hE.below)
  have HA7 := hidV (And.intro (HA6.out.1.below hE.below) (And.intro (HA6.out.2.below hE.below) hA7))
  clear hE hA7 HT6 HA6
  have HR7 := hidV (HX.out.2 v7 (Below.transS HBW.out HB7.out))
  go_wp2_with (first | (refine wpList_loadR (by rfl) _ rfl w.heap.size rfl c ka kc HR7.out ?_) | fail)
  refine (rnext_any c ka kc ad n cap z v7 (HH.out.1.path.below (Below.transS HX.out.1 (Below.transS HBW.out HB7.out))) (by have := HN.out; omega) (HI.out.below (Below.transS HBW.out HB7.out))).mono ?_
  intro e v8 hE
  obtain ⟨a8, c8, rfl, hA8⟩ := HM.out.2.2.2 _ _ _ hE
  have HB8 := hidV (Below.transS HB7.out hE.below)
  have HA8 := hidV (And.intro (And.intro (HA7.out.1.below hE.below) (HA7.out.2.1.below hE.below)) (And.intro (HA7.out.2.2.below hE.below) hA8))
  clear hE hA8 HR7 HA7
  -- Left, twice
  have HT8 := hidV (HT.out v8 HB8.out)
  go_wp2_with (first | (refine wpList_loadT (by rfl) _ rfl v2.heap.size rfl c ka' kc' HT8.out ?_) | fail)
  refine (left_any c ka' kc' ad n cap z v8 (HH.out.1.path.below (Below.transS HX.out.1 (Below.transS HBW.out HB8.out))) (by have := HN.out; omega) (HI2.out.below (Below.transS HB4.out HB8.out))).mono ?_
  rintro e v9 ⟨rfl, hb9⟩
  have HB9 := hidV (Below.transS HB8.out hb9)
  have HC9 := hidV hb9
  clear hb9 HT8
  have HR9 := hidV (HX.out.2 v9 (Below.transS HBW.out HB9.out))
  go_wp2_with (first | (refine wpList_loadR (by rfl) _ rfl w.heap.size rfl c ka kc HR9.out ?_) | fail)
  refine (rleft_any c ka kc ad n cap z v9 (HH.out.1.path.below (Below.transS HX.out.1 (Below.transS HBW.out HB9.out))) (by have := HN.out; omega) (HI.out.below (Below.transS HBW.out HB9.out))).mono ?_
  rintro e v10 ⟨rfl, hb10⟩
  have HB10 := hidV (Below.transS HB9.out hb10)
  have HC10 := hidV (Below.transS HC9.out hb10)
  clear hb10 HR9 HC9
  -- Room
  have HT10 := hidV (HT.out v10 HB10.out)
  go_wp2_with (first | (refine wpList_loadT (by rfl) _ rfl v2.heap.size rfl c ka' kc' HT10.out ?_) | fail)
  refine (room_any c ka' kc' v10 (HI2.out.below (Below.transS HB4.out HB10.out))).mono ?_
  rintro e v11 ⟨rfl, hb11⟩
  have HB11 := hidV (Below.transS HB10.out hb11)
  have HC11 := hidV (Below.transS HC10.out hb11)
  clear hb11 HT10 HC10
  have HR11 := hidV (HX.out.2 v11 (Below.transS HBW.out HB11.out))
  go_wp2_with (first | (refine wpList_loadR (by rfl) _ rfl w.heap.size rfl c ka kc HR11.out ?_) | fail)
  refine (rcheck_any c ka kc v11 (HI.out.below (Below.transS HBW.out HB11.out))).mono ?_
  rintro e v12 ⟨rfl, hb12⟩
  have HB12 := hidV (Below.transS HB11.out hb12)
  have HC12 := hidV (Below.transS HC11.out hb12)
  clear hb12 HR11 HC11
  have HG12 := hidV (HH.out.1.glob.below (Below.transS HX.out.1 (Below.transS HBW.out HB12.out)) HH.out.1.glob.pos)
  have HA12 := hidV (And.intro (And.intro (HA8.out.1.1.below HC12.out) (HA8.out.1.2.below HC12.out)) (And.intro (HA8.out.2.1.below HC12.out) (HA8.out.2.2.below HC12.out)))
  have HP12 := hidV (And.intro (HH.out.1.path.below (Below.transS HX.out.1 (Below.transS HBW.out HB12.out))) (HH.out.2.below (Below.transS HX.out.1 (Below.transS HBW.out HB12.out))))
  clear HA8 HC12
  generalize hnw : newerF c z n y m = nb
  by_cases h0 : chkT c = 0
  · have hT := chkT_ok h0
    have hr : roomF c = c.am - c.dp * c.fe := if_pos h0
    have hm : 0 ≤ c.dp * c.fe ∧ c.dp * c.fe ≤ 8 * 1125899906842624 := ⟨Int.mul_nonneg (by have := hT.1.1; omega) (by have := hT.2.2.1; omega), Int.mul_le_mul (by have := hT.1.1; omega) (by have := hT.2.2.1; omega) (by have := hT.2.2.1; omega) (by omega)⟩
    have w1 : IntKind.i64.wrap (c.dp * c.fe) = c.dp * c.fe := by rw [IntKind.wrap_i64]; omega
    have w2 : IntKind.i64.wrap (c.am - c.dp * c.fe) = c.am - c.dp * c.fe := by have := hT.2.2.2; rw [IntKind.wrap_i64]; omega
    obtain ⟨am, -, dp, -, -, -, fe⟩ := tcBox (HX.out.2 v12 (Below.transS HBW.out HB12.out))
    rw [hr, h0]
    have HZ := hidV h0
    clear hT hr hm h0
    go_upto_region 14 with fail
    clear w1 w2 am dp fe
    generalize c.am - c.dp * c.fe = rm at *
    simp only [List.append_eq, List.cons_append, List.nil_append]
    have HS : Hid (∀ w' : World, Below v12.heap.size v12 w' → w'.rangeAt w.heap.size 0 (tcl c ka kc) ∧ w'.rangeAt v2.heap.size 0 (tcl c ka' kc')) := fun w' hb => ⟨HX.out.2 w' (Below.transS HBW.out (Below.transS HB12.out hb)), HT.out w' (Below.transS HB12.out hb)⟩
    have HQ0 : Hid (Below v12.heap.size v12 v12.drew) := (Below.refl _ v12).drew
    have S0 := HS.out v12.drew HQ0.out
    refine wp_region_noPanic ?_
    refine wp_region_held_drew (S := fun w' => w'.rangeAt w.heap.size 0 (tcl c ka kc) ∧ w'.rangeAt v2.heap.size 0 (tcl c ka' kc')) (by kernel_rfl) S0 (fun hHeld => ?_)
    clear S0
    refine wpAnyH_take (i := 0) (oi := { dst := some 90, op := Go.Op.load 32 (Go.Operand.tmp 7), type := 32, pos := "law.go:118", after := #[], guard := none }) rfl (by kernel_rfl) (by kernel_rfl) (by kernel_rfl) (fun _ _ _ h => h) (yieldsIf_load_mid (by rfl) _ _ rfl v2.heap.size 0 rfl (tcl c ka' kc') _ (fun _ h => h.2) Tryd.underlying32 rfl (szTl _ _ _)) (by assumption) ?_
    try simp only [Act.put, List.setIfInBounds_toArray, List.set_cons_zero, List.set_cons_succ]
    refine wpAnyH_take (i := 3) (oi := { dst := some 93, op := Go.Op.load 28 (Go.Operand.tmp 3), type := 28, pos := "law.go:118", after := #[], guard := none }) rfl (by kernel_rfl) (by kernel_rfl) (by kernel_rfl) (fun _ _ _ h => h) (yieldsIf_load_mid (by rfl) _ _ rfl w.heap.size 0 rfl (tcl c ka kc) _ (fun _ h => h.1) Tryd.underlying28 rfl (szRl _ _ _)) (by assumption) ?_
    try simp only [Act.put, List.setIfInBounds_toArray, List.set_cons_zero, List.set_cons_succ]
    refine wpAnyH_ready (rs := [1]) (by kernel_rfl) (by simp) ?_
    refine (AllReadyH.cons (o := { dst := some 91, op := Go.Op.call { callee := Go.Callee.value (Go.Operand.func 18), args := #[Go.Operand.tmp 90], argTypes := #[32] }, type := 36, pos := "law.go:118", after := #[{ on := 0, ground := Go.Ground.data }], guard := none }) rfl (fun K hK => ?_) AllReadyH.nil)
    go_simp
    refine (check_any c ka' kc' v12.drew (HI2.out.below (Below.transS HB4.out (Below.transS HB12.out HQ0.out)))).mono ?_
    rintro e u1w ⟨rfl, hb⟩
    rw [HZ.out]
    have HQ1 : Hid (Below v12.heap.size v12 u1w) := Below.transS HQ0.out hb
    clear hb
    refine hK.out _ _ (HS.out u1w HQ1.out) (fun _ => ?_)
    clear hK K
    try simp only [Act.put, List.setIfInBounds_toArray, List.set_cons_zero, List.set_cons_succ]
    refine wpAnyH_ready (rs := [2]) (by kernel_rfl) (by simp) ?_
    refine (AllReadyH.cons (o := { dst := some 92, op := Go.Op.call { callee := Go.Callee.value (Go.Operand.func 17), args := #[Go.Operand.tmp 91], argTypes := #[36] }, type := 3, pos := "law.go:118", after := #[{ on := 1, ground := Go.Ground.data }, { on := 1, ground := Go.Ground.chain }], guard := none }) rfl (fun K hK => ?_) AllReadyH.nil)
    go_simp
    refine (num_any (0) u1w (HG12.out.below HQ1.out HG12.out.pos)).mono ?_
    rintro e u2w ⟨rfl, hb⟩
    have HQ2 : Hid (Below v12.heap.size v12 u2w) := Below.transS HQ1.out hb
    clear hb
    refine hK.out _ _ (HS.out u2w HQ2.out) (fun _ => ?_)
    clear hK K
    try simp only [Act.put, List.setIfInBounds_toArray, List.set_cons_zero, List.set_cons_succ]
    refine wpAnyH_ready (rs := [4]) (by kernel_rfl) (by simp) ?_
    refine (AllReadyH.cons (o := { dst := some 94, op := Go.Op.call { callee := Go.Callee.value (Go.Operand.func 16), args := #[Go.Operand.tmp 93], argTypes := #[28] }, type := 3, pos := "law.go:118", after := #[{ on := 3, ground := Go.Ground.data }, { on := 2, ground := Go.Ground.chain }], guard := none }) rfl (fun K hK => ?_) AllReadyH.nil)
    go_simp
    refine (rcheck_any c ka kc u2w (HI.out.below (Below.transS HBW.out (Below.transS HB12.out HQ2.out)))).mono ?_
    rintro e u3w ⟨rfl, hb⟩
    rw [HZ.out]
    have HQ3 : Hid (Below v12.heap.size v12 u3w) := Below.transS HQ2.out hb
    clear hb
    refine hK.out _ _ (HS.out u3w HQ3.out) (fun _ => ?_)
    clear hK K
    try simp only [Act.put, List.setIfInBounds_toArray, List.set_cons_zero, List.set_cons_succ]
    refine wpAnyH_take (i := 5) (oi := { dst := some 95, op := Go.Op.binOp Go.BinOp.eql 3 (Go.Operand.tmp 92) (Go.Operand.tmp 94) 3, type := 4, pos := "law.go:118", after := #[{ on := 2, ground := Go.Ground.data }, { on := 4, ground := Go.Ground.data }], guard := none }) (v := ?_) rfl (by kernel_rfl) (by kernel_rfl) (by kernel_rfl) (fun _ _ _ h => h) (Or.inl ⟨by rfl, ?_⟩) (by assumption) ?_
    rotate_left
    · intro wz hSw; (try dsimp only at hSw); go_simp; (try with_reducible rfl)
    try simp only [Act.put, List.setIfInBounds_toArray, List.set_cons_zero, List.set_cons_succ]
    refine wpAnyH_take (i := 6) (oi := { dst := some 96, op := Go.Op.move (Go.Operand.tmp 95), type := 4, pos := "law.go:118", after := #[{ on := 5, ground := Go.Ground.data }, { on := 4, ground := Go.Ground.chain }], guard := none }) (v := ?_) rfl (by kernel_rfl) (by kernel_rfl) (by kernel_rfl) (fun _ _ _ h => h) (Or.inl ⟨by rfl, ?_⟩) (by assumption) ?_
    rotate_left
    · intro wz hSw; (try dsimp only at hSw); go_simp; (try with_reducible rfl)
    try simp only [Act.put, List.setIfInBounds_toArray, List.set_cons_zero, List.set_cons_succ]
    refine wpAnyH_take (i := 7) (oi := { dst := some 97, op := Go.Op.move (Go.Operand.tmp 8), type := 34, pos := "law.go:118", after := #[{ on := 6, ground := Go.Ground.guard }], guard := some (6, true) }) (v := ?_) rfl (by kernel_rfl) (by kernel_rfl) (by kernel_rfl) (fun _ _ _ h => h) (Or.inl ⟨by rfl, ?_⟩) (by assumption) ?_
    rotate_left
    · intro wz hSw; (try dsimp only at hSw); go_simp; (try with_reducible rfl)
    try simp only [Act.put, List.setIfInBounds_toArray, List.set_cons_zero, List.set_cons_succ]
    refine wpAnyH_take (i := 8) (oi := { dst := some 98, op := Go.Op.move (Go.Operand.tmp 10), type := 26, pos := "law.go:118", after := #[{ on := 6, ground := Go.Ground.guard }], guard := some (6, true) }) (v := ?_) rfl (by kernel_rfl) (by kernel_rfl) (by kernel_rfl) (fun _ _ _ h => h) (Or.inl ⟨by rfl, ?_⟩) (by assumption) ?_
    rotate_left
    · intro wz hSw; (try dsimp only at hSw); go_simp; (try with_reducible rfl)
    try simp only [Act.put, List.setIfInBounds_toArray, List.set_cons_zero, List.set_cons_succ]
    refine wpAnyH_ready (rs := [9]) (by kernel_rfl) (by simp) ?_
    refine (AllReadyH.cons (o := { dst := some 99, op := Go.Op.call { callee := Go.Callee.value (Go.Operand.func 19), args := #[Go.Operand.tmp 97, Go.Operand.tmp 98], argTypes := #[26, 26] }, type := 4, pos := "law.go:118", after := #[{ on := 7, ground := Go.Ground.data }, { on := 8, ground := Go.Ground.data }, { on := 6, ground := Go.Ground.chain }, { on := 6, ground := Go.Ground.guard }], guard := some (6, true) }) rfl (fun K hK => ?_) AllReadyH.nil)
    go_simp
    refine (ints_same a5 a6 bm c5 c6 bz u3w (HA12.out.1.1.below HQ3.out) (HA12.out.1.2.below HQ3.out) (by have := HM.out.1.1; omega)).mono ?_
    rintro e u4w ⟨rfl, hb⟩
    have HQ4 : Hid (Below v12.heap.size v12 u4w) := Below.transS HQ3.out hb
    clear hb
    refine hK.out _ _ (HS.out u4w HQ4.out) (fun _ => ?_)
    clear hK K
    try simp only [Act.put, List.setIfInBounds_toArray, List.set_cons_zero, List.set_cons_succ]
    refine wpAnyH_take (i := 10) (oi := { dst := some 100, op := Go.Op.pick (Go.Operand.tmp 96) (Go.Operand.tmp 99) (Go.Operand.const (Go.Value.bool false)), type := 4, pos := "law.go:118", after := #[{ on := 6, ground := Go.Ground.data }, { on := 9, ground := Go.Ground.data }], guard := none }) (v := ?_) rfl (by kernel_rfl) (by kernel_rfl) (by kernel_rfl) (fun _ _ _ h => h) (Or.inl ⟨by rfl, ?_⟩) (by assumption) ?_
    rotate_left
    · intro wz hSw; (try dsimp only at hSw); go_simp; (try with_reducible rfl)
    try simp only [Act.put, List.setIfInBounds_toArray, List.set_cons_zero, List.set_cons_succ]
    refine wpAnyH_take (i := 11) (oi := { dst := some 101, op := Go.Op.move (Go.Operand.tmp 100), type := 4, pos := "law.go:118", after := #[{ on := 10, ground := Go.Ground.data }, { on := 9, ground := Go.Ground.chain }], guard := none }) (v := ?_) rfl (by kernel_rfl) (by kernel_rfl) (by kernel_rfl) (fun _ _ _ h => h) (Or.inl ⟨by rfl, ?_⟩) (by assumption) ?_
    rotate_left
    · intro wz hSw; (try dsimp only at hSw); go_simp; (try with_reducible rfl)
    try simp only [Act.put, List.setIfInBounds_toArray, List.set_cons_zero, List.set_cons_succ]
    refine wpAnyH_take (i := 12) (oi := { dst := some 102, op := Go.Op.move (Go.Operand.tmp 9), type := 36, pos := "law.go:118", after := #[{ on := 11, ground := Go.Ground.guard }], guard := some (11, true) }) (v := ?_) rfl (by kernel_rfl) (by kernel_rfl) (by kernel_rfl) (fun _ _ _ h => h) (Or.inl ⟨by rfl, ?_⟩) (by assumption) ?_
    rotate_left
    · intro wz hSw; (try dsimp only at hSw); go_simp; (try with_reducible rfl)
    try simp only [Act.put, List.setIfInBounds_toArray, List.set_cons_zero, List.set_cons_succ]
    refine wpAnyH_take (i := 14) (oi := { dst := some 104, op := Go.Op.move (Go.Operand.tmp 11), type := 3, pos := "law.go:118", after := #[{ on := 11, ground := Go.Ground.guard }], guard := some (11, true) }) (v := ?_) rfl (by kernel_rfl) (by kernel_rfl) (by kernel_rfl) (fun _ _ _ h => h) (Or.inl ⟨by rfl, ?_⟩) (by assumption) ?_
    rotate_left
    · intro wz hSw; (try dsimp only at hSw); go_simp; (try with_reducible rfl)
    try simp only [Act.put, List.setIfInBounds_toArray, List.set_cons_zero, List.set_cons_succ]
    refine wpAnyH_ready (rs := [13]) (by kernel_rfl) (by simp) ?_
    refine (AllReadyH.cons (o := { dst := some 103, op := Go.Op.call { callee := Go.Callee.value (Go.Operand.func 17), args := #[Go.Operand.tmp 102], argTypes := #[36] }, type := 3, pos := "law.go:118", after := #[{ on := 12, ground := Go.Ground.data }, { on := 11, ground := Go.Ground.chain }, { on := 11, ground := Go.Ground.guard }], guard := some (11, true) }) rfl (fun K hK => ?_) AllReadyH.nil)
    go_simp
    refine (num_any be u4w (HG12.out.below HQ4.out HG12.out.pos)).mono ?_
    rintro e u5w ⟨rfl, hb⟩
    have HQ5 : Hid (Below v12.heap.size v12 u5w) := Below.transS HQ4.out hb
    clear hb
    refine hK.out _ _ (HS.out u5w HQ5.out) (fun _ => ?_)
    clear hK K
    try simp only [Act.put, List.setIfInBounds_toArray, List.set_cons_zero, List.set_cons_succ]
    refine wpAnyH_take (i := 15) (oi := { dst := some 105, op := Go.Op.binOp Go.BinOp.eql 3 (Go.Operand.tmp 103) (Go.Operand.tmp 104) 3, type := 4, pos := "law.go:118", after := #[{ on := 13, ground := Go.Ground.data }, { on := 14, ground := Go.Ground.data }, { on := 11, ground := Go.Ground.guard }], guard := some (11, true) }) (v := ?_) rfl (by kernel_rfl) (by kernel_rfl) (by kernel_rfl) (fun _ _ _ h => h) (Or.inl ⟨by rfl, ?_⟩) (by assumption) ?_
    rotate_left
    · intro wz hSw; (try dsimp only at hSw); go_simp; (try with_reducible rfl)
    try simp only [Act.put, List.setIfInBounds_toArray, List.set_cons_zero, List.set_cons_succ]
    refine wpAnyH_take (i := 16) (oi := { dst := some 106, op := Go.Op.pick (Go.Operand.tmp 101) (Go.Operand.tmp 105) (Go.Operand.const (Go.Value.bool false)), type := 4, pos := "law.go:118", after := #[{ on := 11, ground := Go.Ground.data }, { on := 15, ground := Go.Ground.data }], guard := none }) (v := ?_) rfl (by kernel_rfl) (by kernel_rfl) (by kernel_rfl) (fun _ _ _ h => h) (Or.inl ⟨by rfl, ?_⟩) (by assumption) ?_
    rotate_left
    · intro wz hSw; (try dsimp only at hSw); go_simp; (try with_reducible rfl)
    try simp only [Act.put, List.setIfInBounds_toArray, List.set_cons_zero, List.set_cons_succ]
    refine wpAnyH_take (i := 17) (oi := { dst := some 107, op := Go.Op.move (Go.Operand.tmp 106), type := 4, pos := "law.go:118", after := #[{ on := 16, ground := Go.Ground.data }, { on := 13, ground := Go.Ground.chain }], guard := none }) (v := ?_) rfl (by kernel_rfl) (by kernel_rfl) (by kernel_rfl) (fun _ _ _ h => h) (Or.inl ⟨by rfl, ?_⟩) (by assumption) ?_
    rotate_left
    · intro wz hSw; (try dsimp only at hSw); go_simp; (try with_reducible rfl)
    try simp only [Act.put, List.setIfInBounds_toArray, List.set_cons_zero, List.set_cons_succ]
    refine wpAnyH_take (i := 18) (oi := { dst := some 108, op := Go.Op.move (Go.Operand.tmp 12), type := 34, pos := "law.go:118", after := #[{ on := 17, ground := Go.Ground.guard }], guard := some (17, true) }) (v := ?_) rfl (by kernel_rfl) (by kernel_rfl) (by kernel_rfl) (fun _ _ _ h => h) (Or.inl ⟨by rfl, ?_⟩) (by assumption) ?_
    rotate_left
    · intro wz hSw; (try dsimp only at hSw); go_simp; (try with_reducible rfl)
    try simp only [Act.put, List.setIfInBounds_toArray, List.set_cons_zero, List.set_cons_succ]
    refine wpAnyH_take (i := 19) (oi := { dst := some 109, op := Go.Op.move (Go.Operand.tmp 14), type := 26, pos := "law.go:118", after := #[{ on := 17, ground := Go.Ground.guard }], guard := some (17, true) }) (v := ?_) rfl (by kernel_rfl) (by kernel_rfl) (by kernel_rfl) (fun _ _ _ h => h) (Or.inl ⟨by rfl, ?_⟩) (by assumption) ?_
    rotate_left
    · intro wz hSw; (try dsimp only at hSw); go_simp; (try with_reducible rfl)
    try simp only [Act.put, List.setIfInBounds_toArray, List.set_cons_zero, List.set_cons_succ]
    refine wpAnyH_ready (rs := [20]) (by kernel_rfl) (by simp) ?_
    refine (AllReadyH.cons (o := { dst := some 110, op := Go.Op.call { callee := Go.Callee.value (Go.Operand.func 19), args := #[Go.Operand.tmp 108, Go.Operand.tmp 109], argTypes := #[26, 26] }, type := 4, pos := "law.go:118", after := #[{ on := 18, ground := Go.Ground.data }, { on := 19, ground := Go.Ground.data }, { on := 17, ground := Go.Ground.chain }, { on := 17, ground := Go.Ground.guard }], guard := some (17, true) }) rfl (fun K hK => ?_) AllReadyH.nil)
    go_simp
    refine (ints_same a7 a8 nm c7 c8 nz' u5w (HA12.out.2.1.below HQ5.out) (HA12.out.2.2.below HQ5.out) (by have := HM.out.2.1; have := HN.out; omega)).mono ?_
    rintro e u6w ⟨rfl, hb⟩
    have HQ6 : Hid (Below v12.heap.size v12 u6w) := Below.transS HQ5.out hb
    clear hb
    refine hK.out _ _ (HS.out u6w HQ6.out) (fun _ => ?_)
    clear hK K
    try simp only [Act.put, List.setIfInBounds_toArray, List.set_cons_zero, List.set_cons_succ]
    refine wpAnyH_take (i := 21) (oi := { dst := some 111, op := Go.Op.pick (Go.Operand.tmp 107) (Go.Operand.tmp 110) (Go.Operand.const (Go.Value.bool false)), type := 4, pos := "law.go:118", after := #[{ on := 17, ground := Go.Ground.data }, { on := 20, ground := Go.Ground.data }], guard := none }) (v := ?_) rfl (by kernel_rfl) (by kernel_rfl) (by kernel_rfl) (fun _ _ _ h => h) (Or.inl ⟨by rfl, ?_⟩) (by assumption) ?_
    rotate_left
    · intro wz hSw; (try dsimp only at hSw); go_simp; (try with_reducible rfl)
    try simp only [Act.put, List.setIfInBounds_toArray, List.set_cons_zero, List.set_cons_succ]
    refine wpAnyH_take (i := 22) (oi := { dst := some 112, op := Go.Op.move (Go.Operand.tmp 111), type := 4, pos := "law.go:118", after := #[{ on := 21, ground := Go.Ground.data }, { on := 20, ground := Go.Ground.chain }], guard := none }) (v := ?_) rfl (by kernel_rfl) (by kernel_rfl) (by kernel_rfl) (fun _ _ _ h => h) (Or.inl ⟨by rfl, ?_⟩) (by assumption) ?_
    rotate_left
    · intro wz hSw; (try dsimp only at hSw); go_simp; (try with_reducible rfl)
    try simp only [Act.put, List.setIfInBounds_toArray, List.set_cons_zero, List.set_cons_succ]
    refine wpAnyH_take (i := 23) (oi := { dst := some 113, op := Go.Op.move (Go.Operand.tmp 13), type := 36, pos := "law.go:118", after := #[{ on := 22, ground := Go.Ground.guard }], guard := some (22, true) }) (v := ?_) rfl (by kernel_rfl) (by kernel_rfl) (by kernel_rfl) (fun _ _ _ h => h) (Or.inl ⟨by rfl, ?_⟩) (by assumption) ?_
    rotate_left
    · intro wz hSw; (try dsimp only at hSw); go_simp; (try with_reducible rfl)
    try simp only [Act.put, List.setIfInBounds_toArray, List.set_cons_zero, List.set_cons_succ]
    refine wpAnyH_take (i := 25) (oi := { dst := some 115, op := Go.Op.move (Go.Operand.tmp 15), type := 3, pos := "law.go:118", after := #[{ on := 22, ground := Go.Ground.guard }], guard := some (22, true) }) (v := ?_) rfl (by kernel_rfl) (by kernel_rfl) (by kernel_rfl) (fun _ _ _ h => h) (Or.inl ⟨by rfl, ?_⟩) (by assumption) ?_
    rotate_left
    · intro wz hSw; (try dsimp only at hSw); go_simp; (try with_reducible rfl)
    try simp only [Act.put, List.setIfInBounds_toArray, List.set_cons_zero, List.set_cons_succ]
    refine wpAnyH_ready (rs := [24]) (by kernel_rfl) (by simp) ?_
    refine (AllReadyH.cons (o := { dst := some 114, op := Go.Op.call { callee := Go.Callee.value (Go.Operand.func 17), args := #[Go.Operand.tmp 113], argTypes := #[36] }, type := 3, pos := "law.go:118", after := #[{ on := 23, ground := Go.Ground.data }, { on := 22, ground := Go.Ground.chain }, { on := 22, ground := Go.Ground.guard }], guard := some (22, true) }) rfl (fun K hK => ?_) AllReadyH.nil)
    go_simp
    refine (num_any ne' u6w (HG12.out.below HQ6.out HG12.out.pos)).mono ?_
    rintro e u7w ⟨rfl, hb⟩
    have HQ7 : Hid (Below v12.heap.size v12 u7w) := Below.transS HQ6.out hb
    clear hb
    refine hK.out _ _ (HS.out u7w HQ7.out) (fun _ => ?_)
    clear hK K
    try simp only [Act.put, List.setIfInBounds_toArray, List.set_cons_zero, List.set_cons_succ]
    refine wpAnyH_take (i := 26) (oi := { dst := some 116, op := Go.Op.binOp Go.BinOp.eql 3 (Go.Operand.tmp 114) (Go.Operand.tmp 115) 3, type := 4, pos := "law.go:118", after := #[{ on := 24, ground := Go.Ground.data }, { on := 25, ground := Go.Ground.data }, { on := 22, ground := Go.Ground.guard }], guard := some (22, true) }) (v := ?_) rfl (by kernel_rfl) (by kernel_rfl) (by kernel_rfl) (fun _ _ _ h => h) (Or.inl ⟨by rfl, ?_⟩) (by assumption) ?_
    rotate_left
    · intro wz hSw; (try dsimp only at hSw); go_simp; (try with_reducible rfl)
    try simp only [Act.put, List.setIfInBounds_toArray, List.set_cons_zero, List.set_cons_succ]
    refine wpAnyH_take (i := 27) (oi := { dst := some 117, op := Go.Op.pick (Go.Operand.tmp 112) (Go.Operand.tmp 116) (Go.Operand.const (Go.Value.bool false)), type := 4, pos := "law.go:118", after := #[{ on := 22, ground := Go.Ground.data }, { on := 26, ground := Go.Ground.data }], guard := none }) (v := ?_) rfl (by kernel_rfl) (by kernel_rfl) (by kernel_rfl) (fun _ _ _ h => h) (Or.inl ⟨by rfl, ?_⟩) (by assumption) ?_
    rotate_left
    · intro wz hSw; (try dsimp only at hSw); go_simp; (try with_reducible rfl)
    try simp only [Act.put, List.setIfInBounds_toArray, List.set_cons_zero, List.set_cons_succ]
    refine wpAnyH_take (i := 28) (oi := { dst := some 118, op := Go.Op.move (Go.Operand.tmp 117), type := 4, pos := "law.go:118", after := #[{ on := 27, ground := Go.Ground.data }, { on := 24, ground := Go.Ground.chain }], guard := none }) (v := ?_) rfl (by kernel_rfl) (by kernel_rfl) (by kernel_rfl) (fun _ _ _ h => h) (Or.inl ⟨by rfl, ?_⟩) (by assumption) ?_
    rotate_left
    · intro wz hSw; (try dsimp only at hSw); go_simp; (try with_reducible rfl)
    try simp only [Act.put, List.setIfInBounds_toArray, List.set_cons_zero, List.set_cons_succ]
    refine wpAnyH_take (i := 29) (oi := { dst := some 119, op := Go.Op.move (Go.Operand.tmp 16), type := 3, pos := "law.go:118", after := #[{ on := 28, ground := Go.Ground.guard }], guard := some (28, true) }) (v := ?_) rfl (by kernel_rfl) (by kernel_rfl) (by kernel_rfl) (fun _ _ _ h => h) (Or.inl ⟨by rfl, ?_⟩) (by assumption) ?_
    rotate_left
    · intro wz hSw; (try dsimp only at hSw); go_simp; (try with_reducible rfl)
    try simp only [Act.put, List.setIfInBounds_toArray, List.set_cons_zero, List.set_cons_succ]
    refine wpAnyH_take (i := 30) (oi := { dst := some 120, op := Go.Op.move (Go.Operand.tmp 18), type := 3, pos := "law.go:118", after := #[{ on := 28, ground := Go.Ground.guard }], guard := some (28, true) }) (v := ?_) rfl (by kernel_rfl) (by kernel_rfl) (by kernel_rfl) (fun _ _ _ h => h) (Or.inl ⟨by rfl, ?_⟩) (by assumption) ?_
    rotate_left
    · intro wz hSw; (try dsimp only at hSw); go_simp; (try with_reducible rfl)
    try simp only [Act.put, List.setIfInBounds_toArray, List.set_cons_zero, List.set_cons_succ]
    refine wpAnyH_take (i := 31) (oi := { dst := some 121, op := Go.Op.binOp Go.BinOp.eql 3 (Go.Operand.tmp 119) (Go.Operand.tmp 120) 3, type := 4, pos := "law.go:118", after := #[{ on := 29, ground := Go.Ground.data }, { on := 30, ground := Go.Ground.data }, { on := 28, ground := Go.Ground.guard }], guard := some (28, true) }) (v := ?_) rfl (by kernel_rfl) (by kernel_rfl) (by kernel_rfl) (fun _ _ _ h => h) (Or.inl ⟨by rfl, ?_⟩) (by assumption) ?_
    rotate_left
    · intro wz hSw; (try dsimp only at hSw); go_simp; (try with_reducible rfl)
    try simp only [Act.put, List.setIfInBounds_toArray, List.set_cons_zero, List.set_cons_succ]
    refine wpAnyH_take (i := 32) (oi := { dst := some 122, op := Go.Op.pick (Go.Operand.tmp 118) (Go.Operand.tmp 121) (Go.Operand.const (Go.Value.bool false)), type := 4, pos := "law.go:118", after := #[{ on := 28, ground := Go.Ground.data }, { on := 31, ground := Go.Ground.data }], guard := none }) (v := ?_) rfl (by kernel_rfl) (by kernel_rfl) (by kernel_rfl) (fun _ _ _ h => h) (Or.inl ⟨by rfl, ?_⟩) (by assumption) ?_
    rotate_left
    · intro wz hSw; (try dsimp only at hSw); go_simp; (try with_reducible rfl)
    try simp only [Act.put, List.setIfInBounds_toArray, List.set_cons_zero, List.set_cons_succ]
    refine wpAnyH_take (i := 33) (oi := { dst := some 123, op := Go.Op.move (Go.Operand.tmp 122), type := 4, pos := "law.go:118", after := #[{ on := 32, ground := Go.Ground.data }, { on := 28, ground := Go.Ground.chain }], guard := none }) (v := ?_) rfl (by kernel_rfl) (by kernel_rfl) (by kernel_rfl) (fun _ _ _ h => h) (Or.inl ⟨by rfl, ?_⟩) (by assumption) ?_
    rotate_left
    · intro wz hSw; (try dsimp only at hSw); go_simp; (try with_reducible rfl)
    try simp only [Act.put, List.setIfInBounds_toArray, List.set_cons_zero, List.set_cons_succ]
    refine wpAnyH_take (i := 34) (oi := { dst := some 124, op := Go.Op.move (Go.Operand.tmp 17), type := 36, pos := "law.go:118", after := #[{ on := 33, ground := Go.Ground.guard }], guard := some (33, true) }) (v := ?_) rfl (by kernel_rfl) (by kernel_rfl) (by kernel_rfl) (fun _ _ _ h => h) (Or.inl ⟨by rfl, ?_⟩) (by assumption) ?_
    rotate_left
    · intro wz hSw; (try dsimp only at hSw); go_simp; (try with_reducible rfl)
    try simp only [Act.put, List.setIfInBounds_toArray, List.set_cons_zero, List.set_cons_succ]
    refine wpAnyH_take (i := 36) (oi := { dst := some 126, op := Go.Op.move (Go.Operand.tmp 19), type := 3, pos := "law.go:118", after := #[{ on := 33, ground := Go.Ground.guard }], guard := some (33, true) }) (v := ?_) rfl (by kernel_rfl) (by kernel_rfl) (by kernel_rfl) (fun _ _ _ h => h) (Or.inl ⟨by rfl, ?_⟩) (by assumption) ?_
    rotate_left
    · intro wz hSw; (try dsimp only at hSw); go_simp; (try with_reducible rfl)
    try simp only [Act.put, List.setIfInBounds_toArray, List.set_cons_zero, List.set_cons_succ]
    refine wpAnyH_ready (rs := [35]) (by kernel_rfl) (by simp) ?_
    refine (AllReadyH.cons (o := { dst := some 125, op := Go.Op.call { callee := Go.Callee.value (Go.Operand.func 17), args := #[Go.Operand.tmp 124], argTypes := #[36] }, type := 3, pos := "law.go:118", after := #[{ on := 34, ground := Go.Ground.data }, { on := 33, ground := Go.Ground.chain }, { on := 33, ground := Go.Ground.guard }], guard := some (33, true) }) rfl (fun K hK => ?_) AllReadyH.nil)
    go_simp
    refine (num_any (isE c z n) u7w (HG12.out.below HQ7.out HG12.out.pos)).mono ?_
    rintro e u8w ⟨rfl, hb⟩
    have HQ8 : Hid (Below v12.heap.size v12 u8w) := Below.transS HQ7.out hb
    clear hb
    refine hK.out _ _ (HS.out u8w HQ8.out) (fun _ => ?_)
    clear hK K
    try simp only [Act.put, List.setIfInBounds_toArray, List.set_cons_zero, List.set_cons_succ]
    refine wpAnyH_take (i := 37) (oi := { dst := some 127, op := Go.Op.binOp Go.BinOp.eql 3 (Go.Operand.tmp 125) (Go.Operand.tmp 126) 3, type := 4, pos := "law.go:118", after := #[{ on := 35, ground := Go.Ground.data }, { on := 36, ground := Go.Ground.data }, { on := 33, ground := Go.Ground.guard }], guard := some (33, true) }) (v := ?_) rfl (by kernel_rfl) (by kernel_rfl) (by kernel_rfl) (fun _ _ _ h => h) (Or.inl ⟨by rfl, ?_⟩) (by assumption) ?_
    rotate_left
    · intro wz hSw; (try dsimp only at hSw); go_simp; (try with_reducible rfl)
    try simp only [Act.put, List.setIfInBounds_toArray, List.set_cons_zero, List.set_cons_succ]
    refine wpAnyH_take (i := 38) (oi := { dst := some 128, op := Go.Op.pick (Go.Operand.tmp 123) (Go.Operand.tmp 127) (Go.Operand.const (Go.Value.bool false)), type := 4, pos := "law.go:118", after := #[{ on := 33, ground := Go.Ground.data }, { on := 37, ground := Go.Ground.data }], guard := none }) (v := ?_) rfl (by kernel_rfl) (by kernel_rfl) (by kernel_rfl) (fun _ _ _ h => h) (Or.inl ⟨by rfl, ?_⟩) (by assumption) ?_
    rotate_left
    · intro wz hSw; (try dsimp only at hSw); go_simp; (try with_reducible rfl)
    try simp only [Act.put, List.setIfInBounds_toArray, List.set_cons_zero, List.set_cons_succ]
    refine wpAnyH_take (i := 39) (oi := { dst := some 129, op := Go.Op.move (Go.Operand.tmp 128), type := 4, pos := "law.go:118", after := #[{ on := 38, ground := Go.Ground.data }, { on := 35, ground := Go.Ground.chain }], guard := none }) (v := ?_) rfl (by kernel_rfl) (by kernel_rfl) (by kernel_rfl) (fun _ _ _ h => h) (Or.inl ⟨by rfl, ?_⟩) (by assumption) ?_
    rotate_left
    · intro wz hSw; (try dsimp only at hSw); go_simp; (try with_reducible rfl)
    try simp only [Act.put, List.setIfInBounds_toArray, List.set_cons_zero, List.set_cons_succ]
    refine wpAnyH_take (i := 40) (oi := { dst := some 130, op := Go.Op.move (Go.Operand.tmp 20), type := 3, pos := "law.go:118", after := #[{ on := 39, ground := Go.Ground.guard }], guard := some (39, true) }) (v := ?_) rfl (by kernel_rfl) (by kernel_rfl) (by kernel_rfl) (fun _ _ _ h => h) (Or.inl ⟨by rfl, ?_⟩) (by assumption) ?_
    rotate_left
    · intro wz hSw; (try dsimp only at hSw); go_simp; (try with_reducible rfl)
    try simp only [Act.put, List.setIfInBounds_toArray, List.set_cons_zero, List.set_cons_succ]
    refine wpAnyH_take (i := 41) (oi := { dst := some 131, op := Go.Op.move (Go.Operand.tmp 22), type := 3, pos := "law.go:118", after := #[{ on := 39, ground := Go.Ground.guard }], guard := some (39, true) }) (v := ?_) rfl (by kernel_rfl) (by kernel_rfl) (by kernel_rfl) (fun _ _ _ h => h) (Or.inl ⟨by rfl, ?_⟩) (by assumption) ?_
    rotate_left
    · intro wz hSw; (try dsimp only at hSw); go_simp; (try with_reducible rfl)
    try simp only [Act.put, List.setIfInBounds_toArray, List.set_cons_zero, List.set_cons_succ]
    refine wpAnyH_take (i := 42) (oi := { dst := some 132, op := Go.Op.binOp Go.BinOp.eql 3 (Go.Operand.tmp 130) (Go.Operand.tmp 131) 3, type := 4, pos := "law.go:118", after := #[{ on := 40, ground := Go.Ground.data }, { on := 41, ground := Go.Ground.data }, { on := 39, ground := Go.Ground.guard }], guard := some (39, true) }) (v := ?_) rfl (by kernel_rfl) (by kernel_rfl) (by kernel_rfl) (fun _ _ _ h => h) (Or.inl ⟨by rfl, ?_⟩) (by assumption) ?_
    rotate_left
    · intro wz hSw; (try dsimp only at hSw); go_simp; (try with_reducible rfl)
    try simp only [Act.put, List.setIfInBounds_toArray, List.set_cons_zero, List.set_cons_succ]
    refine wpAnyH_take (i := 43) (oi := { dst := some 133, op := Go.Op.pick (Go.Operand.tmp 129) (Go.Operand.tmp 132) (Go.Operand.const (Go.Value.bool false)), type := 4, pos := "law.go:118", after := #[{ on := 39, ground := Go.Ground.data }, { on := 42, ground := Go.Ground.data }], guard := none }) (v := ?_) rfl (by kernel_rfl) (by kernel_rfl) (by kernel_rfl) (fun _ _ _ h => h) (Or.inl ⟨by rfl, ?_⟩) (by assumption) ?_
    rotate_left
    · intro wz hSw; (try dsimp only at hSw); go_simp; (try with_reducible rfl)
    try simp only [Act.put, List.setIfInBounds_toArray, List.set_cons_zero, List.set_cons_succ]
    refine wpAnyH_take (i := 44) (oi := { dst := some 134, op := Go.Op.move (Go.Operand.tmp 133), type := 4, pos := "law.go:118", after := #[{ on := 43, ground := Go.Ground.data }, { on := 39, ground := Go.Ground.chain }], guard := none }) (v := ?_) rfl (by kernel_rfl) (by kernel_rfl) (by kernel_rfl) (fun _ _ _ h => h) (Or.inl ⟨by rfl, ?_⟩) (by assumption) ?_
    rotate_left
    · intro wz hSw; (try dsimp only at hSw); go_simp; (try with_reducible rfl)
    try simp only [Act.put, List.setIfInBounds_toArray, List.set_cons_zero, List.set_cons_succ]
    refine wpAnyH_take (i := 45) (oi := { dst := some 135, op := Go.Op.move (Go.Operand.tmp 21), type := 36, pos := "law.go:118", after := #[{ on := 44, ground := Go.Ground.guard }], guard := some (44, true) }) (v := ?_) rfl (by kernel_rfl) (by kernel_rfl) (by kernel_rfl) (fun _ _ _ h => h) (Or.inl ⟨by rfl, ?_⟩) (by assumption) ?_
    rotate_left
    · intro wz hSw; (try dsimp only at hSw); go_simp; (try with_reducible rfl)
    try simp only [Act.put, List.setIfInBounds_toArray, List.set_cons_zero, List.set_cons_succ]
    refine wpAnyH_take (i := 47) (oi := { dst := some 137, op := Go.Op.load 28 (Go.Operand.tmp 3), type := 28, pos := "law.go:118", after := #[{ on := 44, ground := Go.Ground.guard }], guard := some (44, true) }) rfl (by kernel_rfl) (by kernel_rfl) (by kernel_rfl) (fun _ _ _ h => h) (yieldsIf_load_mid (by rfl) _ _ rfl w.heap.size 0 rfl (tcl c ka kc) _ (fun _ h => h.1) Tryd.underlying28 rfl (szRl _ _ _)) (by assumption) ?_
    try simp only [Act.put, List.setIfInBounds_toArray, List.set_cons_zero, List.set_cons_succ]
    refine wpAnyH_ready (rs := [46]) (by kernel_rfl) (by simp) ?_
    refine (AllReadyH.cons (o := { dst := some 136, op := Go.Op.call { callee := Go.Callee.value (Go.Operand.func 17), args := #[Go.Operand.tmp 135], argTypes := #[36] }, type := 3, pos := "law.go:118", after := #[{ on := 45, ground := Go.Ground.data }, { on := 44, ground := Go.Ground.chain }, { on := 44, ground := Go.Ground.guard }], guard := some (44, true) }) rfl (fun K hK => ?_) AllReadyH.nil)
    go_simp
    refine (num_any (0) u8w (HG12.out.below HQ8.out HG12.out.pos)).mono ?_
    rintro e u9w ⟨rfl, hb⟩
    have HQ9 : Hid (Below v12.heap.size v12 u9w) := Below.transS HQ8.out hb
    clear hb
    refine hK.out _ _ (HS.out u9w HQ9.out) (fun _ => ?_)
    clear hK K
    try simp only [Act.put, List.setIfInBounds_toArray, List.set_cons_zero, List.set_cons_succ]
    refine wpAnyH_ready (rs := [48]) (by kernel_rfl) (by simp) ?_
    refine (AllReadyH.cons (o := { dst := some 138, op := Go.Op.call { callee := Go.Callee.value (Go.Operand.func 16), args := #[Go.Operand.tmp 137], argTypes := #[28] }, type := 3, pos := "law.go:118", after := #[{ on := 47, ground := Go.Ground.data }, { on := 46, ground := Go.Ground.chain }, { on := 44, ground := Go.Ground.guard }], guard := some (44, true) }) rfl (fun K hK => ?_) AllReadyH.nil)
    go_simp
    refine (rcheck_any c ka kc u9w (HI.out.below (Below.transS HBW.out (Below.transS HB12.out HQ9.out)))).mono ?_
    rintro e u10w ⟨rfl, hb⟩
    rw [HZ.out]
    have HQ10 : Hid (Below v12.heap.size v12 u10w) := Below.transS HQ9.out hb
    clear hb
    refine hK.out _ _ (HS.out u10w HQ10.out) (fun _ => ?_)
    clear hK K
    try simp only [Act.put, List.setIfInBounds_toArray, List.set_cons_zero, List.set_cons_succ]
    refine wpAnyH_take (i := 49) (oi := { dst := some 139, op := Go.Op.binOp Go.BinOp.eql 3 (Go.Operand.tmp 136) (Go.Operand.tmp 138) 3, type := 4, pos := "law.go:118", after := #[{ on := 46, ground := Go.Ground.data }, { on := 48, ground := Go.Ground.data }, { on := 44, ground := Go.Ground.guard }], guard := some (44, true) }) (v := ?_) rfl (by kernel_rfl) (by kernel_rfl) (by kernel_rfl) (fun _ _ _ h => h) (Or.inl ⟨by rfl, ?_⟩) (by assumption) ?_
    rotate_left
    · intro wz hSw; (try dsimp only at hSw); go_simp; (try with_reducible rfl)
    try simp only [Act.put, List.setIfInBounds_toArray, List.set_cons_zero, List.set_cons_succ]
    refine wpAnyH_take (i := 50) (oi := { dst := some 140, op := Go.Op.pick (Go.Operand.tmp 134) (Go.Operand.tmp 139) (Go.Operand.const (Go.Value.bool false)), type := 4, pos := "law.go:118", after := #[{ on := 44, ground := Go.Ground.data }, { on := 49, ground := Go.Ground.data }], guard := none }) (v := ?_) rfl (by kernel_rfl) (by kernel_rfl) (by kernel_rfl) (fun _ _ _ h => h) (Or.inl ⟨by rfl, ?_⟩) (by assumption) ?_
    rotate_left
    · intro wz hSw; (try dsimp only at hSw); go_simp; (try with_reducible rfl)
    try simp only [Act.put, List.setIfInBounds_toArray, List.set_cons_zero, List.set_cons_succ]
    refine wpAnyH_take (i := 51) (oi := { dst := some 141, op := Go.Op.move (Go.Operand.tmp 140), type := 4, pos := "law.go:118", after := #[{ on := 50, ground := Go.Ground.data }, { on := 48, ground := Go.Ground.chain }], guard := none }) (v := ?_) rfl (by kernel_rfl) (by kernel_rfl) (by kernel_rfl) (fun _ _ _ h => h) (Or.inl ⟨by rfl, ?_⟩) (by assumption) ?_
    rotate_left
    · intro wz hSw; (try dsimp only at hSw); go_simp; (try with_reducible rfl)
    try simp only [Act.put, List.setIfInBounds_toArray, List.set_cons_zero, List.set_cons_succ]
    refine wpAnyH_take (i := 52) (oi := { dst := some 142, op := Go.Op.load 32 (Go.Operand.tmp 7), type := 32, pos := "law.go:118", after := #[{ on := 51, ground := Go.Ground.guard }], guard := some (51, true) }) rfl (by kernel_rfl) (by kernel_rfl) (by kernel_rfl) (fun _ _ _ h => h) (yieldsIf_load_mid (by rfl) _ _ rfl v2.heap.size 0 rfl (tcl c ka' kc') _ (fun _ h => h.2) Tryd.underlying32 rfl (szTl _ _ _)) (by assumption) ?_
    try simp only [Act.put, List.setIfInBounds_toArray, List.set_cons_zero, List.set_cons_succ]
    refine wpAnyH_take (i := 53) (oi := { dst := some 143, op := Go.Op.move (Go.Operand.tmp 1), type := 26, pos := "law.go:118", after := #[{ on := 51, ground := Go.Ground.guard }], guard := some (51, true) }) (v := ?_) rfl (by kernel_rfl) (by kernel_rfl) (by kernel_rfl) (fun _ _ _ h => h) (Or.inl ⟨by rfl, ?_⟩) (by assumption) ?_
    rotate_left
    · intro wz hSw; (try dsimp only at hSw); go_simp; (try with_reducible rfl)
    try simp only [Act.put, List.setIfInBounds_toArray, List.set_cons_zero, List.set_cons_succ]
    refine wpAnyH_take (i := 54) (oi := { dst := some 144, op := Go.Op.move (Go.Operand.tmp 2), type := 26, pos := "law.go:118", after := #[{ on := 51, ground := Go.Ground.guard }], guard := some (51, true) }) (v := ?_) rfl (by kernel_rfl) (by kernel_rfl) (by kernel_rfl) (fun _ _ _ h => h) (Or.inl ⟨by rfl, ?_⟩) (by assumption) ?_
    rotate_left
    · intro wz hSw; (try dsimp only at hSw); go_simp; (try with_reducible rfl)
    try simp only [Act.put, List.setIfInBounds_toArray, List.set_cons_zero, List.set_cons_succ]
    refine wpAnyH_take (i := 56) (oi := { dst := some 146, op := Go.Op.load 28 (Go.Operand.tmp 3), type := 28, pos := "law.go:118", after := #[{ on := 51, ground := Go.Ground.guard }], guard := some (51, true) }) rfl (by kernel_rfl) (by kernel_rfl) (by kernel_rfl) (fun _ _ _ h => h) (yieldsIf_load_mid (by rfl) _ _ rfl w.heap.size 0 rfl (tcl c ka kc) _ (fun _ h => h.1) Tryd.underlying28 rfl (szRl _ _ _)) (by assumption) ?_
    try simp only [Act.put, List.setIfInBounds_toArray, List.set_cons_zero, List.set_cons_succ]
    refine wpAnyH_take (i := 57) (oi := { dst := some 147, op := Go.Op.move (Go.Operand.tmp 1), type := 26, pos := "law.go:118", after := #[{ on := 51, ground := Go.Ground.guard }], guard := some (51, true) }) (v := ?_) rfl (by kernel_rfl) (by kernel_rfl) (by kernel_rfl) (fun _ _ _ h => h) (Or.inl ⟨by rfl, ?_⟩) (by assumption) ?_
    rotate_left
    · intro wz hSw; (try dsimp only at hSw); go_simp; (try with_reducible rfl)
    try simp only [Act.put, List.setIfInBounds_toArray, List.set_cons_zero, List.set_cons_succ]
    refine wpAnyH_take (i := 58) (oi := { dst := some 148, op := Go.Op.move (Go.Operand.tmp 2), type := 26, pos := "law.go:118", after := #[{ on := 51, ground := Go.Ground.guard }], guard := some (51, true) }) (v := ?_) rfl (by kernel_rfl) (by kernel_rfl) (by kernel_rfl) (fun _ _ _ h => h) (Or.inl ⟨by rfl, ?_⟩) (by assumption) ?_
    rotate_left
    · intro wz hSw; (try dsimp only at hSw); go_simp; (try with_reducible rfl)
    try simp only [Act.put, List.setIfInBounds_toArray, List.set_cons_zero, List.set_cons_succ]
    refine wpAnyH_ready (rs := [55]) (by kernel_rfl) (by simp) ?_
    refine (AllReadyH.cons (o := { dst := some 145, op := Go.Op.call { callee := Go.Callee.value (Go.Operand.func 20), args := #[Go.Operand.tmp 142, Go.Operand.tmp 143, Go.Operand.tmp 144], argTypes := #[32, 34, 34] }, type := 4, pos := "law.go:118", after := #[{ on := 52, ground := Go.Ground.data }, { on := 53, ground := Go.Ground.data }, { on := 54, ground := Go.Ground.data }, { on := 51, ground := Go.Ground.chain }, { on := 51, ground := Go.Ground.guard }], guard := some (51, true) }) rfl (fun K hK => ?_) AllReadyH.nil)
    go_simp
    refine (newer_any c ka' kc' ad bd n m cap cap2 z y u10w (HP12.out.1.below HQ10.out) (HP12.out.2.below HQ10.out) (by have := HN.out; omega) (by have := HN.out; omega) (HI2.out.below (Below.transS HB4.out (Below.transS HB12.out HQ10.out)))).mono ?_
    rintro e u11w ⟨rfl, hb⟩
    rw [hnw]
    have HQ11 : Hid (Below v12.heap.size v12 u11w) := Below.transS HQ10.out hb
    clear hb
    refine hK.out _ _ (HS.out u11w HQ11.out) (fun _ => ?_)
    clear hK K
    try simp only [Act.put, List.setIfInBounds_toArray, List.set_cons_zero, List.set_cons_succ]
    refine wpAnyH_ready (rs := [59]) (by kernel_rfl) (by simp) ?_
    refine (AllReadyH.cons (o := { dst := some 149, op := Go.Op.call { callee := Go.Callee.value (Go.Operand.func 21), args := #[Go.Operand.tmp 146, Go.Operand.tmp 147, Go.Operand.tmp 148], argTypes := #[28, 26, 26] }, type := 4, pos := "law.go:118", after := #[{ on := 56, ground := Go.Ground.data }, { on := 57, ground := Go.Ground.data }, { on := 58, ground := Go.Ground.data }, { on := 55, ground := Go.Ground.chain }, { on := 51, ground := Go.Ground.guard }], guard := some (51, true) }) rfl (fun K hK => ?_) AllReadyH.nil)
    go_simp
    refine (rnewer_any c ka kc ad bd n m cap cap2 z y u11w (HP12.out.1.below HQ11.out) (HP12.out.2.below HQ11.out) (by have := HN.out; omega) (by have := HN.out; omega) (HI.out.below (Below.transS HBW.out (Below.transS HB12.out HQ11.out)))).mono ?_
    rintro e u12w ⟨rfl, hb⟩
    rw [hnw]
    have HQ12 : Hid (Below v12.heap.size v12 u12w) := Below.transS HQ11.out hb
    clear hb
    refine hK.out _ _ (HS.out u12w HQ12.out) (fun _ => ?_)
    clear hK K
    try simp only [Act.put, List.setIfInBounds_toArray, List.set_cons_zero, List.set_cons_succ]
    refine wpAnyH_take (i := 60) (oi := { dst := some 150, op := Go.Op.binOp Go.BinOp.eql 4 (Go.Operand.tmp 145) (Go.Operand.tmp 149) 4, type := 4, pos := "law.go:118", after := #[{ on := 55, ground := Go.Ground.data }, { on := 59, ground := Go.Ground.data }, { on := 51, ground := Go.Ground.guard }], guard := some (51, true) }) (v := ?_) rfl (by kernel_rfl) (by kernel_rfl) (by kernel_rfl) (fun _ _ _ h => h) (Or.inl ⟨by rfl, ?_⟩) (by assumption) ?_
    rotate_left
    · intro wz hSw; (try dsimp only at hSw); go_simp; (try with_reducible rfl)
    try simp only [Act.put, List.setIfInBounds_toArray, List.set_cons_zero, List.set_cons_succ]
    refine wpAnyH_take (i := 61) (oi := { dst := some 151, op := Go.Op.pick (Go.Operand.tmp 141) (Go.Operand.tmp 150) (Go.Operand.const (Go.Value.bool false)), type := 4, pos := "law.go:118", after := #[{ on := 51, ground := Go.Ground.data }, { on := 60, ground := Go.Ground.data }], guard := none }) (v := ?_) rfl (by kernel_rfl) (by kernel_rfl) (by kernel_rfl) (fun _ _ _ h => h) (Or.inl ⟨by rfl, ?_⟩) (by assumption) ?_
    rotate_left
    · intro wz hSw; (try dsimp only at hSw); go_simp; (try with_reducible rfl)
    try simp only [Act.put, List.setIfInBounds_toArray, List.set_cons_zero, List.set_cons_succ]
    refine wpAnyH_take (i := 62) (oi := { dst := some 152, op := Go.Op.move (Go.Operand.tmp 151), type := 4, pos := "law.go:118", after := #[{ on := 61, ground := Go.Ground.data }, { on := 59, ground := Go.Ground.chain }], guard := none }) (v := ?_) rfl (by kernel_rfl) (by kernel_rfl) (by kernel_rfl) (fun _ _ _ h => h) (Or.inl ⟨by rfl, ?_⟩) (by assumption) ?_
    rotate_left
    · intro wz hSw; (try dsimp only at hSw); go_simp; (try with_reducible rfl)
    try simp only [Act.put, List.setIfInBounds_toArray, List.set_cons_zero, List.set_cons_succ]
    refine wpAnyH_ready (rs := [63]) (by kernel_rfl) (by simp) ?_
    refine (AllReadyH.cons (o := { dst := some 153, op := Go.Op.call { callee := Go.Callee.value (Go.Operand.func 7), args := #[], argTypes := #[] }, type := 4, pos := "law.go:118", after := #[{ on := 62, ground := Go.Ground.chain }, { on := 62, ground := Go.Ground.guard }], guard := some (62, true) }) rfl (fun K hK => ?_) AllReadyH.nil)
    go_simp
    refine (sure_any u12w).mono ?_
    rintro e u13w ⟨rfl, hb⟩
    have HQ13 : Hid (Below v12.heap.size v12 u13w) := Below.transS HQ12.out hb
    clear hb
    refine hK.out _ _ (HS.out u13w HQ13.out) (fun _ => ?_)
    clear hK K
    try simp only [Act.put, List.setIfInBounds_toArray, List.set_cons_zero, List.set_cons_succ]
    refine wpAnyH_take (i := 64) (oi := { dst := some 154, op := Go.Op.pick (Go.Operand.tmp 152) (Go.Operand.tmp 153) (Go.Operand.const (Go.Value.bool false)), type := 4, pos := "law.go:118", after := #[{ on := 62, ground := Go.Ground.data }, { on := 63, ground := Go.Ground.data }], guard := none }) (v := ?_) rfl (by kernel_rfl) (by kernel_rfl) (by kernel_rfl) (fun _ _ _ h => h) (Or.inl ⟨by rfl, ?_⟩) (by assumption) ?_
    rotate_left
    · intro wz hSw; (try dsimp only at hSw); go_simp; (try with_reducible rfl)
    try simp only [Act.put, List.setIfInBounds_toArray, List.set_cons_zero, List.set_cons_succ]
    refine wpAnyH_take (i := 65) (oi := { dst := some 6, op := Go.Op.assign (Go.Operand.tmp 154), type := 4, pos := "law.go:118", after := ([{ on := 64, ground := Go.Ground.data }, { on := 63, ground := Go.Ground.chain }, { on := 0, ground := Go.Ground.phase }, { on := 1, ground := Go.Ground.phase }, { on := 2, ground := Go.Ground.phase }, { on := 3, ground := Go.Ground.phase }, { on := 4, ground := Go.Ground.phase }, { on := 5, ground := Go.Ground.phase }, { on := 6, ground := Go.Ground.phase }, { on := 7, ground := Go.Ground.phase }, { on := 8, ground := Go.Ground.phase }, { on := 9, ground := Go.Ground.phase }, { on := 10, ground := Go.Ground.phase }, { on := 11, ground := Go.Ground.phase }, { on := 12, ground := Go.Ground.phase }, { on := 13, ground := Go.Ground.phase }, { on := 14, ground := Go.Ground.phase }, { on := 15, ground := Go.Ground.phase }, { on := 16, ground := Go.Ground.phase }, { on := 17, ground := Go.Ground.phase }, { on := 18, ground := Go.Ground.phase }, { on := 19, ground := Go.Ground.phase }, { on := 20, ground := Go.Ground.phase }, { on := 21, ground := Go.Ground.phase }, { on := 22, ground := Go.Ground.phase }, { on := 23, ground := Go.Ground.phase }, { on := 24, ground := Go.Ground.phase }, { on := 25, ground := Go.Ground.phase }, { on := 26, ground := Go.Ground.phase }, { on := 27, ground := Go.Ground.phase }, { on := 28, ground := Go.Ground.phase }, { on := 29, ground := Go.Ground.phase }, { on := 30, ground := Go.Ground.phase }].append [{ on := 31, ground := Go.Ground.phase }, { on := 32, ground := Go.Ground.phase }, { on := 33, ground := Go.Ground.phase }, { on := 34, ground := Go.Ground.phase }, { on := 35, ground := Go.Ground.phase }, { on := 36, ground := Go.Ground.phase }, { on := 37, ground := Go.Ground.phase }, { on := 38, ground := Go.Ground.phase }, { on := 39, ground := Go.Ground.phase }, { on := 40, ground := Go.Ground.phase }, { on := 41, ground := Go.Ground.phase }, { on := 42, ground := Go.Ground.phase }, { on := 43, ground := Go.Ground.phase }, { on := 44, ground := Go.Ground.phase }, { on := 45, ground := Go.Ground.phase }, { on := 46, ground := Go.Ground.phase }, { on := 47, ground := Go.Ground.phase }, { on := 48, ground := Go.Ground.phase }, { on := 49, ground := Go.Ground.phase }, { on := 50, ground := Go.Ground.phase }, { on := 51, ground := Go.Ground.phase }, { on := 52, ground := Go.Ground.phase }, { on := 53, ground := Go.Ground.phase }, { on := 54, ground := Go.Ground.phase }, { on := 55, ground := Go.Ground.phase }, { on := 56, ground := Go.Ground.phase }, { on := 57, ground := Go.Ground.phase }, { on := 58, ground := Go.Ground.phase }, { on := 59, ground := Go.Ground.phase }, { on := 60, ground := Go.Ground.phase }, { on := 61, ground := Go.Ground.phase }, { on := 62, ground := Go.Ground.phase }, { on := 63, ground := Go.Ground.phase }, { on := 64, ground := Go.Ground.phase }]).toArray, guard := none }) (v := ?_) rfl (by kernel_rfl) (by kernel_rfl) (by kernel_rfl) (fun _ _ _ h => h) (Or.inl ⟨by rfl, ?_⟩) (by assumption) ?_
    rotate_left
    · intro wz hSw; (try dsimp only at hSw); go_simp; (try with_reducible rfl)
    try simp only [Act.put, List.setIfInBounds_toArray, List.set_cons_zero, List.set_cons_succ]
    refine wpAnyH_done (by kernel_rfl) (NoPanic.normal ?_) _
    try simp only [Act.put, List.setIfInBounds_toArray, List.set_cons_zero, List.set_cons_succ]
    have HE : Hid (Below w.heap.size w u13w) := Below.transS HX.out.1 (Below.transS HBW.out (Below.transS HB12.out HQ13.out))
    clear hHeld
    go_wp2
    go_ret
    exact ⟨by simp, HE.out⟩
  · have hr : roomF c = 0 := if_neg h0
    rw [hr]
    have h0' : (chkT c == 0) = false := by simpa using h0
    clear hr
    go_upto_region 14 with fail
    clear h0' h0
    simp only [List.append_eq, List.cons_append, List.nil_append]
    have HS : Hid (∀ w' : World, Below v12.heap.size v12 w' → w'.rangeAt w.heap.size 0 (tcl c ka kc) ∧ w'.rangeAt v2.heap.size 0 (tcl c ka' kc')) := fun w' hb => ⟨HX.out.2 w' (Below.transS HBW.out (Below.transS HB12.out hb)), HT.out w' (Below.transS HB12.out hb)⟩
    have HQ0 : Hid (Below v12.heap.size v12 v12.drew) := (Below.refl _ v12).drew
    have S0 := HS.out v12.drew HQ0.out
    refine wp_region_noPanic ?_
    refine wp_region_held_drew (S := fun w' => w'.rangeAt w.heap.size 0 (tcl c ka kc) ∧ w'.rangeAt v2.heap.size 0 (tcl c ka' kc')) (by kernel_rfl) S0 (fun hHeld => ?_)
    clear S0
    refine wpAnyH_take (i := 0) (oi := { dst := some 90, op := Go.Op.load 32 (Go.Operand.tmp 7), type := 32, pos := "law.go:118", after := #[], guard := none }) rfl (by kernel_rfl) (by kernel_rfl) (by kernel_rfl) (fun _ _ _ h => h) (yieldsIf_load_mid (by rfl) _ _ rfl v2.heap.size 0 rfl (tcl c ka' kc') _ (fun _ h => h.2) Tryd.underlying32 rfl (szTl _ _ _)) (by assumption) ?_
    try simp only [Act.put, List.setIfInBounds_toArray, List.set_cons_zero, List.set_cons_succ]
    refine wpAnyH_take (i := 3) (oi := { dst := some 93, op := Go.Op.load 28 (Go.Operand.tmp 3), type := 28, pos := "law.go:118", after := #[], guard := none }) rfl (by kernel_rfl) (by kernel_rfl) (by kernel_rfl) (fun _ _ _ h => h) (yieldsIf_load_mid (by rfl) _ _ rfl w.heap.size 0 rfl (tcl c ka kc) _ (fun _ h => h.1) Tryd.underlying28 rfl (szRl _ _ _)) (by assumption) ?_
    try simp only [Act.put, List.setIfInBounds_toArray, List.set_cons_zero, List.set_cons_succ]
    refine wpAnyH_ready (rs := [1]) (by kernel_rfl) (by simp) ?_
    refine (AllReadyH.cons (o := { dst := some 91, op := Go.Op.call { callee := Go.Callee.value (Go.Operand.func 18), args := #[Go.Operand.tmp 90], argTypes := #[32] }, type := 36, pos := "law.go:118", after := #[{ on := 0, ground := Go.Ground.data }], guard := none }) rfl (fun K hK => ?_) AllReadyH.nil)
    go_simp
    refine (check_any c ka' kc' v12.drew (HI2.out.below (Below.transS HB4.out (Below.transS HB12.out HQ0.out)))).mono ?_
    rintro e u1w ⟨rfl, hb⟩
    have HQ1 : Hid (Below v12.heap.size v12 u1w) := Below.transS HQ0.out hb
    clear hb
    refine hK.out _ _ (HS.out u1w HQ1.out) (fun _ => ?_)
    clear hK K
    try simp only [Act.put, List.setIfInBounds_toArray, List.set_cons_zero, List.set_cons_succ]
    refine wpAnyH_ready (rs := [2]) (by kernel_rfl) (by simp) ?_
    refine (AllReadyH.cons (o := { dst := some 92, op := Go.Op.call { callee := Go.Callee.value (Go.Operand.func 17), args := #[Go.Operand.tmp 91], argTypes := #[36] }, type := 3, pos := "law.go:118", after := #[{ on := 1, ground := Go.Ground.data }, { on := 1, ground := Go.Ground.chain }], guard := none }) rfl (fun K hK => ?_) AllReadyH.nil)
    go_simp
    refine (num_any (chkT c) u1w (HG12.out.below HQ1.out HG12.out.pos)).mono ?_
    rintro e u2w ⟨rfl, hb⟩
    have HQ2 : Hid (Below v12.heap.size v12 u2w) := Below.transS HQ1.out hb
    clear hb
    refine hK.out _ _ (HS.out u2w HQ2.out) (fun _ => ?_)
    clear hK K
    try simp only [Act.put, List.setIfInBounds_toArray, List.set_cons_zero, List.set_cons_succ]
    refine wpAnyH_ready (rs := [4]) (by kernel_rfl) (by simp) ?_
    refine (AllReadyH.cons (o := { dst := some 94, op := Go.Op.call { callee := Go.Callee.value (Go.Operand.func 16), args := #[Go.Operand.tmp 93], argTypes := #[28] }, type := 3, pos := "law.go:118", after := #[{ on := 3, ground := Go.Ground.data }, { on := 2, ground := Go.Ground.chain }], guard := none }) rfl (fun K hK => ?_) AllReadyH.nil)
    go_simp
    refine (rcheck_any c ka kc u2w (HI.out.below (Below.transS HBW.out (Below.transS HB12.out HQ2.out)))).mono ?_
    rintro e u3w ⟨rfl, hb⟩
    have HQ3 : Hid (Below v12.heap.size v12 u3w) := Below.transS HQ2.out hb
    clear hb
    refine hK.out _ _ (HS.out u3w HQ3.out) (fun _ => ?_)
    clear hK K
    try simp only [Act.put, List.setIfInBounds_toArray, List.set_cons_zero, List.set_cons_succ]
    refine wpAnyH_take (i := 5) (oi := { dst := some 95, op := Go.Op.binOp Go.BinOp.eql 3 (Go.Operand.tmp 92) (Go.Operand.tmp 94) 3, type := 4, pos := "law.go:118", after := #[{ on := 2, ground := Go.Ground.data }, { on := 4, ground := Go.Ground.data }], guard := none }) (v := ?_) rfl (by kernel_rfl) (by kernel_rfl) (by kernel_rfl) (fun _ _ _ h => h) (Or.inl ⟨by rfl, ?_⟩) (by assumption) ?_
    rotate_left
    · intro wz hSw; (try dsimp only at hSw); go_simp; (try with_reducible rfl)
    try simp only [Act.put, List.setIfInBounds_toArray, List.set_cons_zero, List.set_cons_succ]
    refine wpAnyH_take (i := 6) (oi := { dst := some 96, op := Go.Op.move (Go.Operand.tmp 95), type := 4, pos := "law.go:118", after := #[{ on := 5, ground := Go.Ground.data }, { on := 4, ground := Go.Ground.chain }], guard := none }) (v := ?_) rfl (by kernel_rfl) (by kernel_rfl) (by kernel_rfl) (fun _ _ _ h => h) (Or.inl ⟨by rfl, ?_⟩) (by assumption) ?_
    rotate_left
    · intro wz hSw; (try dsimp only at hSw); go_simp; (try with_reducible rfl)
    try simp only [Act.put, List.setIfInBounds_toArray, List.set_cons_zero, List.set_cons_succ]
    refine wpAnyH_take (i := 7) (oi := { dst := some 97, op := Go.Op.move (Go.Operand.tmp 8), type := 34, pos := "law.go:118", after := #[{ on := 6, ground := Go.Ground.guard }], guard := some (6, true) }) (v := ?_) rfl (by kernel_rfl) (by kernel_rfl) (by kernel_rfl) (fun _ _ _ h => h) (Or.inl ⟨by rfl, ?_⟩) (by assumption) ?_
    rotate_left
    · intro wz hSw; (try dsimp only at hSw); go_simp; (try with_reducible rfl)
    try simp only [Act.put, List.setIfInBounds_toArray, List.set_cons_zero, List.set_cons_succ]
    refine wpAnyH_take (i := 8) (oi := { dst := some 98, op := Go.Op.move (Go.Operand.tmp 10), type := 26, pos := "law.go:118", after := #[{ on := 6, ground := Go.Ground.guard }], guard := some (6, true) }) (v := ?_) rfl (by kernel_rfl) (by kernel_rfl) (by kernel_rfl) (fun _ _ _ h => h) (Or.inl ⟨by rfl, ?_⟩) (by assumption) ?_
    rotate_left
    · intro wz hSw; (try dsimp only at hSw); go_simp; (try with_reducible rfl)
    try simp only [Act.put, List.setIfInBounds_toArray, List.set_cons_zero, List.set_cons_succ]
    refine wpAnyH_ready (rs := [9]) (by kernel_rfl) (by simp) ?_
    refine (AllReadyH.cons (o := { dst := some 99, op := Go.Op.call { callee := Go.Callee.value (Go.Operand.func 19), args := #[Go.Operand.tmp 97, Go.Operand.tmp 98], argTypes := #[26, 26] }, type := 4, pos := "law.go:118", after := #[{ on := 7, ground := Go.Ground.data }, { on := 8, ground := Go.Ground.data }, { on := 6, ground := Go.Ground.chain }, { on := 6, ground := Go.Ground.guard }], guard := some (6, true) }) rfl (fun K hK => ?_) AllReadyH.nil)
    go_simp
    refine (ints_same a5 a6 bm c5 c6 bz u3w (HA12.out.1.1.below HQ3.out) (HA12.out.1.2.below HQ3.out) (by have := HM.out.1.1; omega)).mono ?_
    rintro e u4w ⟨rfl, hb⟩
    have HQ4 : Hid (Below v12.heap.size v12 u4w) := Below.transS HQ3.out hb
    clear hb
    refine hK.out _ _ (HS.out u4w HQ4.out) (fun _ => ?_)
    clear hK K
    try simp only [Act.put, List.setIfInBounds_toArray, List.set_cons_zero, List.set_cons_succ]
    refine wpAnyH_take (i := 10) (oi := { dst := some 100, op := Go.Op.pick (Go.Operand.tmp 96) (Go.Operand.tmp 99) (Go.Operand.const (Go.Value.bool false)), type := 4, pos := "law.go:118", after := #[{ on := 6, ground := Go.Ground.data }, { on := 9, ground := Go.Ground.data }], guard := none }) (v := ?_) rfl (by kernel_rfl) (by kernel_rfl) (by kernel_rfl) (fun _ _ _ h => h) (Or.inl ⟨by rfl, ?_⟩) (by assumption) ?_
    rotate_left
    · intro wz hSw; (try dsimp only at hSw); go_simp; (try with_reducible rfl)
    try simp only [Act.put, List.setIfInBounds_toArray, List.set_cons_zero, List.set_cons_succ]
    refine wpAnyH_take (i := 11) (oi := { dst := some 101, op := Go.Op.move (Go.Operand.tmp 100), type := 4, pos := "law.go:118", after := #[{ on := 10, ground := Go.Ground.data }, { on := 9, ground := Go.Ground.chain }], guard := none }) (v := ?_) rfl (by kernel_rfl) (by kernel_rfl) (by kernel_rfl) (fun _ _ _ h => h) (Or.inl ⟨by rfl, ?_⟩) (by assumption) ?_
    rotate_left
    · intro wz hSw; (try dsimp only at hSw); go_simp; (try with_reducible rfl)
    try simp only [Act.put, List.setIfInBounds_toArray, List.set_cons_zero, List.set_cons_succ]
    refine wpAnyH_take (i := 12) (oi := { dst := some 102, op := Go.Op.move (Go.Operand.tmp 9), type := 36, pos := "law.go:118", after := #[{ on := 11, ground := Go.Ground.guard }], guard := some (11, true) }) (v := ?_) rfl (by kernel_rfl) (by kernel_rfl) (by kernel_rfl) (fun _ _ _ h => h) (Or.inl ⟨by rfl, ?_⟩) (by assumption) ?_
    rotate_left
    · intro wz hSw; (try dsimp only at hSw); go_simp; (try with_reducible rfl)
    try simp only [Act.put, List.setIfInBounds_toArray, List.set_cons_zero, List.set_cons_succ]
    refine wpAnyH_take (i := 14) (oi := { dst := some 104, op := Go.Op.move (Go.Operand.tmp 11), type := 3, pos := "law.go:118", after := #[{ on := 11, ground := Go.Ground.guard }], guard := some (11, true) }) (v := ?_) rfl (by kernel_rfl) (by kernel_rfl) (by kernel_rfl) (fun _ _ _ h => h) (Or.inl ⟨by rfl, ?_⟩) (by assumption) ?_
    rotate_left
    · intro wz hSw; (try dsimp only at hSw); go_simp; (try with_reducible rfl)
    try simp only [Act.put, List.setIfInBounds_toArray, List.set_cons_zero, List.set_cons_succ]
    refine wpAnyH_ready (rs := [13]) (by kernel_rfl) (by simp) ?_
    refine (AllReadyH.cons (o := { dst := some 103, op := Go.Op.call { callee := Go.Callee.value (Go.Operand.func 17), args := #[Go.Operand.tmp 102], argTypes := #[36] }, type := 3, pos := "law.go:118", after := #[{ on := 12, ground := Go.Ground.data }, { on := 11, ground := Go.Ground.chain }, { on := 11, ground := Go.Ground.guard }], guard := some (11, true) }) rfl (fun K hK => ?_) AllReadyH.nil)
    go_simp
    refine (num_any be u4w (HG12.out.below HQ4.out HG12.out.pos)).mono ?_
    rintro e u5w ⟨rfl, hb⟩
    have HQ5 : Hid (Below v12.heap.size v12 u5w) := Below.transS HQ4.out hb
    clear hb
    refine hK.out _ _ (HS.out u5w HQ5.out) (fun _ => ?_)
    clear hK K
    try simp only [Act.put, List.setIfInBounds_toArray, List.set_cons_zero, List.set_cons_succ]
    refine wpAnyH_take (i := 15) (oi := { dst := some 105, op := Go.Op.binOp Go.BinOp.eql 3 (Go.Operand.tmp 103) (Go.Operand.tmp 104) 3, type := 4, pos := "law.go:118", after := #[{ on := 13, ground := Go.Ground.data }, { on := 14, ground := Go.Ground.data }, { on := 11, ground := Go.Ground.guard }], guard := some (11, true) }) (v := ?_) rfl (by kernel_rfl) (by kernel_rfl) (by kernel_rfl) (fun _ _ _ h => h) (Or.inl ⟨by rfl, ?_⟩) (by assumption) ?_
    rotate_left
    · intro wz hSw; (try dsimp only at hSw); go_simp; (try with_reducible rfl)
    try simp only [Act.put, List.setIfInBounds_toArray, List.set_cons_zero, List.set_cons_succ]
    refine wpAnyH_take (i := 16) (oi := { dst := some 106, op := Go.Op.pick (Go.Operand.tmp 101) (Go.Operand.tmp 105) (Go.Operand.const (Go.Value.bool false)), type := 4, pos := "law.go:118", after := #[{ on := 11, ground := Go.Ground.data }, { on := 15, ground := Go.Ground.data }], guard := none }) (v := ?_) rfl (by kernel_rfl) (by kernel_rfl) (by kernel_rfl) (fun _ _ _ h => h) (Or.inl ⟨by rfl, ?_⟩) (by assumption) ?_
    rotate_left
    · intro wz hSw; (try dsimp only at hSw); go_simp; (try with_reducible rfl)
    try simp only [Act.put, List.setIfInBounds_toArray, List.set_cons_zero, List.set_cons_succ]
    refine wpAnyH_take (i := 17) (oi := { dst := some 107, op := Go.Op.move (Go.Operand.tmp 106), type := 4, pos := "law.go:118", after := #[{ on := 16, ground := Go.Ground.data }, { on := 13, ground := Go.Ground.chain }], guard := none }) (v := ?_) rfl (by kernel_rfl) (by kernel_rfl) (by kernel_rfl) (fun _ _ _ h => h) (Or.inl ⟨by rfl, ?_⟩) (by assumption) ?_
    rotate_left
    · intro wz hSw; (try dsimp only at hSw); go_simp; (try with_reducible rfl)
    try simp only [Act.put, List.setIfInBounds_toArray, List.set_cons_zero, List.set_cons_succ]
    refine wpAnyH_take (i := 18) (oi := { dst := some 108, op := Go.Op.move (Go.Operand.tmp 12), type := 34, pos := "law.go:118", after := #[{ on := 17, ground := Go.Ground.guard }], guard := some (17, true) }) (v := ?_) rfl (by kernel_rfl) (by kernel_rfl) (by kernel_rfl) (fun _ _ _ h => h) (Or.inl ⟨by rfl, ?_⟩) (by assumption) ?_
    rotate_left
    · intro wz hSw; (try dsimp only at hSw); go_simp; (try with_reducible rfl)
    try simp only [Act.put, List.setIfInBounds_toArray, List.set_cons_zero, List.set_cons_succ]
    refine wpAnyH_take (i := 19) (oi := { dst := some 109, op := Go.Op.move (Go.Operand.tmp 14), type := 26, pos := "law.go:118", after := #[{ on := 17, ground := Go.Ground.guard }], guard := some (17, true) }) (v := ?_) rfl (by kernel_rfl) (by kernel_rfl) (by kernel_rfl) (fun _ _ _ h => h) (Or.inl ⟨by rfl, ?_⟩) (by assumption) ?_
    rotate_left
    · intro wz hSw; (try dsimp only at hSw); go_simp; (try with_reducible rfl)
    try simp only [Act.put, List.setIfInBounds_toArray, List.set_cons_zero, List.set_cons_succ]
    refine wpAnyH_ready (rs := [20]) (by kernel_rfl) (by simp) ?_
    refine (AllReadyH.cons (o := { dst := some 110, op := Go.Op.call { callee := Go.Callee.value (Go.Operand.func 19), args := #[Go.Operand.tmp 108, Go.Operand.tmp 109], argTypes := #[26, 26] }, type := 4, pos := "law.go:118", after := #[{ on := 18, ground := Go.Ground.data }, { on := 19, ground := Go.Ground.data }, { on := 17, ground := Go.Ground.chain }, { on := 17, ground := Go.Ground.guard }], guard := some (17, true) }) rfl (fun K hK => ?_) AllReadyH.nil)
    go_simp
    refine (ints_same a7 a8 nm c7 c8 nz' u5w (HA12.out.2.1.below HQ5.out) (HA12.out.2.2.below HQ5.out) (by have := HM.out.2.1; have := HN.out; omega)).mono ?_
    rintro e u6w ⟨rfl, hb⟩
    have HQ6 : Hid (Below v12.heap.size v12 u6w) := Below.transS HQ5.out hb
    clear hb
    refine hK.out _ _ (HS.out u6w HQ6.out) (fun _ => ?_)
    clear hK K
    try simp only [Act.put, List.setIfInBounds_toArray, List.set_cons_zero, List.set_cons_succ]
    refine wpAnyH_take (i := 21) (oi := { dst := some 111, op := Go.Op.pick (Go.Operand.tmp 107) (Go.Operand.tmp 110) (Go.Operand.const (Go.Value.bool false)), type := 4, pos := "law.go:118", after := #[{ on := 17, ground := Go.Ground.data }, { on := 20, ground := Go.Ground.data }], guard := none }) (v := ?_) rfl (by kernel_rfl) (by kernel_rfl) (by kernel_rfl) (fun _ _ _ h => h) (Or.inl ⟨by rfl, ?_⟩) (by assumption) ?_
    rotate_left
    · intro wz hSw; (try dsimp only at hSw); go_simp; (try with_reducible rfl)
    try simp only [Act.put, List.setIfInBounds_toArray, List.set_cons_zero, List.set_cons_succ]
    refine wpAnyH_take (i := 22) (oi := { dst := some 112, op := Go.Op.move (Go.Operand.tmp 111), type := 4, pos := "law.go:118", after := #[{ on := 21, ground := Go.Ground.data }, { on := 20, ground := Go.Ground.chain }], guard := none }) (v := ?_) rfl (by kernel_rfl) (by kernel_rfl) (by kernel_rfl) (fun _ _ _ h => h) (Or.inl ⟨by rfl, ?_⟩) (by assumption) ?_
    rotate_left
    · intro wz hSw; (try dsimp only at hSw); go_simp; (try with_reducible rfl)
    try simp only [Act.put, List.setIfInBounds_toArray, List.set_cons_zero, List.set_cons_succ]
    refine wpAnyH_take (i := 23) (oi := { dst := some 113, op := Go.Op.move (Go.Operand.tmp 13), type := 36, pos := "law.go:118", after := #[{ on := 22, ground := Go.Ground.guard }], guard := some (22, true) }) (v := ?_) rfl (by kernel_rfl) (by kernel_rfl) (by kernel_rfl) (fun _ _ _ h => h) (Or.inl ⟨by rfl, ?_⟩) (by assumption) ?_
    rotate_left
    · intro wz hSw; (try dsimp only at hSw); go_simp; (try with_reducible rfl)
    try simp only [Act.put, List.setIfInBounds_toArray, List.set_cons_zero, List.set_cons_succ]
    refine wpAnyH_take (i := 25) (oi := { dst := some 115, op := Go.Op.move (Go.Operand.tmp 15), type := 3, pos := "law.go:118", after := #[{ on := 22, ground := Go.Ground.guard }], guard := some (22, true) }) (v := ?_) rfl (by kernel_rfl) (by kernel_rfl) (by kernel_rfl) (fun _ _ _ h => h) (Or.inl ⟨by rfl, ?_⟩) (by assumption) ?_
    rotate_left
    · intro wz hSw; (try dsimp only at hSw); go_simp; (try with_reducible rfl)
    try simp only [Act.put, List.setIfInBounds_toArray, List.set_cons_zero, List.set_cons_succ]
    refine wpAnyH_ready (rs := [24]) (by kernel_rfl) (by simp) ?_
    refine (AllReadyH.cons (o := { dst := some 114, op := Go.Op.call { callee := Go.Callee.value (Go.Operand.func 17), args := #[Go.Operand.tmp 113], argTypes := #[36] }, type := 3, pos := "law.go:118", after := #[{ on := 23, ground := Go.Ground.data }, { on := 22, ground := Go.Ground.chain }, { on := 22, ground := Go.Ground.guard }], guard := some (22, true) }) rfl (fun K hK => ?_) AllReadyH.nil)
    go_simp
    refine (num_any ne' u6w (HG12.out.below HQ6.out HG12.out.pos)).mono ?_
    rintro e u7w ⟨rfl, hb⟩
    have HQ7 : Hid (Below v12.heap.size v12 u7w) := Below.transS HQ6.out hb
    clear hb
    refine hK.out _ _ (HS.out u7w HQ7.out) (fun _ => ?_)
    clear hK K
    try simp only [Act.put, List.setIfInBounds_toArray, List.set_cons_zero, List.set_cons_succ]
    refine wpAnyH_take (i := 26) (oi := { dst := some 116, op := Go.Op.binOp Go.BinOp.eql 3 (Go.Operand.tmp 114) (Go.Operand.tmp 115) 3, type := 4, pos := "law.go:118", after := #[{ on := 24, ground := Go.Ground.data }, { on := 25, ground := Go.Ground.data }, { on := 22, ground := Go.Ground.guard }], guard := some (22, true) }) (v := ?_) rfl (by kernel_rfl) (by kernel_rfl) (by kernel_rfl) (fun _ _ _ h => h) (Or.inl ⟨by rfl, ?_⟩) (by assumption) ?_
    rotate_left
    · intro wz hSw; (try dsimp only at hSw); go_simp; (try with_reducible rfl)
    try simp only [Act.put, List.setIfInBounds_toArray, List.set_cons_zero, List.set_cons_succ]
    refine wpAnyH_take (i := 27) (oi := { dst := some 117, op := Go.Op.pick (Go.Operand.tmp 112) (Go.Operand.tmp 116) (Go.Operand.const (Go.Value.bool false)), type := 4, pos := "law.go:118", after := #[{ on := 22, ground := Go.Ground.data }, { on := 26, ground := Go.Ground.data }], guard := none }) (v := ?_) rfl (by kernel_rfl) (by kernel_rfl) (by kernel_rfl) (fun _ _ _ h => h) (Or.inl ⟨by rfl, ?_⟩) (by assumption) ?_
    rotate_left
    · intro wz hSw; (try dsimp only at hSw); go_simp; (try with_reducible rfl)
    try simp only [Act.put, List.setIfInBounds_toArray, List.set_cons_zero, List.set_cons_succ]
    refine wpAnyH_take (i := 28) (oi := { dst := some 118, op := Go.Op.move (Go.Operand.tmp 117), type := 4, pos := "law.go:118", after := #[{ on := 27, ground := Go.Ground.data }, { on := 24, ground := Go.Ground.chain }], guard := none }) (v := ?_) rfl (by kernel_rfl) (by kernel_rfl) (by kernel_rfl) (fun _ _ _ h => h) (Or.inl ⟨by rfl, ?_⟩) (by assumption) ?_
    rotate_left
    · intro wz hSw; (try dsimp only at hSw); go_simp; (try with_reducible rfl)
    try simp only [Act.put, List.setIfInBounds_toArray, List.set_cons_zero, List.set_cons_succ]
    refine wpAnyH_take (i := 29) (oi := { dst := some 119, op := Go.Op.move (Go.Operand.tmp 16), type := 3, pos := "law.go:118", after := #[{ on := 28, ground := Go.Ground.guard }], guard := some (28, true) }) (v := ?_) rfl (by kernel_rfl) (by kernel_rfl) (by kernel_rfl) (fun _ _ _ h => h) (Or.inl ⟨by rfl, ?_⟩) (by assumption) ?_
    rotate_left
    · intro wz hSw; (try dsimp only at hSw); go_simp; (try with_reducible rfl)
    try simp only [Act.put, List.setIfInBounds_toArray, List.set_cons_zero, List.set_cons_succ]
    refine wpAnyH_take (i := 30) (oi := { dst := some 120, op := Go.Op.move (Go.Operand.tmp 18), type := 3, pos := "law.go:118", after := #[{ on := 28, ground := Go.Ground.guard }], guard := some (28, true) }) (v := ?_) rfl (by kernel_rfl) (by kernel_rfl) (by kernel_rfl) (fun _ _ _ h => h) (Or.inl ⟨by rfl, ?_⟩) (by assumption) ?_
    rotate_left
    · intro wz hSw; (try dsimp only at hSw); go_simp; (try with_reducible rfl)
    try simp only [Act.put, List.setIfInBounds_toArray, List.set_cons_zero, List.set_cons_succ]
    refine wpAnyH_take (i := 31) (oi := { dst := some 121, op := Go.Op.binOp Go.BinOp.eql 3 (Go.Operand.tmp 119) (Go.Operand.tmp 120) 3, type := 4, pos := "law.go:118", after := #[{ on := 29, ground := Go.Ground.data }, { on := 30, ground := Go.Ground.data }, { on := 28, ground := Go.Ground.guard }], guard := some (28, true) }) (v := ?_) rfl (by kernel_rfl) (by kernel_rfl) (by kernel_rfl) (fun _ _ _ h => h) (Or.inl ⟨by rfl, ?_⟩) (by assumption) ?_
    rotate_left
    · intro wz hSw; (try dsimp only at hSw); go_simp; (try with_reducible rfl)
    try simp only [Act.put, List.setIfInBounds_toArray, List.set_cons_zero, List.set_cons_succ]
    refine wpAnyH_take (i := 32) (oi := { dst := some 122, op := Go.Op.pick (Go.Operand.tmp 118) (Go.Operand.tmp 121) (Go.Operand.const (Go.Value.bool false)), type := 4, pos := "law.go:118", after := #[{ on := 28, ground := Go.Ground.data }, { on := 31, ground := Go.Ground.data }], guard := none }) (v := ?_) rfl (by kernel_rfl) (by kernel_rfl) (by kernel_rfl) (fun _ _ _ h => h) (Or.inl ⟨by rfl, ?_⟩) (by assumption) ?_
    rotate_left
    · intro wz hSw; (try dsimp only at hSw); go_simp; (try with_reducible rfl)
    try simp only [Act.put, List.setIfInBounds_toArray, List.set_cons_zero, List.set_cons_succ]
    refine wpAnyH_take (i := 33) (oi := { dst := some 123, op := Go.Op.move (Go.Operand.tmp 122), type := 4, pos := "law.go:118", after := #[{ on := 32, ground := Go.Ground.data }, { on := 28, ground := Go.Ground.chain }], guard := none }) (v := ?_) rfl (by kernel_rfl) (by kernel_rfl) (by kernel_rfl) (fun _ _ _ h => h) (Or.inl ⟨by rfl, ?_⟩) (by assumption) ?_
    rotate_left
    · intro wz hSw; (try dsimp only at hSw); go_simp; (try with_reducible rfl)
    try simp only [Act.put, List.setIfInBounds_toArray, List.set_cons_zero, List.set_cons_succ]
    refine wpAnyH_take (i := 34) (oi := { dst := some 124, op := Go.Op.move (Go.Operand.tmp 17), type := 36, pos := "law.go:118", after := #[{ on := 33, ground := Go.Ground.guard }], guard := some (33, true) }) (v := ?_) rfl (by kernel_rfl) (by kernel_rfl) (by kernel_rfl) (fun _ _ _ h => h) (Or.inl ⟨by rfl, ?_⟩) (by assumption) ?_
    rotate_left
    · intro wz hSw; (try dsimp only at hSw); go_simp; (try with_reducible rfl)
    try simp only [Act.put, List.setIfInBounds_toArray, List.set_cons_zero, List.set_cons_succ]
    refine wpAnyH_take (i := 36) (oi := { dst := some 126, op := Go.Op.move (Go.Operand.tmp 19), type := 3, pos := "law.go:118", after := #[{ on := 33, ground := Go.Ground.guard }], guard := some (33, true) }) (v := ?_) rfl (by kernel_rfl) (by kernel_rfl) (by kernel_rfl) (fun _ _ _ h => h) (Or.inl ⟨by rfl, ?_⟩) (by assumption) ?_
    rotate_left
    · intro wz hSw; (try dsimp only at hSw); go_simp; (try with_reducible rfl)
    try simp only [Act.put, List.setIfInBounds_toArray, List.set_cons_zero, List.set_cons_succ]
    refine wpAnyH_ready (rs := [35]) (by kernel_rfl) (by simp) ?_
    refine (AllReadyH.cons (o := { dst := some 125, op := Go.Op.call { callee := Go.Callee.value (Go.Operand.func 17), args := #[Go.Operand.tmp 124], argTypes := #[36] }, type := 3, pos := "law.go:118", after := #[{ on := 34, ground := Go.Ground.data }, { on := 33, ground := Go.Ground.chain }, { on := 33, ground := Go.Ground.guard }], guard := some (33, true) }) rfl (fun K hK => ?_) AllReadyH.nil)
    go_simp
    refine (num_any (isE c z n) u7w (HG12.out.below HQ7.out HG12.out.pos)).mono ?_
    rintro e u8w ⟨rfl, hb⟩
    have HQ8 : Hid (Below v12.heap.size v12 u8w) := Below.transS HQ7.out hb
    clear hb
    refine hK.out _ _ (HS.out u8w HQ8.out) (fun _ => ?_)
    clear hK K
    try simp only [Act.put, List.setIfInBounds_toArray, List.set_cons_zero, List.set_cons_succ]
    refine wpAnyH_take (i := 37) (oi := { dst := some 127, op := Go.Op.binOp Go.BinOp.eql 3 (Go.Operand.tmp 125) (Go.Operand.tmp 126) 3, type := 4, pos := "law.go:118", after := #[{ on := 35, ground := Go.Ground.data }, { on := 36, ground := Go.Ground.data }, { on := 33, ground := Go.Ground.guard }], guard := some (33, true) }) (v := ?_) rfl (by kernel_rfl) (by kernel_rfl) (by kernel_rfl) (fun _ _ _ h => h) (Or.inl ⟨by rfl, ?_⟩) (by assumption) ?_
    rotate_left
    · intro wz hSw; (try dsimp only at hSw); go_simp; (try with_reducible rfl)
    try simp only [Act.put, List.setIfInBounds_toArray, List.set_cons_zero, List.set_cons_succ]
    refine wpAnyH_take (i := 38) (oi := { dst := some 128, op := Go.Op.pick (Go.Operand.tmp 123) (Go.Operand.tmp 127) (Go.Operand.const (Go.Value.bool false)), type := 4, pos := "law.go:118", after := #[{ on := 33, ground := Go.Ground.data }, { on := 37, ground := Go.Ground.data }], guard := none }) (v := ?_) rfl (by kernel_rfl) (by kernel_rfl) (by kernel_rfl) (fun _ _ _ h => h) (Or.inl ⟨by rfl, ?_⟩) (by assumption) ?_
    rotate_left
    · intro wz hSw; (try dsimp only at hSw); go_simp; (try with_reducible rfl)
    try simp only [Act.put, List.setIfInBounds_toArray, List.set_cons_zero, List.set_cons_succ]
    refine wpAnyH_take (i := 39) (oi := { dst := some 129, op := Go.Op.move (Go.Operand.tmp 128), type := 4, pos := "law.go:118", after := #[{ on := 38, ground := Go.Ground.data }, { on := 35, ground := Go.Ground.chain }], guard := none }) (v := ?_) rfl (by kernel_rfl) (by kernel_rfl) (by kernel_rfl) (fun _ _ _ h => h) (Or.inl ⟨by rfl, ?_⟩) (by assumption) ?_
    rotate_left
    · intro wz hSw; (try dsimp only at hSw); go_simp; (try with_reducible rfl)
    try simp only [Act.put, List.setIfInBounds_toArray, List.set_cons_zero, List.set_cons_succ]
    refine wpAnyH_take (i := 40) (oi := { dst := some 130, op := Go.Op.move (Go.Operand.tmp 20), type := 3, pos := "law.go:118", after := #[{ on := 39, ground := Go.Ground.guard }], guard := some (39, true) }) (v := ?_) rfl (by kernel_rfl) (by kernel_rfl) (by kernel_rfl) (fun _ _ _ h => h) (Or.inl ⟨by rfl, ?_⟩) (by assumption) ?_
    rotate_left
    · intro wz hSw; (try dsimp only at hSw); go_simp; (try with_reducible rfl)
    try simp only [Act.put, List.setIfInBounds_toArray, List.set_cons_zero, List.set_cons_succ]
    refine wpAnyH_take (i := 41) (oi := { dst := some 131, op := Go.Op.move (Go.Operand.tmp 22), type := 3, pos := "law.go:118", after := #[{ on := 39, ground := Go.Ground.guard }], guard := some (39, true) }) (v := ?_) rfl (by kernel_rfl) (by kernel_rfl) (by kernel_rfl) (fun _ _ _ h => h) (Or.inl ⟨by rfl, ?_⟩) (by assumption) ?_
    rotate_left
    · intro wz hSw; (try dsimp only at hSw); go_simp; (try with_reducible rfl)
    try simp only [Act.put, List.setIfInBounds_toArray, List.set_cons_zero, List.set_cons_succ]
    refine wpAnyH_take (i := 42) (oi := { dst := some 132, op := Go.Op.binOp Go.BinOp.eql 3 (Go.Operand.tmp 130) (Go.Operand.tmp 131) 3, type := 4, pos := "law.go:118", after := #[{ on := 40, ground := Go.Ground.data }, { on := 41, ground := Go.Ground.data }, { on := 39, ground := Go.Ground.guard }], guard := some (39, true) }) (v := ?_) rfl (by kernel_rfl) (by kernel_rfl) (by kernel_rfl) (fun _ _ _ h => h) (Or.inl ⟨by rfl, ?_⟩) (by assumption) ?_
    rotate_left
    · intro wz hSw; (try dsimp only at hSw); go_simp; (try with_reducible rfl)
    try simp only [Act.put, List.setIfInBounds_toArray, List.set_cons_zero, List.set_cons_succ]
    refine wpAnyH_take (i := 43) (oi := { dst := some 133, op := Go.Op.pick (Go.Operand.tmp 129) (Go.Operand.tmp 132) (Go.Operand.const (Go.Value.bool false)), type := 4, pos := "law.go:118", after := #[{ on := 39, ground := Go.Ground.data }, { on := 42, ground := Go.Ground.data }], guard := none }) (v := ?_) rfl (by kernel_rfl) (by kernel_rfl) (by kernel_rfl) (fun _ _ _ h => h) (Or.inl ⟨by rfl, ?_⟩) (by assumption) ?_
    rotate_left
    · intro wz hSw; (try dsimp only at hSw); go_simp; (try with_reducible rfl)
    try simp only [Act.put, List.setIfInBounds_toArray, List.set_cons_zero, List.set_cons_succ]
    refine wpAnyH_take (i := 44) (oi := { dst := some 134, op := Go.Op.move (Go.Operand.tmp 133), type := 4, pos := "law.go:118", after := #[{ on := 43, ground := Go.Ground.data }, { on := 39, ground := Go.Ground.chain }], guard := none }) (v := ?_) rfl (by kernel_rfl) (by kernel_rfl) (by kernel_rfl) (fun _ _ _ h => h) (Or.inl ⟨by rfl, ?_⟩) (by assumption) ?_
    rotate_left
    · intro wz hSw; (try dsimp only at hSw); go_simp; (try with_reducible rfl)
    try simp only [Act.put, List.setIfInBounds_toArray, List.set_cons_zero, List.set_cons_succ]
    refine wpAnyH_take (i := 45) (oi := { dst := some 135, op := Go.Op.move (Go.Operand.tmp 21), type := 36, pos := "law.go:118", after := #[{ on := 44, ground := Go.Ground.guard }], guard := some (44, true) }) (v := ?_) rfl (by kernel_rfl) (by kernel_rfl) (by kernel_rfl) (fun _ _ _ h => h) (Or.inl ⟨by rfl, ?_⟩) (by assumption) ?_
    rotate_left
    · intro wz hSw; (try dsimp only at hSw); go_simp; (try with_reducible rfl)
    try simp only [Act.put, List.setIfInBounds_toArray, List.set_cons_zero, List.set_cons_succ]
    refine wpAnyH_take (i := 47) (oi := { dst := some 137, op := Go.Op.load 28 (Go.Operand.tmp 3), type := 28, pos := "law.go:118", after := #[{ on := 44, ground := Go.Ground.guard }], guard := some (44, true) }) rfl (by kernel_rfl) (by kernel_rfl) (by kernel_rfl) (fun _ _ _ h => h) (yieldsIf_load_mid (by rfl) _ _ rfl w.heap.size 0 rfl (tcl c ka kc) _ (fun _ h => h.1) Tryd.underlying28 rfl (szRl _ _ _)) (by assumption) ?_
    try simp only [Act.put, List.setIfInBounds_toArray, List.set_cons_zero, List.set_cons_succ]
    refine wpAnyH_ready (rs := [46]) (by kernel_rfl) (by simp) ?_
    refine (AllReadyH.cons (o := { dst := some 136, op := Go.Op.call { callee := Go.Callee.value (Go.Operand.func 17), args := #[Go.Operand.tmp 135], argTypes := #[36] }, type := 3, pos := "law.go:118", after := #[{ on := 45, ground := Go.Ground.data }, { on := 44, ground := Go.Ground.chain }, { on := 44, ground := Go.Ground.guard }], guard := some (44, true) }) rfl (fun K hK => ?_) AllReadyH.nil)
    go_simp
    refine (num_any (chkT c) u8w (HG12.out.below HQ8.out HG12.out.pos)).mono ?_
    rintro e u9w ⟨rfl, hb⟩
    have HQ9 : Hid (Below v12.heap.size v12 u9w) := Below.transS HQ8.out hb
    clear hb
    refine hK.out _ _ (HS.out u9w HQ9.out) (fun _ => ?_)
    clear hK K
    try simp only [Act.put, List.setIfInBounds_toArray, List.set_cons_zero, List.set_cons_succ]
    refine wpAnyH_ready (rs := [48]) (by kernel_rfl) (by simp) ?_
    refine (AllReadyH.cons (o := { dst := some 138, op := Go.Op.call { callee := Go.Callee.value (Go.Operand.func 16), args := #[Go.Operand.tmp 137], argTypes := #[28] }, type := 3, pos := "law.go:118", after := #[{ on := 47, ground := Go.Ground.data }, { on := 46, ground := Go.Ground.chain }, { on := 44, ground := Go.Ground.guard }], guard := some (44, true) }) rfl (fun K hK => ?_) AllReadyH.nil)
    go_simp
    refine (rcheck_any c ka kc u9w (HI.out.below (Below.transS HBW.out (Below.transS HB12.out HQ9.out)))).mono ?_
    rintro e u10w ⟨rfl, hb⟩
    have HQ10 : Hid (Below v12.heap.size v12 u10w) := Below.transS HQ9.out hb
    clear hb
    refine hK.out _ _ (HS.out u10w HQ10.out) (fun _ => ?_)
    clear hK K
    try simp only [Act.put, List.setIfInBounds_toArray, List.set_cons_zero, List.set_cons_succ]
    refine wpAnyH_take (i := 49) (oi := { dst := some 139, op := Go.Op.binOp Go.BinOp.eql 3 (Go.Operand.tmp 136) (Go.Operand.tmp 138) 3, type := 4, pos := "law.go:118", after := #[{ on := 46, ground := Go.Ground.data }, { on := 48, ground := Go.Ground.data }, { on := 44, ground := Go.Ground.guard }], guard := some (44, true) }) (v := ?_) rfl (by kernel_rfl) (by kernel_rfl) (by kernel_rfl) (fun _ _ _ h => h) (Or.inl ⟨by rfl, ?_⟩) (by assumption) ?_
    rotate_left
    · intro wz hSw; (try dsimp only at hSw); go_simp; (try with_reducible rfl)
    try simp only [Act.put, List.setIfInBounds_toArray, List.set_cons_zero, List.set_cons_succ]
    refine wpAnyH_take (i := 50) (oi := { dst := some 140, op := Go.Op.pick (Go.Operand.tmp 134) (Go.Operand.tmp 139) (Go.Operand.const (Go.Value.bool false)), type := 4, pos := "law.go:118", after := #[{ on := 44, ground := Go.Ground.data }, { on := 49, ground := Go.Ground.data }], guard := none }) (v := ?_) rfl (by kernel_rfl) (by kernel_rfl) (by kernel_rfl) (fun _ _ _ h => h) (Or.inl ⟨by rfl, ?_⟩) (by assumption) ?_
    rotate_left
    · intro wz hSw; (try dsimp only at hSw); go_simp; (try with_reducible rfl)
    try simp only [Act.put, List.setIfInBounds_toArray, List.set_cons_zero, List.set_cons_succ]
    refine wpAnyH_take (i := 51) (oi := { dst := some 141, op := Go.Op.move (Go.Operand.tmp 140), type := 4, pos := "law.go:118", after := #[{ on := 50, ground := Go.Ground.data }, { on := 48, ground := Go.Ground.chain }], guard := none }) (v := ?_) rfl (by kernel_rfl) (by kernel_rfl) (by kernel_rfl) (fun _ _ _ h => h) (Or.inl ⟨by rfl, ?_⟩) (by assumption) ?_
    rotate_left
    · intro wz hSw; (try dsimp only at hSw); go_simp; (try with_reducible rfl)
    try simp only [Act.put, List.setIfInBounds_toArray, List.set_cons_zero, List.set_cons_succ]
    refine wpAnyH_take (i := 52) (oi := { dst := some 142, op := Go.Op.load 32 (Go.Operand.tmp 7), type := 32, pos := "law.go:118", after := #[{ on := 51, ground := Go.Ground.guard }], guard := some (51, true) }) rfl (by kernel_rfl) (by kernel_rfl) (by kernel_rfl) (fun _ _ _ h => h) (yieldsIf_load_mid (by rfl) _ _ rfl v2.heap.size 0 rfl (tcl c ka' kc') _ (fun _ h => h.2) Tryd.underlying32 rfl (szTl _ _ _)) (by assumption) ?_
    try simp only [Act.put, List.setIfInBounds_toArray, List.set_cons_zero, List.set_cons_succ]
    refine wpAnyH_take (i := 53) (oi := { dst := some 143, op := Go.Op.move (Go.Operand.tmp 1), type := 26, pos := "law.go:118", after := #[{ on := 51, ground := Go.Ground.guard }], guard := some (51, true) }) (v := ?_) rfl (by kernel_rfl) (by kernel_rfl) (by kernel_rfl) (fun _ _ _ h => h) (Or.inl ⟨by rfl, ?_⟩) (by assumption) ?_
    rotate_left
    · intro wz hSw; (try dsimp only at hSw); go_simp; (try with_reducible rfl)
    try simp only [Act.put, List.setIfInBounds_toArray, List.set_cons_zero, List.set_cons_succ]
    refine wpAnyH_take (i := 54) (oi := { dst := some 144, op := Go.Op.move (Go.Operand.tmp 2), type := 26, pos := "law.go:118", after := #[{ on := 51, ground := Go.Ground.guard }], guard := some (51, true) }) (v := ?_) rfl (by kernel_rfl) (by kernel_rfl) (by kernel_rfl) (fun _ _ _ h => h) (Or.inl ⟨by rfl, ?_⟩) (by assumption) ?_
    rotate_left
    · intro wz hSw; (try dsimp only at hSw); go_simp; (try with_reducible rfl)
    try simp only [Act.put, List.setIfInBounds_toArray, List.set_cons_zero, List.set_cons_succ]
    refine wpAnyH_take (i := 56) (oi := { dst := some 146, op := Go.Op.load 28 (Go.Operand.tmp 3), type := 28, pos := "law.go:118", after := #[{ on := 51, ground := Go.Ground.guard }], guard := some (51, true) }) rfl (by kernel_rfl) (by kernel_rfl) (by kernel_rfl) (fun _ _ _ h => h) (yieldsIf_load_mid (by rfl) _ _ rfl w.heap.size 0 rfl (tcl c ka kc) _ (fun _ h => h.1) Tryd.underlying28 rfl (szRl _ _ _)) (by assumption) ?_
    try simp only [Act.put, List.setIfInBounds_toArray, List.set_cons_zero, List.set_cons_succ]
    refine wpAnyH_take (i := 57) (oi := { dst := some 147, op := Go.Op.move (Go.Operand.tmp 1), type := 26, pos := "law.go:118", after := #[{ on := 51, ground := Go.Ground.guard }], guard := some (51, true) }) (v := ?_) rfl (by kernel_rfl) (by kernel_rfl) (by kernel_rfl) (fun _ _ _ h => h) (Or.inl ⟨by rfl, ?_⟩) (by assumption) ?_
    rotate_left
    · intro wz hSw; (try dsimp only at hSw); go_simp; (try with_reducible rfl)
    try simp only [Act.put, List.setIfInBounds_toArray, List.set_cons_zero, List.set_cons_succ]
    refine wpAnyH_take (i := 58) (oi := { dst := some 148, op := Go.Op.move (Go.Operand.tmp 2), type := 26, pos := "law.go:118", after := #[{ on := 51, ground := Go.Ground.guard }], guard := some (51, true) }) (v := ?_) rfl (by kernel_rfl) (by kernel_rfl) (by kernel_rfl) (fun _ _ _ h => h) (Or.inl ⟨by rfl, ?_⟩) (by assumption) ?_
    rotate_left
    · intro wz hSw; (try dsimp only at hSw); go_simp; (try with_reducible rfl)
    try simp only [Act.put, List.setIfInBounds_toArray, List.set_cons_zero, List.set_cons_succ]
    refine wpAnyH_ready (rs := [55]) (by kernel_rfl) (by simp) ?_
    refine (AllReadyH.cons (o := { dst := some 145, op := Go.Op.call { callee := Go.Callee.value (Go.Operand.func 20), args := #[Go.Operand.tmp 142, Go.Operand.tmp 143, Go.Operand.tmp 144], argTypes := #[32, 34, 34] }, type := 4, pos := "law.go:118", after := #[{ on := 52, ground := Go.Ground.data }, { on := 53, ground := Go.Ground.data }, { on := 54, ground := Go.Ground.data }, { on := 51, ground := Go.Ground.chain }, { on := 51, ground := Go.Ground.guard }], guard := some (51, true) }) rfl (fun K hK => ?_) AllReadyH.nil)
    go_simp
    refine (newer_any c ka' kc' ad bd n m cap cap2 z y u10w (HP12.out.1.below HQ10.out) (HP12.out.2.below HQ10.out) (by have := HN.out; omega) (by have := HN.out; omega) (HI2.out.below (Below.transS HB4.out (Below.transS HB12.out HQ10.out)))).mono ?_
    rintro e u11w ⟨rfl, hb⟩
    rw [hnw]
    have HQ11 : Hid (Below v12.heap.size v12 u11w) := Below.transS HQ10.out hb
    clear hb
    refine hK.out _ _ (HS.out u11w HQ11.out) (fun _ => ?_)
    clear hK K
    try simp only [Act.put, List.setIfInBounds_toArray, List.set_cons_zero, List.set_cons_succ]
    refine wpAnyH_ready (rs := [59]) (by kernel_rfl) (by simp) ?_
    refine (AllReadyH.cons (o := { dst := some 149, op := Go.Op.call { callee := Go.Callee.value (Go.Operand.func 21), args := #[Go.Operand.tmp 146, Go.Operand.tmp 147, Go.Operand.tmp 148], argTypes := #[28, 26, 26] }, type := 4, pos := "law.go:118", after := #[{ on := 56, ground := Go.Ground.data }, { on := 57, ground := Go.Ground.data }, { on := 58, ground := Go.Ground.data }, { on := 55, ground := Go.Ground.chain }, { on := 51, ground := Go.Ground.guard }], guard := some (51, true) }) rfl (fun K hK => ?_) AllReadyH.nil)
    go_simp
    refine (rnewer_any c ka kc ad bd n m cap cap2 z y u11w (HP12.out.1.below HQ11.out) (HP12.out.2.below HQ11.out) (by have := HN.out; omega) (by have := HN.out; omega) (HI.out.below (Below.transS HBW.out (Below.transS HB12.out HQ11.out)))).mono ?_
    rintro e u12w ⟨rfl, hb⟩
    rw [hnw]
    have HQ12 : Hid (Below v12.heap.size v12 u12w) := Below.transS HQ11.out hb
    clear hb
    refine hK.out _ _ (HS.out u12w HQ12.out) (fun _ => ?_)
    clear hK K
    try simp only [Act.put, List.setIfInBounds_toArray, List.set_cons_zero, List.set_cons_succ]
    refine wpAnyH_take (i := 60) (oi := { dst := some 150, op := Go.Op.binOp Go.BinOp.eql 4 (Go.Operand.tmp 145) (Go.Operand.tmp 149) 4, type := 4, pos := "law.go:118", after := #[{ on := 55, ground := Go.Ground.data }, { on := 59, ground := Go.Ground.data }, { on := 51, ground := Go.Ground.guard }], guard := some (51, true) }) (v := ?_) rfl (by kernel_rfl) (by kernel_rfl) (by kernel_rfl) (fun _ _ _ h => h) (Or.inl ⟨by rfl, ?_⟩) (by assumption) ?_
    rotate_left
    · intro wz hSw; (try dsimp only at hSw); go_simp; (try with_reducible rfl)
    try simp only [Act.put, List.setIfInBounds_toArray, List.set_cons_zero, List.set_cons_succ]
    refine wpAnyH_take (i := 61) (oi := { dst := some 151, op := Go.Op.pick (Go.Operand.tmp 141) (Go.Operand.tmp 150) (Go.Operand.const (Go.Value.bool false)), type := 4, pos := "law.go:118", after := #[{ on := 51, ground := Go.Ground.data }, { on := 60, ground := Go.Ground.data }], guard := none }) (v := ?_) rfl (by kernel_rfl) (by kernel_rfl) (by kernel_rfl) (fun _ _ _ h => h) (Or.inl ⟨by rfl, ?_⟩) (by assumption) ?_
    rotate_left
    · intro wz hSw; (try dsimp only at hSw); go_simp; (try with_reducible rfl)
    try simp only [Act.put, List.setIfInBounds_toArray, List.set_cons_zero, List.set_cons_succ]
    refine wpAnyH_take (i := 62) (oi := { dst := some 152, op := Go.Op.move (Go.Operand.tmp 151), type := 4, pos := "law.go:118", after := #[{ on := 61, ground := Go.Ground.data }, { on := 59, ground := Go.Ground.chain }], guard := none }) (v := ?_) rfl (by kernel_rfl) (by kernel_rfl) (by kernel_rfl) (fun _ _ _ h => h) (Or.inl ⟨by rfl, ?_⟩) (by assumption) ?_
    rotate_left
    · intro wz hSw; (try dsimp only at hSw); go_simp; (try with_reducible rfl)
    try simp only [Act.put, List.setIfInBounds_toArray, List.set_cons_zero, List.set_cons_succ]
    refine wpAnyH_ready (rs := [63]) (by kernel_rfl) (by simp) ?_
    refine (AllReadyH.cons (o := { dst := some 153, op := Go.Op.call { callee := Go.Callee.value (Go.Operand.func 7), args := #[], argTypes := #[] }, type := 4, pos := "law.go:118", after := #[{ on := 62, ground := Go.Ground.chain }, { on := 62, ground := Go.Ground.guard }], guard := some (62, true) }) rfl (fun K hK => ?_) AllReadyH.nil)
    go_simp
    refine (sure_any u12w).mono ?_
    rintro e u13w ⟨rfl, hb⟩
    have HQ13 : Hid (Below v12.heap.size v12 u13w) := Below.transS HQ12.out hb
    clear hb
    refine hK.out _ _ (HS.out u13w HQ13.out) (fun _ => ?_)
    clear hK K
    try simp only [Act.put, List.setIfInBounds_toArray, List.set_cons_zero, List.set_cons_succ]
    refine wpAnyH_take (i := 64) (oi := { dst := some 154, op := Go.Op.pick (Go.Operand.tmp 152) (Go.Operand.tmp 153) (Go.Operand.const (Go.Value.bool false)), type := 4, pos := "law.go:118", after := #[{ on := 62, ground := Go.Ground.data }, { on := 63, ground := Go.Ground.data }], guard := none }) (v := ?_) rfl (by kernel_rfl) (by kernel_rfl) (by kernel_rfl) (fun _ _ _ h => h) (Or.inl ⟨by rfl, ?_⟩) (by assumption) ?_
    rotate_left
    · intro wz hSw; (try dsimp only at hSw); go_simp; (try with_reducible rfl)
    try simp only [Act.put, List.setIfInBounds_toArray, List.set_cons_zero, List.set_cons_succ]
    refine wpAnyH_take (i := 65) (oi := { dst := some 6, op := Go.Op.assign (Go.Operand.tmp 154), type := 4, pos := "law.go:118", after := ([{ on := 64, ground := Go.Ground.data }, { on := 63, ground := Go.Ground.chain }, { on := 0, ground := Go.Ground.phase }, { on := 1, ground := Go.Ground.phase }, { on := 2, ground := Go.Ground.phase }, { on := 3, ground := Go.Ground.phase }, { on := 4, ground := Go.Ground.phase }, { on := 5, ground := Go.Ground.phase }, { on := 6, ground := Go.Ground.phase }, { on := 7, ground := Go.Ground.phase }, { on := 8, ground := Go.Ground.phase }, { on := 9, ground := Go.Ground.phase }, { on := 10, ground := Go.Ground.phase }, { on := 11, ground := Go.Ground.phase }, { on := 12, ground := Go.Ground.phase }, { on := 13, ground := Go.Ground.phase }, { on := 14, ground := Go.Ground.phase }, { on := 15, ground := Go.Ground.phase }, { on := 16, ground := Go.Ground.phase }, { on := 17, ground := Go.Ground.phase }, { on := 18, ground := Go.Ground.phase }, { on := 19, ground := Go.Ground.phase }, { on := 20, ground := Go.Ground.phase }, { on := 21, ground := Go.Ground.phase }, { on := 22, ground := Go.Ground.phase }, { on := 23, ground := Go.Ground.phase }, { on := 24, ground := Go.Ground.phase }, { on := 25, ground := Go.Ground.phase }, { on := 26, ground := Go.Ground.phase }, { on := 27, ground := Go.Ground.phase }, { on := 28, ground := Go.Ground.phase }, { on := 29, ground := Go.Ground.phase }, { on := 30, ground := Go.Ground.phase }].append [{ on := 31, ground := Go.Ground.phase }, { on := 32, ground := Go.Ground.phase }, { on := 33, ground := Go.Ground.phase }, { on := 34, ground := Go.Ground.phase }, { on := 35, ground := Go.Ground.phase }, { on := 36, ground := Go.Ground.phase }, { on := 37, ground := Go.Ground.phase }, { on := 38, ground := Go.Ground.phase }, { on := 39, ground := Go.Ground.phase }, { on := 40, ground := Go.Ground.phase }, { on := 41, ground := Go.Ground.phase }, { on := 42, ground := Go.Ground.phase }, { on := 43, ground := Go.Ground.phase }, { on := 44, ground := Go.Ground.phase }, { on := 45, ground := Go.Ground.phase }, { on := 46, ground := Go.Ground.phase }, { on := 47, ground := Go.Ground.phase }, { on := 48, ground := Go.Ground.phase }, { on := 49, ground := Go.Ground.phase }, { on := 50, ground := Go.Ground.phase }, { on := 51, ground := Go.Ground.phase }, { on := 52, ground := Go.Ground.phase }, { on := 53, ground := Go.Ground.phase }, { on := 54, ground := Go.Ground.phase }, { on := 55, ground := Go.Ground.phase }, { on := 56, ground := Go.Ground.phase }, { on := 57, ground := Go.Ground.phase }, { on := 58, ground := Go.Ground.phase }, { on := 59, ground := Go.Ground.phase }, { on := 60, ground := Go.Ground.phase }, { on := 61, ground := Go.Ground.phase }, { on := 62, ground := Go.Ground.phase }, { on := 63, ground := Go.Ground.phase }, { on := 64, ground := Go.Ground.phase }]).toArray, guard := none }) (v := ?_) rfl (by kernel_rfl) (by kernel_rfl) (by kernel_rfl) (fun _ _ _ h => h) (Or.inl ⟨by rfl, ?_⟩) (by assumption) ?_
    rotate_left
    · intro wz hSw; (try dsimp only at hSw); go_simp; (try with_reducible rfl)
    try simp only [Act.put, List.setIfInBounds_toArray, List.set_cons_zero, List.set_cons_succ]
    refine wpAnyH_done (by kernel_rfl) (NoPanic.normal ?_) _
    try simp only [Act.put, List.setIfInBounds_toArray, List.set_cons_zero, List.set_cons_succ]
    have HE : Hid (Below w.heap.size w u13w) := Below.transS HX.out.1 (Below.transS HBW.out (Below.transS HB12.out HQ13.out))
    clear hHeld
    go_wp2
    go_ret
    exact ⟨by simp, HE.out⟩
theorem paths_card (c : Tc) (ka : Option Addr) (kc : Nat) (ad : Option Addr) (n cap : Nat) (z : Nat → Int) (bd : Option Addr) (m cap2 : Nat) (y : Nat → Int) (w : World) (hg : Glob w) (h1 : IsAt w ka c.kn c.kz) (h2 : c.kn ≤ 140737488355328) (h3 : Ib c.st) (h4 : IsAt w ad n z) (h5 : n ≤ 140737488355328) (h6 : IsAt w bd m y) (_h7 : m ≤ 140737488355328) :
    Calls Tryd.prog 3 #[.agg (tcv c ka kc), .slice ad n cap, .slice bd m cap2] w fun e w' => e = .returned (.bool true) ∧ Below w.heap.size w w' := paths_any c ka kc ad n cap z bd m cap2 y w ⟨hg, h1, h2, h3, h4, h5⟩ h6
end Go.Proofs.YtlnoabedcnlpoaaDoor
