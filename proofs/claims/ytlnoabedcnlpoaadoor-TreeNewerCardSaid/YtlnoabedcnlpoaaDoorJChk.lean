/- tree.Check, and what it calls. -/
import Derived.Test.YtlnoabedcnlpoaaDoorJBase
namespace Go.Proofs.YtlnoabedcnlpoaaDoor
open Go.RowKit

theorem within_any (n l m : Int) (w : World) :
    Calls Tryd.prog 31 #[.int .i64 n, .int .i64 l, .int .i64 m] w fun e w' => e = .returned (.bool (decide (l ≤ n ∧ n ≤ m))) ∧ w' = w := by
  by_cases h : l ≤ n
  · go_enter Tryd.func31, Tryd.ntmps31
    go_wp2
    go_ret
    simp [h]
  · have e : decide (l ≤ n ∧ n ≤ m) = false := by simp; omega
    rw [e]
    go_enter Tryd.func31, Tryd.ntmps31
    go_wp2
    go_ret
    simp
theorem span_any (c : Tc) (ka : Option Addr) (kc : Nat) (w : World) (h : TOk1 c) :
    Calls Tryd.prog 32 #[.agg (tcv c ka kc)] w fun e w' => e = .returned (.int .i64 (c.fi - c.la + 1)) ∧ Below w.heap.size w w' := by
  obtain ⟨-, -, h1, h2, h3⟩ := h
  have w1 : IntKind.i64.wrap (c.fi - c.la) = c.fi - c.la := by rw [IntKind.wrap_i64]; omega
  have w2 : IntKind.i64.wrap (c.fi - c.la + 1) = c.fi - c.la + 1 := by rw [IntKind.wrap_i64]; omega
  go_enter Tryd.func32, Tryd.ntmps32
  go_upto_region 1 with (first | (refine wpList_boxN rfl _ _ rfl (tcv c ka kc) rfl ?_; intro v1 N1) | fail)
  obtain ⟨-, -, -, c36, c37, -, -⟩ := tcBox (tcl_range N1.blk)
  have HB := hidV N1.below
  clear N1
  go_wp2
  go_ret
  exact ⟨rfl, HB.out⟩
theorem stepsLeft_any (c : Tc) (ka : Option Addr) (kc : Nat) (h : Int) (w : World) (h1 : TOk1 c) (h2 : c.la ≤ h) (h3 : h ≤ c.fi) :
    Calls Tryd.prog 27 #[.agg (tcv c ka kc), .int .i64 h] w fun e w' => e = .returned (.int .i64 (stp c h)) ∧ Below w.heap.size w w' := by
  obtain ⟨-, hs, hl, -, hf⟩ := h1
  have w1 : IntKind.i64.wrap (h - c.la) = h - c.la := by rw [IntKind.wrap_i64]; omega
  have hd : (h - c.la).tdiv c.st = stp c h := by rw [Int.tdiv_eq_ediv_of_nonneg (by omega)]; rfl
  have hb : 0 ≤ stp c h ∧ stp c h ≤ h - c.la := ⟨Int.ediv_nonneg (by omega) (by omega), Int.ediv_le_self _ (by omega)⟩
  have w2 : IntKind.i64.wrap (stp c h) = stp c h := by rw [IntKind.wrap_i64]; omega
  have hz : ¬ c.st = 0 := by omega
  have hz' : (c.st == 0) = false := by simpa using hz
  generalize stp c h = q at *
  clear hs hl hf hb h2 h3
  go_enter Tryd.func27, Tryd.ntmps27
  go_upto_region 1 with (first | (refine wpList_boxN rfl _ _ rfl (tcv c ka kc) rfl ?_; intro v1 N1) | fail)
  obtain ⟨-, -, -, -, c37, c38, -⟩ := tcBox (tcl_range N1.blk)
  have HB := hidV N1.below
  clear N1
  go_wp2
  go_ret
  exact ⟨rfl, HB.out⟩
theorem behind_any (c : Tc) (ka : Option Addr) (kc : Nat) (f : Int) (w : World) (h1 : TOk3 c) (h2 : 0 ≤ f) (h3 : f ≤ 8) :
    Calls Tryd.prog 29 #[.agg (tcv c ka kc), .int .i64 f] w fun e w' => e = .returned (.int .i64 (c.am - f * c.fe)) ∧ Below w.heap.size w w' := by
  obtain ⟨⟨a1, a2⟩, a3, a4⟩ := h1
  have hm : 0 ≤ f * c.fe ∧ f * c.fe ≤ 8 * 1125899906842624 := ⟨Int.mul_nonneg h2 a1, Int.mul_le_mul h3 a2 a1 (by omega)⟩
  have w1 : IntKind.i64.wrap (f * c.fe) = f * c.fe := by rw [IntKind.wrap_i64]; omega
  have w2 : IntKind.i64.wrap (c.am - f * c.fe) = c.am - f * c.fe := by rw [IntKind.wrap_i64]; omega
  clear a1 a2 a3 a4 hm h2 h3
  go_enter Tryd.func29, Tryd.ntmps29
  go_upto_region 1 with (first | (refine wpList_boxN rfl _ _ rfl (tcv c ka kc) rfl ?_; intro v1 N1) | fail)
  obtain ⟨c33, -, -, -, -, -, c39⟩ := tcBox (tcl_range N1.blk)
  have HB := hidV N1.below
  clear N1
  go_wp2
  go_ret
  exact ⟨rfl, HB.out⟩
set_option maxHeartbeats 800000 in
theorem areParties_any (ka : Option Addr) (n kc : Nat) (z : Nat → Int) (w : World) (h : IsAt w ka n z) (hn : n ≤ 1000000) :
    Calls Tryd.prog 33 #[.slice ka n kc] w fun e w' => e = .returned (.bool (decide (KOk z n))) ∧ Below w.heap.size w w' := by
  have HI : Hid (IsAt w ka n z) := h
  have hb0 := Below.refl w.heap.size w
  clear h
  go_enter Tryd.func33, Tryd.ntmps33
  go_wp2
  go_loopw [3, 5, 8] (fun lv kv iv wr => ∃ i : Nat, i ≤ n ∧ lv = .int .i64 (lastK z i) ∧ iv = .int .i64 i ∧ KOk z i ∧ Below w.heap.size w wr) (fun _ _ iv _ => n + 1 - (intOf iv).toNat)
  case atStart => exact ⟨0, by omega, rfl, rfl, fun j hj => by omega, hb0⟩
  case round =>
    clear hb0
    obtain ⟨i, hi, rfl, rfl, hk, hb⟩ := hrel
    have HK : Hid (KOk z i) := hk
    clear hk
    by_cases hlt : i < n
    · have hlt' : (i : Int) < n := by omega
      obtain ⟨b, off, rfl, hc⟩ := HI.out (by omega)
      have hci : wr.cell? ⟨b, off + i, none⟩ = some (.int .i64 (z i)) := by
        have := hc i hlt
        rw [hb.cell (p := ⟨b, off + i, none⟩) (World.block_lt_of_cell? w ⟨b, off + i, none⟩ this)]; exact this
      clear hc
      by_cases h1 : lastK z i < z i
      · have h1' : ¬ z i ≤ lastK z i := by omega
        by_cases h2 : z i < 16
        · have h2' : ¬ 16 ≤ z i := by omega
          have HN : Hid (KOk z (i + 1)) := fun j hj => by
            by_cases e : j = i
            · subst e; exact ⟨h1, h2⟩
            · exact HK.out j (by omega)
          have e1 := lastK_succ z i
          generalize lastK z i = q at *
          go_wp2
          go_roundw
          case rel => exact ⟨i + 1, by omega, by rw [e1], by go_num, HN.out, hb⟩
          case measure => simp [intOf]; omega
        · have h2' : 16 ≤ z i := by omega
          have HN : Hid (¬ KOk z n) := fun hk => h2 (hk i hlt).2
          generalize lastK z i = q at *
          go_wp2
          go_ret
          exact ⟨by simp [HN.out], hb⟩
      · have h1' : z i ≤ lastK z i := by omega
        have HN : Hid (¬ KOk z n) := fun hk => h1 (hk i hlt).1
        generalize lastK z i = q at *
        go_wp2
        go_ret
        exact ⟨by simp [HN.out], hb⟩
    · obtain rfl : i = n := by omega
      have hnn : ¬ ((i : Int) < i) := by omega
      have hk := HK.out
      go_wp2
      go_ret
      exact ⟨by simp, hb⟩

theorem errV_zero : errV 0 = .nilIface := rfl
set_option maxRecDepth 100000 in
set_option maxHeartbeats 3200000 in
theorem check_any (c : Tc) (ka : Option Addr) (kc : Nat) (w : World) (h : TcIn w c ka) :
    Calls Tryd.prog 18 #[.agg (tcv c ka kc)] w fun e w' => e = .returned (errV (chkT c)) ∧ Below w.heap.size w w' := by
  have HI := hidV h
  clear h
  go_enter Tryd.func18, Tryd.ntmps18
  go_upto_region 1 with (first | (refine wpList_boxN rfl _ _ rfl (tcv c ka kc) rfl ?_; intro v1 N1) | fail)
  have HX : Hid (Below w.heap.size w v1 ∧ (∀ w' : World, Below v1.heap.size v1 w' → w'.rangeAt w.heap.size 0 (tcl c ka kc) ∧ TcBox w' w.heap.size c ka kc)) :=
    ⟨N1.below, fun w' hb => ⟨tcl_range (heap_below hb N1.blk), tcBox (tcl_range (heap_below hb N1.blk))⟩⟩
  clear N1
  obtain ⟨am, ks, dp, fi, la, st, fe⟩ := (HX.out.2 v1 (Below.refl _ _)).2
  have HB1 := hidV HX.out.1
  by_cases h1 : 1 ≤ c.dp ∧ c.dp ≤ 8
  rotate_left
  · have d1 : decide (1 ≤ c.dp ∧ c.dp ≤ 8) = false := by simpa using h1
    have HE : Hid (chkT c = 1) := if_pos (fun h => h1 h.1.1)
    go_wp2_with fail
    refine (within_any c.dp 1 8 v1).mono ?_
    rintro e q1 ⟨rfl, hW⟩
    rw [hW, d1]
    clear hW d1 h1
    go_wp2
    go_ret
    exact ⟨by rw [HE.out]; rfl, HB1.out⟩
  have d1 : decide (1 ≤ c.dp ∧ c.dp ≤ 8) = true := by simpa using h1
  have H1 := hidV h1
  go_wp2_with fail
  refine (within_any c.dp 1 8 v1).mono ?_
  rintro e q1 ⟨rfl, hW⟩
  rw [hW, d1]
  clear hW d1 h1
  by_cases h2 : c.st < 1
  · have HE : Hid (chkT c = 1) := if_pos (fun h => by have := h.1.2.1; omega)
    go_wp2
    go_ret
    exact ⟨by rw [HE.out]; rfl, HB1.out⟩
  by_cases h3 : c.la < 1
  · have HE : Hid (chkT c = 1) := if_pos (fun h => by have := h.1.2.2.1; omega)
    go_wp2
    go_ret
    exact ⟨by rw [HE.out]; rfl, HB1.out⟩
  by_cases h4 : c.la ≤ c.fi ∧ c.fi ≤ 1099511627776
  rotate_left
  · have d4 : decide (c.la ≤ c.fi ∧ c.fi ≤ 1099511627776) = false := by simpa using h4
    have HE : Hid (chkT c = 1) := if_pos (fun h => h4 h.1.2.2.2)
    go_wp2_with fail
    refine (within_any c.fi c.la 1099511627776 v1).mono ?_
    rintro e q1 ⟨rfl, hW⟩
    rw [hW, d4]
    clear hW d4 h4
    go_wp2
    go_ret
    exact ⟨by rw [HE.out]; rfl, HB1.out⟩
  have d4 : decide (c.la ≤ c.fi ∧ c.fi ≤ 1099511627776) = true := by simpa using h4
  have HO : Hid (TOk1 c) := ⟨H1.out, by omega, by omega, h4⟩
  go_wp2_with fail
  refine (within_any c.fi c.la 1099511627776 v1).mono ?_
  rintro e q1 ⟨rfl, hW⟩
  rw [hW, d4]
  clear hW d4 h4 h3 h2 H1 am ks dp fi la st fe
  go_wp2_with fail
  have HS : Hid (∀ w', Below v1.heap.size v1 w' → w'.rangeAt w.heap.size 0 (tcl c ka kc) ∧ w'.cell? ⟨w.heap.size, 35, none⟩ = some (.int .i64 c.dp) ∧ w'.cell? ⟨w.heap.size, 36, none⟩ = some (.int .i64 c.fi)) := fun w' hb => ⟨(HX.out.2 w' hb).1, (HX.out.2 w' hb).2.dp, (HX.out.2 w' hb).2.fi⟩
  have S0 := HS.out v1.drew (Below.refl _ v1).drew
  have e1 : IntKind.i64.wrap (c.dp * (c.fi - c.la + 1)) = c.dp * (c.fi - c.la + 1) := by
    obtain ⟨⟨a1, a2⟩, -, a4, a5, a6⟩ := HO.out
    have hm : 0 ≤ c.dp * (c.fi - c.la + 1) ∧ c.dp * (c.fi - c.la + 1) ≤ 8 * 1099511627777 := ⟨Int.mul_nonneg (by omega) (by omega), Int.mul_le_mul a2 (by omega) (by omega) (by omega)⟩
    rw [IntKind.wrap_i64]; omega
  have e2 : IntKind.i64.wrap (c.fi + c.dp * (c.fi - c.la + 1)) = c.fi + c.dp * (c.fi - c.la + 1) := by
    obtain ⟨⟨a1, a2⟩, -, a4, a5, a6⟩ := HO.out
    have hm : 0 ≤ c.dp * (c.fi - c.la + 1) ∧ c.dp * (c.fi - c.la + 1) ≤ 8 * 1099511627777 := ⟨Int.mul_nonneg (by omega) (by omega), Int.mul_le_mul a2 (by omega) (by omega) (by omega)⟩
    rw [IntKind.wrap_i64]; omega
  refine wp_region_noPanic ?_
  refine wp_region_held_drew (S := fun w' => w'.rangeAt w.heap.size 0 (tcl c ka kc) ∧ w'.cell? ⟨w.heap.size, 35, none⟩ = some (.int .i64 c.dp) ∧ w'.cell? ⟨w.heap.size, 36, none⟩ = some (.int .i64 c.fi)) (by kernel_rfl) S0 (fun hHeld => ?_)
  refine wpAnyH_take (i := 4) (oi := { dst := some 26, op := Go.Op.load 32 (Go.Operand.tmp 1), type := 32, pos := "tree.go:40", after := #[], guard := none }) rfl (by kernel_rfl) (by kernel_rfl) (by kernel_rfl) (fun _ _ _ h => h) (yieldsIf_load_mid (by rfl) _ _ rfl w.heap.size 0 rfl (tcl c ka kc) _ (fun _ h => h.1) Tryd.underlying32 rfl (szTl c ka kc)) (by assumption) ?_
  try simp only [Act.put, List.setIfInBounds_toArray, List.set_cons_zero, List.set_cons_succ]
  refine wpAnyH_take (i := 0) (oi := { dst := some 22, op := Go.Op.fieldAddr 32 (Go.Operand.tmp 1) 4, type := 0, pos := "tree.go:40", after := #[], guard := none }) (v := ?_) rfl (by kernel_rfl) (by kernel_rfl) (by kernel_rfl) (fun _ _ _ h => h) (Or.inl ⟨by rfl, ?_⟩) (by assumption) ?_
  rotate_left
  · intro wz hSw; (try dsimp only at hSw); go_simp; (try with_reducible rfl)
  try simp only [Act.put, List.setIfInBounds_toArray, List.set_cons_zero, List.set_cons_succ]
  refine wpAnyH_take (i := 1) (oi := { dst := some 23, op := Go.Op.load 3 (Go.Operand.tmp 22), type := 3, pos := "tree.go:40", after := #[{ on := 0, ground := Go.Ground.data }], guard := none }) (v := ?_) rfl (by kernel_rfl) (by kernel_rfl) (by kernel_rfl) (fun _ _ _ h => h) (Or.inl ⟨by rfl, ?_⟩) (by assumption) ?_
  rotate_left
  · intro wz hSw; (try dsimp only at hSw); go_simp; (try with_reducible rfl)
  try simp only [Act.put, List.setIfInBounds_toArray, List.set_cons_zero, List.set_cons_succ]
  refine wpAnyH_take (i := 2) (oi := { dst := some 24, op := Go.Op.fieldAddr 32 (Go.Operand.tmp 1) 3, type := 0, pos := "tree.go:40", after := #[], guard := none }) (v := ?_) rfl (by kernel_rfl) (by kernel_rfl) (by kernel_rfl) (fun _ _ _ h => h) (Or.inl ⟨by rfl, ?_⟩) (by assumption) ?_
  rotate_left
  · intro wz hSw; (try dsimp only at hSw); go_simp; (try with_reducible rfl)
  try simp only [Act.put, List.setIfInBounds_toArray, List.set_cons_zero, List.set_cons_succ]
  refine wpAnyH_take (i := 3) (oi := { dst := some 25, op := Go.Op.load 3 (Go.Operand.tmp 24), type := 3, pos := "tree.go:40", after := #[{ on := 2, ground := Go.Ground.data }], guard := none }) (v := ?_) rfl (by kernel_rfl) (by kernel_rfl) (by kernel_rfl) (fun _ _ _ h => h) (Or.inl ⟨by rfl, ?_⟩) (by assumption) ?_
  rotate_left
  · intro wz hSw; (try dsimp only at hSw); go_simp; (try with_reducible rfl)
  try simp only [Act.put, List.setIfInBounds_toArray, List.set_cons_zero, List.set_cons_succ]
  refine wpAnyH_ready (rs := [5]) (by kernel_rfl) (by simp) ?_
  refine (AllReadyH.cons (o := { dst := some 27, op := Go.Op.call { callee := Go.Callee.value (Go.Operand.func 32), args := #[Go.Operand.tmp 26], argTypes := #[32] }, type := 3, pos := "tree.go:40", after := #[{ on := 4, ground := Go.Ground.data }], guard := none }) rfl (fun K hK => ?_) AllReadyH.nil)
  go_simp
  refine (span_any c ka kc v1.drew HO.out).mono ?_
  rintro e w2 ⟨rfl, hb2⟩
  have HB2 : Hid (Below v1.heap.size v1 w2) := (Below.refl _ v1).drew.trans hb2
  clear hb2
  refine hK.out _ _ (HS.out w2 HB2.out) (fun _ => ?_)
  clear hK K
  refine wpAnyH_take (i := 6) (oi := { dst := some 28, op := Go.Op.binOp Go.BinOp.mul 3 (Go.Operand.tmp 25) (Go.Operand.tmp 27) 3, type := 3, pos := "tree.go:40", after := #[{ on := 3, ground := Go.Ground.data }, { on := 5, ground := Go.Ground.data }], guard := none }) (v := ?_) rfl (by kernel_rfl) (by kernel_rfl) (by kernel_rfl) (fun _ _ _ h => h) (Or.inl ⟨by rfl, ?_⟩) (by assumption) ?_
  rotate_left
  · intro wz hSw; (try dsimp only at hSw); go_simp; (try with_reducible rfl)
  try simp only [Act.put, List.setIfInBounds_toArray, List.set_cons_zero, List.set_cons_succ]
  refine wpAnyH_take (i := 7) (oi := { dst := some 29, op := Go.Op.binOp Go.BinOp.add 3 (Go.Operand.tmp 23) (Go.Operand.tmp 28) 3, type := 3, pos := "tree.go:40", after := #[{ on := 1, ground := Go.Ground.data }, { on := 6, ground := Go.Ground.data }], guard := none }) (v := ?_) rfl (by kernel_rfl) (by kernel_rfl) (by kernel_rfl) (fun _ _ _ h => h) (Or.inl ⟨by rfl, ?_⟩) (by assumption) ?_
  rotate_left
  · intro wz hSw; (try dsimp only at hSw); go_simp; (try with_reducible rfl)
  try simp only [Act.put, List.setIfInBounds_toArray, List.set_cons_zero, List.set_cons_succ]
  refine wpAnyH_take (i := 8) (oi := { dst := some 30, op := Go.Op.binOp Go.BinOp.gtr 3 (Go.Operand.tmp 29) (Go.Operand.const (Go.Value.int Go.IntKind.i64 1099511627776)) 3, type := 4, pos := "tree.go:40", after := #[{ on := 7, ground := Go.Ground.data }], guard := none }) (v := ?_) rfl (by kernel_rfl) (by kernel_rfl) (by kernel_rfl) (fun _ _ _ h => h) (Or.inl ⟨by rfl, ?_⟩) (by assumption) ?_
  rotate_left
  · intro wz hSw; (try dsimp only at hSw); go_simp; (try with_reducible rfl)
  try simp only [Act.put, List.setIfInBounds_toArray, List.set_cons_zero, List.set_cons_succ]
  refine wpAnyH_take (i := 9) (oi := { dst := some 21, op := Go.Op.assign (Go.Operand.tmp 30), type := 4, pos := "tree.go:40", after := #[{ on := 8, ground := Go.Ground.data }, { on := 5, ground := Go.Ground.chain }], guard := none }) (v := ?_) rfl (by kernel_rfl) (by kernel_rfl) (by kernel_rfl) (fun _ _ _ h => h) (Or.inl ⟨by rfl, ?_⟩) (by assumption) ?_
  rotate_left
  · intro wz hSw; (try dsimp only at hSw); go_simp; (try with_reducible rfl)
  try simp only [Act.put, List.setIfInBounds_toArray, List.set_cons_zero, List.set_cons_succ]
  refine wpAnyH_done (by kernel_rfl) (NoPanic.normal ?_) _
  try simp only [Act.put, List.setIfInBounds_toArray, List.set_cons_zero, List.set_cons_succ]
  clear hHeld S0 HS e1 e2
  have HBE : Hid (Below w.heap.size w w2) := HB1.out.trans (HB2.out.mono HB1.out.size)
  by_cases h5 : c.fi + c.dp * (c.fi - c.la + 1) ≤ 1099511627776
  rotate_left
  · have h5' : 1099511627776 < c.fi + c.dp * (c.fi - c.la + 1) := by omega
    have HE : Hid (chkT c = 1) := if_pos (fun h => h5 h.2.1.1)
    generalize c.fi + c.dp * (c.fi - c.la + 1) = q at *
    go_wp2
    go_ret
    exact ⟨by rw [HE.out]; rfl, HBE.out⟩
  have h5' : ¬ 1099511627776 < c.fi + c.dp * (c.fi - c.la + 1) := by omega
  have H5 := hidV h5
  generalize c.fi + c.dp * (c.fi - c.la + 1) = q at h5' ⊢
  clear h5
  have HR2 := hidV (HX.out.2 w2 HB2.out).1
  have fi2 := (HX.out.2 w2 HB2.out).2.fi
  go_wp2_with (first | (refine wpList_load_mid rfl 32 _ rfl w.heap.size 0 rfl (tcl c ka kc) _ HR2.out Tryd.underlying32 rfl (szTl c ka kc) ?_) | fail)
  refine (stepsLeft_any c ka kc c.fi w2 HO.out HO.out.2.2.2.1 (Int.le_refl _)).mono ?_
  rintro e w3 ⟨rfl, hb3⟩
  have HB3 : Hid (Below v1.heap.size v1 w3) := Below.transS HB2.out hb3
  clear hb3 HBE HR2 fi2
  have HBE : Hid (Below w.heap.size w w3) := HB1.out.trans (HB3.out.mono HB1.out.size)
  by_cases h6 : stp c c.fi ≤ 255
  rotate_left
  · have h6' : 255 < stp c c.fi := by omega
    have HE : Hid (chkT c = 1) := if_pos (fun h => h6 h.2.1.2)
    generalize stp c c.fi = q at *
    go_wp2
    go_ret
    exact ⟨by rw [HE.out]; rfl, HBE.out⟩
  have h6' : ¬ 255 < stp c c.fi := by omega
  have H6 : Hid (TOk2 c) := ⟨H5.out, h6⟩
  generalize stp c c.fi = q at h6' ⊢
  clear h6 H5 HB2
  obtain ⟨am, ks, dp, fi, la, st, fe⟩ := (HX.out.2 w3 HB3.out).2
  by_cases h7 : 0 ≤ c.fe ∧ c.fe ≤ 1125899906842624
  rotate_left
  · have d7 : decide (0 ≤ c.fe ∧ c.fe ≤ 1125899906842624) = false := by simpa using h7
    have HE : Hid (chkT c = 1) := if_pos (fun h => h7 h.2.2.1)
    go_wp2_with fail
    refine (within_any c.fe 0 1125899906842624 w3).mono ?_
    rintro e q1 ⟨rfl, hW⟩
    rw [hW, d7]
    clear hW d7 h7
    go_wp2
    go_ret
    exact ⟨by rw [HE.out]; rfl, HBE.out⟩
  have d7 : decide (0 ≤ c.fe ∧ c.fe ≤ 1125899906842624) = true := by simpa using h7
  have H7 := hidV h7
  go_wp2_with fail
  refine (within_any c.fe 0 1125899906842624 w3).mono ?_
  rintro e q1 ⟨rfl, hW⟩
  rw [hW, d7]
  clear hW d7 h7
  by_cases h8 : 10 ≤ c.am ∧ c.am ≤ 1125899906842624
  rotate_left
  · have d8 : decide (10 ≤ c.am ∧ c.am ≤ 1125899906842624) = false := by simpa using h8
    have HE : Hid (chkT c = 1) := if_pos (fun h => h8 h.2.2.2)
    go_wp2_with fail
    refine (within_any c.am 10 1125899906842624 w3).mono ?_
    rintro e q1 ⟨rfl, hW⟩
    rw [hW, d8]
    clear hW d8 h8
    go_wp2
    go_ret
    exact ⟨by rw [HE.out]; rfl, HBE.out⟩
  have d8 : decide (10 ≤ c.am ∧ c.am ≤ 1125899906842624) = true := by simpa using h8
  have H8 : Hid (TOk3 c) := ⟨H7.out, h8⟩
  have HC : Hid (¬ ¬ (TOk1 c ∧ TOk2 c ∧ TOk3 c)) := fun h => h ⟨HO.out, H6.out, H8.out⟩
  go_wp2_with fail
  refine (within_any c.am 10 1125899906842624 w3).mono ?_
  rintro e q1 ⟨rfl, hW⟩
  rw [hW, d8]
  clear hW d8 h8 H7
  by_cases h9 : (c.kn : Int) < 2
  · have HE : Hid (chkT c = 33) := by
      show chkT c = 33
      unfold chkT
      rw [if_neg HC.out, if_pos (fun h => by have := h.1; omega)]
    go_wp2
    go_ret
    exact ⟨by rw [HE.out]; rfl, HBE.out⟩
  have hk2 : 2 ≤ c.kn := by omega
  have H9 := hidV hk2
  clear hk2
  have HI3 := hidV (HI.out.below HBE.out)
  go_wp2_with fail
  refine (areParties_any ka c.kn kc c.kz w3 HI3.out.keys HI3.out.few).mono ?_
  rintro e w4 ⟨rfl, hb4⟩
  have HB4 : Hid (Below v1.heap.size v1 w4) := Below.transS HB3.out hb4
  clear hb4 HBE HB3 HI3 am ks dp fi la st fe h9
  have HBE : Hid (Below w.heap.size w w4) := HB1.out.trans (HB4.out.mono HB1.out.size)
  by_cases h10 : KOk c.kz c.kn
  rotate_left
  · have d10 : decide (KOk c.kz c.kn) = false := by simpa using h10
    have HE : Hid (chkT c = 33) := by
      show chkT c = 33
      unfold chkT
      rw [if_neg HC.out, if_pos (fun h => h10 h.2)]
    rw [d10]
    clear d10 h10
    go_wp2
    go_ret
    exact ⟨by rw [HE.out]; rfl, HBE.out⟩
  have d10 : decide (KOk c.kz c.kn) = true := by simpa using h10
  have HK : Hid (¬ ¬ (2 ≤ c.kn ∧ KOk c.kz c.kn)) := fun h => h ⟨H9.out, h10⟩
  rw [d10]
  clear d10 h10 H9
  have HR4 := hidV (HX.out.2 w4 HB4.out).1
  have dp4 := (HX.out.2 w4 HB4.out).2.dp
  go_wp2_with (first | (refine wpList_load_mid rfl 32 _ rfl w.heap.size 0 rfl (tcl c ka kc) _ HR4.out Tryd.underlying32 rfl (szTl c ka kc) ?_) | fail)
  refine (behind_any c ka kc c.dp w4 H8.out (by have := HO.out.1; omega) HO.out.1.2).mono ?_
  rintro e w5 ⟨rfl, hb5⟩
  have HBF : Hid (Below w.heap.size w w5) := HB1.out.trans ((Below.transS HB4.out hb5).mono HB1.out.size)
  clear hb5 HBE HR4 dp4
  by_cases h11 : c.am - c.dp * c.fe < 10
  · have HE : Hid (chkT c = 27) := by
      show chkT c = 27
      unfold chkT
      rw [if_neg HC.out, if_neg HK.out, if_pos h11]
    generalize c.am - c.dp * c.fe = q at *
    go_wp2
    go_ret
    exact ⟨by rw [HE.out]; rfl, HBF.out⟩
  · have HE : Hid (chkT c = 0) := by
      show chkT c = 0
      unfold chkT
      rw [if_neg HC.out, if_neg HK.out, if_neg h11]
    generalize c.am - c.dp * c.fe = q at *
    go_wp2
    go_ret
    exact ⟨by rw [HE.out]; rfl, HBF.out⟩
end Go.Proofs.YtlnoabedcnlpoaaDoor
