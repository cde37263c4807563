/- BlakeSums, walked. -/
import Derived.Test.YtcileagccdonfaaDoorBRSum
import Derived.Test.YtcileagccdonfaaDoorBTextsW
namespace Go.Proofs.YtcileagccdonfaaDoor
open Go.RowKit

theorem sv_hv {R : List Nat} (h : R.length = 32) : sv R = hv (fun j => (R.getD j 0 : Nat)) := by
  unfold sv sl8 hv bl
  congr 1
  apply List.ext_getElem?
  intro j
  by_cases hj : j < 32
  · simp [List.getElem?_map, List.getElem?_range hj, List.getElem?_eq_getElem (show j < R.length by omega), List.getD_eq_getElem?_getD]
  · rw [List.getElem?_eq_none (by simp; omega), List.getElem?_eq_none (by simp; omega)]
theorem eql_sv {R : List Nat} (h : By 32 R) (w : World) : (binOp .eql 25 (.agg (sv R)) (.agg (sv R))).run Tryd.prog w = .ok (.bool true) w := by
  have hz : ∀ j, j < 32 → 0 ≤ ((R.getD j 0 : Nat) : Int) ∧ ((R.getD j 0 : Nat) : Int) ≤ 255 := fun j _ => by have := h.2 j; omega
  rw [sv_hv h.1, eql_hv hz hz, hq_same]
theorem guardHs : Tryd.prog.eqGuardType Tryd.prog.depth 25 = false := by kernel_rfl
theorem exec_eqH {a : Act} {o : Oper} (x y : Operand) (ho : o.op = .binOp .eql 25 x y 25) {R : List Nat} (h : By 32 R) (hx : a.eval x = .agg (sv R)) (hy : a.eval y = .agg (sv R)) (w : World) :
    (execOp a.eval o).run Tryd.prog w = .ok (.value (.bool true)) w := by
  unfold execOp
  simp only [ho, hx, hy, Sem.run_bind, run_eqGuard_agg w .eql 25 x y _ _ guardHs, eql_sv h, Result.andThen_ok, Sem.run_pure]

set_option maxRecDepth 20000 in
set_option maxHeartbeats 4000000 in
theorem sumsW_any (ad : Option Addr) (cap : Nat) (b : List Nat) (w : World) (hT : Tab w) (hgl : 3 ≤ w.heap.size) (hB : SlB w ad b) (hb : ∀ i, b.getD i 0 < 256) (hcap : b.length ≤ cap) (hl : b.length ≤ 9223372036854775807) (hn : ad = none → b.length = 0 ∧ cap = 0) :
    Calls Tryd.prog 3 #[.slice ad b.length cap] w fun e w' => e = .returned (.bool true) ∧ Below w.heap.size w w' := by
  by_cases h4 : 4000 < b.length
  · have h4' : 4000 < (b.length : Int) := by omega
    go_enter Tryd.func3, Tryd.ntmps3
    go_wp2_with fail
    refine (sure_any w hT hgl).mono ?_
    rintro e W1 ⟨rfl, hb1⟩
    go_wp2
    go_ret
    exact ⟨rfl, hb1⟩
  · have h4' : (b.length : Int) ≤ 4000 := by omega
    have HB : Hid (SlB w ad b ∧ (ad = none → b.length = 0)) := ⟨hB, fun h => (hn h).1⟩
    clear hB hn hl
    go_enter Tryd.func3, Tryd.ntmps3
    go_wp2_with fail
    refine (sum_any ad cap b w hT hgl HB.out.1 hb hcap (by omega)).mono ?_
    rintro e W1 ⟨rfl, hb1⟩
    have oR := sum_by b
    obtain ⟨R, hR⟩ : ∃ R, R = sumF b := ⟨_, rfl⟩
    rw [← hR] at oR
    rw [← hR]
    have HR : Hid (R = sumF b) := hR
    clear hR
    have hn1 := heap_alloc_new W1 (.cells (sv R) 25)
    have hn0 := heap_alloc_new W1 (.cells (sv z32) 25)
    have hR32 := oR.1
    go_wp2_with (first | (refine wpList_allocHs rfl rfl ?_) | (refine wpList_storeRow 25 hsz rfl _ _ rfl W1.heap.size rfl (sv R) (sv z32) (by rw [sv_size, hR32]) (by simp [sv_size, z32]) (sv_one _) 25 rfl hn0 ?_; intro W2 hg2 hf2) | fail)
    try simp only [Act.put, List.setIfInBounds_toArray, List.set_cons_zero, List.set_cons_succ]
    have hl1 : W1.heap.size < W2.heap.size := lt_of_block hg2
    have hb2' : Below w.heap.size w W2.drew := (((((Frm.ofBelow (S := [W1.heap.size]) hb1).alloc _).trans hf2).old (T := []) (fun k hk hlt => by have := hb1.size; simp at hk; omega)).below (Nat.le_refl _) (by simp)).drew
    have S2 : W2.drew.rangeAt W1.heap.size 0 (sl8 R) := sv_range (w := W2.drew) hg2
    refine wp_region_noPanic ?_
    refine wp_region_held_drew (S := fun w' => w'.rangeAt W1.heap.size 0 (sl8 R)) (by kernel_rfl) S2 (fun hHeld => ?_)
    refine wpAnyH_take (i := 0) (oi := { dst := some 10, op := Go.Op.load 25 (Go.Operand.tmp 3), type := 25, pos := "law.go:35", after := #[], guard := none }) rfl (by kernel_rfl) (by kernel_rfl) (by kernel_rfl) (fun _ _ _ h => h) (yieldsIf_load_mid (by rfl) _ _ rfl W1.heap.size 0 rfl (sl8 R) _ (fun _ h => h) Tryd.underlying25 rfl (szHs oR.1)) (by assumption) ?_
    try simp only [Act.put, List.setIfInBounds_toArray, List.set_cons_zero, List.set_cons_succ]
    refine wpAnyH_take (i := 1) (oi := { dst := some 11, op := Go.Op.move (Go.Operand.tmp 0), type := 22, pos := "law.go:35", after := #[], guard := none }) (v := ?_) rfl (by kernel_rfl) (by kernel_rfl) (by kernel_rfl) (fun _ _ _ h => h) (Or.inl ⟨by rfl, ?_⟩) (by assumption) ?_
    rotate_left
    · intro wz hSw; (try dsimp only at hSw); go_simp; (try with_reducible rfl)
    try simp only [Act.put, List.setIfInBounds_toArray, List.set_cons_zero, List.set_cons_succ]
    refine wpAnyH_ready (rs := [2]) (by kernel_rfl) (by simp) ?_
    refine (AllReadyH.cons (o := { dst := some 12, op := Go.Op.call { callee := Go.Callee.value (Go.Operand.func 9), args := #[Go.Operand.tmp 11], argTypes := #[22] }, type := 25, pos := "law.go:35", after := #[{ on := 1, ground := Go.Ground.data }], guard := none }) rfl (fun K hK => ?_) AllReadyH.nil)
    go_simp
    refine (rsum_any ad cap b W2.drew (HB.out.1.below (Frm.ofBelow hb2')) HB.out.2 hb (by omega)).mono ?_
    rintro e W3 ⟨rfl, hb3⟩
    rw [← HR.out]
    have S3 := range_keep S2 (Frm.ofBelow (S := []) hb3) (by simp)
    have hb3' := Below.transS hb2' hb3
    refine hK.out _ _ S3 (fun _ => ?_)
    clear hK K
    try simp only [Act.put, List.setIfInBounds_toArray, List.set_cons_zero, List.set_cons_succ]
    refine wpAnyH_take (i := 3) (oi := { dst := some 13, op := Go.Op.binOp Go.BinOp.eql 25 (Go.Operand.tmp 10) (Go.Operand.tmp 12) 25, type := 4, pos := "law.go:35", after := #[{ on := 0, ground := Go.Ground.data }, { on := 2, ground := Go.Ground.data }], guard := none }) (v := .bool true) rfl (by kernel_rfl) (by kernel_rfl) (by kernel_rfl) (fun _ _ _ h => h) (Or.inl ⟨by rfl, ?_⟩) (by assumption) ?_
    · intro wz hSw; (try dsimp only at hSw); exact exec_eqH _ _ rfl oR rfl rfl wz
    try simp only [Act.put, List.setIfInBounds_toArray, List.set_cons_zero, List.set_cons_succ]
    refine wpAnyH_take (i := 4) (oi := { dst := some 14, op := Go.Op.move (Go.Operand.tmp 13), type := 4, pos := "law.go:35", after := #[{ on := 3, ground := Go.Ground.data }, { on := 2, ground := Go.Ground.chain }], guard := none }) (v := ?_) rfl (by kernel_rfl) (by kernel_rfl) (by kernel_rfl) (fun _ _ _ h => h) (Or.inl ⟨by rfl, ?_⟩) (by assumption) ?_
    rotate_left
    · intro wz hSw; (try dsimp only at hSw); go_simp; (try with_reducible rfl)
    try simp only [Act.put, List.setIfInBounds_toArray, List.set_cons_zero, List.set_cons_succ]
    refine wpAnyH_take (i := 5) (oi := { dst := some 15, op := Go.Op.load 25 (Go.Operand.tmp 3), type := 25, pos := "law.go:35", after := #[{ on := 4, ground := Go.Ground.guard }], guard := some (4, true) }) rfl (by kernel_rfl) (by kernel_rfl) (by kernel_rfl) (fun _ _ _ h => h) (yieldsIf_load_mid (by rfl) _ _ rfl W1.heap.size 0 rfl (sl8 R) _ (fun _ h => h) Tryd.underlying25 rfl (szHs oR.1)) (by assumption) ?_
    try simp only [Act.put, List.setIfInBounds_toArray, List.set_cons_zero, List.set_cons_succ]
    refine wpAnyH_take (i := 7) (oi := { dst := some 17, op := Go.Op.load 25 (Go.Operand.tmp 3), type := 25, pos := "law.go:35", after := #[{ on := 4, ground := Go.Ground.guard }], guard := some (4, true) }) rfl (by kernel_rfl) (by kernel_rfl) (by kernel_rfl) (fun _ _ _ h => h) (yieldsIf_load_mid (by rfl) _ _ rfl W1.heap.size 0 rfl (sl8 R) _ (fun _ h => h) Tryd.underlying25 rfl (szHs oR.1)) (by assumption) ?_
    try simp only [Act.put, List.setIfInBounds_toArray, List.set_cons_zero, List.set_cons_succ]
    refine wpAnyH_ready (rs := [6]) (by kernel_rfl) (by simp) ?_
    refine (AllReadyH.cons (o := { dst := some 16, op := Go.Op.call { callee := Go.Callee.value (Go.Operand.func 10), args := #[Go.Operand.tmp 15], argTypes := #[25] }, type := 9, pos := "law.go:35", after := #[{ on := 5, ground := Go.Ground.data }, { on := 4, ground := Go.Ground.chain }, { on := 4, ground := Go.Ground.guard }], guard := some (4, true) }) rfl (fun K hK => ?_) AllReadyH.nil)
    go_simp
    refine (text_any R W3 oR).mono ?_
    rintro e W4 ⟨rfl, hb4⟩
    have S4 := range_keep S3 (Frm.ofBelow (S := []) hb4) (by simp)
    have hb4' := Below.transS hb3' hb4
    refine hK.out _ _ S4 (fun _ => ?_)
    clear hK K
    try simp only [Act.put, List.setIfInBounds_toArray, List.set_cons_zero, List.set_cons_succ]
    refine wpAnyH_ready (rs := [8]) (by kernel_rfl) (by simp) ?_
    refine (AllReadyH.cons (o := { dst := some 18, op := Go.Op.call { callee := Go.Callee.value (Go.Operand.func 11), args := #[Go.Operand.tmp 17], argTypes := #[25] }, type := 9, pos := "law.go:35", after := #[{ on := 7, ground := Go.Ground.data }, { on := 6, ground := Go.Ground.chain }, { on := 4, ground := Go.Ground.guard }], guard := some (4, true) }) rfl (fun K hK => ?_) AllReadyH.nil)
    go_simp
    refine (rtext_any R W4 oR).mono ?_
    rintro e W5 ⟨rfl, hb5⟩
    have S5 := range_keep S4 (Frm.ofBelow (S := []) hb5) (by simp)
    have hb5' := Below.transS hb4' hb5
    refine hK.out _ _ S5 (fun _ => ?_)
    clear hK K
    try simp only [Act.put, List.setIfInBounds_toArray, List.set_cons_zero, List.set_cons_succ]
    refine wpAnyH_take (i := 9) (oi := { dst := some 19, op := Go.Op.binOp Go.BinOp.eql 9 (Go.Operand.tmp 16) (Go.Operand.tmp 18) 9, type := 4, pos := "law.go:35", after := #[{ on := 6, ground := Go.Ground.data }, { on := 8, ground := Go.Ground.data }, { on := 4, ground := Go.Ground.guard }], guard := some (4, true) }) (v := ?_) rfl (by kernel_rfl) (by kernel_rfl) (by kernel_rfl) (fun _ _ _ h => h) (Or.inl ⟨by rfl, ?_⟩) (by assumption) ?_
    rotate_left
    · intro wz hSw; (try dsimp only at hSw); go_simp; (try with_reducible rfl)
    try simp only [Act.put, List.setIfInBounds_toArray, List.set_cons_zero, List.set_cons_succ]
    refine wpAnyH_take (i := 10) (oi := { dst := some 20, op := Go.Op.pick (Go.Operand.tmp 14) (Go.Operand.tmp 19) (Go.Operand.const (Go.Value.bool false)), type := 4, pos := "law.go:35", after := #[{ on := 4, ground := Go.Ground.data }, { on := 9, ground := Go.Ground.data }], guard := none }) (v := ?_) rfl (by kernel_rfl) (by kernel_rfl) (by kernel_rfl) (fun _ _ _ h => h) (Or.inl ⟨by rfl, ?_⟩) (by assumption) ?_
    rotate_left
    · intro wz hSw; (try dsimp only at hSw); go_simp; (try with_reducible rfl)
    try simp only [Act.put, List.setIfInBounds_toArray, List.set_cons_zero, List.set_cons_succ]
    refine wpAnyH_take (i := 11) (oi := { dst := some 21, op := Go.Op.move (Go.Operand.tmp 20), type := 4, pos := "law.go:35", after := #[{ on := 10, ground := Go.Ground.data }, { on := 8, ground := Go.Ground.chain }], guard := none }) (v := ?_) rfl (by kernel_rfl) (by kernel_rfl) (by kernel_rfl) (fun _ _ _ h => h) (Or.inl ⟨by rfl, ?_⟩) (by assumption) ?_
    rotate_left
    · intro wz hSw; (try dsimp only at hSw); go_simp; (try with_reducible rfl)
    try simp only [Act.put, List.setIfInBounds_toArray, List.set_cons_zero, List.set_cons_succ]
    refine wpAnyH_ready (rs := [12]) (by kernel_rfl) (by simp) ?_
    refine (AllReadyH.cons (o := { dst := some 22, op := Go.Op.call { callee := Go.Callee.value (Go.Operand.func 7), args := #[], argTypes := #[] }, type := 4, pos := "law.go:35", after := #[{ on := 11, ground := Go.Ground.chain }, { on := 11, ground := Go.Ground.guard }], guard := some (11, true) }) rfl (fun K hK => ?_) AllReadyH.nil)
    go_simp
    refine (sure_any W5 (hT.frm (Frm.ofBelow (S := []) hb5') (by simp)) (by have := hb5'.size; omega)).mono ?_
    rintro e W6 ⟨rfl, hb6⟩
    have S6 := range_keep S5 (Frm.ofBelow (S := []) hb6) (by simp)
    have hb6' := Below.transS hb5' hb6
    refine hK.out _ _ S6 (fun _ => ?_)
    clear hK K
    try simp only [Act.put, List.setIfInBounds_toArray, List.set_cons_zero, List.set_cons_succ]
    refine wpAnyH_take (i := 13) (oi := { dst := some 23, op := Go.Op.pick (Go.Operand.tmp 21) (Go.Operand.tmp 22) (Go.Operand.const (Go.Value.bool false)), type := 4, pos := "law.go:35", after := #[{ on := 11, ground := Go.Ground.data }, { on := 12, ground := Go.Ground.data }], guard := none }) (v := ?_) rfl (by kernel_rfl) (by kernel_rfl) (by kernel_rfl) (fun _ _ _ h => h) (Or.inl ⟨by rfl, ?_⟩) (by assumption) ?_
    rotate_left
    · intro wz hSw; (try dsimp only at hSw); go_simp; (try with_reducible rfl)
    try simp only [Act.put, List.setIfInBounds_toArray, List.set_cons_zero, List.set_cons_succ]
    refine wpAnyH_take (i := 14) (oi := { dst := some 2, op := Go.Op.assign (Go.Operand.tmp 23), type := 4, pos := "law.go:35", after := #[{ on := 13, ground := Go.Ground.data }, { on := 12, ground := Go.Ground.chain }, { on := 0, ground := Go.Ground.phase }, { on := 1, ground := Go.Ground.phase }, { on := 2, ground := Go.Ground.phase }, { on := 3, ground := Go.Ground.phase }, { on := 4, ground := Go.Ground.phase }, { on := 5, ground := Go.Ground.phase }, { on := 6, ground := Go.Ground.phase }, { on := 7, ground := Go.Ground.phase }, { on := 8, ground := Go.Ground.phase }, { on := 9, ground := Go.Ground.phase }, { on := 10, ground := Go.Ground.phase }, { on := 11, ground := Go.Ground.phase }, { on := 12, ground := Go.Ground.phase }, { on := 13, ground := Go.Ground.phase }], guard := none }) (v := ?_) rfl (by kernel_rfl) (by kernel_rfl) (by kernel_rfl) (fun _ _ _ h => h) (Or.inl ⟨by rfl, ?_⟩) (by assumption) ?_
    rotate_left
    · intro wz hSw; (try dsimp only at hSw); go_simp; (try with_reducible rfl)
    try simp only [Act.put, List.setIfInBounds_toArray, List.set_cons_zero, List.set_cons_succ]
    refine wpAnyH_done (by kernel_rfl) (NoPanic.normal ?_) _
    try simp only [Act.put, List.setIfInBounds_toArray, List.set_cons_zero, List.set_cons_succ]
    clear hHeld S2 S3 S4 S5 S6 hb2' hb3 hb3' hb4 hb4' hb5 hb5' hb6
    go_wp2
    go_ret
    exact ⟨rfl, hb6'⟩
end Go.Proofs.YtcileagccdonfaaDoor
