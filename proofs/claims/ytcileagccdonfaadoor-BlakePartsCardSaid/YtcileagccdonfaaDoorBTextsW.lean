/- BlakeTexts, walked. -/
import Derived.Test.YtcileagccdonfaaDoorBSure
namespace Go.Proofs.YtcileagccdonfaaDoor
open Go.RowKit

theorem sv_range {w : World} {g : Nat} {t : TypeId} {fr : Nat × Nat} {h : List Nat} (hg : w.heap[g]? = some (.cells (sv h) t fr)) : w.rangeAt g 0 (sl8 h) := by
  intro j u hu
  rw [Nat.zero_add, cell_of_row w g j _ _ _ hg, ← hu]
  simp [sv]
theorem szHs {h : List Nat} (hh : h.length = 32) : (Tryd.prog.info? 25).map (·.size) = some (sl8 h).length := by rw [sl8_len, hh]; exact hsz

set_option maxRecDepth 20000 in
set_option maxHeartbeats 4000000 in
theorem textsW_any (h : List Nat) (w : World) (hT : Tab w) (hgl : 3 ≤ w.heap.size) (hh : By 32 h) :
    Calls Tryd.prog 6 #[.agg (sv h)] w fun e w' => e = .returned (.bool true) ∧ Below w.heap.size w w' := by
  have hn0 := heap_alloc_new w (.cells (sv h) 25)
  have hb0 : Below w.heap.size w (w.alloc (.cells (sv h) 25)) := (Below.refl _ w).alloc (Nat.le_refl _) _
  go_enter Tryd.func6, Tryd.ntmps6
  go_wp2_with (first | (refine Go.Great.wpList_boxTo rfl _ _ rfl _ rfl _ rfl (sv h) rfl ?_) | fail)
  generalize w.alloc (.cells (sv h) 25) = W0 at *
  have hl0 := lt_of_block hn0
  have S0 : W0.drew.rangeAt w.heap.size 0 (sl8 h) := sv_range (w := W0.drew) hn0
  have hz := hb0.size
  have hbd : Below w.heap.size w W0.drew := hb0.drew
  refine wp_region_noPanic ?_
  refine wp_region_held_drew (S := fun w' => w'.rangeAt w.heap.size 0 (sl8 h)) (by kernel_rfl) S0 (fun hHeld => ?_)
  refine wpAnyH_take (i := 0) (oi := { dst := some 3, op := Go.Op.load 25 (Go.Operand.tmp 1), type := 25, pos := "law.go:82", after := #[], guard := none }) rfl (by kernel_rfl) (by kernel_rfl) (by kernel_rfl) (fun _ _ _ h => h) (yieldsIf_load_mid (by rfl) _ _ rfl w.heap.size 0 rfl (sl8 h) _ (fun _ h => h) Tryd.underlying25 rfl (szHs hh.1)) (by assumption) ?_
  try simp only [Act.put, List.setIfInBounds_toArray, List.set_cons_zero, List.set_cons_succ]
  refine wpAnyH_take (i := 2) (oi := { dst := some 5, op := Go.Op.load 25 (Go.Operand.tmp 1), type := 25, pos := "law.go:82", after := #[], guard := none }) rfl (by kernel_rfl) (by kernel_rfl) (by kernel_rfl) (fun _ _ _ h => h) (yieldsIf_load_mid (by rfl) _ _ rfl w.heap.size 0 rfl (sl8 h) _ (fun _ h => h) Tryd.underlying25 rfl (szHs hh.1)) (by assumption) ?_
  try simp only [Act.put, List.setIfInBounds_toArray, List.set_cons_zero, List.set_cons_succ]
  refine wpAnyH_ready (rs := [1]) (by kernel_rfl) (by simp) ?_
  refine (AllReadyH.cons (o := { dst := some 4, op := Go.Op.call { callee := Go.Callee.value (Go.Operand.func 10), args := #[Go.Operand.tmp 3], argTypes := #[25] }, type := 9, pos := "law.go:82", after := #[{ on := 0, ground := Go.Ground.data }], guard := none }) rfl (fun K hK => ?_) AllReadyH.nil)
  go_simp
  refine (text_any h W0.drew hh).mono ?_
  rintro e W1 ⟨rfl, hb1⟩
  have S1 := range_keep S0 (Frm.ofBelow (S := []) hb1) (by simp)
  have hb1' := hbd.trans (hb1.mono hz)
  refine hK.out _ _ S1 (fun _ => ?_)
  clear hK K
  try simp only [Act.put, List.setIfInBounds_toArray, List.set_cons_zero, List.set_cons_succ]
  refine wpAnyH_ready (rs := [3]) (by kernel_rfl) (by simp) ?_
  refine (AllReadyH.cons (o := { dst := some 6, op := Go.Op.call { callee := Go.Callee.value (Go.Operand.func 11), args := #[Go.Operand.tmp 5], argTypes := #[25] }, type := 9, pos := "law.go:82", after := #[{ on := 2, ground := Go.Ground.data }, { on := 1, ground := Go.Ground.chain }], guard := none }) rfl (fun K hK => ?_) AllReadyH.nil)
  go_simp
  refine (rtext_any h W1 hh).mono ?_
  rintro e W2 ⟨rfl, hb2⟩
  have S2 := range_keep S1 (Frm.ofBelow (S := []) hb2) (by simp)
  have hb2' := Below.transS hb1' hb2
  refine hK.out _ _ S2 (fun _ => ?_)
  clear hK K
  try simp only [Act.put, List.setIfInBounds_toArray, List.set_cons_zero, List.set_cons_succ]
  refine wpAnyH_take (i := 4) (oi := { dst := some 7, op := Go.Op.binOp Go.BinOp.eql 9 (Go.Operand.tmp 4) (Go.Operand.tmp 6) 9, type := 4, pos := "law.go:82", after := #[{ on := 1, ground := Go.Ground.data }, { on := 3, ground := Go.Ground.data }], guard := none }) (v := ?_) rfl (by kernel_rfl) (by kernel_rfl) (by kernel_rfl) (fun _ _ _ h => h) (Or.inl ⟨by rfl, ?_⟩) (by assumption) ?_
  rotate_left
  · intro wz hSw; (try dsimp only at hSw); go_simp; (try with_reducible rfl)
  try simp only [Act.put, List.setIfInBounds_toArray, List.set_cons_zero, List.set_cons_succ]
  refine wpAnyH_take (i := 5) (oi := { dst := some 8, op := Go.Op.move (Go.Operand.tmp 7), type := 4, pos := "law.go:82", after := #[{ on := 4, ground := Go.Ground.data }, { on := 3, ground := Go.Ground.chain }], guard := none }) (v := ?_) rfl (by kernel_rfl) (by kernel_rfl) (by kernel_rfl) (fun _ _ _ h => h) (Or.inl ⟨by rfl, ?_⟩) (by assumption) ?_
  rotate_left
  · intro wz hSw; (try dsimp only at hSw); go_simp; (try with_reducible rfl)
  try simp only [Act.put, List.setIfInBounds_toArray, List.set_cons_zero, List.set_cons_succ]
  refine wpAnyH_ready (rs := [6]) (by kernel_rfl) (by simp) ?_
  refine (AllReadyH.cons (o := { dst := some 9, op := Go.Op.call { callee := Go.Callee.value (Go.Operand.func 7), args := #[], argTypes := #[] }, type := 4, pos := "law.go:82", after := #[{ on := 5, ground := Go.Ground.chain }, { on := 5, ground := Go.Ground.guard }], guard := some (5, true) }) rfl (fun K hK => ?_) AllReadyH.nil)
  go_simp
  refine (sure_any W2 (hT.frm (Frm.ofBelow (S := []) hb2') (by simp)) (by have := hb2'.size; omega)).mono ?_
  rintro e W3 ⟨rfl, hb3⟩
  have S3 := range_keep S2 (Frm.ofBelow (S := []) hb3) (by simp)
  have hb3' := Below.transS hb2' hb3
  refine hK.out _ _ S3 (fun _ => ?_)
  clear hK K
  try simp only [Act.put, List.setIfInBounds_toArray, List.set_cons_zero, List.set_cons_succ]
  refine wpAnyH_take (i := 7) (oi := { dst := some 10, op := Go.Op.pick (Go.Operand.tmp 8) (Go.Operand.tmp 9) (Go.Operand.const (Go.Value.bool false)), type := 4, pos := "law.go:82", after := #[{ on := 5, ground := Go.Ground.data }, { on := 6, ground := Go.Ground.data }], guard := none }) (v := ?_) rfl (by kernel_rfl) (by kernel_rfl) (by kernel_rfl) (fun _ _ _ h => h) (Or.inl ⟨by rfl, ?_⟩) (by assumption) ?_
  rotate_left
  · intro wz hSw; (try dsimp only at hSw); go_simp; (try with_reducible rfl)
  try simp only [Act.put, List.setIfInBounds_toArray, List.set_cons_zero, List.set_cons_succ]
  refine wpAnyH_take (i := 8) (oi := { dst := some 2, op := Go.Op.assign (Go.Operand.tmp 10), type := 4, pos := "law.go:82", after := #[{ on := 7, ground := Go.Ground.data }, { on := 6, ground := Go.Ground.chain }, { on := 0, ground := Go.Ground.phase }, { on := 1, ground := Go.Ground.phase }, { on := 2, ground := Go.Ground.phase }, { on := 3, ground := Go.Ground.phase }, { on := 4, ground := Go.Ground.phase }, { on := 5, ground := Go.Ground.phase }, { on := 6, ground := Go.Ground.phase }, { on := 7, ground := Go.Ground.phase }], guard := none }) (v := ?_) rfl (by kernel_rfl) (by kernel_rfl) (by kernel_rfl) (fun _ _ _ h => h) (Or.inl ⟨by rfl, ?_⟩) (by assumption) ?_
  rotate_left
  · intro wz hSw; (try dsimp only at hSw); go_simp; (try with_reducible rfl)
  try simp only [Act.put, List.setIfInBounds_toArray, List.set_cons_zero, List.set_cons_succ]
  refine wpAnyH_done (by kernel_rfl) (NoPanic.normal ?_) _
  try simp only [Act.put, List.setIfInBounds_toArray, List.set_cons_zero, List.set_cons_succ]
  clear hHeld S0 S1 S2 S3 hb0 hbd hb1 hb1' hb2 hb2' hb3
  go_wp2
  go_ret
  exact ⟨rfl, hb3'⟩
end Go.Proofs.YtcileagccdonfaaDoor
