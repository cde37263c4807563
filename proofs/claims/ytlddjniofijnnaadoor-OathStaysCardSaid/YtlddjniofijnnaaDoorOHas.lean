/- Whether somebody signed a sum: Has. -/
import Derived.Test.YtlddjniofijnnaaDoorOBook
namespace Go.Proofs.YtlddjniofijnnaaDoor
open Go.RowKit

attribute [local go_sem ↓] Go.wp_at_zero Go.wp_at_succ

theorem zero_unit (w : World) : (zeroValue 53).run Tryd.prog w = .ok (.agg #[]) w := by kernel_rfl
theorem bl_size (z : Nat → Int) : (Tryd.prog.info? 32).map (·.size) = some (bl z 32).length := by rw [bl_length]; exact hsz
theorem look_run {w : World} {m n : Nat} {D : DataW Unit} {S : List (Int × List UInt8)} (hm : w.ownsMap Tryd.prog 52 (unitElem (H := Unit)) m n D) (hD : BkD D S) {k : Int} {z : Nat → Int} (hk : Ib k) (hz : Zb z) :
    (Instr.lookup 46 (.map (some m)) (.agg (kv k z)) true).run Tryd.prog w = .ok (.tuple #[.agg #[], .bool (S.contains (k, ub z))]) w := by
  obtain ⟨v, ps, h1, h2⟩ := hm.look_ok lawS (t := 46) Tryd.underlying46 (zero_unit w) unitElem_mk (keyOfS hk hz)
  obtain ⟨rfl, _⟩ := unitElem_inv h2
  rw [h1, hD.has k z hk hz]
/-- What the look-up reads. -/
theorem has_facts {w w' : World} {B p m : Nat} {g : Nat → Option Nat} {S : List (Int × List UInt8)} (h : BkAt w B p m g S) {k : Int} {z : Nat → Int} (hk : Ib k) (hz : Zb z) (hb : Below w.heap.size w w') (hs : w'.heap[w.heap.size]? = some (.cells (hv z) 32 (0, 0))) :
    w'.cell? ⟨p, 0, none⟩ = some (.map (some m)) ∧ w'.rangeAt w.heap.size 0 (bl z 32) ∧ (Instr.lookup 46 (.map (some m)) (.agg (kv k z)) true).run Tryd.prog w' = .ok (.tuple #[.agg #[], .bool (S.contains (k, ub z))]) w' := by
  have h' := h.below hb
  obtain ⟨D, hm, hD⟩ := h'.map
  refine ⟨h'.cell0, fun j v hv' => ?_, look_run hm hD hk hz⟩
  rw [Nat.zero_add, cell_of_row w' _ j _ _ _ hs, ← hv']
  simp [hv]

set_option maxRecDepth 100000 in
set_option maxHeartbeats 1600000 in
theorem has_any (p m B : Nat) (g : Nat → Option Nat) (S : List (Int × List UInt8)) (k : Int) (z : Nat → Int) (w : World) (h : BkAt w B p m g S) (hk : Ib k) (hz : Zb z) :
    Calls Tryd.prog 10 #[.pointer (some ⟨p, 0, none⟩), .int .i64 k, .agg (hv z)] w fun e w' => e = .returned (.bool (S.contains (k, ub z))) ∧ Below w.heap.size w w' := by
  have HN := heap_alloc_new w (.cells (hv z) 32)
  have hb0 : Below w.heap.size w (w.alloc (.cells (hv z) 32)).drew := ((Below.refl _ w).alloc (Nat.le_refl _) _).drew
  have hF := has_facts h hk hz hb0 HN
  have HF : Hid (∀ w', Below w.heap.size w w' → w'.heap[w.heap.size]? = some (.cells (hv z) 32 (0, 0)) → w'.cell? ⟨p, 0, none⟩ = some (.map (some m)) ∧ w'.rangeAt w.heap.size 0 (bl z 32) ∧ (Instr.lookup 46 (.map (some m)) (.agg (kv k z)) true).run Tryd.prog w' = .ok (.tuple #[.agg #[], .bool (S.contains (k, ub z))]) w') := fun w' hb hs => has_facts h hk hz hb hs
  have hbu := build_sig
  generalize hc : S.contains (k, ub z) = c at *
  clear h hk hz hc
  go_enter Tryd.func10, Tryd.ntmps10
  go_wp2_with (refine Go.Great.wpList_boxTo rfl _ _ rfl _ rfl _ rfl (hv z) rfl ?_)
  generalize hw1 : (w.alloc (.cells (hv z) 32)) = w1 at *
  refine wp_region_noPanic ?_
  refine wp_region_held_drew (S := fun w' => w'.cell? ⟨p, 0, none⟩ = some (.map (some m)) ∧ w'.rangeAt w.heap.size 0 (bl z 32) ∧ (Instr.lookup 46 (.map (some m)) (.agg (kv k z)) true).run Tryd.prog w' = .ok (.tuple #[.agg #[], .bool c]) w') (by kernel_rfl) hF (fun hHeld => ?_)
  refine wpAnyH_take (i := 0) (oi := { dst := some 12, op := Go.Op.move (Go.Operand.tmp 0), type := 23, pos := "oath.go:45", after := #[], guard := none }) (v := ?_) rfl (by kernel_rfl) (by kernel_rfl) (by kernel_rfl) (fun _ _ _ h => h) (Or.inl ⟨by rfl, ?_⟩) (by assumption) ?_
  rotate_left
  · intro wz hSw; (try dsimp only at hSw); go_simp; (try with_reducible rfl)
  try simp only [Act.put, List.setIfInBounds_toArray, List.set_cons_zero, List.set_cons_succ]
  refine wpAnyH_take (i := 1) (oi := { dst := some 13, op := Go.Op.nilCheck (Go.Operand.tmp 12), type := 0, pos := "oath.go:45", after := #[{ on := 0, ground := Go.Ground.data }], guard := none }) (v := ?_) rfl (by kernel_rfl) (by kernel_rfl) (by kernel_rfl) (fun _ _ _ h => h) (Or.inl ⟨by rfl, ?_⟩) (by assumption) ?_
  rotate_left
  · intro wz hSw; (try dsimp only at hSw); go_simp; (try with_reducible rfl)
  try simp only [Act.put, List.setIfInBounds_toArray, List.set_cons_zero, List.set_cons_succ]
  refine wpAnyH_take (i := 2) (oi := { dst := some 14, op := Go.Op.fieldAddr 50 (Go.Operand.tmp 13) 0, type := 0, pos := "oath.go:45", after := #[{ on := 1, ground := Go.Ground.data }], guard := none }) (v := ?_) rfl (by kernel_rfl) (by kernel_rfl) (by kernel_rfl) (fun _ _ _ h => h) (Or.inl ⟨by rfl, ?_⟩) (by assumption) ?_
  rotate_left
  · intro wz hSw; (try dsimp only at hSw); go_simp; (try with_reducible rfl)
  try simp only [Act.put, List.setIfInBounds_toArray, List.set_cons_zero, List.set_cons_succ]
  refine wpAnyH_take (i := 3) (oi := { dst := some 15, op := Go.Op.load 46 (Go.Operand.tmp 14), type := 46, pos := "oath.go:45", after := #[{ on := 2, ground := Go.Ground.data }], guard := none }) (v := ?_) rfl (by kernel_rfl) (by kernel_rfl) (by kernel_rfl) (fun _ _ _ h => h) (Or.inl ⟨by rfl, ?_⟩) (by assumption) ?_
  rotate_left
  · intro wz hSw; (try dsimp only at hSw); go_simp; (try with_reducible rfl)
  try simp only [Act.put, List.setIfInBounds_toArray, List.set_cons_zero, List.set_cons_succ]
  refine wpAnyH_take (i := 4) (oi := { dst := some 16, op := Go.Op.move (Go.Operand.tmp 1), type := 3, pos := "oath.go:45", after := #[], guard := none }) (v := ?_) rfl (by kernel_rfl) (by kernel_rfl) (by kernel_rfl) (fun _ _ _ h => h) (Or.inl ⟨by rfl, ?_⟩) (by assumption) ?_
  rotate_left
  · intro wz hSw; (try dsimp only at hSw); go_simp; (try with_reducible rfl)
  try simp only [Act.put, List.setIfInBounds_toArray, List.set_cons_zero, List.set_cons_succ]
  refine wpAnyH_take (i := 5) (oi := { dst := some 17, op := Go.Op.load 32 (Go.Operand.tmp 5), type := 32, pos := "oath.go:45", after := #[], guard := none }) rfl (by kernel_rfl) (by kernel_rfl) (by kernel_rfl) (fun _ _ _ h => h) (yieldsIf_load_mid (by rfl) _ _ rfl w.heap.size 0 rfl (bl z 32) _ (fun _ h => h.2.1) Tryd.underlying32 rfl (bl_size z)) (by assumption) ?_
  try simp only [Act.put, List.setIfInBounds_toArray, List.set_cons_zero, List.set_cons_succ]
  refine wpAnyH_take (i := 6) (oi := { dst := some 18, op := Go.Op.build 52 #[(0, Go.Operand.tmp 16), (1, Go.Operand.tmp 17)], type := 52, pos := "oath.go:45", after := #[{ on := 4, ground := Go.Ground.data }, { on := 5, ground := Go.Ground.data }], guard := none }) (v := .agg (kv k z)) rfl (by kernel_rfl) (by kernel_rfl) (by kernel_rfl) (fun _ _ _ h => h) (Or.inl ⟨by rfl, ?_⟩) (by assumption) ?_
  · intro wz hSw; (try dsimp only at hSw); kernel_rfl
  try simp only [Act.put, List.setIfInBounds_toArray, List.set_cons_zero, List.set_cons_succ]
  refine wpAnyH_take (i := 7) (oi := { dst := some 19, op := Go.Op.lookup 46 (Go.Operand.tmp 15) (Go.Operand.tmp 18) true, type := 57, pos := "oath.go:45", after := #[{ on := 3, ground := Go.Ground.data }, { on := 6, ground := Go.Ground.data }], guard := none }) (v := ?_) rfl (by kernel_rfl) (by kernel_rfl) (by kernel_rfl) (fun _ _ _ h => h) (Or.inl ⟨by rfl, ?_⟩) (by assumption) ?_
  rotate_left
  · intro wz hSw; (try dsimp only at hSw); go_simp; (try with_reducible rfl)
  try simp only [Act.put, List.setIfInBounds_toArray, List.set_cons_zero, List.set_cons_succ]
  refine wpAnyH_take (i := 8) (oi := { dst := some 11, op := Go.Op.move (Go.Operand.tmp 19), type := 57, pos := "oath.go:45", after := #[{ on := 7, ground := Go.Ground.data }], guard := none }) (v := ?_) rfl (by kernel_rfl) (by kernel_rfl) (by kernel_rfl) (fun _ _ _ h => h) (Or.inl ⟨by rfl, ?_⟩) (by assumption) ?_
  rotate_left
  · intro wz hSw; (try dsimp only at hSw); go_simp; (try with_reducible rfl)
  try simp only [Act.put, List.setIfInBounds_toArray, List.set_cons_zero, List.set_cons_succ]
  refine wpAnyH_take (i := 9) (oi := { dst := some 20, op := Go.Op.extract (Go.Operand.tmp 11) 0, type := 53, pos := "oath.go:45", after := #[{ on := 8, ground := Go.Ground.data }], guard := none }) (v := ?_) rfl (by kernel_rfl) (by kernel_rfl) (by kernel_rfl) (fun _ _ _ h => h) (Or.inl ⟨by rfl, ?_⟩) (by assumption) ?_
  rotate_left
  · intro wz hSw; (try dsimp only at hSw); go_simp; (try with_reducible rfl)
  try simp only [Act.put, List.setIfInBounds_toArray, List.set_cons_zero, List.set_cons_succ]
  refine wpAnyH_take (i := 10) (oi := { dst := some 21, op := Go.Op.extract (Go.Operand.tmp 11) 1, type := 4, pos := "oath.go:45", after := #[{ on := 8, ground := Go.Ground.data }, { on := 12, ground := Go.Ground.gcOnly Go.Departure.lateStores }], guard := none }) (v := ?_) rfl (by kernel_rfl) (by kernel_rfl) (by kernel_rfl) (fun _ _ _ h => h) (Or.inl ⟨by rfl, ?_⟩) (by assumption) ?_
  rotate_left
  · intro wz hSw; (try dsimp only at hSw); go_simp; (try with_reducible rfl)
  try simp only [Act.put, List.setIfInBounds_toArray, List.set_cons_zero, List.set_cons_succ]
  have hb2 : Below w.heap.size w (w1.drew.alloc (.cells #[] 53)) := hb0.alloc hb0.size _
  have hs2 : (w1.drew.alloc (.cells #[] 53)).heap[w.heap.size]? = some (.cells (hv z) 32 (0, 0)) := by
    rw [Below.heap_alloc _ _ _ (lt_of_block (w := w1.drew) HN)]; exact HN
  have hF2 := HF.out _ hb2 hs2
  refine wpAnyH_ready (rs := [11]) (by kernel_rfl) (by simp) ?_
  refine (AllReadyH.cons (o := { dst := some 7, op := Go.Op.alloc 53, type := 0, pos := "oath.go:45", after := #[], guard := none }) rfl (fun K hK => ?_) AllReadyH.nil)
  go_simp
  refine hK.out _ _ hF2 (fun _ => ?_)
  clear hK K
  try simp only [Act.put, List.setIfInBounds_toArray, List.set_cons_zero, List.set_cons_succ]
  refine wpAnyH_ready (rs := [12]) (by kernel_rfl) (by simp) ?_
  refine (AllReadyH.cons (o := { dst := none, op := Go.Op.store 53 (Go.Operand.tmp 7) (Go.Operand.tmp 20), type := 0, pos := "oath.go:45", after := #[{ on := 11, ground := Go.Ground.data }, { on := 9, ground := Go.Ground.data }, { on := 0, ground := Go.Ground.phase }, { on := 1, ground := Go.Ground.phase }, { on := 2, ground := Go.Ground.phase }, { on := 3, ground := Go.Ground.phase }, { on := 4, ground := Go.Ground.phase }, { on := 5, ground := Go.Ground.phase }, { on := 6, ground := Go.Ground.phase }, { on := 7, ground := Go.Ground.phase }, { on := 8, ground := Go.Ground.phase }, { on := 9, ground := Go.Ground.phase }, { on := 10, ground := Go.Ground.textOnly Go.Departure.lateStores }, { on := 11, ground := Go.Ground.phase }], guard := none }) rfl (fun K hK => ?_) AllReadyH.nil)
  go_simp
  refine hK.out _ _ hF2 (fun _ => ?_)
  clear hK K
  try simp only [Act.put, List.setIfInBounds_toArray, List.set_cons_zero, List.set_cons_succ]
  refine wpAnyH_take (i := 13) (oi := { dst := some 8, op := Go.Op.assign (Go.Operand.tmp 21), type := 4, pos := "oath.go:45", after := #[{ on := 10, ground := Go.Ground.data }, { on := 12, ground := Go.Ground.chain }, { on := 0, ground := Go.Ground.phase }, { on := 1, ground := Go.Ground.phase }, { on := 2, ground := Go.Ground.phase }, { on := 3, ground := Go.Ground.phase }, { on := 4, ground := Go.Ground.phase }, { on := 5, ground := Go.Ground.phase }, { on := 6, ground := Go.Ground.phase }, { on := 7, ground := Go.Ground.phase }, { on := 8, ground := Go.Ground.phase }, { on := 9, ground := Go.Ground.phase }, { on := 10, ground := Go.Ground.phase }, { on := 11, ground := Go.Ground.phase }, { on := 12, ground := Go.Ground.phase }], guard := none }) (v := ?_) rfl (by kernel_rfl) (by kernel_rfl) (by kernel_rfl) (fun _ _ _ h => h) (Or.inl ⟨by rfl, ?_⟩) (by assumption) ?_
  rotate_left
  · intro wz hSw; (try dsimp only at hSw); go_simp; (try with_reducible rfl)
  try simp only [Act.put, List.setIfInBounds_toArray, List.set_cons_zero, List.set_cons_succ]
  refine wpAnyH_done (by kernel_rfl) (NoPanic.normal ?_) _
  try simp only [Act.put, List.setIfInBounds_toArray, List.set_cons_zero, List.set_cons_succ]
  go_wp2
  go_ret
  exact ⟨rfl, hb2⟩
end Go.Proofs.YtlddjniofijnnaaDoor
