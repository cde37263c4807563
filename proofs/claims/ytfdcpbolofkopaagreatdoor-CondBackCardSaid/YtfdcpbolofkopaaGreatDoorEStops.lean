/- Readers that have stopped: zero values, and nothing turns. -/
import Derived.Test.YtfdcpbolofkopaaGreatDoorERdHash
import Derived.Test.YtfdcpbolofkopaaGreatDoorERdCount
namespace Go.Proofs.YtfdcpbolofkopaaGreatDoor
open Go.RowKit

set_option maxHeartbeats 400000 in
theorem stopUint (rb : Nat) (most : Int) (u : TypeId) (x : Value) (w : World) (h1 : w.cell? ⟨rb, 1, none⟩ = some (.iface u x)) :
    Calls Tryz.prog 50 #[.pointer (some ⟨rb, 0, none⟩), .int .u64 most] w fun e w' => e = .returned (.int .u64 0) ∧ Below w.heap.size w w' := by
  have hlt : rb < w.heap.size := World.block_lt_of_cell? w _ h1
  go_enter Tryz.func50, Tryz.ntmps50
  go_wp2
  go_ret
  exact ⟨rfl, (by repeat (first | exact Below.refl _ _ | refine Below.alloc ?_ (by simp; try omega) _ | refine Below.setCell ?_ (by simp) _ | refine below_drewN ?_ _ | refine Below.drew ?_))⟩
set_option maxHeartbeats 400000 in
theorem stopCount (rb : Nat) (most : Int) (u : TypeId) (x : Value) (w : World) (h1 : w.cell? ⟨rb, 1, none⟩ = some (.iface u x)) :
    Calls Tryz.prog 20 #[.pointer (some ⟨rb, 0, none⟩), .int .i64 most] w fun e w' => e = .returned (.int .i64 0) ∧ Below w.heap.size w w' := by
  have hlt : rb < w.heap.size := World.block_lt_of_cell? w _ h1
  go_enter Tryz.func20, Tryz.ntmps20
  go_wp2
  go_ret
  exact ⟨rfl, (by repeat (first | exact Below.refl _ _ | refine Below.alloc ?_ (by simp; try omega) _ | refine Below.setCell ?_ (by simp) _ | refine below_drewN ?_ _ | refine Below.drew ?_))⟩
set_option maxRecDepth 100000 in
set_option maxHeartbeats 400000 in
theorem takeStopH (rb : Nat) (u : TypeId) (x : Value) (w : World) (h1 : w.cell? ⟨rb, 1, none⟩ = some (.iface u x)) :
    Calls Tryz.prog 75 #[.pointer (some ⟨rb, 0, none⟩), .func (.func 76) #[] #[]] w fun e w' => e = .returned (.agg (hv nz)) ∧ Below w.heap.size w w' := by
  have hlt : rb < w.heap.size := World.block_lt_of_cell? w _ h1
  go_enter Tryz.func75, Tryz.ntmps75
  go_wp2_with (first | (refine wpList_allocH rfl rfl ?_) | (refine wpList_loadH rfl _ rfl (w.heap.size + 1) rfl nz 47 (0, 0) (by have := heap_alloc_new (w.alloc (.cells (hv nz) 47)) (.cells (hv nz) 47); simpa using this) ?_) | (refine wpList_storeH rfl _ _ rfl w.heap.size rfl nz nz 47 rfl (two_allocs_a w _ _) ?_; intro w1 hg1 hF1))
  exact bodyPost_ret (results_H1 Tryz.results75 _ _ w.heap.size 47 nz (0, 0) rfl hg1) rfl ⟨rfl, (((Below.refl _ w).alloc (Nat.le_refl _) _).alloc (by simp) _).trans (hF1.below (by simp; omega) (by simp))⟩
set_option maxRecDepth 100000 in
set_option maxHeartbeats 400000 in
theorem stopHash (rb : Nat) (u : TypeId) (x : Value) (w : World) (h1 : w.cell? ⟨rb, 1, none⟩ = some (.iface u x)) :
    Calls Tryz.prog 51 #[.pointer (some ⟨rb, 0, none⟩)] w fun e w' => e = .returned (.agg (hv nz)) ∧ Below w.heap.size w w' := by
  have hlt : rb < w.heap.size := World.block_lt_of_cell? w _ h1
  have h2 : (w.alloc (.cells (hv nz) 47)).cell? ⟨rb, 1, none⟩ = some (.iface u x) := by rw [World.cell?_alloc_lt _ _ ⟨rb, 1, none⟩ hlt]; exact h1
  go_enter Tryz.func51, Tryz.ntmps51
  go_wp2_with (first | (refine wpList_allocH rfl rfl ?_) | (go_at_call 75; refine (takeStopH rb u x _ h2).mono ?_; rintro e w1 ⟨rfl, hb1⟩) | (refine wpList_storeH rfl _ _ rfl w.heap.size rfl nz nz 47 rfl ((Frm.ofBelow (S := []) hb1).heap (heap_alloc_new w _) (by simp)) ?_; intro w2 hg2 hF2))
  have hb : Below w.heap.size w w1 := ((Below.refl _ w).alloc (Nat.le_refl _) _).trans (hb1.mono (by simp))
  exact bodyPost_ret (results_H1 Tryz.results51 _ _ w.heap.size 47 nz (0, 0) rfl hg2) rfl ⟨rfl, hb.trans (hF2.below hb.size (by simp))⟩
end Go.Proofs.YtfdcpbolofkopaaGreatDoor
