/- Readers that have stopped, and none: zero values, and nothing turns. -/
import Derived.Test.YtelpkbdobeofgaaDoorRdHash
import Derived.Test.YtelpkbdobeofgaaDoorRdBytes
import Derived.Test.YtelpkbdobeofgaaDoorRefCount
namespace Go.Proofs.YtelpkbdobeofgaaDoor
open Go.RowKit

set_option maxHeartbeats 400000 in
theorem stopUint (rb : Nat) (most : Int) (u : TypeId) (x : Value) (w : World) (h1 : w.cell? ⟨rb, 1, none⟩ = some (.iface u x)) :
    Calls Tryd.prog 8 #[.pointer (some ⟨rb, 0, none⟩), .int .u64 most] w fun e w' => e = .returned (.int .u64 0) ∧ Below w.heap.size w w' := by
  have hlt : rb < w.heap.size := World.block_lt_of_cell? w _ h1
  go_enter Tryd.func8, Tryd.ntmps8
  go_wp2
  go_ret
  exact ⟨rfl, (by repeat (first | exact Below.refl _ _ | refine Below.alloc ?_ (by simp; try omega) _ | refine Below.setCell ?_ (by simp) _ | refine below_drewN ?_ _ | refine Below.drew ?_))⟩
set_option maxHeartbeats 400000 in
theorem nilUint (most : Int) (w : World) :
    Calls Tryd.prog 8 #[.pointer none, .int .u64 most] w fun e w' => e = .returned (.int .u64 0) ∧ Below w.heap.size w w' := by
  go_enter Tryd.func8, Tryd.ntmps8
  go_wp2
  go_ret
  exact ⟨rfl, (by repeat (first | exact Below.refl _ _ | refine Below.alloc ?_ (by simp; try omega) _ | refine Below.setCell ?_ (by simp) _ | refine below_drewN ?_ _ | refine Below.drew ?_))⟩
set_option maxHeartbeats 400000 in
theorem stopInt (rb : Nat) (u : TypeId) (x : Value) (w : World) (h1 : w.cell? ⟨rb, 1, none⟩ = some (.iface u x)) :
    Calls Tryd.prog 10 #[.pointer (some ⟨rb, 0, none⟩)] w fun e w' => e = .returned (.int .i64 0) ∧ Below w.heap.size w w' := by
  have hlt : rb < w.heap.size := World.block_lt_of_cell? w _ h1
  go_enter Tryd.func10, Tryd.ntmps10
  go_wp2
  go_ret
  exact ⟨rfl, (by repeat (first | exact Below.refl _ _ | refine Below.alloc ?_ (by simp; try omega) _ | refine Below.setCell ?_ (by simp) _ | refine below_drewN ?_ _ | refine Below.drew ?_))⟩
set_option maxHeartbeats 400000 in
theorem nilInt (w : World) :
    Calls Tryd.prog 10 #[.pointer none] w fun e w' => e = .returned (.int .i64 0) ∧ Below w.heap.size w w' := by
  go_enter Tryd.func10, Tryd.ntmps10
  go_wp2
  go_ret
  exact ⟨rfl, (by repeat (first | exact Below.refl _ _ | refine Below.alloc ?_ (by simp; try omega) _ | refine Below.setCell ?_ (by simp) _ | refine below_drewN ?_ _ | refine Below.drew ?_))⟩
set_option maxHeartbeats 400000 in
theorem stopCount (rb : Nat) (most : Int) (u : TypeId) (x : Value) (w : World) (h1 : w.cell? ⟨rb, 1, none⟩ = some (.iface u x)) :
    Calls Tryd.prog 12 #[.pointer (some ⟨rb, 0, none⟩), .int .i64 most] w fun e w' => e = .returned (.int .i64 0) ∧ Below w.heap.size w w' := by
  have hlt : rb < w.heap.size := World.block_lt_of_cell? w _ h1
  go_enter Tryd.func12, Tryd.ntmps12
  go_wp2
  go_ret
  exact ⟨rfl, (by repeat (first | exact Below.refl _ _ | refine Below.alloc ?_ (by simp; try omega) _ | refine Below.setCell ?_ (by simp) _ | refine below_drewN ?_ _ | refine Below.drew ?_))⟩
set_option maxHeartbeats 400000 in
theorem nilCount (most : Int) (w : World) :
    Calls Tryd.prog 12 #[.pointer none, .int .i64 most] w fun e w' => e = .returned (.int .i64 0) ∧ Below w.heap.size w w' := by
  go_enter Tryd.func12, Tryd.ntmps12
  go_wp2
  go_ret
  exact ⟨rfl, (by repeat (first | exact Below.refl _ _ | refine Below.alloc ?_ (by simp; try omega) _ | refine Below.setCell ?_ (by simp) _ | refine below_drewN ?_ _ | refine Below.drew ?_))⟩
set_option maxHeartbeats 400000 in
theorem stopBytes (rb : Nat) (most : Int) (u : TypeId) (x : Value) (w : World) (h1 : w.cell? ⟨rb, 1, none⟩ = some (.iface u x)) :
    Calls Tryd.prog 14 #[.pointer (some ⟨rb, 0, none⟩), .int .i64 most] w fun e w' => e = .returned (.slice none 0 0) ∧ Below w.heap.size w w' := by
  have hlt : rb < w.heap.size := World.block_lt_of_cell? w _ h1
  go_enter Tryd.func14, Tryd.ntmps14
  go_wp2
  go_ret
  exact ⟨rfl, (by repeat (first | exact Below.refl _ _ | refine Below.alloc ?_ (by simp; try omega) _ | refine Below.setCell ?_ (by simp) _ | refine below_drewN ?_ _ | refine Below.drew ?_))⟩
set_option maxHeartbeats 400000 in
theorem nilBytes (most : Int) (w : World) :
    Calls Tryd.prog 14 #[.pointer none, .int .i64 most] w fun e w' => e = .returned (.slice none 0 0) ∧ Below w.heap.size w w' := by
  go_enter Tryd.func14, Tryd.ntmps14
  go_wp2
  go_ret
  exact ⟨rfl, (by repeat (first | exact Below.refl _ _ | refine Below.alloc ?_ (by simp; try omega) _ | refine Below.setCell ?_ (by simp) _ | refine below_drewN ?_ _ | refine Below.drew ?_))⟩
set_option maxRecDepth 100000 in
set_option maxHeartbeats 400000 in
theorem takeStopH (rb : Nat) (u : TypeId) (x : Value) (w : World) (h1 : w.cell? ⟨rb, 1, none⟩ = some (.iface u x)) :
    Calls Tryd.prog 35 #[.pointer (some ⟨rb, 0, none⟩), .func (.func 36) #[] #[]] w fun e w' => e = .returned (.agg (hv nz)) ∧ Below w.heap.size w w' := by
  have hlt : rb < w.heap.size := World.block_lt_of_cell? w _ h1
  go_enter Tryd.func35, Tryd.ntmps35
  go_wp2_with (first | (refine wpList_allocH rfl rfl ?_) | (refine wpList_loadH rfl _ rfl (w.heap.size + 1) rfl nz 44 (0, 0) (by have := heap_alloc_new (w.alloc (.cells (hv nz) 44)) (.cells (hv nz) 44); simpa using this) ?_) | (refine wpList_storeH rfl _ _ rfl w.heap.size rfl nz nz 44 rfl (two_allocs_a w _ _) ?_; intro w1 hg1 hF1))
  exact bodyPost_ret (results_H1 Tryd.results35 _ _ w.heap.size 44 nz (0, 0) rfl hg1) rfl ⟨rfl, (((Below.refl _ w).alloc (Nat.le_refl _) _).alloc (by simp) _).trans (hF1.below (by simp; omega) (by simp))⟩
set_option maxRecDepth 100000 in
set_option maxHeartbeats 400000 in
theorem takeNilH (w : World) :
    Calls Tryd.prog 35 #[.pointer none, .func (.func 36) #[] #[]] w fun e w' => e = .returned (.agg (hv nz)) ∧ Below w.heap.size w w' := by
  go_enter Tryd.func35, Tryd.ntmps35
  go_wp2_with (first | (refine wpList_allocH rfl rfl ?_) | (refine wpList_loadH rfl _ rfl (w.heap.size + 1) rfl nz 44 (0, 0) (by have := heap_alloc_new (w.alloc (.cells (hv nz) 44)) (.cells (hv nz) 44); simpa using this) ?_) | (refine wpList_storeH rfl _ _ rfl w.heap.size rfl nz nz 44 rfl (two_allocs_a w _ _) ?_; intro w1 hg1 hF1))
  exact bodyPost_ret (results_H1 Tryd.results35 _ _ w.heap.size 44 nz (0, 0) rfl hg1) rfl ⟨rfl, (((Below.refl _ w).alloc (Nat.le_refl _) _).alloc (by simp) _).trans (hF1.below (by simp; omega) (by simp))⟩
set_option maxRecDepth 100000 in
set_option maxHeartbeats 400000 in
theorem stopHash (rb : Nat) (u : TypeId) (x : Value) (w : World) (h1 : w.cell? ⟨rb, 1, none⟩ = some (.iface u x)) :
    Calls Tryd.prog 16 #[.pointer (some ⟨rb, 0, none⟩)] w fun e w' => e = .returned (.agg (hv nz)) ∧ Below w.heap.size w w' := by
  have hlt : rb < w.heap.size := World.block_lt_of_cell? w _ h1
  have h2 : (w.alloc (.cells (hv nz) 44)).cell? ⟨rb, 1, none⟩ = some (.iface u x) := by rw [World.cell?_alloc_lt _ _ ⟨rb, 1, none⟩ hlt]; exact h1
  go_enter Tryd.func16, Tryd.ntmps16
  go_wp2_with (first | (refine wpList_allocH rfl rfl ?_) | (go_at_call 35; refine (takeStopH rb u x _ h2).mono ?_; rintro e w1 ⟨rfl, hb1⟩) | (refine wpList_storeH rfl _ _ rfl w.heap.size rfl nz nz 44 rfl ((Frm.ofBelow (S := []) hb1).heap (heap_alloc_new w _) (by simp)) ?_; intro w2 hg2 hF2))
  have hb : Below w.heap.size w w1 := ((Below.refl _ w).alloc (Nat.le_refl _) _).trans (hb1.mono (by simp))
  exact bodyPost_ret (results_H1 Tryd.results16 _ _ w.heap.size 44 nz (0, 0) rfl hg2) rfl ⟨rfl, hb.trans (hF2.below hb.size (by simp))⟩
set_option maxRecDepth 100000 in
set_option maxHeartbeats 400000 in
theorem nilHash (w : World) :
    Calls Tryd.prog 16 #[.pointer none] w fun e w' => e = .returned (.agg (hv nz)) ∧ Below w.heap.size w w' := by
  go_enter Tryd.func16, Tryd.ntmps16
  go_wp2_with (first | (refine wpList_allocH rfl rfl ?_) | (go_at_call 35; refine (takeNilH _).mono ?_; rintro e w1 ⟨rfl, hb1⟩) | (refine wpList_storeH rfl _ _ rfl w.heap.size rfl nz nz 44 rfl ((Frm.ofBelow (S := []) hb1).heap (heap_alloc_new w _) (by simp)) ?_; intro w2 hg2 hF2))
  have hb : Below w.heap.size w w1 := ((Below.refl _ w).alloc (Nat.le_refl _) _).trans (hb1.mono (by simp))
  exact bodyPost_ret (results_H1 Tryd.results16 _ _ w.heap.size 44 nz (0, 0) rfl hg2) rfl ⟨rfl, hb.trans (hF2.below hb.size (by simp))⟩
set_option maxRecDepth 100000 in
set_option maxHeartbeats 400000 in
theorem refStopUint (ad : Option Addr) (n cap : Nat) (most : Int) (er : Int) (w : World) (he : (er == 0) = false) :
    Calls Tryd.prog 7 #[.agg #[.slice ad n cap, .int .i64 er], .int .u64 most] w fun e w' => e = .returned (.tuple #[.agg #[.slice ad n cap, .int .i64 er], .int .u64 0]) ∧ Below w.heap.size w w' := by
  go_enter Tryd.func7, Tryd.ntmps7
  go_wp2
  exact bodyPost_ret (v := .tuple #[.agg #[.slice ad n cap, .int .i64 er], .int .u64 0]) (by simp [results, Tryd.results7, go_sem]) rfl ⟨rfl, (by repeat (first | exact Below.refl _ _ | refine Below.alloc ?_ (by simp; try omega) _ | refine Below.setCell ?_ (by simp) _ | refine below_drewN ?_ _ | refine Below.drew ?_))⟩
set_option maxRecDepth 100000 in
set_option maxHeartbeats 400000 in
theorem refStopInt (ad : Option Addr) (n cap : Nat) (er : Int) (w : World) (he : (er == 0) = false) :
    Calls Tryd.prog 9 #[.agg #[.slice ad n cap, .int .i64 er]] w fun e w' => e = .returned (.tuple #[.agg #[.slice ad n cap, .int .i64 er], .int .i64 0]) ∧ Below w.heap.size w w' := by
  go_enter Tryd.func9, Tryd.ntmps9
  go_wp2
  exact bodyPost_ret (v := .tuple #[.agg #[.slice ad n cap, .int .i64 er], .int .i64 0]) (by simp [results, Tryd.results9, go_sem]) rfl ⟨rfl, (by repeat (first | exact Below.refl _ _ | refine Below.alloc ?_ (by simp; try omega) _ | refine Below.setCell ?_ (by simp) _ | refine below_drewN ?_ _ | refine Below.drew ?_))⟩
set_option maxRecDepth 100000 in
set_option maxHeartbeats 400000 in
theorem refStopBytes (ad : Option Addr) (n cap : Nat) (most : Int) (er : Int) (w : World) (he : (er == 0) = false) :
    Calls Tryd.prog 13 #[.agg #[.slice ad n cap, .int .i64 er], .int .i64 most] w fun e w' => e = .returned (.tuple #[.agg #[.slice ad n cap, .int .i64 er], .slice none 0 0]) ∧ Below w.heap.size w w' := by
  go_enter Tryd.func13, Tryd.ntmps13
  go_wp2
  exact bodyPost_ret (v := .tuple #[.agg #[.slice ad n cap, .int .i64 er], .slice none 0 0]) (by simp [results, Tryd.results13, go_sem]) rfl ⟨rfl, (by repeat (first | exact Below.refl _ _ | refine Below.alloc ?_ (by simp; try omega) _ | refine Below.setCell ?_ (by simp) _ | refine below_drewN ?_ _ | refine Below.drew ?_))⟩
end Go.Proofs.YtelpkbdobeofgaaDoor
