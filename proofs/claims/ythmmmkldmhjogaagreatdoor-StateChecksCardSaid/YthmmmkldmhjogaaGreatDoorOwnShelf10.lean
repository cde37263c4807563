/- Readers that have stopped: zero values, and nothing turns. -/
import Derived.Test.YthmmmkldmhjogaaGreatDoorOwnShelf09
namespace Go.Proofs.YthmmmkldmhjogaaGreatDoor
open Go.RowKit

set_option maxHeartbeats 400000 in
theorem stopUint (rb : Nat) (most : Int) (u : TypeId) (x : Value) (w : World) (h1 : w.cell? ⟨rb, 1, none⟩ = some (.iface u x)) :
  Calls Tryz.prog 52 #[.pointer (some ⟨rb, 0, none⟩), .int .u64 most] w fun e w' => e = .returned (.int .u64 0) ∧ Below w.heap.size w w' := by
 have hlt : rb < w.heap.size := World.block_lt_of_cell? w _ h1
 go_enter Tryz.func52, Tryz.ntmps52
 go_wp2
 go_ret
 exact ⟨rfl, (by repeat (first | exact Below.refl _ _ | refine Below.alloc ?_ (by simp; try omega) _ | refine Below.setCell ?_ (by simp) _ | refine below_drewN ?_ _ | refine Below.drew ?_))⟩
set_option maxHeartbeats 400000 in
theorem stopCount (rb : Nat) (most : Int) (u : TypeId) (x : Value) (w : World) (h1 : w.cell? ⟨rb, 1, none⟩ = some (.iface u x)) :
  Calls Tryz.prog 22 #[.pointer (some ⟨rb, 0, none⟩), .int .i64 most] w fun e w' => e = .returned (.int .i64 0) ∧ Below w.heap.size w w' := by
 have hlt : rb < w.heap.size := World.block_lt_of_cell? w _ h1
 go_enter Tryz.func22, Tryz.ntmps22
 go_wp2
 go_ret
 exact ⟨rfl, (by repeat (first | exact Below.refl _ _ | refine Below.alloc ?_ (by simp; try omega) _ | refine Below.setCell ?_ (by simp) _ | refine below_drewN ?_ _ | refine Below.drew ?_))⟩
set_option maxRecDepth 100000 in
set_option maxHeartbeats 400000 in
theorem takeStopH (rb : Nat) (u : TypeId) (x : Value) (w : World) (h1 : w.cell? ⟨rb, 1, none⟩ = some (.iface u x)) :
  Calls Tryz.prog 77 #[.pointer (some ⟨rb, 0, none⟩), .func (.func 78) #[] #[]] w fun e w' => e = .returned (.agg (hv nz)) ∧ Below w.heap.size w w' := by
 have hlt : rb < w.heap.size := World.block_lt_of_cell? w _ h1
 go_enter Tryz.func77, Tryz.ntmps77
 go_wp2_with (first | (refine wpList_allocH rfl rfl ?_) | (refine wpList_loadH rfl _ rfl (w.heap.size + 1) rfl nz 48 (0, 0) (by have := heap_alloc_new (w.alloc (.cells (hv nz) 48)) (.cells (hv nz) 48); simpa using this) ?_) | (refine wpList_storeH rfl _ _ rfl w.heap.size rfl nz nz 48 rfl (two_allocs_a w _ _) ?_; intro w1 hg1 hF1))
 exact bodyPost_ret (results_H1 Tryz.results77 _ _ w.heap.size 48 nz (0, 0) rfl hg1) rfl ⟨rfl, (((Below.refl _ w).alloc (Nat.le_refl _) _).alloc (by simp) _).trans (hF1.below (by simp; omega) (by simp))⟩
set_option maxRecDepth 100000 in
set_option maxHeartbeats 400000 in
theorem stopHash (rb : Nat) (u : TypeId) (x : Value) (w : World) (h1 : w.cell? ⟨rb, 1, none⟩ = some (.iface u x)) :
  Calls Tryz.prog 56 #[.pointer (some ⟨rb, 0, none⟩)] w fun e w' => e = .returned (.agg (hv nz)) ∧ Below w.heap.size w w' := by
 have hlt : rb < w.heap.size := World.block_lt_of_cell? w _ h1
 have h2 : (w.alloc (.cells (hv nz) 48)).cell? ⟨rb, 1, none⟩ = some (.iface u x) := by rw [World.cell?_alloc_lt _ _ ⟨rb, 1, none⟩ hlt]; exact h1
 go_enter Tryz.func56, Tryz.ntmps56
 go_wp2_with (first | (refine wpList_allocH rfl rfl ?_) | (go_at_call 77; refine (takeStopH rb u x _ h2).mono ?_; rintro e w1 ⟨rfl, hb1⟩) | (refine wpList_storeH rfl _ _ rfl w.heap.size rfl nz nz 48 rfl ((Frm.ofBelow (S := []) hb1).heap (heap_alloc_new w _) (by simp)) ?_; intro w2 hg2 hF2))
 have hb : Below w.heap.size w w1 := ((Below.refl _ w).alloc (Nat.le_refl _) _).trans (hb1.mono (by simp))
 exact bodyPost_ret (results_H1 Tryz.results56 _ _ w.heap.size 48 nz (0, 0) rfl hg2) rfl ⟨rfl, hb.trans (hF2.below hb.size (by simp))⟩
end Go.Proofs.YthmmmkldmhjogaaGreatDoor
/- The reader's Done. -/
namespace Go.Proofs.YthmmmkldmhjogaaGreatDoor
open Go.RowKit

/-- What Done answers of n bytes that are left, with an error. -/
def dn (n : Nat) (er : Int) : Int := if er = 0 ∧ 0 < n then 3 else er

set_option maxHeartbeats 400000 in
theorem done_err (rb : Nat) (x : Int) (w : World) (h1 : w.cell? ⟨rb, 1, none⟩ = some (.iface 67 (.int .i64 x))) :
  Calls Tryz.prog 25 #[.pointer (some ⟨rb, 0, none⟩)] w fun e w' => e = .returned (.iface 67 (.int .i64 x)) ∧ w' = w := by
 go_enter Tryz.func25, Tryz.ntmps25
 go_wp2
 go_ret
 exact ⟨rfl, rfl⟩
set_option maxHeartbeats 400000 in
theorem done_left (rb n cap : Nat) (ad : Option Addr) (w : World) (h0 : w.cell? ⟨rb, 0, none⟩ = some (.slice ad n cap)) (h1 : w.cell? ⟨rb, 1, none⟩ = some .nilIface) (hn : 0 < n) :
  Calls Tryz.prog 25 #[.pointer (some ⟨rb, 0, none⟩)] w fun e w' => e = .returned (.iface 67 (.int .i64 3)) ∧ w' = w := by
 go_enter Tryz.func25, Tryz.ntmps25
 go_wp2
 go_ret
 exact ⟨rfl, rfl⟩
set_option maxHeartbeats 400000 in
theorem done_nil (rb cap : Nat) (ad : Option Addr) (w : World) (h0 : w.cell? ⟨rb, 0, none⟩ = some (.slice ad 0 cap)) (h1 : w.cell? ⟨rb, 1, none⟩ = some .nilIface) :
  Calls Tryz.prog 25 #[.pointer (some ⟨rb, 0, none⟩)] w fun e w' => e = .returned .nilIface ∧ w' = w := by
 go_enter Tryz.func25, Tryz.ntmps25
 go_wp2
 go_ret
 exact ⟨rfl, rfl⟩
theorem done_any (rb n : Nat) (z : Nat → Int) (er : Int) (w : World) (h : RdAt w rb n z er) :
  Calls Tryz.prog 25 #[.pointer (some ⟨rb, 0, none⟩)] w fun e w' => e = .returned (errV (dn n er)) ∧ w' = w := by
 obtain ⟨ad, cap, hr, hlc, hs, -⟩ := h
 by_cases he : er = 0
 ·subst he
  by_cases hn : 0 < n
  ·have : dn n 0 = 3 := by simp [dn, hn]
   rw [this]
   exact done_left rb n cap ad w (two_cell0 hr) (two_cell1 hr) hn
  ·have h0 : n = 0 := by omega
   subst h0
   have : dn 0 0 = 0 := by simp [dn]
   rw [this]
   exact done_nil rb cap ad w (two_cell0 hr) (two_cell1 hr)
 ·have : dn n er = er := by simp [dn, he]
  rw [this, errV_ne he]
  have h1 := two_cell1 hr
  rw [errV_ne he] at h1
  exact done_err rb er w h1

end Go.Proofs.YthmmmkldmhjogaaGreatDoor
