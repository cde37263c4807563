/- What enc.frontHash answers. -/
import Derived.Test.YtfdcpbolofkopaaGreatDoorEKit
namespace Go.Proofs.YtfdcpbolofkopaaGreatDoor
open Go.RowKit

theorem two_allocs_a (w : World) (o o' : Obj) : ((w.alloc o).alloc o').heap[w.heap.size]? = some o := by
  rw [Below.heap_alloc _ _ _ (by simp)]; exact heap_alloc_new w o

set_option maxHeartbeats 400000 in
theorem frontHash_short (ad : Option Addr) (n cap : Nat) (w : World) (hn : n < 32) :
    Calls Tryz.prog 76 #[.slice ad n cap] w fun e w' => e = .returned (.tuple #[.agg (hv nz), .int .i64 0, .iface 61 (.int .i64 12)]) ∧ Below w.heap.size w w' := by
  go_enter Tryz.func76, Tryz.ntmps76
  go_wp2_with (first | (refine wpList_allocH rfl rfl ?_) | (refine wpList_loadH rfl _ rfl (w.heap.size + 1) rfl nz 47 (0, 0) (by have := heap_alloc_new (w.alloc (.cells (hv nz) 47)) (.cells (hv nz) 47); simpa using this) ?_) | (refine wpList_storeH rfl _ _ rfl w.heap.size rfl nz nz 47 rfl (by rw [Below.heap_alloc _ _ _ (by simp)]; exact heap_alloc_new w _) ?_; intro w1 hg1 hF1))
  refine bodyPost_ret (results_H3 Tryz.results76 _ _ w.heap.size 47 nz (0, 0) rfl hg1) rfl ⟨rfl, ?_⟩
  exact (((Below.refl _ w).alloc (Nat.le_refl _) _).alloc (by simp) _).trans (hF1.below (by simp; omega) (by simp))

set_option maxRecDepth 100000 in
set_option maxHeartbeats 400000 in
theorem frontHash_long (b off n cap : Nat) (z : Nat → Int) (w : World) (hn : 32 ≤ n) (hc : ∀ j, j < n → w.cell? ⟨b, off + j, none⟩ = some (.int .u8 (z j))) :
    Calls Tryz.prog 76 #[.slice (some ⟨b, off, none⟩) n cap] w fun e w' => e = .returned (.tuple #[.agg (hv z), .int .i64 32, .nilIface]) ∧ Below w.heap.size w w' := by
  have hblt : b < w.heap.size := World.block_lt_of_cell? w ⟨b, off + 0, none⟩ (hc 0 (by omega))
  have hnews : ∀ j u, (bl z 32)[j]? = some u → ((w.alloc (.cells (hv nz) 47)).alloc (.cells (hv nz) 47)).cell? ((⟨b, off, none⟩ : Addr).add j) = some u := by
    intro j u h
    obtain ⟨hj, rfl⟩ := bl_get h
    rw [Addr.add_lit, World.cell?_alloc_lt _ _ _ (by simp; omega), World.cell?_alloc_lt _ _ _ (by simpa using hblt)]
    exact hc j (by omega)
  have HN : Hid (∀ j u, (bl z 32)[j]? = some u → ((w.alloc (.cells (hv nz) 47)).alloc (.cells (hv nz) 47)).cell? ((⟨b, off, none⟩ : Addr).add j) = some u) := hnews
  clear hnews hc
  go_enter Tryz.func76, Tryz.ntmps76
  go_wp2_with (first | (refine wpList_allocH rfl rfl ?_) | (refine wpList_copyH (z := z) (u := nz) rfl _ _ rfl (w.heap.size + 1) ⟨b, off, none⟩ n cap rfl rfl 47 (by have := heap_alloc_new (w.alloc (.cells (hv nz) 47)) (.cells (hv nz) 47); simpa using this) hn HN.out ?_; intro w1 hg1 hF1; have hg0 := hF1.heap (two_allocs_a w _ _) (by simp)) | (refine wpList_loadH rfl _ rfl (w.heap.size + 1) rfl z 47 (0, 0) hg1 ?_) | (refine wpList_storeH rfl _ _ rfl w.heap.size rfl z nz 47 rfl hg0 ?_; intro w2 hg2 hF2))
  refine bodyPost_ret (results_H3 Tryz.results76 _ _ w.heap.size 47 z (0, 0) rfl hg2) rfl ⟨rfl, ?_⟩
  have hb1 : Below w.heap.size w w1 := (((Below.refl _ w).alloc (Nat.le_refl _) _).alloc (by simp) _).trans (hF1.below (by simp; omega) (by simp))
  exact hb1.trans (hF2.below hb1.size (by simp))
end Go.Proofs.YtfdcpbolofkopaaGreatDoor
