/- The writer's Hash; a nil writer's calls. -/
import Derived.Test.YtnjkgpgbipcgcaaDoorOwnShelf09
import Derived.Great.Ranges
namespace Go.Proofs.YtnjkgpgbipcgcaaDoor
open Go.RowKit

attribute [local go_sem ↓] Go.wp_at_zero Go.wp_at_succ

/-- A sum's bytes. -/
def hB (z : Nat → Int) : List Int := (List.range 32).map z
theorem hB_length (z : Nat → Int) : (hB z).length = 32 := by simp [hB]
theorem hB_bl (z : Nat → Int) : (hB z).map (Value.int .u8) = bl z 32 := by simp [hB, bl]

set_option maxRecDepth 100000 in
set_option maxHeartbeats 1600000 in
theorem wrHash_any (p B : Nat) (g : Option Nat) (l : List Int) (z : Nat → Int) (w : World) (hw : WrAt w B p g l) (hl : l.length + 32 ≤ 140737488355328) (hz : ∀ j, j < 32 → 0 ≤ z j ∧ z j ≤ 255) :
    Calls Tryd.prog 39 #[.pointer (some ⟨p, 0, none⟩), .agg (hv z)] w fun e w' => e = .returned (.pointer (some ⟨p, 0, none⟩)) ∧ WrGrown w w' B p g (l ++ hB z) := by
  obtain ⟨i0, hi0, hz0, hz1, hz2⟩ := info_parts Tryd.infoB
  have H : Hid (Tryd.prog.info? 5 = some i0 ∧ i0.zero = some (.int .u8 0) ∧ i0.size = 1 ∧ i0.bytes = 1) := ⟨hi0, hz0, hz1, hz2⟩
  clear hi0 hz0 hz1 hz2
  have HZ : Hid (∀ j, j < 32 → 0 ≤ z j ∧ z j ≤ 255) := hz
  clear hz
  obtain ⟨v, hp, hown, hg, hB0, hx⟩ := hw
  have hc := cell_of_one hp
  have hf := free_of_one hp
  have hplt := lt_of_block hp
  have hne : some p ≠ v.ownBlock := fun e => own_ne hown hp e.symm
  have HO : Hid (w.ownsRow B 5 1 v l.length (l.map (Value.int .u8))) := hown
  have HP : Hid (w.heap[p]? = some (.cells #[v] 114 (0, 0))) := hp
  clear hown hp
  have HN : Hid (((w.alloc (.cells (hv z) 31)).drew).heap[w.heap.size]? = some (.cells (hv z) 31 (0, 0))) := heap_alloc_new w (.cells (hv z) 31)
  go_enter Tryd.func39, Tryd.ntmps39
  go_wp2_with (refine Go.Great.wpList_boxTo rfl _ _ rfl _ rfl _ rfl (hv z) rfl ?_)
  go_region_law (refine step_append_lies _ (by rfl) _ _ _ (by rfl) B 5 i0 _ 1 1 Tryd.underlying37 H.out.1 H.out.2.1 H.out.2.2.1 H.out.2.2.2 rfl (by omega) v l.length (l.map (Value.int .u8)) (by rfl) ((HO.out.alloc _).drew) ⟨w.heap.size, 0, none⟩ 32 32 (bl z 32) (by rfl) (by simp [bl_length]) (by have := World.news_of_block HN.out; rw [hv_list] at this; exact this) (bl_one z 32) (by omega) (by simp [maxLen]; omega) (by simp; omega) (by simp; omega) (w.heap.size + 1) (by simp) ?_; intro gg cap w1 hown1 hgrow hat hlt1; have hp1 := grown_keep (((Frm.refl [] w).alloc _).drew) hgrow HP.out hne; have hc1 := cell_of_one hp1; have hf1 := free_of_one hp1)
  all_goals
    have R := wr_step (ys := hB z) HP.out (((Frm.refl [] w).alloc _).drew) (by rw [hB_bl, hB_length]; exact hown1) hgrow hat hg (.inl rfl) (Frm.refl _ w) hB0 hx (by intro y hy; simp [hB] at hy; obtain ⟨j, hj, rfl⟩ := hy; exact HZ.out j hj) hne
    rw [hB_length] at R
    clear hown1 hgrow hp1
    go_wp2
    go_ret
    exact ⟨rfl, R⟩

end Go.Proofs.YtnjkgpgbipcgcaaDoor
