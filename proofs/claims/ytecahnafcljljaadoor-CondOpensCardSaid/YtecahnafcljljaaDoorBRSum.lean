/- The document's Keyed, whatever the key, and its Sum. -/
import Derived.Test.YtecahnafcljljaaDoorBRKeyed
namespace Go.Proofs.YtecahnafcljljaaDoor
open Go.RowKit

theorem rkeyed_any (kd ad : Option Addr) (kc cap : Nat) (K b : List Nat) (w : World) (hK : SlB w kd K) (hkb : ∀ i, K.getD i 0 < 256) (h2 : K.length ≤ 32) (hB : SlB w ad b) (hbn : ad = none → b.length = 0) (hb : ∀ i, b.getD i 0 < 256) (hl : b.length ≤ 140737488351232) :
    Calls Tryd.prog 28 #[.slice kd K.length kc, .slice ad b.length cap] w fun e w' => e = .returned (.tuple #[.agg (sv (keyedF K b)), .int .i64 0]) ∧ Below w.heap.size w w' := by
  by_cases h0 : K.length = 0
  · obtain rfl := List.eq_nil_of_length_eq_zero h0
    exact rkeyed_none kd ad kc cap b w hB hbn hb hl
  · exact rkeyed_some kd ad kc cap K b w hK hkb h2 (by omega) hB hbn hb hl

theorem rkeyed_long (kd ad : Option Addr) (n kc m cap : Nat) (w : World) (hn : 32 < n) :
    Calls Tryd.prog 28 #[.slice kd n kc, .slice ad m cap] w fun e w' => e = .returned (.tuple #[.agg (sv z32), .int .i64 2]) ∧ Below w.heap.size w w' := by
  have hn' : 32 < (n : Int) := by omega
  have hn0 : ((w.alloc (.cells (sv z32) 44)).alloc (.cells (sv z32) 44)).heap[w.heap.size]? = some (.cells (sv z32) 44 (0, 0)) := by
    rw [Below.heap_alloc _ _ _ (by simp)]; exact heap_alloc_new w _
  have hn1 : ((w.alloc (.cells (sv z32) 44)).alloc (.cells (sv z32) 44)).heap[w.heap.size + 1]? = some (.cells (sv z32) 44 (0, 0)) := by
    have := heap_alloc_new (w.alloc (.cells (sv z32) 44)) (.cells (sv z32) 44)
    simpa using this
  have hF0 : Frm [] w ((w.alloc (.cells (sv z32) 44)).alloc (.cells (sv z32) 44)) := ((Frm.refl [] w).alloc _).alloc _
  go_enter Tryd.func28, Tryd.ntmps28
  go_upto_region 2 with (first | (refine wpList_allocHs rfl rfl ?_) | fail)
  generalize (w.alloc (.cells (sv z32) 44)).alloc (.cells (sv z32) 44) = W0 at *
  go_wp2_with (first | (refine wpList_loadHs rfl _ rfl (w.heap.size + 1) rfl z32 rfl _ _ hn1 ?_) | (refine wpList_storeRow 44 hsz rfl _ _ rfl w.heap.size rfl (sv z32) (sv z32) (by simp [sv_size, z32]) (by simp [sv_size, z32]) (sv_one _) 44 rfl hn0 ?_; intro w2 hg2 hf2) | fail)
  have h1 : Frm [w.heap.size] w w2 := (hF0.mono (by simp)).trans hf2
  exact bodyPost_ret (results_H2 Tryd.results28 _ w2 w.heap.size 44 z32 (0, 0) rfl rfl hg2) rfl ⟨rfl, h1.below (Nat.le_refl _) (by simp)⟩

set_option maxRecDepth 20000 in
theorem rsum_any (ad : Option Addr) (cap : Nat) (b : List Nat) (w : World) (hB : SlB w ad b) (hbn : ad = none → b.length = 0) (hb : ∀ i, b.getD i 0 < 256) (hl : b.length ≤ 140737488351232) :
    Calls Tryd.prog 15 #[.slice ad b.length cap] w fun e w' => e = .returned (.agg (sv (sumF b))) ∧ Below w.heap.size w w' := by
  have hn0 : (w.alloc (.cells (sv z32) 44)).heap[w.heap.size]? = some (.cells (sv z32) 44 (0, 0)) := heap_alloc_new w _
  have hF0 : Frm [] w (w.alloc (.cells (sv z32) 44)) := (Frm.refl [] w).alloc _
  have hl0 : w.heap.size < (w.alloc (.cells (sv z32) 44)).heap.size := by simp
  have hcall := rkeyed_none none ad 0 cap b (w.alloc (.cells (sv z32) 44)) (hB.below hF0) hbn hb hl
  have hRl : (sumF b).length = 32 := endL_len _
  obtain ⟨R, hR⟩ : ∃ R, R = keyedF [] b := ⟨_, rfl⟩
  rw [← hR] at hcall
  rw [show sumF b = R from hR.symm] at hRl ⊢
  clear hR
  go_enter Tryd.func15, Tryd.ntmps15
  go_wp2_with (first | (refine wpList_allocHs rfl rfl ?_) | fail)
  refine hcall.mono ?_
  rintro e W1 ⟨rfl, hb1⟩
  clear hcall
  have hr1 : W1.heap[w.heap.size]? = some (.cells (sv z32) 44 (0, 0)) := by rw [hb1.block _ hl0]; exact hn0
  have hF1 : Frm [] w W1 := hF0.trans (Frm.ofBelow hb1)
  have hl1 := lt_of_block hr1
  have hn1 := heap_alloc_new W1 (.cells (sv z32) 44)
  have hr2 : (W1.alloc (.cells (sv z32) 44)).heap[w.heap.size]? = some (.cells (sv z32) 44 (0, 0)) := by rw [Below.heap_alloc _ _ _ hl1]; exact hr1
  have HF2 : Hid (Frm [] w (W1.alloc (.cells (sv z32) 44))) := hF1.alloc _
  clear hb1 hn0 hF0 hl0 hr1 hF1
  go_wp2_with (first | (refine wpList_allocHs rfl rfl ?_) | (refine wpList_storeRow 44 hsz rfl _ _ rfl W1.heap.size rfl (sv R) (sv z32) (by rw [sv_size, hRl]) (by simp [sv_size, z32]) (sv_one _) 44 rfl hn1 ?_; intro W2 hg2 hf2; have hr3 : W2.heap[w.heap.size]? = some (.cells (sv z32) 44 (0, 0)) := hf2.heap hr2 (by simp; omega); have HF3 : Hid (Frm [W1.heap.size] (W1.alloc (.cells (sv z32) 44)) W2) := hf2; clear hf2) | (refine wpList_loadHs rfl _ rfl W1.heap.size rfl R hRl _ _ hg2 ?_) | (refine wpList_storeRow 44 hsz rfl _ _ rfl w.heap.size rfl (sv R) (sv z32) (by rw [sv_size, hRl]) (by simp [sv_size, z32]) (sv_one _) 44 rfl hr3 ?_; intro W3 hg3 hf3) | fail)
  have h1 : Frm [W1.heap.size, w.heap.size] w W3 := ((HF2.out.mono (by simp)).trans (HF3.out.mono (by simp))).trans (hf3.mono (by simp))
  exact bodyPost_ret (results_cell_row Tryd.results15 _ W3 w.heap.size 44 (sv R) (0, 0) _ rfl hg3 Tryd.underlying44 rfl (by rw [sv_size, hRl]; exact hsz)) rfl ⟨rfl, h1.below (Nat.le_refl _) (by simp; omega)⟩
end Go.Proofs.YtecahnafcljljaaDoor
