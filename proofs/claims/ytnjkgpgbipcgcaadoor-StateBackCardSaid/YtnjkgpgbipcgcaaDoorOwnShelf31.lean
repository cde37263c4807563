/- blake.Keyed and blake.Sum. -/
import Derived.Test.YtnjkgpgbipcgcaaDoorOwnShelf30
namespace Go.Proofs.YtnjkgpgbipcgcaaDoor
open Go.RowKit

theorem newS_any (ad : Option Addr) (cap : Nat) (K : List Nat) (w : World) (hT : Tab w) (hK : SlB w ad K) (h2 : K.length ≤ 32) (hb : ∀ i, K.getD i 0 < 256) :
    Calls Tryd.prog 77 #[.slice ad K.length cap] w fun e w' => e = .returned (.tuple #[.pointer (some ⟨w.heap.size, 0, none⟩), .nilIface]) ∧ StAt w' w.heap.size (new0 K) 0 ∧ Frm [] w w' := by
  by_cases h0 : K.length = 0
  · have e : K = [] := List.eq_nil_of_length_eq_zero h0
    subst e
    refine (new_none ad cap w hT).mono ?_
    rintro e w' ⟨rfl, hp, hf⟩
    exact ⟨rfl, ⟨z64, 0, hp, z64_by, by omega, rfl⟩, hf⟩
  · refine (new_key w ad cap K hK (by omega) h2 hT).mono ?_
    rintro e w' ⟨rfl, hp, hf⟩
    have e : new0 K = ⟨Go.Proofs.YtnjkgpgbipcgcaaDoor.h0 K.length, 0, pad K⟩ := if_neg h0
    rw [e]
    exact ⟨rfl, ⟨pad K, 64, hp, pad_by (by omega) hb, by omega, by rw [List.take_of_length_le (by rw [pad_len (by omega)]; omega)]⟩, hf⟩
theorem SlB.below {w w' : World} {ad : Option Addr} {b : List Nat} (h : SlB w ad b) (hf : Frm [] w w') : SlB w' ad b := h.keep hf (fun _ _ _ _ => by simp)
theorem new0_t (K : List Nat) (h2 : K.length ≤ 32) : (new0 K).t + (new0 K).b.length ≤ 64 := by
  unfold new0
  split
  · simp
  · simp [pad_len (show K.length ≤ 64 by omega)]
theorem SlB.lt {w : World} {ad : Option Addr} {b : List Nat} (h : SlB w ad b) {g o : Nat} (e : ad = some ⟨g, o, none⟩) (hl : 0 < b.length) : g < w.heap.size := by
  obtain ⟨g', o', e', hr⟩ := h hl
  rw [e] at e'
  cases e'
  have h1 : (sl8 b)[0]? = some (.int .u8 (b.getD 0 0 : Nat)) := by
    simp [sl8, List.getElem?_eq_getElem hl, List.getD_eq_getElem?_getD]
  exact World.block_lt_of_cell? w _ (hr 0 _ h1)

theorem results_H2 {fn : Func} {p u : Tmp} (h : fn.results = #[.cell p 31, .tmp u]) (tmps : Array Value) (w : World) (g : Nat) (t : TypeId) (z : List Nat) (fr : Nat × Nat) (hz : z.length = 32)
    (hp : tmps.getD p undef = .pointer (some ⟨g, 0, none⟩)) (hg : w.heap[g]? = some (.cells (sv z) t fr)) :
    (results fn tmps).run Tryd.prog w = .ok (.tuple #[.agg (sv z), tmps.getD u undef]) w := by
  have hp' : tmps[p]?.getD undef = .pointer (some ⟨g, 0, none⟩) := by simpa using hp
  simp [results, h, hp', asAddr, run_loadVar_row w g t 31 (sv z) fr _ hg Tryd.underlying31 rfl (by rw [sv_size, hz]; exact hsz)]

set_option maxRecDepth 20000 in
set_option maxHeartbeats 4000000 in
theorem keyed_any (kd ad : Option Addr) (kc cap : Nat) (K b : List Nat) (w : World) (hT : Tab w) (hgl : 3 ≤ w.heap.size) (hK : SlB w kd K) (hkb : ∀ i, K.getD i 0 < 256) (h2 : K.length ≤ 32) (hB : SlB w ad b) (hb : ∀ i, b.getD i 0 < 256) (hcap : b.length ≤ cap) (hl : b.length ≤ 140737488355328) :
    Calls Tryd.prog 54 #[.slice kd K.length kc, .slice ad b.length cap] w fun e w' => e = .returned (.tuple #[.agg (sv (keyedF K b)), .nilIface]) ∧ Below w.heap.size w w' := by
  have hn0 : (w.alloc (.cells (sv z32) 31)).heap[w.heap.size]? = some (.cells (sv z32) 31 (0, 0)) := heap_alloc_new w _
  have hF0 : Frm [] w (w.alloc (.cells (sv z32) 31)) := (Frm.refl [] w).alloc _
  have hl0 : (w.alloc (.cells (sv z32) 31)).heap.size = w.heap.size + 1 := by simp
  have hcall := newS_any kd kc K (w.alloc (.cells (sv z32) 31)) (hT.frm hF0 (by simp)) (hK.below hF0) h2 hkb
  rw [hl0] at hcall
  go_enter Tryd.func54, Tryd.ntmps54
  go_wp2_with (first | (refine wpList_allocHs rfl rfl ?_) | fail)
  refine hcall.mono ?_
  rintro e W1 ⟨rfl, hst1, hf1⟩
  clear hcall
  have hF1 : Frm [] w W1 := hF0.trans hf1
  have hr1 : W1.heap[w.heap.size]? = some (.cells (sv z32) 31 (0, 0)) := hf1.heap hn0 (by simp)
  have hok := new0_ok h2 hkb
  have hnt := new0_t K h2
  have hB1 := hB.below hF1
  have hcall := write_any (w.heap.size + 1) (new0 K) 0 ad cap b W1 hst1 hok (hT.frm hF1 (by simp)) (by omega) hB1 hcap hb (fun g o e hlb => by have := hB.lt e hlb; omega) (by omega) (by omega) (by omega)
  clear hn0 hF0 hl0 hf1 hst1
  go_wp2_with fail
  refine hcall.mono ?_
  rintro e W2 ⟨rfl, hst2, hf2⟩
  clear hcall
  have hF2 : Frm [] w W2 := ((hF1.mono (T := [w.heap.size + 1]) (by simp)).trans hf2).old (fun k hk hlt => by simp at hk; omega)
  have hr2 : W2.heap[w.heap.size]? = some (.cells (sv z32) 31 (0, 0)) := hf2.heap hr1 (by simp)
  have hcall := sumSt_any (w.heap.size + 1) (feed (new0 K) b) _ W2 hst2 (feed_ok b _ hok hb) (hT.frm hF2 (by simp)) (by omega) (by rw [feed_t]; omega)
  clear hr1 hF1 hst2 hf2 hB1
  go_wp2_with fail
  refine hcall.mono ?_
  rintro e W3 ⟨rfl, hb3⟩
  clear hcall
  have hF3 : Frm [] w W3 := hF2.trans (Frm.ofBelow hb3)
  have hr3 : W3.heap[w.heap.size]? = some (.cells (sv z32) 31 (0, 0)) := by rw [hb3.block _ (lt_of_block hr2)]; exact hr2
  obtain ⟨R, hR⟩ : ∃ R, R = sumS (feed (new0 K) b) := ⟨_, rfl⟩
  have hRl : R.length = 32 := by rw [hR]; exact endL_len _
  rw [← hR]
  have HR : Hid (R = keyedF K b) := hR
  clear hR hb3 hr2 hF2
  go_wp2_with (first | (refine wpList_storeRow 31 hsz rfl _ _ rfl w.heap.size rfl (sv R) (sv z32) (by rw [sv_size, hRl]) (by simp [sv_size, z32]) (sv_one _) 31 rfl hr3 ?_; intro w2 hg2 hf2) | fail)
  have h1 : Frm [w.heap.size] w w2 := (hF3.mono (by simp)).trans hf2
  exact bodyPost_ret (results_H2 Tryd.results54 _ w2 w.heap.size 31 R (0, 0) hRl rfl hg2) rfl ⟨by rw [← HR.out]; rfl, h1.below (Nat.le_refl _) (by simp)⟩

theorem keyed_long (kd ad : Option Addr) (n kc m cap : Nat) (w : World) (hn : 32 < n) :
    Calls Tryd.prog 54 #[.slice kd n kc, .slice ad m cap] w fun e w' => e = .returned (.tuple #[.agg (sv z32), errV 2]) ∧ Below w.heap.size w w' := by
  have hn0 := heap_alloc_new w (.cells (sv z32) 31)
  have hb0 : Below w.heap.size w (w.alloc (.cells (sv z32) 31)) := (Below.refl _ w).alloc (Nat.le_refl _) _
  have hcall := new_long kd n kc (w.alloc (.cells (sv z32) 31)) hn
  rw [errV_ne (by decide)] at hcall ⊢
  go_enter Tryd.func54, Tryd.ntmps54
  go_wp2_with (first | (refine wpList_allocHs rfl rfl ?_) | fail)
  refine hcall.mono ?_
  rintro e W1 ⟨rfl, rfl⟩
  clear hcall
  go_wp2_with (first | (refine wpList_buildHs rfl rfl ?_) | (refine wpList_storeRow 31 hsz rfl _ _ rfl w.heap.size rfl (sv z32) (sv z32) (by simp [sv_size, z32]) (by simp [sv_size, z32]) (sv_one _) 31 rfl hn0 ?_; intro w2 hg2 hf2) | fail)
  exact bodyPost_ret (results_H2 Tryd.results54 _ w2 w.heap.size 31 z32 (0, 0) rfl rfl hg2) rfl ⟨rfl, hb0.trans (hf2.below (by simp) (by simp))⟩

set_option maxRecDepth 20000 in
theorem sum_any (ad : Option Addr) (cap : Nat) (b : List Nat) (w : World) (hT : Tab w) (hgl : 3 ≤ w.heap.size) (hB : SlB w ad b) (hb : ∀ i, b.getD i 0 < 256) (hcap : b.length ≤ cap) (hl : b.length ≤ 140737488355328) :
    Calls Tryd.prog 26 #[.slice ad b.length cap] w fun e w' => e = .returned (.agg (sv (sumF b))) ∧ Below w.heap.size w w' := by
  have hn0 : (w.alloc (.cells (sv z32) 31)).heap[w.heap.size]? = some (.cells (sv z32) 31 (0, 0)) := heap_alloc_new w _
  have hF0 : Frm [] w (w.alloc (.cells (sv z32) 31)) := (Frm.refl [] w).alloc _
  have hl0 : w.heap.size < (w.alloc (.cells (sv z32) 31)).heap.size := by simp
  have hcall := keyed_any none ad 0 cap [] b (w.alloc (.cells (sv z32) 31)) (hT.frm hF0 (by simp)) (by omega) (SlB.nil _ _) (by simp) (by simp) (hB.below hF0) hb hcap hl
  have hRl : (sumF b).length = 32 := endL_len _
  obtain ⟨R, hR⟩ : ∃ R, R = keyedF [] b := ⟨_, rfl⟩
  rw [← hR] at hcall
  rw [show sumF b = R from hR.symm] at hRl ⊢
  clear hR
  go_enter Tryd.func26, Tryd.ntmps26
  go_wp2_with (first | (refine wpList_allocHs rfl rfl ?_) | fail)
  refine hcall.mono ?_
  rintro e W1 ⟨rfl, hb1⟩
  clear hcall
  have hr1 : W1.heap[w.heap.size]? = some (.cells (sv z32) 31 (0, 0)) := by rw [hb1.block _ hl0]; exact hn0
  have hF1 : Frm [] w W1 := hF0.trans (Frm.ofBelow hb1)
  have hl1 := lt_of_block hr1
  have hn1 := heap_alloc_new W1 (.cells (sv z32) 31)
  have hr2 : (W1.alloc (.cells (sv z32) 31)).heap[w.heap.size]? = some (.cells (sv z32) 31 (0, 0)) := by rw [Below.heap_alloc _ _ _ hl1]; exact hr1
  have HF2 : Hid (Frm [] w (W1.alloc (.cells (sv z32) 31))) := hF1.alloc _
  clear hb1 hn0 hF0 hl0 hr1 hF1
  go_wp2_with (first | (refine wpList_allocHs rfl rfl ?_) | (refine wpList_storeRow 31 hsz rfl _ _ rfl W1.heap.size rfl (sv R) (sv z32) (by rw [sv_size, hRl]) (by simp [sv_size, z32]) (sv_one _) 31 rfl hn1 ?_; intro W2 hg2 hf2; have hr3 : W2.heap[w.heap.size]? = some (.cells (sv z32) 31 (0, 0)) := hf2.heap hr2 (by simp; omega); have HF3 : Hid (Frm [W1.heap.size] (W1.alloc (.cells (sv z32) 31)) W2) := hf2; clear hf2) | (refine wpList_loadHs rfl _ rfl W1.heap.size rfl R hRl _ _ hg2 ?_) | (refine wpList_storeRow 31 hsz rfl _ _ rfl w.heap.size rfl (sv R) (sv z32) (by rw [sv_size, hRl]) (by simp [sv_size, z32]) (sv_one _) 31 rfl hr3 ?_; intro W3 hg3 hf3) | fail)
  have h1 : Frm [W1.heap.size, w.heap.size] w W3 := ((HF2.out.mono (by simp)).trans (HF3.out.mono (by simp))).trans (hf3.mono (by simp))
  exact bodyPost_ret (results_cell_row Tryd.results26 _ W3 w.heap.size 31 (sv R) (0, 0) _ rfl hg3 Tryd.underlying31 rfl (by rw [sv_size, hRl]; exact hsz)) rfl ⟨rfl, h1.below (Nat.le_refl _) (by simp; omega)⟩
end Go.Proofs.YtnjkgpgbipcgcaaDoor
