/- state.Sum. -/
import Derived.Test.YtnjkgpgbipcgcaaDoorOwnShelf15
import Derived.Test.YtnjkgpgbipcgcaaDoorOwnShelf31
import Derived.Test.YtnjkgpgbipcgcaaDoorOwnShelf33
namespace Go.Proofs.YtnjkgpgbipcgcaaDoor
open Go.RowKit

/-- Bytes as numbers. -/
def nb (L : List Int) : List Nat := L.map Int.toNat
theorem nb_length (L : List Int) : (nb L).length = L.length := by simp [nb]
theorem nb_lt {L : List Int} (h : ∀ j, j < L.length → 0 ≤ fn L j ∧ fn L j ≤ 255) (i : Nat) : (nb L).getD i 0 < 256 := by
  by_cases hi : i < L.length
  · have := h i hi
    rw [fn_get L i hi] at this
    simp only [nb, List.getD_eq_getElem?_getD, List.getElem?_map, List.getElem?_eq_getElem hi, Option.map_some, Option.getD_some]
    omega
  · simp [nb, List.getD_eq_getElem?_getD, List.getElem?_eq_none (Nat.le_of_not_lt hi)]
theorem slB_of {w : World} {ad : Option Addr} {L : List Int} (h : SlAt w ad L.length (fn L)) : SlB w ad (nb L) := by
  intro hn
  rw [nb_length] at hn
  obtain ⟨b, off, e, hc⟩ := h.2 hn
  refine ⟨b, off, e, fun j v hv => ?_⟩
  simp only [sl8, nb, List.map_map, List.getElem?_map] at hv
  obtain ⟨x, hx, rfl⟩ := Option.map_eq_some_iff.1 hv
  obtain ⟨hj, rfl⟩ := List.getElem?_eq_some_iff.1 hx
  rw [hc j hj, fn_get L j hj]
  have := h.1 j hj
  rw [fn_get L j hj] at this
  simp only [Function.comp]
  congr 2
  omega
set_option maxRecDepth 20000 in
set_option maxHeartbeats 1600000 in
theorem stSum_any (s : Sv) (p : Pl) (w : World) (h : SvAt w s p) (hs : s.Small) (hT : Tab w) (hgl : 3 ≤ w.heap.size) :
    Calls Tryd.prog 19 #[.agg (svv s p)] w fun e w' => e = .returned (.agg (sv (sumF (nb (laidS s))))) ∧ Below w.heap.size w w' := by
  have hRl : (sumF (nb (laidS s))).length = 32 := endL_len _
  have hb0 : Below w.heap.size w ((w.alloc (.cells (svv s p) 28)).alloc (.cells (sv z32) 31)) := ((Below.refl _ w).alloc (Nat.le_refl _) _).alloc (by simp) _
  have hr0 : ((w.alloc (.cells (svv s p) 28)).alloc (.cells (sv z32) 31)).heap[w.heap.size]? = some (.cells (svv s p) 28 (0, 0)) := by rw [Below.heap_alloc _ _ _ (by simp)]; exact heap_alloc_new w _
  have hz0 : ((w.alloc (.cells (svv s p) 28)).alloc (.cells (sv z32) 31)).heap[w.heap.size + 1]? = some (.cells (sv z32) 31 (0, 0)) := by
    have := heap_alloc_new (w.alloc (.cells (svv s p) 28)) (.cells (sv z32) 31)
    simpa using this
  have hc := encode_cap s p _ (h.below hb0) hs
  have HL := laidS_len s hs
  have c0 := cell_of_row _ _ 0 _ _ _ hr0
  have c1 := cell_of_row _ _ 1 _ _ _ hr0
  have c2 := cell_of_row _ _ 2 _ _ _ hr0
  have c3 := cell_of_row _ _ 3 _ _ _ hr0
  have c4 := cell_of_row _ _ 4 _ _ _ hr0
  simp only [svv] at c0 c1 c2 c3 c4
  have HT : Hid (Tab w) := hT
  obtain ⟨L, hL⟩ : ∃ L, laidS s = L := ⟨_, rfl⟩
  rw [hL] at hc hRl HL ⊢
  clear h hs hT hL
  have HR : Hid (((w.alloc (.cells (svv s p) 28)).alloc (.cells (sv z32) 31)).rangeAt w.heap.size 0 (svv s p).toList) := fun j v hv => by
    rw [Nat.zero_add, cell_of_row _ _ j _ _ _ hr0]
    simpa using hv
  clear c0 c1 c2 c3 c4 hr0
  go_enter Tryd.func19, Tryd.ntmps19
  go_wp2_with (first | (refine Go.Great.wpList_boxTo rfl _ _ rfl _ rfl _ rfl (svv s p) rfl ?_) | (refine wpList_allocHs rfl rfl ?_) | (refine wpList_load_mid rfl 28 _ rfl w.heap.size 0 rfl (svv s p).toList _ HR.out Tryd.underlying28 rfl szS ?_) | fail)
  generalize (w.alloc (.cells (svv s p) 28)).alloc (.cells (sv z32) 31) = W0 at *
  refine hc.mono ?_
  rintro e w1 ⟨ad, cap, rfl, hcap, hsl, _, hb1⟩
  have hbw : Below w.heap.size w w1 := hb0.trans (hb1.mono hb0.size)
  have hcall := sum_any ad cap (nb L) w1 (HT.out.frm (S := []) (Frm.ofBelow hbw) (fun k hk => by cases hk)) (by have := hbw.size; omega) (slB_of hsl) (nb_lt hsl.1) (by rw [nb_length]; exact hcap) (by rw [nb_length]; omega)
  rw [nb_length] at hcall
  have hz1 : w1.heap[w.heap.size + 1]? = some (.cells (sv z32) 31 (0, 0)) := by rw [hb1.block _ (lt_of_block hz0)]; exact hz0
  obtain ⟨R, hR⟩ : ∃ R, R = sumF (nb L) := ⟨_, rfl⟩
  have HRR : Hid (R = sumF (nb L)) := hR
  rw [← hR] at hcall hRl
  clear hc hb0 hb1 hz0 hsl hcap hR
  go_wp2_with fail
  refine hcall.mono ?_
  rintro e w2 ⟨rfl, hb2⟩
  have hz2 : w2.heap[w.heap.size + 1]? = some (.cells (sv z32) 31 (0, 0)) := by rw [hb2.block _ (lt_of_block hz1)]; exact hz1
  have hb2' : Below w.heap.size w w2 := hbw.trans (hb2.mono hbw.size)
  clear hcall hz1 hb2 hbw
  go_wp2_with (first | (refine wpList_storeRow 31 hsz rfl _ _ rfl (w.heap.size + 1) rfl (sv R) (sv z32) (by rw [sv_size, hRl]) (by simp [sv_size, z32]) (sv_one _) 31 rfl hz2 ?_; intro w3 hg3 hf3) | fail)
  refine bodyPost_ret (results_cell_row Tryd.results19 _ w3 (w.heap.size + 1) 31 (sv R) (0, 0) _ rfl hg3 Tryd.underlying31 rfl (by rw [sv_size, hRl]; exact hsz)) rfl ⟨by rw [HRR.out], hb2'.trans (hf3.below (by have := hb2'.size; omega) (by simp))⟩
/-- A sum's bytes as ints. -/
def sZ (R : List Nat) : Nat → Int := fun j => (R.getD j 0 : Nat)
theorem sv_sZ {R : List Nat} (h : R.length = 32) : sv R = hv (sZ R) := by
  unfold sv sl8 hv bl sZ
  congr 1
  apply List.ext_getElem?
  intro j
  by_cases hj : j < 32
  · simp [List.getElem?_map, List.getElem?_range hj, List.getElem?_eq_getElem (show j < R.length by omega), List.getD_eq_getElem?_getD]
  · rw [List.getElem?_eq_none (by simp; omega), List.getElem?_eq_none (by simp; omega)]
theorem sZ_bd (b : List Nat) : ∀ j, j < 32 → 0 ≤ sZ (sumF b) j ∧ sZ (sumF b) j ≤ 255 := fun j _ => by have h2 : (sumF b).getD j 0 < 256 := endL_lt _ j; unfold sZ; omega
theorem guardHs2 : Tryd.prog.eqGuardType Tryd.prog.depth 31 = false := by kernel_rfl
theorem exec_eqS {a : Act} {o : Oper} (x y : Operand) (ho : o.op = .binOp .eql 31 x y 31) (b : List Nat) (hx : a.eval x = .agg (sv (sumF b))) (hy : a.eval y = .agg (sv (sumF b))) (w : World) :
    (execOp a.eval o).run Tryd.prog w = .ok (.value (.bool true)) w := by
  have hl : (sumF b).length = 32 := endL_len _
  have e1 := eql_hv (sZ_bd b) (sZ_bd b) w
  rw [hq_same] at e1
  rw [sv_sZ hl] at hx hy
  unfold execOp
  simp only [ho, hx, hy, Sem.run_bind, run_eqGuard_agg w .eql 31 x y _ _ guardHs2, e1, Result.andThen_ok, Sem.run_pure]
end Go.Proofs.YtnjkgpgbipcgcaaDoor
