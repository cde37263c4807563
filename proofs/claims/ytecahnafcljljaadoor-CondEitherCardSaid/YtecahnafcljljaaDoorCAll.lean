/- cond.All of some ints, at least one. -/
import Derived.Test.YtecahnafcljljaaDoorCSort
import Derived.Test.YtecahnafcljljaaDoorCGive
namespace Go.Proofs.YtecahnafcljljaaDoor
open Go.RowKit Go.Shelf Go.Sort

/-- The branch that just asks for these keys. -/
def kb (L : List Int) : Bv := ⟨L.length, fun j => L.getD j 0, nz, 0, 0⟩
theorem build_b (L : List Int) (ka : Option Addr) (kc : Nat) (w : World) : (Instr.build 56 #[(0, .slice ka L.length kc)]).run Tryd.prog w = .ok (.agg (bv (kb L) ka kc)) w := by kernel_rfl
section
variable {ops : Array Oper} {rest : List Oper} {o : Oper} {a : Act} {w : World} {Q : Exit → Act → World → Prop}
theorem wpList_buildB (hgd : o.guard = none) (x : Operand) (ho : o.op = .build 56 #[(0, x)]) (L : List Int) (ka : Option Addr) (kc : Nat) (hx : a.eval x = .slice ka L.length kc)
    (h : wpList Tryd.prog ops Q rest (a.put o.dst (.agg (bv (kb L) ka kc))) w) : wpList Tryd.prog ops Q (o :: rest) a w := by
  refine wpList_plain hgd fun K hK => ?_
  unfold Oper.wp execOp
  simp only [ho, List.map_toArray, List.map_cons, List.map_nil, hx, Sem.run_bind, build_b, Result.andThen]
  exact hK _ _ h
end
theorem compact_mem {L : List Int} {x : Int} (h : x ∈ Lib.compact L) : x ∈ L := by
  simp only [Lib.compact, Lib.compactUpTo, List.mem_map, List.mem_filter, List.mem_range] at h
  obtain ⟨j, ⟨h1, _⟩, rfl⟩ := h
  simp [h1]
theorem kb_ok {L : List Int} (h : ∀ x ∈ L, Ib x) : (kb L).Ok := by
  refine ⟨fun j hj => ?_, fun j _ => by simp [kb, nz], by simp [kb, Ib], by simp [kb, Ib]⟩
  have hj' : j < L.length := hj
  simp only [kb, List.getD_eq_getElem?_getD, List.getElem?_eq_getElem hj', Option.getD_some]
  exact h _ (List.getElem_mem hj')
theorem nrm_ib {z : Nat → Int} {n : Nat} (h : ∀ j, j < n → Ib (z j)) : ∀ x ∈ Lib.compact (srt (keysL z n)), Ib x := by
  intro x hx
  have := compact_mem hx
  simp only [srt, List.mem_mergeSort, keysL, List.mem_map, List.mem_range] at this
  obtain ⟨j, hj, rfl⟩ := this
  exact h j hj

set_option maxRecDepth 100000 in
set_option maxHeartbeats 1600000 in
theorem all_pos (b off n cap : Nat) (z : Nat → Int) (w : World) (h : ∀ j, j < n → w.cell? ⟨b, off + j, none⟩ = some (.int .i64 (z j))) (hz : ∀ j, j < n → Ib (z j)) (hn : n ≤ 1000000) :
    Calls Tryd.prog 17 #[.slice (some ⟨b, off, none⟩) n cap] w fun e w' => ∃ g, e = .returned (.agg #[.slice (some ⟨g, 0, none⟩) 1 1]) ∧ BrAt w' (some ⟨g, 0, none⟩) 1 (fun _ => kb (Lib.compact (srt (keysL z n)))) ∧ Below w.heap.size w w' := by
  obtain ⟨K, hK⟩ : ∃ K, K = Lib.compact (srt (keysL z n)) := ⟨_, rfl⟩
  rw [← hK]
  have HOK : (kb K).Ok := by rw [hK]; exact kb_ok (nrm_ib hz)
  have hb0 : Below w.heap.size w (w.alloc (.cells #[.slice none 0 0] 38)) := (Below.refl _ w).alloc (Nat.le_refl _) _
  have hr0 : (w.alloc (.cells #[.slice none 0 0] 38)).heap[w.heap.size]? = some (.cells #[.slice none 0 0] 38 (0, 0)) := heap_alloc_new w _
  have hc := clone_pos b off n cap z (w.alloc (.cells #[.slice none 0 0] 38)) (fun j hj => by
    have := h j hj
    rw [hb0.cell (p := ⟨b, off + j, none⟩) (World.block_lt_of_cell? w ⟨b, off + j, none⟩ this)]; exact this) hn
  have hs0 : w.heap.size < (w.alloc (.cells #[.slice none 0 0] 38)).heap.size := by simp
  clear h
  go_enter Tryd.func17, Tryd.ntmps17
  go_wp2_with fail
  generalize w.alloc (.cells #[.slice none 0 0] 38) = W0 at *
  refine hc.mono ?_
  rintro e w1 ⟨g, cap1, rfl, hcap, hH1, hg0, hg1, hb1⟩
  clear hc
  have hl : (keysL z n).length = n := keysL_length z n
  have hl2 : (srt (keysL z n)).length = n := by rw [srt_length, hl]
  have hsort := sort_pos g cap1 (keysL z n) w1 hH1 hg1 (by omega) W0.heap.size hg0
  rw [hl] at hsort
  clear hH1
  go_wp2_with fail
  refine hsort.mono ?_
  rintro e w2 ⟨rfl, hH2, hg2, hb2⟩
  clear hsort
  have hcom := compact_pos g cap1 (srt (keysL z n)) w2 hH2 hg2 (by omega) (by omega) W0.heap.size hg0
  rw [hl2, ← hK] at hcom
  clear hH2
  go_wp2_with fail
  refine hcom.mono ?_
  rintro e w3 ⟨rfl, hI3, hg3, hb3⟩
  have hbw : Below W0.heap.size W0 w3 := (hb1.trans hb2).trans hb3
  have hr3 : w3.heap[w.heap.size]? = some (.cells #[.slice none 0 0] 38 (0, 0)) := by rw [hbw.block _ hs0]; exact hr0
  clear hcom hb1 hb2 hb3 hr0 hK hz
  have hlt := hbw.size
  have hn4 := heap_alloc_new w3 (.cells (bv (kb K) (some ⟨g, 0, none⟩) cap1) 56)
  have hb4 : Below w3.heap.size w3 (w3.alloc (.cells (bv (kb K) (some ⟨g, 0, none⟩) cap1) 56)) := (Below.refl _ _).alloc (Nat.le_refl _) _
  have hr4 : (w3.alloc (.cells (bv (kb K) (some ⟨g, 0, none⟩) cap1) 56)).heap[w.heap.size]? = some (.cells #[.slice none 0 0] 38 (0, 0)) := by rw [hb4.block _ (by omega)]; exact hr3
  have c4 : (w3.alloc (.cells (bv (kb K) (some ⟨g, 0, none⟩) cap1) 56)).cell? ⟨w.heap.size, 0, none⟩ = some (.slice none 0 0) := by rw [cell_of_row _ _ 0 _ _ _ hr4]; rfl
  have f4 : (w3.alloc (.cells (bv (kb K) (some ⟨g, 0, none⟩) cap1) 56)).frozen? ⟨w.heap.size, 0, none⟩ = false := frozen_of_row _ _ 0 _ _ hr4
  have HE : Hid (((w3.alloc (.cells (bv (kb K) (some ⟨g, 0, none⟩) cap1) 56)).setCell ⟨w.heap.size, 0, none⟩ (.slice (some ⟨w3.heap.size, 0, none⟩) 1 1)).heap[w.heap.size]? = some (.cells #[.slice (some ⟨w3.heap.size, 0, none⟩) 1 1] 38 (0, 0))
      ∧ BrAt ((w3.alloc (.cells (bv (kb K) (some ⟨g, 0, none⟩) cap1) 56)).setCell ⟨w.heap.size, 0, none⟩ (.slice (some ⟨w3.heap.size, 0, none⟩) 1 1)) (some ⟨w3.heap.size, 0, none⟩) 1 (fun _ => kb K)
      ∧ Below w.heap.size w ((w3.alloc (.cells (bv (kb K) (some ⟨g, 0, none⟩) cap1) 56)).setCell ⟨w.heap.size, 0, none⟩ (.slice (some ⟨w3.heap.size, 0, none⟩) 1 1))) := by
    refine ⟨heap_setCell_same _ _ 0 _ _ _ hr4, ⟨fun _ _ => HOK, fun _ => ⟨w3.heap.size, 0, rfl, fun i hi => ⟨some ⟨g, 0, none⟩, cap1, fun j u hu => ?_, ?_⟩⟩⟩, ?_⟩
    · obtain rfl : i = 0 := by omega
      rw [World.cell?_of_block (a := ⟨w3.heap.size, 0 + 0 * 35 + j, none⟩) (Below.heap_setCell _ _ _ _ (by show w3.heap.size ≠ w.heap.size; omega)), cell_of_row _ _ _ _ _ _ hn4]
      simpa [bv] using hu
    · exact isAt_set (hI3.below hb4) (fun a e => by cases e; show g ≠ w.heap.size; omega)
    · exact ((hb0.trans (hbw.mono (by omega))).trans (hb4.mono (by omega))).setCell (Nat.le_refl _) _
  clear hn4 hr4 hr3 hI3 hb4 hbw hb0
  go_wp2_with (first | (refine wpList_buildB rfl _ rfl K (some ⟨g, 0, none⟩) cap1 rfl ?_) | (refine wpList_sliceB rfl _ rfl (kb K) (some ⟨g, 0, none⟩) cap1 rfl ?_) | fail)
  exact bodyPost_ret (results_cell_row Tryd.results17 _ _ w.heap.size 38 #[.slice (some ⟨w3.heap.size, 0, none⟩) 1 1] (0, 0) _ rfl HE.out.1 Tryd.underlying38 rfl szC) rfl ⟨_, rfl, HE.out.2⟩
end Go.Proofs.YtecahnafcljljaaDoor
