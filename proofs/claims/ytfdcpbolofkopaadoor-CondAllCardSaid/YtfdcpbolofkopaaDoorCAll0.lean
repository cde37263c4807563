/- cond.All of no ints. -/
import Derived.Test.YtfdcpbolofkopaaDoorCAllM
import Derived.Shelf.Slices.In.SortNone
namespace Go.Proofs.YtfdcpbolofkopaaDoor
open Go.RowKit Go.Shelf Go.Sort

theorem clone_zero (ad : Option Addr) (cap : Nat) (w : World) :
    Calls Tryd.prog 17 #[.slice ad 0 cap] w fun e w' => ∃ ga c', e = .returned (.slice ga 0 c') ∧ (∀ a, ga = some a → w.heap.size ≤ a.block) ∧ Below w.heap.size w w' := by
  cases ad with
  | none =>
    have hcon := Any.slices_Clone_int_nil Tryd.lClone 0 cap w
    change Calls Tryd.prog 17 _ _ _ at hcon
    refine hcon.mono ?_
    rintro e w' ⟨rfl, rfl⟩
    exact ⟨none, 0, rfl, fun a h => (by cases h), Below.refl _ _⟩
  | some a =>
    have hcon := Any.slices_Clone_int_zero Tryd.lClone a cap w
    change Calls Tryd.prog 17 _ _ _ at hcon
    refine hcon.mono ?_
    rintro e w' ⟨v', rfl, hown, hne, hb⟩
    rcases hown.2 with ⟨e, _⟩ | ⟨g, c', cur, rfl, hg, _⟩
    · exact absurd e hne
    · exact ⟨_, c', rfl, fun a h => by cases h; exact hg, hb⟩

set_option maxRecDepth 100000 in
set_option maxHeartbeats 1600000 in
theorem all_zero (ad : Option Addr) (cap : Nat) (w : World) :
    Calls Tryd.prog 6 #[.slice ad 0 cap] w fun e w' => ∃ g, e = .returned (.agg #[.slice (some ⟨g, 0, none⟩) 1 1]) ∧ BrAt w' (some ⟨g, 0, none⟩) 1 (fun _ => kb []) ∧ Below w.heap.size w w' := by
  have HOK : (kb []).Ok := kb_ok (fun x h => by cases h)
  have hb0 : Below w.heap.size w (w.alloc (.cells #[.slice none 0 0] 26)) := (Below.refl _ w).alloc (Nat.le_refl _) _
  have hr0 : (w.alloc (.cells #[.slice none 0 0] 26)).heap[w.heap.size]? = some (.cells #[.slice none 0 0] 26 (0, 0)) := heap_alloc_new w _
  have hc := clone_zero ad cap (w.alloc (.cells #[.slice none 0 0] 26))
  have hs0 : w.heap.size < (w.alloc (.cells #[.slice none 0 0] 26)).heap.size := by simp
  go_enter Tryd.func6, Tryd.ntmps6
  go_wp2_with fail
  generalize w.alloc (.cells #[.slice none 0 0] 26) = W0 at *
  refine hc.mono ?_
  rintro e w3 ⟨ga, cap1, rfl, hga, hbw⟩
  clear hc
  have hsort := Any.slices_Sort_int_none Tryd.lSort ga cap1 w3
  change Calls Tryd.prog 18 _ _ _ at hsort
  have hcom := Any.slices_Compact_int_empty Tryd.lCompact ga cap1 w3
  change Calls Tryd.prog 19 _ _ _ at hcom
  have hr3 : w3.heap[w.heap.size]? = some (.cells #[.slice none 0 0] 26 (0, 0)) := by rw [hbw.block _ hs0]; exact hr0
  have hlt := hbw.size
  have hn4 := heap_alloc_new w3 (.cells (bv (kb []) ga cap1) 50)
  have hb4 : Below w3.heap.size w3 (w3.alloc (.cells (bv (kb []) ga cap1) 50)) := (Below.refl _ _).alloc (Nat.le_refl _) _
  have hr4 : (w3.alloc (.cells (bv (kb []) ga cap1) 50)).heap[w.heap.size]? = some (.cells #[.slice none 0 0] 26 (0, 0)) := by rw [hb4.block _ (by omega)]; exact hr3
  have c4 : (w3.alloc (.cells (bv (kb []) ga cap1) 50)).cell? ⟨w.heap.size, 0, none⟩ = some (.slice none 0 0) := by rw [cell_of_row _ _ 0 _ _ _ hr4]; rfl
  have f4 : (w3.alloc (.cells (bv (kb []) ga cap1) 50)).frozen? ⟨w.heap.size, 0, none⟩ = false := frozen_of_row _ _ 0 _ _ hr4
  have HE : Hid (((w3.alloc (.cells (bv (kb []) ga cap1) 50)).setCell ⟨w.heap.size, 0, none⟩ (.slice (some ⟨w3.heap.size, 0, none⟩) 1 1)).heap[w.heap.size]? = some (.cells #[.slice (some ⟨w3.heap.size, 0, none⟩) 1 1] 26 (0, 0))
      ∧ BrAt ((w3.alloc (.cells (bv (kb []) ga cap1) 50)).setCell ⟨w.heap.size, 0, none⟩ (.slice (some ⟨w3.heap.size, 0, none⟩) 1 1)) (some ⟨w3.heap.size, 0, none⟩) 1 (fun _ => kb [])
      ∧ Below w.heap.size w ((w3.alloc (.cells (bv (kb []) ga cap1) 50)).setCell ⟨w.heap.size, 0, none⟩ (.slice (some ⟨w3.heap.size, 0, none⟩) 1 1))) := by
    refine ⟨heap_setCell_same _ _ 0 _ _ _ hr4, ⟨fun _ _ => HOK, fun _ => ⟨w3.heap.size, 0, rfl, fun i hi => ⟨ga, cap1, fun j u hu => ?_, fun h => by cases h⟩⟩⟩, ?_⟩
    · obtain rfl : i = 0 := by omega
      rw [World.cell?_of_block (a := ⟨w3.heap.size, 0 + 0 * 35 + j, none⟩) (Below.heap_setCell _ _ _ _ (by show w3.heap.size ≠ w.heap.size; omega)), cell_of_row _ _ _ _ _ _ hn4]
      simpa [bv] using hu
    · exact ((hb0.trans (hbw.mono (by omega))).trans (hb4.mono (by omega))).setCell (Nat.le_refl _) _
  clear hn4 hr4 hr3 hb4 hbw hb0 hga
  go_wp2_with fail
  refine hsort.mono ?_
  rintro e w4 ⟨rfl, rfl⟩
  go_wp2_with fail
  refine hcom.mono ?_
  rintro e w5 ⟨rfl, rfl⟩
  clear hsort hcom
  go_wp2_with (first | (refine wpList_buildB rfl _ rfl [] ga cap1 rfl ?_) | (refine wpList_sliceB rfl _ rfl (kb []) ga cap1 rfl ?_) | fail)
  exact bodyPost_ret (results_cell_row Tryd.results6 _ _ w.heap.size 26 #[.slice (some ⟨_, 0, none⟩) 1 1] (0, 0) _ rfl HE.out.1 Tryd.underlying26 rfl szC) rfl ⟨_, rfl, HE.out.2⟩
/-- All of whatever ints. -/
theorem all_any (ad : Option Addr) (n cap : Nat) (z : Nat → Int) (w : World) (hI : IsAt w ad n z) (hz : ∀ j, j < n → Ib (z j)) (hn : n ≤ 1000000) :
    Calls Tryd.prog 6 #[.slice ad n cap] w fun e w' => ∃ g, e = .returned (.agg #[.slice (some ⟨g, 0, none⟩) 1 1]) ∧ BrAt w' (some ⟨g, 0, none⟩) 1 (fun _ => kb (insL z n)) ∧ Below w.heap.size w w' := by
  rcases Nat.eq_zero_or_pos n with h0 | hp
  · subst h0
    exact all_zero ad cap w
  · obtain ⟨b, off, rfl, hc⟩ := hI hp
    rw [← all_same]
    exact all_pos b off n cap z w hc hz hn
end Go.Proofs.YtfdcpbolofkopaaDoor
