/- Ints cloned, sorted, and made single: the library's three. -/
import Derived.Test.YtecahnafcljljaaDoorCBase
import Derived.Test.YtecahnafcljljaaDoorCShelf
namespace Go.Proofs.YtecahnafcljljaaDoor
open Go.RowKit Go.Shelf Go.Sort

/-- The first n ints as a list. -/
def keysL (z : Nat → Int) (n : Nat) : List Int := (List.range n).map z
theorem keysL_length (z : Nat → Int) (n : Nat) : (keysL z n).length = n := by simp [keysL]
theorem keysL_getD (z : Nat → Int) (n j : Nat) (h : j < n) : (keysL z n).getD j 0 = z j := by simp [keysL, h]
def srt (l : List Int) : List Int := l.mergeSort fun x y => decide (x ≤ y)
theorem srt_length (l : List Int) : (srt l).length = l.length := by simp [srt]

theorem clone_pos (b off n cap : Nat) (z : Nat → Int) (w : World) (h : ∀ j, j < n → w.cell? ⟨b, off + j, none⟩ = some (.int .i64 (z j))) (hn : n ≤ 1000000) :
    Calls Tryd.prog 30 #[.slice (some ⟨b, off, none⟩) n cap] w fun e w' => ∃ g cap', e = .returned (.slice (some ⟨g, 0, none⟩) n cap') ∧ n ≤ cap' ∧ Holds (Value.int .i64) w' g 0 (keysL z n).toArray ∧ w.heap.size ≤ g ∧ g < w'.heap.size ∧ Below w.heap.size w w' := by
  have hcon := Any.slices_Clone_int Tryd.lClone b off n cap (keysL z n) w (by simp [keysL]) (by omega) (fun j hj => by
    rw [keysL_length] at hj
    rw [h j hj, keysL_getD z n j hj])
  change Calls Tryd.prog 30 _ _ _ at hcon
  refine hcon.mono ?_
  rintro e w' ⟨v', rfl, hown, hne, hb⟩
  have ht : (keysL z n).take n = keysL z n := List.take_of_length_le (by simp [keysL])
  rw [ht] at hown
  rcases hown.2 with ⟨e, _⟩ | ⟨g, cap', cur, rfl, hg, hgc, hcap, _, hcs, htk⟩
  · exact absurd e hne
  · refine ⟨g, cap', rfl, hcap, fun j hj => ?_, hg, lt_of_block hgc, hb⟩
    have hj' : j < (keysL z n).length := by simpa using hj
    have hc := hown.cells (g := g) rfl j (.int .i64 (keysL z n)[j]) (by simp [hj'])
    rw [Addr.add_lit] at hc
    refine ⟨?_, ?_⟩
    · rw [hc]; simp [hj']
    · rw [Nat.zero_add]; exact frozen_of_row w' g j _ _ hgc

theorem putRow_below {w : World} {g off n : Nat} {d : Array Int} {os : Array Obj} {B : Nat} (hB : B ≤ g) (hg : g < w.heap.size) : Below B w (grow (putRow (Value.int .i64) (Sort.ahead w n) g off d) os) := by
  refine ⟨rfl, rfl, rfl, by simp, fun k hk => ?_⟩
  rw [heap_grow_old _ _ (by simp; omega)]
  simp only [putRow, mapBlock, heap_ahead]
  rw [Array.getElem?_modify, if_neg (by omega)]

theorem sort_pos (g cap : Nat) (L : List Int) (w : World) (hH : Holds (Value.int .i64) w g 0 L.toArray) (hg : g < w.heap.size) (hn : L.length ≤ 1000000) (B : Nat) (hB : B ≤ g) :
    Calls Tryd.prog 31 #[.slice (some ⟨g, 0, none⟩) L.length cap] w fun e w' => e = .returned (.tuple #[]) ∧ Holds (Value.int .i64) w' g 0 (srt L).toArray ∧ g < w'.heap.size ∧ Below B w w' := by
  have hcon := Any.slices_Sort_int Tryd.lSort g 0 cap L w hH hg (by omega)
  change Calls Tryd.prog 31 _ _ _ at hcon
  refine hcon.mono ?_
  rintro e w' ⟨rfl, n, os, rfl⟩
  refine ⟨rfl, holds_grow _ _ _ _ _ _ (by simpa using hg) (holds_putRow _ _ _ _ _ _ (holds_ahead _ _ _ _ _ _ hH) (by simp)), by simp; omega, putRow_below hB hg⟩

theorem compact_pos (g cap : Nat) (L : List Int) (w : World) (hH : Holds (Value.int .i64) w g 0 L.toArray) (hg : g < w.heap.size) (hn : L.length ≤ 1000000) (hc : L.length ≤ cap) (B : Nat) (hB : B ≤ g) :
    Calls Tryd.prog 32 #[.slice (some ⟨g, 0, none⟩) L.length cap] w fun e w' => e = .returned (.slice (some ⟨g, 0, none⟩) (Lib.compact L).length cap) ∧ IsAt w' (some ⟨g, 0, none⟩) (Lib.compact L).length (fun j => (Lib.compact L).getD j 0) ∧ g < w'.heap.size ∧ Below B w w' := by
  have hcon := Any.slices_Compact_int Tryd.lCompact g 0 cap L w hH (by omega) hc
  change Calls Tryd.prog 32 _ _ _ at hcon
  refine hcon.mono ?_
  rintro e w' ⟨rfl, q, rfl⟩
  have hcl : (Lib.compact L).length ≤ L.length := by
    have := List.length_filter_le (Lib.keeps L.toArray) (List.range L.length)
    simpa [Lib.compact, Lib.compactUpTo] using this
  have hH2 := holds_putRow (Value.int .i64) (Sort.ahead w q) g 0 L.toArray (Lib.compact L ++ List.replicate (L.length - (Lib.compact L).length) 0).toArray (holds_ahead _ _ _ _ _ _ hH) (by simp; omega)
  refine ⟨rfl, fun hn => ⟨g, 0, rfl, fun j hj => ?_⟩, by simpa using hg, ?_⟩
  · rw [(hH2 j (by simp; omega)).1]
    simp only [List.getElem!_toArray, List.getElem!_eq_getElem?_getD, List.getD_eq_getElem?_getD]
    rw [List.getElem?_append_left hj]
    rfl
  · have := putRow_below (n := q) (off := 0) (d := (Lib.compact L ++ List.replicate (L.length - (Lib.compact L).length) 0).toArray) (os := #[]) hB hg
    simpa using this
end Go.Proofs.YtecahnafcljljaaDoor
