/- The document's ReadCount of a reader that has stopped, and its ReadHash. -/
import Derived.Test.YtelpkbdobeofgaaDoorStops
import Derived.Deep.RegionHeld3
namespace Go.Proofs.YtelpkbdobeofgaaDoor
open Go.RowKit

set_option maxHeartbeats 400000 in
theorem fail_ne (a : Option Addr) (n c : Nat) (er e : Int) (w : World) (he : (er == 0) = false) :
    Calls Tryd.prog 23 #[.agg #[.slice a n c, .int .i64 er], .int .i64 e] w fun ev w' => ev = .returned (.agg #[.slice a n c, .int .i64 er]) ∧ Below w.heap.size w w' := by
  go_enter Tryd.func23, Tryd.ntmps23
  go_wp2
  exact bodyPost_ret (v := .agg #[.slice a n c, .int .i64 er]) (by simp [results, Tryd.results23, go_sem]) rfl ⟨rfl, (by repeat (first | exact Below.refl _ _ | refine Below.alloc ?_ (by simp; try omega) _ | refine Below.setCell ?_ (by simp) _ | refine below_drewN ?_ _ | refine Below.drew ?_))⟩

set_option maxRecDepth 100000 in
set_option maxHeartbeats 400000 in
theorem refStopCount_n (ad : Option Addr) (n cap : Nat) (most er : Int) (w : World) (he : (er == 0) = false) (hm0 : most < 0) :
    Calls Tryd.prog 11 #[.agg #[.slice ad n cap, .int .i64 er], .int .i64 most] w fun e w' => e = .returned (.tuple #[.agg #[.slice ad n cap, .int .i64 er], .int .i64 0]) ∧ Below w.heap.size w w' := by
  go_enter Tryd.func11, Tryd.ntmps11
  go_wp2_with fail
  refine (refStopUint ad n cap 0 er _ he).mono ?_
  rintro e w3 ⟨rfl, hb3⟩
  have hm4 := cnt_mid (o3 := (.cells #[.slice ad n cap, .int .i64 er] 27)) hb3
  have hz3 : w.heap.size + 2 ≤ w3.heap.size := by have := hb3.size; simpa using this
  have hd0 := two_cell0 hm4.2.1
  have hd1 := two_cell1 hm4.2.1
  have hdf := two_free hm4.2.1
  have hdz : w.heap.size + 1 < (w3.alloc (.cells #[.slice ad n cap, .int .i64 er] 27)).heap.size := by simp; omega
  have hq0 := two_cell0 hm4.1
  have hq1 := two_cell1 hm4.1
  clear hb3
  go_wp2_with (go_at_call 23; refine (fail_ne _ _ _ _ _ _ he).mono ?_; rintro e wf ⟨rfl, hbf⟩; have hf0 := (hbf.cell (p := ⟨w.heap.size + 1, 0, none⟩) hdz).trans hd0; have hf1 := (hbf.cell (p := ⟨w.heap.size + 1, 1, none⟩) hdz).trans hd1; have hff := fun o => (hbf.frozen (p := ⟨w.heap.size + 1, o, none⟩) hdz).trans (hdf o))
  exact bodyPost_ret (v := .tuple #[.agg #[.slice ad n cap, .int .i64 er], .int .i64 0]) (by simp [results, Tryd.results11, go_sem, hf0, hf1]) rfl ⟨rfl, ((hm4.2.2.trans (hbf.mono (by simp; omega))).setCell (by simp) _).setCell (by simp) _⟩

set_option maxRecDepth 100000 in
set_option maxHeartbeats 400000 in
theorem refStopCount_p (ad : Option Addr) (n cap : Nat) (most er : Int) (w : World) (he : (er == 0) = false) (hm0 : 0 ≤ most) (_hm1 : most ≤ 9223372036854775807) :
    Calls Tryd.prog 11 #[.agg #[.slice ad n cap, .int .i64 er], .int .i64 most] w fun e w' => e = .returned (.tuple #[.agg #[.slice ad n cap, .int .i64 er], .int .i64 0]) ∧ Below w.heap.size w w' := by
  go_enter Tryd.func11, Tryd.ntmps11
  go_wp2_with fail
  refine (refStopUint ad n cap most er _ he).mono ?_
  rintro e w3 ⟨rfl, hb3⟩
  have hm4 := cnt_mid (o3 := (.cells #[.slice ad n cap, .int .i64 er] 27)) hb3
  have hz3 : w.heap.size + 2 ≤ w3.heap.size := by have := hb3.size; simpa using this
  have hd0 := two_cell0 hm4.2.1
  have hd1 := two_cell1 hm4.2.1
  have hdf := two_free hm4.2.1
  have hdz : w.heap.size + 1 < (w3.alloc (.cells #[.slice ad n cap, .int .i64 er] 27)).heap.size := by simp; omega
  have hq0 := two_cell0 hm4.1
  have hq1 := two_cell1 hm4.1
  clear hb3
  go_wp2_with (go_at_call 23; refine (fail_ne _ _ _ _ _ _ he).mono ?_; rintro e wf ⟨rfl, hbf⟩; have hf0 := (hbf.cell (p := ⟨w.heap.size + 1, 0, none⟩) hdz).trans hd0; have hf1 := (hbf.cell (p := ⟨w.heap.size + 1, 1, none⟩) hdz).trans hd1; have hff := fun o => (hbf.frozen (p := ⟨w.heap.size + 1, o, none⟩) hdz).trans (hdf o))
  exact bodyPost_ret (v := .tuple #[.agg #[.slice ad n cap, .int .i64 er], .int .i64 0]) (by simp [results, Tryd.results11, go_sem, hf0, hf1]) rfl ⟨rfl, ((hm4.2.2.trans (hbf.mono (by simp; omega))).setCell (by simp) _).setCell (by simp) _⟩

theorem refStopCount (ad : Option Addr) (n cap : Nat) (most er : Int) (w : World) (he : (er == 0) = false) (hm : most ≤ 9223372036854775807) :
    Calls Tryd.prog 11 #[.agg #[.slice ad n cap, .int .i64 er], .int .i64 most] w fun e w' => e = .returned (.tuple #[.agg #[.slice ad n cap, .int .i64 er], .int .i64 0]) ∧ Below w.heap.size w w' := by
  by_cases h0 : most < 0
  · exact refStopCount_n ad n cap most er w he h0
  · exact refStopCount_p ad n cap most er w he (by omega) hm

/-- Of the first q bytes z, noughts behind. -/
def mix (z : Nat → Int) (q : Nat) : Nat → Int := fun j => if j < q then z j else 0
theorem mix_step (z : Nat → Int) (q : Nat) : (hv (mix z q)).setIfInBounds q (.int .u8 (z q)) = hv (mix z (q + 1)) := by
  apply Array.ext
  · simp [hv_size]
  · intro j h1 h2
    simp [hv_size] at h1
    simp only [hv, bl, mix]
    rw [Array.getElem_setIfInBounds (by simpa [hv_size] using h1)]
    by_cases e : q = j
    · subst e; simp
    · rw [if_neg e]
      simp
      by_cases hj : j < q
      · rw [if_pos hj, if_pos (by omega)]
      · rw [if_neg hj, if_neg (by omega)]
theorem mix_0 (z : Nat → Int) : hv (mix z 0) = hv nz := by
  have : mix z 0 = nz := by funext j; simp [mix, nz]
  rw [this]
theorem mix_32 (z : Nat → Int) : hv (mix z 32) = hv z := by
  have h : (List.range 32).map (fun j => Value.int .u8 (mix z 32 j)) = (List.range 32).map (fun j => Value.int .u8 (z j)) := List.map_congr_left (fun j hj => by simp [mix, List.mem_range.1 hj])
  simp only [hv, bl, h]


/-- Two readers and two sums, laid one behind the other: how the sums lie. -/
theorem four_range (w : World) (c1 c2 : Array Value) (t : TypeId) : ((((w.alloc (.cells c1 t)).alloc (.cells c2 t)).alloc (.cells (hv nz) 44)).alloc (.cells (hv nz) 44)).rangeAt (w.heap.size + 1 + 1 + 1) 0 (bl nz 32) ∧
    ((((w.alloc (.cells c1 t)).alloc (.cells c2 t)).alloc (.cells (hv nz) 44)).alloc (.cells (hv nz) 44)).there (w.heap.size + 1 + 1) 0 32 := by
  have h3 := heap_alloc_new (((w.alloc (.cells c1 t)).alloc (.cells c2 t)).alloc (.cells (hv nz) 44)) (.cells (hv nz) 44)
  have h2 : ((((w.alloc (.cells c1 t)).alloc (.cells c2 t)).alloc (.cells (hv nz) 44)).alloc (.cells (hv nz) 44)).heap[w.heap.size + 1 + 1]? = some (.cells (hv nz) 44) := by
    have := two_allocs_a ((w.alloc (.cells c1 t)).alloc (.cells c2 t)) (.cells (hv nz) 44) (.cells (hv nz) 44)
    simpa using this
  refine ⟨fun j v hv' => ?_, fun j hj => ⟨?_, ?_⟩⟩
  · rw [Nat.zero_add, cell_of_row _ (w.heap.size + 1 + 1 + 1) j (hv nz) 44 (0, 0) (by simpa using h3)]
    simpa [hv] using hv'
  · rw [Nat.zero_add, cell_of_row _ _ j _ _ _ h2]; simp [hv_size, hj]
  · rw [Nat.zero_add]; exact frozen_of_row _ _ j _ _ h2

theorem four_cells (w : World) (c1 c2 : Array Value) (t : TypeId) (o : Nat) : ((((w.alloc (.cells c1 t)).alloc (.cells c2 t)).alloc (.cells (hv nz) 44)).alloc (.cells (hv nz) 44)).cell? ⟨w.heap.size, o, none⟩ = c1[o]? := by
  refine cell_of_row _ _ o c1 t (0, 0) ?_
  rw [Below.heap_alloc _ _ _ (by simp; omega), Below.heap_alloc _ _ _ (by simp; omega)]
  exact two_allocs_a w _ _

end Go.Proofs.YtelpkbdobeofgaaDoor
