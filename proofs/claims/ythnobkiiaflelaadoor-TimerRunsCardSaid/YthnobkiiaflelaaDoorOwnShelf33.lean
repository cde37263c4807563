/- The landed queue keeps to what is asked of one that takes and gives. -/
import Derived.Test.YthnobkiiaflelaaDoorOwnShelf30
import Derived.Test.YthnobkiiaflelaaDoorOwnShelf32
namespace Go.Proofs.YthnobkiiaflelaaDoor
open Go.RowKit Go.Maps Go.Sort

theorem qs_low {w : World} {A : Nat → Prop} {p : Nat} {L : List Ev} {last : Int} (h : Qs w A p L last) : ∀ k, A k → k < w.heap.size := by
  obtain ⟨m, β, R, n, a, D, h⟩ := h
  exact h.low
theorem qs_ok {w : World} {A : Nat → Prop} {p : Nat} {L : List Ev} {last : Int} (h : Qs w A p L last) : LOk L last := by
  obtain ⟨m, β, R, n, a, D, h⟩ := h
  exact h.ok
theorem qk0 : QK0 Qs where
  low h := qs_low h
  keep h hs hk := h.keep hs hk
  ok h := qs_ok h
  new w := new_any w
  add due nm h hl _ _ := by
    obtain ⟨m, β, R, n, a, D, h⟩ := h
    exact add_run h due nm hl
  pop now h hl _ := by
    obtain ⟨m, β, R, n, a, D, h⟩ := h
    exact pop_run h now hl
  next h _ := by
    obtain ⟨m, β, R, n, a, D, h⟩ := h
    refine (next_run h).mono ?_
    rintro e w' ⟨rfl, rfl⟩
    exact ⟨_, rfl, h.same (Below.refl _ _)⟩
  len h _ := by
    obtain ⟨m, β, R, n, a, D, h⟩ := h
    refine (len_run h).mono ?_
    rintro e w' ⟨rfl, rfl⟩
    exact ⟨_, by rw [← h.len], h.same (Below.refl _ _)⟩
end Go.Proofs.YthnobkiiaflelaaDoor
