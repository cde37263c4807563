/- The landed queue keeps to all that is asked of one. -/
import Derived.Test.YthnobkiiaflelaaDoorOwnShelf46
import Derived.Test.YthnobkiiaflelaaDoorOwnShelf47
import Derived.Test.YthnobkiiaflelaaDoorOwnShelf15
namespace Go.Proofs.YthnobkiiaflelaaDoor
open Go.RowKit Go.Maps Go.Sort

theorem qk : QK Qs where
  toQK1 := qk1
  events h hl := by
    obtain ⟨m, β, R, n, a, D, h⟩ := h
    exact (events_run h hl).mono fun _ _ h => h.out
  nAdd due nm w := nAdd_any due nm w
  nNext w := (nNext_any w).mono fun _ _ ⟨h1, h2⟩ => ⟨_, h1, by rw [h2]; exact Below.refl _ _⟩
  nCancel id w := (nCancel_any id w).mono fun _ _ ⟨h1, h2⟩ => ⟨h1, by rw [h2]; exact Below.refl _ _⟩
  nLen w := (nLen_any w).mono fun _ _ ⟨h1, h2⟩ => ⟨h1, by rw [h2]; exact Below.refl _ _⟩
  nPop now w := (nPop_any now w).mono fun _ _ ⟨h1, h2⟩ => ⟨_, _, h1, by rw [h2]; exact Below.refl _ _⟩
  nEvents w := (nEvents_any w).mono fun _ _ ⟨h1, h2⟩ => ⟨_, _, h1, by rw [h2]; exact Below.refl _ _⟩
end Go.Proofs.YthnobkiiaflelaaDoor
