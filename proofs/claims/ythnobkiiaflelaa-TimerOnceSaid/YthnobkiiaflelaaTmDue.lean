/- Those that are due: where they end. -/
import Derived.Test.YthnobkiiaflelaaTmMath
namespace Go.Proofs.Ythnobkiiaflelaa

theorem dueE_at {now : Int} : ∀ {L : List Ev} {i : Nat}, i ≤ L.length → (∀ y ∈ L.take i, y.due ≤ now) → (∀ y, L[i]? = some y → ¬ y.due ≤ now) → dueE now L = L.take i ∧ restE now L = L.drop i
  | [], i, hi, _, _ => by simp [dueE, restE]
  | y :: r, 0, _, _, h2 => by
    have := h2 y rfl
    simp [dueE, restE, this]
  | y :: r, i + 1, hi, h1, h2 => by
    have ih := dueE_at (L := r) (i := i) (now := now) (by simpa using hi) (fun z hz => h1 z (by simp [hz])) (fun z hz => h2 z (by simpa using hz))
    have h0 := h1 y (by simp)
    simp only [dueE, restE] at ih ⊢
    rw [List.takeWhile_cons, List.dropWhile_cons, if_pos (decide_eq_true h0), if_pos (decide_eq_true h0), ih.1, ih.2]
    exact ⟨rfl, rfl⟩

end Go.Proofs.Ythnobkiiaflelaa
