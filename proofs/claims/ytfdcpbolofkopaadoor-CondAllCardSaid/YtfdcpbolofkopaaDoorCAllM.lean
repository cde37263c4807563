/- Sorted and made single: what the program's All and the document's have in common. -/
import Derived.Test.YtfdcpbolofkopaaDoorCRAll
namespace Go.Proofs.YtfdcpbolofkopaaDoor
open Go.RowKit

/-- Ascending, each once. -/
def Asc (L : List Int) : Prop := L.Pairwise (· < ·)
theorem asc_ext {L M : List Int} (hL : Asc L) (hM : Asc M) (h : ∀ x, x ∈ L ↔ x ∈ M) : L = M := by
  induction L generalizing M with
  | nil =>
    cases M with
    | nil => rfl
    | cons y r => have := (h y).2 (by simp); simp at this
  | cons x l ih =>
    cases M with
    | nil => have := (h x).1 (by simp); simp at this
    | cons y r =>
      have hx := List.pairwise_cons.1 hL
      have hy := List.pairwise_cons.1 hM
      have e : x = y := by
        rcases List.mem_cons.1 ((h x).1 (by simp)) with e | e
        · exact e
        · rcases List.mem_cons.1 ((h y).2 (by simp)) with e2 | e2
          · exact e2.symm
          · have := hy.1 x e; have := hx.1 y e2; omega
      subst e
      rw [ih hx.2 hy.2 (fun z => ?_)]
      constructor
      · intro hz
        rcases List.mem_cons.1 ((h z).1 (List.mem_cons_of_mem _ hz)) with e | e
        · subst e; have := hx.1 z hz; omega
        · exact e
      · intro hz
        rcases List.mem_cons.1 ((h z).2 (List.mem_cons_of_mem _ hz)) with e | e
        · subst e; have := hy.1 z hz; omega
        · exact e
theorem insK_asc {L : List Int} (k : Int) (h : Asc L) : Asc (insK L k) ∧ ∀ x, x ∈ insK L k ↔ x ∈ L ∨ x = k := by
  induction L with
  | nil => simp [insK, Asc, atK]
  | cons y r ih =>
    have hy := List.pairwise_cons.1 h
    obtain ⟨i1, i2⟩ := ih hy.2
    by_cases hm : (y :: r).contains k = true
    · unfold insK
      rw [if_pos hm]
      refine ⟨h, fun x => ⟨.inl, fun hx => ?_⟩⟩
      rcases hx with hx | hx
      · exact hx
      · subst hx; simpa using hm
    · have hm0 : insK (y :: r) k = if y < k then y :: insK r k else k :: y :: r := by
        unfold insK
        rw [if_neg hm]
        have hmr : ¬ r.contains k = true := fun e => hm (by simp at e ⊢; exact .inr e)
        rw [if_neg hmr]
        simp only [atK]
        split <;> simp
      rw [hm0]
      have hne : y ≠ k := fun e => hm (by simp [e])
      split
      · rename_i hlt
        refine ⟨List.pairwise_cons.2 ⟨fun x hx => ?_, i1⟩, fun x => ?_⟩
        · rcases (i2 x).1 hx with h1 | h1
          · exact hy.1 x h1
          · rw [h1]; exact hlt
        · simp only [List.mem_cons, i2 x]
          constructor
          · rintro (h | h | h) <;> simp [h]
          · rintro ((h | h) | h) <;> simp [h]
      · rename_i hlt
        refine ⟨List.pairwise_cons.2 ⟨fun x hx => ?_, h⟩, fun x => ?_⟩
        · rcases List.mem_cons.1 hx with e | e
          · rw [e]; omega
          · have := hy.1 x e; omega
        · simp only [List.mem_cons]
          constructor
          · rintro (h | h | h) <;> simp [h]
          · rintro ((h | h) | h) <;> simp [h]
theorem insL_asc (z : Nat → Int) : ∀ n, Asc (insL z n) ∧ ∀ x, x ∈ insL z n ↔ x ∈ keysL z n
  | 0 => by simp [insL, Asc, keysL]
  | n + 1 => by
    obtain ⟨h1, h2⟩ := insL_asc z n
    obtain ⟨h3, h4⟩ := insK_asc (z n) h1
    refine ⟨h3, fun x => ?_⟩
    simp only [insL, h4 x, h2 x, keysL, List.range_succ, List.map_append, List.mem_append, List.map_cons, List.map_nil, List.mem_singleton]
theorem srt_sorted (l : List Int) : (srt l).Pairwise (· ≤ ·) := by
  have := List.pairwise_mergeSort (le := fun (x y : Int) => decide (x ≤ y)) (by intro a b c; simp; omega) (by intro a b; simp; omega) l
  simpa [srt] using this
theorem sorted_le {l : List Int} (h : l.Pairwise (· ≤ ·)) {i j : Nat} (hij : i ≤ j) (hj : j < l.length) : l.toArray[i]! ≤ l.toArray[j]! := by
  have hi : i < l.length := by omega
  rw [getElem!_pos _ i (by simpa using hi), getElem!_pos _ j (by simpa using hj)]
  rcases Nat.lt_or_eq_of_le hij with h1 | h1
  · exact List.pairwise_iff_getElem.1 h i j hi hj h1
  · subst h1; exact Int.le_refl _
theorem kept {l : List Int} : ∀ j, j < l.length → ∃ q, q ≤ j ∧ Lib.keeps l.toArray q = true ∧ l.toArray[q]! = l.toArray[j]!
  | 0, _ => ⟨0, Nat.le_refl _, Lib.keeps_lt_one _ 0 (by omega), rfl⟩
  | j + 1, h => by
    by_cases e : l.toArray[j + 1]! = l.toArray[j]!
    · obtain ⟨q, h1, h2, h3⟩ := kept (l := l) j (by omega)
      exact ⟨q, by omega, h2, by rw [h3, e]⟩
    · exact ⟨j + 1, Nat.le_refl _, Lib.keeps_pos (by simpa using e), rfl⟩
theorem comp_all (l : List Int) (h : l.Pairwise (· ≤ ·)) : Asc (Lib.compact l) ∧ ∀ x, x ∈ Lib.compact l ↔ x ∈ l := by
  refine ⟨?_, fun x => ⟨compact_mem, fun hx => ?_⟩⟩
  · unfold Asc Lib.compact Lib.compactUpTo
    rw [List.pairwise_map]
    have hr : (List.range l.length).Pairwise (· < ·) := List.pairwise_lt_range
    refine (hr.filter (Lib.keeps l.toArray)).imp_of_mem (fun {a b} ha hb hab => ?_)
    have hb1 := List.mem_filter.1 hb
    have hbl : b < l.length := List.mem_range.1 hb1.1
    have hne : l.toArray[b]! ≠ l.toArray[b - 1]! := fun e => by
      have := Lib.keeps_neg (by omega) e
      rw [this] at hb1
      exact absurd hb1.2 (by simp)
    have h1 := sorted_le h (show a ≤ b - 1 by omega) (by omega)
    have h2 := sorted_le h (show b - 1 ≤ b by omega) hbl
    omega
  · obtain ⟨j, hj, rfl⟩ := List.mem_iff_getElem.1 hx
    obtain ⟨q, h1, h2, h3⟩ := kept j hj
    unfold Lib.compact Lib.compactUpTo
    refine List.mem_map.2 ⟨q, List.mem_filter.2 ⟨List.mem_range.2 (by omega), h2⟩, ?_⟩
    show l.toArray[q]! = l[j]
    rw [h3, getElem!_pos _ j (by simpa using hj)]
    simp
theorem all_same (z : Nat → Int) (n : Nat) : Lib.compact (srt (keysL z n)) = insL z n := by
  obtain ⟨h1, h2⟩ := comp_all _ (srt_sorted (keysL z n))
  obtain ⟨h3, h4⟩ := insL_asc z n
  refine asc_ext h1 h3 (fun x => ?_)
  rw [h2 x, h4 x]
  simp [srt]
end Go.Proofs.YtfdcpbolofkopaaDoor
