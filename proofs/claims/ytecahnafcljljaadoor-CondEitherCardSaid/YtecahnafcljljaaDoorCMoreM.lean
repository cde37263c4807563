/- What opens a branch opens it with more signatures, later and older, too; with a key missing nothing does: over plain lists. -/
import Derived.Test.YtecahnafcljljaaDoorCOpensB
namespace Go.Proofs.YtecahnafcljljaaDoor
open Go.RowKit Go.Shelf Go.Sort

theorem hasK_iff (sz : Nat → Int) (sn : Nat) (k : Int) : hasK sz sn k = true ↔ ∃ j, j < sn ∧ sz j = k := by
  simp only [hasK, List.contains_iff_mem, keysL, List.mem_map, List.mem_range]
theorem opnA_zero {X : Nat → Bv} {n : Nat} {br : Int} {sz : Nat → Int} {sn : Nat} {T : List Nat} {ht ag : Int} (h : opnA X n br sz sn T ht ag = 0) :
    COk X n ∧ (0 ≤ br ∧ br < n) ∧ AllIn (X br.toNat).z (X br.toNat).n sz sn ∧ (hq (X br.toNat).lk nz = true ∨ hq (X br.toNat).lk (sZ (sumF T)) = true) ∧ ¬ (ht < (X br.toNat).af ∨ ag < (X br.toNat).ol) := by
  unfold opnA at h
  split at h
  · split at h
    · unfold opnB at h
      split at h
      · split at h
        · split at h
          · omega
          · exact ⟨by assumption, by assumption, by assumption, by assumption, by assumption⟩
        · omega
      · omega
    · omega
  · omega
/-- More signatures, later, older. -/
theorem opnA_more {X : Nat → Bv} {n : Nat} {br : Int} {sz : Nat → Int} {sn : Nat} {T : List Nat} {ht ag : Int} (h : opnA X n br sz sn T ht ag = 0) (sz' : Nat → Int) (sn' : Nat) (hs : ∀ j, j < sn → ∃ i, i < sn' ∧ sz' i = sz j) :
    opnA X n br sz' sn' T (ht + 1) (ag + 1) = 0 := by
  obtain ⟨h1, h2, h3, h4, h5⟩ := opnA_zero h
  unfold opnA
  rw [if_pos h1, if_pos h2]
  unfold opnB
  rw [if_pos, if_pos h4, if_neg]
  · rintro (h | h)
    · exact h5 (.inl (by omega))
    · exact h5 (.inr (by omega))
  · intro j hj
    obtain ⟨i, hi, e⟩ := (hasK_iff _ _ _).1 (h3 j hj)
    obtain ⟨i', hi', e'⟩ := hs i hi
    exact (hasK_iff _ _ _).2 ⟨i', hi', e'.trans e⟩
/-- One of its keys missing. -/
theorem opnA_miss {X : Nat → Bv} {n : Nat} {br : Int} {sz : Nat → Int} {sn : Nat} {T : List Nat} {ht ag : Int} (h : opnA X n br sz sn T ht ag = 0) (sz' : Nat → Int) (sn' : Nat) (i : Nat) (hi : i < (X br.toNat).n) (hs : ∀ j, j < sn' → sz' j ≠ (X br.toNat).z i) :
    opnA X n br sz' sn' T ht ag = 21 := by
  obtain ⟨h1, h2, _, _, _⟩ := opnA_zero h
  unfold opnA
  rw [if_pos h1, if_pos h2]
  unfold opnB
  rw [if_neg]
  intro ha
  obtain ⟨j, hj, e⟩ := (hasK_iff _ _ _).1 (ha i hi)
  exact hs j hj e
/-- Those that are not a key. -/
def offK (sz : Nat → Int) (k : Int) (j : Nat) : List Int := (keysL sz j).filter fun x => decide (x ≠ k)
theorem offK_len (sz : Nat → Int) (k : Int) (j : Nat) : (offK sz k j).length ≤ j := by
  have h := List.length_filter_le (fun x => decide (x ≠ k)) (keysL sz j)
  rw [keysL_length] at h
  exact h
theorem keysL_succ (sz : Nat → Int) (j : Nat) : keysL sz (j + 1) = keysL sz j ++ [sz j] := by simp [keysL, List.range_succ]
theorem offK_eq (sz : Nat → Int) (k : Int) (j : Nat) (h : sz j = k) : offK sz k (j + 1) = offK sz k j := by
  unfold offK
  rw [keysL_succ, List.filter_append]
  simp [h]
theorem offK_ne (sz : Nat → Int) (k : Int) (j : Nat) (h : sz j ≠ k) : offK sz k (j + 1) = offK sz k j ++ [sz j] := by
  unfold offK
  rw [keysL_succ, List.filter_append]
  simp [h]
theorem offK_no (sz : Nat → Int) (k : Int) (n : Nat) : ∀ j, j < (offK sz k n).length → (fun j => (offK sz k n).getD j 0) j ≠ k := by
  intro j hj
  show (offK sz k n).getD j 0 ≠ k
  rw [List.getD_eq_getElem?_getD, List.getElem?_eq_getElem hj, Option.getD_some]
  have hm := List.getElem_mem hj
  unfold offK at hm
  have := (List.mem_filter.1 hm).2
  exact of_decide_eq_true this
end Go.Proofs.YtecahnafcljljaaDoor
