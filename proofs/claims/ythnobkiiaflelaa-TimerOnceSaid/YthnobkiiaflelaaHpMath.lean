/- Heaps, as container/heap has them: the mathematics. -/
import Derived.Test.YthnobkiiaflelaaProg
namespace Go.Proofs.Ythnobkiiaflelaa

section
variable {α : Type} (lt : α → α → Bool)
/-- A strict order in which all can be held against one another. -/
structure Ord12 : Prop where
  asymm : ∀ x y, lt x y = true → lt y x = false
  trans : ∀ x y z, lt y x = false → lt z y = false → lt z x = false
/-- No one of the first n is ahead of its parent. -/
def HeapN (n : Nat) (a : Nat → α) : Prop := ∀ k, 0 < k → k < n → lt (a k) (a ((k - 1) / 2)) = false
/-- Two places that change. -/
def tr (i j k : Nat) : Nat := if k = i then j else if k = j then i else k
def swapA (a : Nat → α) (i j : Nat) : Nat → α := fun k => a (tr i j k)
theorem swapA_i (a : Nat → α) (i j : Nat) : swapA a i j i = a j := by simp [swapA, tr]
theorem swapA_j (a : Nat → α) (i j : Nat) : swapA a i j j = a i := by
  unfold swapA tr
  by_cases h : j = i
  · simp [h]
  · simp [h]
theorem swapA_o (a : Nat → α) {i j k : Nat} (h1 : k ≠ i) (h2 : k ≠ j) : swapA a i j k = a k := by simp [swapA, tr, h1, h2]
/-- The first n. -/
def rowA (n : Nat) (a : Nat → α) : List α := (List.range n).map a
theorem rowA_length (n : Nat) (a : Nat → α) : (rowA n a).length = n := by simp [rowA]
theorem rowA_succ (n : Nat) (a : Nat → α) : rowA (n + 1) a = rowA n a ++ [a n] := by simp [rowA, List.range_succ]
theorem rowA_swap {n i j : Nat} (a : Nat → α) (hi : i < n) (hj : j < n) : (rowA n (swapA a i j)).Perm (rowA n a) := by
  have e : rowA n (swapA a i j) = ((List.range n).map (tr i j)).map a := by simp [rowA, swapA]
  rw [e]
  refine List.Perm.map a ?_
  refine (List.perm_ext_iff_of_nodup ?_ List.nodup_range).2 fun k => ?_
  · rw [List.nodup_iff_pairwise_ne, List.pairwise_map]
    refine List.Pairwise.imp ?_ (List.nodup_iff_pairwise_ne.1 (List.nodup_range (n := n)))
    intro x y hxy e
    unfold tr at e
    by_cases h1 : x = i <;> by_cases h2 : x = j <;> by_cases h3 : y = i <;> by_cases h4 : y = j <;> simp_all
  · rw [List.mem_map, List.mem_range]
    constructor
    · rintro ⟨x, hx, rfl⟩
      rw [List.mem_range] at hx
      unfold tr
      split
      · exact hj
      · split
        · exact hi
        · exact hx
    · intro hk
      refine ⟨tr i j k, ?_, ?_⟩
      · rw [List.mem_range]
        unfold tr
        split
        · exact hj
        · split
          · exact hi
          · exact hk
      · unfold tr
        by_cases h1 : k = i <;> by_cases h2 : k = j <;> simp_all
/-- Nobody is ahead of the first one. -/
theorem HeapN.root {lt : α → α → Bool} (ho : Ord12 lt) {n : Nat} {a : Nat → α} (h : HeapN lt n a) : ∀ k, k < n → lt (a k) (a 0) = false := by
  intro k
  induction k using Nat.strongRecOn with
  | _ k ih =>
    intro hk
    by_cases h0 : k = 0
    · subst h0
      cases e : lt (a 0) (a 0) with
      | false => rfl
      | true => rw [ho.asymm _ _ e] at e; cases e
    · have h1 := ih ((k - 1) / 2) (by omega) (by omega)
      have h2 := h k (by omega) hk
      exact ho.trans _ _ _ h1 h2
/-- A heap but for j, which may be ahead of its parent. -/
structure UpH (n : Nat) (a : Nat → α) (j : Nat) : Prop where
  rest : ∀ k, 0 < k → k < n → k ≠ j → lt (a k) (a ((k - 1) / 2)) = false
  over : ∀ k, 0 < k → k < n → (k - 1) / 2 = j → 0 < j → lt (a k) (a ((j - 1) / 2)) = false
theorem UpH.stop {lt : α → α → Bool} {n : Nat} {a : Nat → α} {j : Nat} (h : UpH lt n a j) (hj : j = 0 ∨ lt (a j) (a ((j - 1) / 2)) = false) : HeapN lt n a := by
  intro k h0 hk
  by_cases e : k = j
  · subst e
    rcases hj with hj | hj
    · omega
    · exact hj
  · exact h.rest k h0 hk e
theorem UpH.step {lt : α → α → Bool} (ho : Ord12 lt) {n : Nat} {a : Nat → α} {j : Nat} (h : UpH lt n a j) (hj : 0 < j) (hjn : j < n) (hl : lt (a j) (a ((j - 1) / 2)) = true) : UpH lt n (swapA a ((j - 1) / 2) j) ((j - 1) / 2) := by
  obtain ⟨i, hi⟩ : ∃ i, (j - 1) / 2 = i := ⟨_, rfl⟩
  rw [hi] at hl ⊢
  have hij : i < j := by omega
  have hself : ∀ x, lt x x = false := fun x => by
    cases e : lt x x with
    | false => rfl
    | true => rw [ho.asymm _ _ e] at e; cases e
  refine ⟨fun k h0 hk hne => ?_, fun k h0 hk hp hi0 => ?_⟩
  · by_cases e1 : k = j
    · subst e1
      rw [hi, swapA_j, swapA_i]
      exact ho.asymm _ _ hl
    · rw [swapA_o a hne e1]
      by_cases e2 : (k - 1) / 2 = i
      · rw [e2, swapA_i]
        have h1 := h.rest k h0 hk e1
        rw [e2] at h1
        exact ho.trans _ _ _ (ho.asymm _ _ hl) h1
      · by_cases e3 : (k - 1) / 2 = j
        · rw [e3, swapA_j]
          have := h.over k h0 hk e3 hj
          rwa [hi] at this
        · rw [swapA_o a e2 e3]
          exact h.rest k h0 hk e1
  · have e4 : (i - 1) / 2 ≠ i := by omega
    have e5 : (i - 1) / 2 ≠ j := by omega
    rw [swapA_o a e4 e5]
    have hpi := h.rest i hi0 (by omega) (by omega)
    by_cases e1 : k = j
    · subst e1
      rw [swapA_j]
      exact hpi
    · have e6 : k ≠ i := by omega
      rw [swapA_o a e6 e1]
      have h1 := h.rest k h0 hk e1
      rw [hp] at h1
      exact ho.trans _ _ _ hpi h1
/-- A heap but for i, whose children may be ahead of it. -/
structure DnH (n : Nat) (a : Nat → α) (i : Nat) : Prop where
  rest : ∀ k, 0 < k → k < n → (k - 1) / 2 ≠ i → lt (a k) (a ((k - 1) / 2)) = false
  over : ∀ k, 0 < k → k < n → (k - 1) / 2 = i → 0 < i → lt (a k) (a ((i - 1) / 2)) = false
theorem DnH.stop {lt : α → α → Bool} {n : Nat} {a : Nat → α} {i : Nat} (h : DnH lt n a i) (hi : ∀ k, 0 < k → k < n → (k - 1) / 2 = i → lt (a k) (a i) = false) : HeapN lt n a := by
  intro k h0 hk
  by_cases e : (k - 1) / 2 = i
  · rw [e]; exact hi k h0 hk e
  · exact h.rest k h0 hk e
/-- j: the child of i that is ahead of the other one, and of i. -/
theorem DnH.step {lt : α → α → Bool} (ho : Ord12 lt) {n : Nat} {a : Nat → α} {i j : Nat} (h : DnH lt n a i) (hj0 : 0 < j) (hjn : j < n) (hp : (j - 1) / 2 = i) (hl : lt (a j) (a i) = true) (hsm : ∀ k, 0 < k → k < n → (k - 1) / 2 = i → lt (a k) (a j) = false) : DnH lt n (swapA a i j) j := by
  have hij : i < j := by omega
  refine ⟨fun k h0 hk hne => ?_, fun k h0 hk hpk hj => ?_⟩
  · by_cases e2 : (k - 1) / 2 = i
    · rw [e2, swapA_i]
      by_cases e1 : k = j
      · subst e1
        rw [swapA_j]
        exact ho.asymm _ _ hl
      · have e3 : k ≠ i := by omega
        rw [swapA_o a e3 e1]
        exact hsm k h0 hk e2
    · by_cases e1 : k = i
      · subst e1
        rw [swapA_i, swapA_o a (by omega) (by omega)]
        exact h.over j hj0 hjn hp h0
      · have e3 : k ≠ j := fun e => e2 (by rw [e]; exact hp)
        rw [swapA_o a e1 e3, swapA_o a e2 hne]
        exact h.rest k h0 hk e2
  · rw [hp, swapA_i]
    have e1 : k ≠ i := by omega
    have e2 : k ≠ j := by omega
    rw [swapA_o a e1 e2]
    have := h.rest k h0 hk (by omega)
    rwa [hpk] at this
/-- One more, at the end. -/
theorem HeapN.push {lt : α → α → Bool} {n : Nat} {a : Nat → α} (h : HeapN lt n a) : UpH lt (n + 1) a n :=
  ⟨fun k h0 hk hne => h k h0 (by omega), fun k h0 hk hp hj => by omega⟩
/-- The last one put in the place of the first one. -/
theorem HeapN.pop {lt : α → α → Bool} {n : Nat} {a : Nat → α} (h : HeapN lt (n + 1) a) : DnH lt n (swapA a 0 n) 0 := by
  refine ⟨fun k h0 hk hne => ?_, fun k h0 hk hp hj => by omega⟩
  have e1 : k ≠ 0 := by omega
  have e2 : k ≠ n := by omega
  rw [swapA_o a e1 e2, swapA_o a hne (by omega)]
  exact h k h0 (by omega)
theorem HeapN.less {lt : α → α → Bool} {n m : Nat} {a : Nat → α} (h : HeapN lt n a) (hm : m ≤ n) : HeapN lt m a := fun k h0 hk => h k h0 (by omega)
/-- The last one put in the place of i: it is a heap but for i, which may go down, or up. -/
theorem HeapN.cut {lt : α → α → Bool} (ho : Ord12 lt) {n i : Nat} {a : Nat → α} (h : HeapN lt (n + 1) a) (hi : i < n) : (∀ k, 0 < k → k < n → k ≠ i → (k - 1) / 2 ≠ i → lt (swapA a i n k) (swapA a i n ((k - 1) / 2)) = false) ∧ (∀ k, 0 < k → k < n → (k - 1) / 2 = i → 0 < i → lt (swapA a i n k) (swapA a i n ((i - 1) / 2)) = false) := by
  refine ⟨fun k h0 hk h1 h2 => ?_, fun k h0 hk hp hi0 => ?_⟩
  · rw [swapA_o a h1 (by omega), swapA_o a h2 (by omega)]
    exact h k h0 (by omega)
  · rw [swapA_o a (by omega) (by omega), swapA_o a (by omega) (by omega)]
    have h1 := h k h0 (by omega)
    rw [hp] at h1
    exact ho.trans _ _ _ (h i hi0 (by omega)) h1
/-- A heap but for i, which may go down, or up. -/
structure CutH (n : Nat) (a : Nat → α) (i : Nat) : Prop where
  rest : ∀ k, 0 < k → k < n → k ≠ i → (k - 1) / 2 ≠ i → lt (a k) (a ((k - 1) / 2)) = false
  over : ∀ k, 0 < k → k < n → (k - 1) / 2 = i → 0 < i → lt (a k) (a ((i - 1) / 2)) = false
theorem HeapN.cutH {lt : α → α → Bool} (ho : Ord12 lt) {n i : Nat} {a : Nat → α} (h : HeapN lt (n + 1) a) (hi : i < n) : CutH lt n (swapA a i n) i := ⟨(h.cut ho hi).1, (h.cut ho hi).2⟩
theorem HeapN.popH {lt : α → α → Bool} {n : Nat} {a : Nat → α} (h : HeapN lt (n + 1) a) : CutH lt n (swapA a 0 n) 0 := ⟨fun k h0 hk _ hp => h.pop.rest k h0 hk hp, fun k h0 hk hp hi => by omega⟩
/-- Nobody below it is ahead of it. -/
theorem CutH.up {lt : α → α → Bool} {n : Nat} {a : Nat → α} {i : Nat} (h : CutH lt n a i) (hc : ∀ k, 0 < k → k < n → (k - 1) / 2 = i → lt (a k) (a i) = false) : UpH lt n a i :=
  ⟨fun k h0 hk hne => by
    by_cases e : (k - 1) / 2 = i
    · rw [e]; exact hc k h0 hk e
    · exact h.rest k h0 hk hne e, h.over⟩
/-- Somebody below it is ahead of it. -/
theorem CutH.dn {lt : α → α → Bool} (ho : Ord12 lt) {n : Nat} {a : Nat → α} {i j : Nat} (h : CutH lt n a i) (hin : i < n) (hj0 : 0 < j) (hjn : j < n) (hp : (j - 1) / 2 = i) (hl : lt (a j) (a i) = true) : DnH lt n a i :=
  ⟨fun k h0 hk hne => by
    by_cases e : k = i
    · subst e
      exact ho.trans _ _ _ (h.over j hj0 hjn hp h0) (ho.asymm _ _ hl)
    · exact h.rest k h0 hk e hne, h.over⟩
end
end Go.Proofs.Ythnobkiiaflelaa
