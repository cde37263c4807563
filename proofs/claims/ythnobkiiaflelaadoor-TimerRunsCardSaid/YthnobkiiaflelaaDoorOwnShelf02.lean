/- Heaps, as container/heap has them: the mathematics. -/
import Derived.Test.YthnobkiiaflelaaDoorProg
namespace Go.Proofs.YthnobkiiaflelaaDoor

section
variable {α : Type} (lt : α → α → Bool)
/-- A strict order in which all can be held against one another. -/
structure Ord12 : Prop where
  asymm : ∀ x y, lt x y = true → lt y x = false
  trans : ∀ x y z, lt y x = false → lt z y = false → lt z x = false
/-- No one of the first n is ahead of its parent. -/
def HeapN (n : Nat) (a : Nat → α) : Prop := ∀ k, 0 < k → k < n → lt (a k) (a ((k - 1) / 2)) = false
/-- Two places that change. -/
def tr (i j k : Nat) : Nat := if k = i then j else if k = j then i else k
def swapA (a : Nat → α) (i j : Nat) : Nat → α := fun k => a (tr i j k)
theorem swapA_i (a : Nat → α) (i j : Nat) : swapA a i j i = a j := by simp [swapA, tr]
theorem swapA_j (a : Nat → α) (i j : Nat) : swapA a i j j = a i := by
  unfold swapA tr
  by_cases h : j = i
  · simp [h]
  · simp [h]
theorem swapA_o (a : Nat → α) {i j k : Nat} (h1 : k ≠ i) (h2 : k ≠ j) : swapA a i j k = a k := by simp [swapA, tr, h1, h2]
/-- The first n. -/
def rowA (n : Nat) (a : Nat → α) : List α := (List.range n).map a
theorem rowA_length (n : Nat) (a : Nat → α) : (rowA n a).length = n := by simp [rowA]
theorem rowA_succ (n : Nat) (a : Nat → α) : rowA (n + 1) a = rowA n a ++ [a n] := by simp [rowA, List.range_succ]
theorem rowA_swap {n i j : Nat} (a : Nat → α) (hi : i < n) (hj : j < n) : (rowA n (swapA a i j)).Perm (rowA n a) := by
  have e : rowA n (swapA a i j) = ((List.range n).map (tr i j)).map a := by simp [rowA, swapA]
  rw [e]
  refine List.Perm.map a ?_
  refine (List.perm_ext_iff_of_nodup ?_ List.nodup_range).2 fun k => ?_
  · rw [List.nodup_iff_pairwise_ne, List.pairwise_map]
    refine List.Pairwise.imp ?_ (List.nodup_iff_pairwise_ne.1 (List.nodup_range (n := n)))
    intro x y hxy e
    unfold tr at e
    by_cases h1 : x = i <;> by_cases h2 : x = j <;> by_cases h3 : y = i <;> by_cases h4 : y = j <;> simp_all
  · rw [List.mem_map, List.mem_range]
    constructor
    · rintro ⟨x, hx, rfl⟩
      rw [List.mem_range] at hx
      unfold tr
      split
      · exact hj
      · split
        · exact hi
        · exact hx
    · intro hk
      refine ⟨tr i j k, ?_, ?_⟩
      · rw [List.mem_range]
        unfold tr
        split
        · exact hj
        · split
          · exact hi
          · exact hk
      · unfold tr
        by_cases h1 : k = i <;> by_cases h2 : k = j <;> simp_all
/-- Nobody is ahead of the first one. -/
theorem HeapN.root {lt : α → α → Bool} (ho : Ord12 lt) {n : Nat} {a : Nat → α} (h : HeapN lt n a) : ∀ k, k < n → lt (a k) (a 0) = false := by
  intro k
  induction k using Nat.strongRecOn with
  | _ k ih =>
    intro hk
    by_cases h0 : k = 0
    · subst h0
      cases e : lt (a 0) (a 0) with
      | false => rfl
      | true => rw [ho.asymm _ _ e] at e; cases e
    · have h1 := ih ((k - 1) / 2) (by omega) (by omega)
      have h2 := h k (by omega) hk
      exact ho.trans _ _ _ h1 h2
/-- A heap but for j, which may be ahead of its parent. -/
structure UpH (n : Nat) (a : Nat → α) (j : Nat) : Prop where
  rest : ∀ k, 0 < k → k < n → k ≠ j → lt (a k) (a ((k - 1) / 2)) = false
  over : ∀ k, 0 < k → k < n → (k - 1) / 2 = j → 0 < j → lt (a k) (a ((j - 1) / 2)) = false
theorem UpH.stop {lt : α → α → Bool} {n : Nat} {a : Nat → α} {j : Nat} (h : UpH lt n a j) (hj : j = 0 ∨ lt (a j) (a ((j - 1) / 2)) = false) : HeapN lt n a := by
  intro k h0 hk
  by_cases e : k = j
  · subst e
    rcases hj with hj | hj
    · omega
    · exact hj
  · exact h.rest k h0 hk e
theorem UpH.step {lt : α → α → Bool} (ho : Ord12 lt) {n : Nat} {a : Nat → α} {j : Nat} (h : UpH lt n a j) (hj : 0 < j) (hjn : j < n) (hl : lt (a j) (a ((j - 1) / 2)) = true) : UpH lt n (swapA a ((j - 1) / 2) j) ((j - 1) / 2) := by
  obtain ⟨i, hi⟩ : ∃ i, (j - 1) / 2 = i := ⟨_, rfl⟩
  rw [hi] at hl ⊢
  have hij : i < j := by omega
  have hself : ∀ x, lt x x = false := fun x => by
    cases e : lt x x with
    | false => rfl
    | true => rw [ho.asymm _ _ e] at e; cases e
  refine ⟨fun k h0 hk hne => ?_, fun k h0 hk hp hi0 => ?_⟩
  · by_cases e1 : k = j
    · subst e1
      rw [hi, swapA_j, swapA_i]
      exact ho.asymm _ _ hl
    · rw [swapA_o a hne e1]
      by_cases e2 : (k - 1) / 2 = i
      · rw [e2, swapA_i]
        have h1 := h.rest k h0 hk e1
        rw [e2] at h1
        exact ho.trans _ _ _ (ho.asymm _ _ hl) h1
      · by_cases e3 : (k - 1) / 2 = j
        · rw [e3, swapA_j]
          have := h.over k h0 hk e3 hj
          rwa [hi] at this
        · rw [swapA_o a e2 e3]
          exact h.rest k h0 hk e1
  · have e4 : (i - 1) / 2 ≠ i := by omega
    have e5 : (i - 1) / 2 ≠ j := by omega
    rw [swapA_o a e4 e5]
    have hpi := h.rest i hi0 (by omega) (by omega)
    by_cases e1 : k = j
    · subst e1
      rw [swapA_j]
      exact hpi
    · have e6 : k ≠ i := by omega
      rw [swapA_o a e6 e1]
      have h1 := h.rest k h0 hk e1
      rw [hp] at h1
      exact ho.trans _ _ _ hpi h1
/-- A heap but for i, whose children may be ahead of it. -/
structure DnH (n : Nat) (a : Nat → α) (i : Nat) : Prop where
  rest : ∀ k, 0 < k → k < n → (k - 1) / 2 ≠ i → lt (a k) (a ((k - 1) / 2)) = false
  over : ∀ k, 0 < k → k < n → (k - 1) / 2 = i → 0 < i → lt (a k) (a ((i - 1) / 2)) = false
theorem DnH.stop {lt : α → α → Bool} {n : Nat} {a : Nat → α} {i : Nat} (h : DnH lt n a i) (hi : ∀ k, 0 < k → k < n → (k - 1) / 2 = i → lt (a k) (a i) = false) : HeapN lt n a := by
  intro k h0 hk
  by_cases e : (k - 1) / 2 = i
  · rw [e]; exact hi k h0 hk e
  · exact h.rest k h0 hk e
/-- j: the child of i that is ahead of the other one, and of i. -/
theorem DnH.step {lt : α → α → Bool} (ho : Ord12 lt) {n : Nat} {a : Nat → α} {i j : Nat} (h : DnH lt n a i) (hj0 : 0 < j) (hjn : j < n) (hp : (j - 1) / 2 = i) (hl : lt (a j) (a i) = true) (hsm : ∀ k, 0 < k → k < n → (k - 1) / 2 = i → lt (a k) (a j) = false) : DnH lt n (swapA a i j) j := by
  have hij : i < j := by omega
  refine ⟨fun k h0 hk hne => ?_, fun k h0 hk hpk hj => ?_⟩
  · by_cases e2 : (k - 1) / 2 = i
    · rw [e2, swapA_i]
      by_cases e1 : k = j
      · subst e1
        rw [swapA_j]
        exact ho.asymm _ _ hl
      · have e3 : k ≠ i := by omega
        rw [swapA_o a e3 e1]
        exact hsm k h0 hk e2
    · by_cases e1 : k = i
      · subst e1
        rw [swapA_i, swapA_o a (by omega) (by omega)]
        exact h.over j hj0 hjn hp h0
      · have e3 : k ≠ j := fun e => e2 (by rw [e]; exact hp)
        rw [swapA_o a e1 e3, swapA_o a e2 hne]
        exact h.rest k h0 hk e2
  · rw [hp, swapA_i]
    have e1 : k ≠ i := by omega
    have e2 : k ≠ j := by omega
    rw [swapA_o a e1 e2]
    have := h.rest k h0 hk (by omega)
    rwa [hpk] at this
/-- One more, at the end. -/
theorem HeapN.push {lt : α → α → Bool} {n : Nat} {a : Nat → α} (h : HeapN lt n a) : UpH lt (n + 1) a n :=
  ⟨fun k h0 hk hne => h k h0 (by omega), fun k h0 hk hp hj => by omega⟩
/-- The last one put in the place of the first one. -/
theorem HeapN.pop {lt : α → α → Bool} {n : Nat} {a : Nat → α} (h : HeapN lt (n + 1) a) : DnH lt n (swapA a 0 n) 0 := by
  refine ⟨fun k h0 hk hne => ?_, fun k h0 hk hp hj => by omega⟩
  have e1 : k ≠ 0 := by omega
  have e2 : k ≠ n := by omega
  rw [swapA_o a e1 e2, swapA_o a hne (by omega)]
  exact h k h0 (by omega)
theorem HeapN.less {lt : α → α → Bool} {n m : Nat} {a : Nat → α} (h : HeapN lt n a) (hm : m ≤ n) : HeapN lt m a := fun k h0 hk => h k h0 (by omega)
/-- The last one put in the place of i: it is a heap but for i, which may go down, or up. -/
theorem HeapN.cut {lt : α → α → Bool} (ho : Ord12 lt) {n i : Nat} {a : Nat → α} (h : HeapN lt (n + 1) a) (hi : i < n) : (∀ k, 0 < k → k < n → k ≠ i → (k - 1) / 2 ≠ i → lt (swapA a i n k) (swapA a i n ((k - 1) / 2)) = false) ∧ (∀ k, 0 < k → k < n → (k - 1) / 2 = i → 0 < i → lt (swapA a i n k) (swapA a i n ((i - 1) / 2)) = false) := by
  refine ⟨fun k h0 hk h1 h2 => ?_, fun k h0 hk hp hi0 => ?_⟩
  · rw [swapA_o a h1 (by omega), swapA_o a h2 (by omega)]
    exact h k h0 (by omega)
  · rw [swapA_o a (by omega) (by omega), swapA_o a (by omega) (by omega)]
    have h1 := h k h0 (by omega)
    rw [hp] at h1
    exact ho.trans _ _ _ (h i hi0 (by omega)) h1
/-- A heap but for i, which may go down, or up. -/
structure CutH (n : Nat) (a : Nat → α) (i : Nat) : Prop where
  rest : ∀ k, 0 < k → k < n → k ≠ i → (k - 1) / 2 ≠ i → lt (a k) (a ((k - 1) / 2)) = false
  over : ∀ k, 0 < k → k < n → (k - 1) / 2 = i → 0 < i → lt (a k) (a ((i - 1) / 2)) = false
theorem HeapN.cutH {lt : α → α → Bool} (ho : Ord12 lt) {n i : Nat} {a : Nat → α} (h : HeapN lt (n + 1) a) (hi : i < n) : CutH lt n (swapA a i n) i := ⟨(h.cut ho hi).1, (h.cut ho hi).2⟩
theorem HeapN.popH {lt : α → α → Bool} {n : Nat} {a : Nat → α} (h : HeapN lt (n + 1) a) : CutH lt n (swapA a 0 n) 0 := ⟨fun k h0 hk _ hp => h.pop.rest k h0 hk hp, fun k h0 hk hp hi => by omega⟩
/-- Nobody below it is ahead of it. -/
theorem CutH.up {lt : α → α → Bool} {n : Nat} {a : Nat → α} {i : Nat} (h : CutH lt n a i) (hc : ∀ k, 0 < k → k < n → (k - 1) / 2 = i → lt (a k) (a i) = false) : UpH lt n a i :=
  ⟨fun k h0 hk hne => by
    by_cases e : (k - 1) / 2 = i
    · rw [e]; exact hc k h0 hk e
    · exact h.rest k h0 hk hne e, h.over⟩
/-- Somebody below it is ahead of it. -/
theorem CutH.dn {lt : α → α → Bool} (ho : Ord12 lt) {n : Nat} {a : Nat → α} {i j : Nat} (h : CutH lt n a i) (hin : i < n) (hj0 : 0 < j) (hjn : j < n) (hp : (j - 1) / 2 = i) (hl : lt (a j) (a i) = true) : DnH lt n a i :=
  ⟨fun k h0 hk hne => by
    by_cases e : k = i
    · subst e
      exact ho.trans _ _ _ (h.over j hj0 hjn hp h0) (ho.asymm _ _ hl)
    · exact h.rest k h0 hk e hne, h.over⟩
end
end Go.Proofs.YthnobkiiaflelaaDoor
/- Events by their due, then by their number; a heap of them, and a list that rises. -/
namespace Go.Proofs.YthnobkiiaflelaaDoor

/-- An event: its number, its due, its name. -/
structure Ev where
  id : Int
  due : Int
  nm : List UInt8
instance : Inhabited Ev := ⟨⟨0, 0, []⟩⟩
def ltE (x y : Ev) : Bool := decide (x.due < y.due ∨ (x.due = y.due ∧ x.id < y.id))
theorem ltE_iff {x y : Ev} : ltE x y = true ↔ (x.due < y.due ∨ (x.due = y.due ∧ x.id < y.id)) := decide_eq_true_iff
theorem ltE_not {x y : Ev} : ltE x y = false ↔ ¬ (x.due < y.due ∨ (x.due = y.due ∧ x.id < y.id)) := decide_eq_false_iff_not
theorem ordE : Ord12 ltE where
  asymm x y h := by rw [ltE_iff] at h; rw [ltE_not]; omega
  trans x y z h1 h2 := by rw [ltE_not] at *; omega
/-- One behind the other. -/
def UpE (L : List Ev) : Prop := L.Pairwise fun x y => ltE x y = true
/-- The heap's first one is the list's. -/
theorem heap_first {n : Nat} {a : Nat → Ev} {x : Ev} {r : List Ev} (h : HeapN ltE n a) (hp : (rowA n a).Perm (x :: r)) (hu : UpE (x :: r)) : 0 < n ∧ a 0 = x := by
  have hn : n = r.length + 1 := by have := hp.length_eq; rw [rowA_length] at this; simpa using this
  refine ⟨by omega, ?_⟩
  have h0 : a 0 ∈ x :: r := hp.mem_iff.1 (List.mem_map.2 ⟨0, List.mem_range.2 (by omega), rfl⟩)
  rcases List.mem_cons.1 h0 with h0 | hr
  · exact h0
  · exfalso
    have hx : x ∈ rowA n a := hp.mem_iff.2 (List.mem_cons_self ..)
    obtain ⟨k, hk, rfl⟩ := List.mem_map.1 hx
    have h1 := h.root ordE k (List.mem_range.1 hk)
    have h2 := List.rel_of_pairwise_cons hu hr
    rw [h2] at h1; cases h1
theorem heap_none {n : Nat} {a : Nat → Ev} (hp : (rowA n a).Perm []) : n = 0 := by
  have := hp.length_eq
  rw [rowA_length] at this
  simpa using this
/-- The document's Add: behind all whose due is not above. -/
def insE (e : Ev) : List Ev → List Ev
  | [] => [e]
  | y :: r => if y.due ≤ e.due then y :: insE e r else e :: y :: r
theorem mem_insE {e x : Ev} : ∀ {L : List Ev}, x ∈ insE e L ↔ x = e ∨ x ∈ L
  | [] => by simp [insE]
  | y :: r => by
    rw [insE]
    split
    · rw [List.mem_cons, mem_insE, List.mem_cons]
      constructor
      · rintro (h | h | h)
        · exact .inr (.inl h)
        · exact .inl h
        · exact .inr (.inr h)
      · rintro (h | h | h)
        · exact .inr (.inl h)
        · exact .inl h
        · exact .inr (.inr h)
    · rw [List.mem_cons, List.mem_cons]
theorem insE_perm (e : Ev) : ∀ L : List Ev, (insE e L).Perm (e :: L)
  | [] => List.Perm.refl _
  | y :: r => by
    rw [insE]
    split
    · exact ((insE_perm e r).cons y).trans (List.Perm.swap e y r)
    · exact List.Perm.refl _
theorem insE_up {e : Ev} : ∀ {L : List Ev}, UpE L → (∀ x ∈ L, x.id < e.id) → UpE (insE e L)
  | [], _, _ => List.pairwise_singleton _ _
  | y :: r, h, hid => by
    unfold UpE at h ⊢
    rw [List.pairwise_cons] at h
    rw [insE]
    split
    · rename_i hd
      rw [List.pairwise_cons]
      refine ⟨fun z hz => ?_, insE_up h.2 (fun x hx => hid x (List.mem_cons_of_mem _ hx))⟩
      rcases mem_insE.1 hz with rfl | hz
      · rw [ltE_iff]
        have := hid y (List.mem_cons_self ..)
        omega
      · exact h.1 z hz
    · rename_i hd
      rw [List.pairwise_cons]
      refine ⟨fun z hz => ?_, by rw [List.pairwise_cons]; exact h⟩
      rw [ltE_iff]
      rcases List.mem_cons.1 hz with rfl | hz
      · omega
      · have := ltE_iff.1 (h.1 z hz)
        omega
/-- Where the document puts it. -/
theorem insE_at {e : Ev} : ∀ {L : List Ev} {i : Nat}, i ≤ L.length → (∀ y ∈ L.take i, y.due ≤ e.due) → (∀ y, L[i]? = some y → ¬ y.due ≤ e.due) → insE e L = L.take i ++ e :: L.drop i
  | [], i, hi, _, _ => by
    have : i = 0 := by simpa using hi
    subst this; rfl
  | y :: r, 0, _, _, h2 => by
    rw [insE, if_neg (h2 y rfl)]; rfl
  | y :: r, i + 1, hi, h1, h2 => by
    rw [insE, if_pos (h1 y (by simp)), insE_at (L := r) (i := i) (by simpa using hi) (fun z hz => h1 z (by simp [hz])) (fun z hz => h2 z (by simpa using hz))]
    rfl
/-- Those that are due, and those that are not yet. -/
def dueE (now : Int) (L : List Ev) : List Ev := L.takeWhile fun x => decide (x.due ≤ now)
def restE (now : Int) (L : List Ev) : List Ev := L.dropWhile fun x => decide (x.due ≤ now)
theorem dueE_rest (now : Int) (L : List Ev) : dueE now L ++ restE now L = L := List.takeWhile_append_dropWhile
theorem UpE.drop {L : List Ev} (h : UpE L) (n : Nat) : UpE (L.drop n) := List.Pairwise.sublist (List.drop_sublist n L) h
theorem UpE.tail {x : Ev} {L : List Ev} (h : UpE (x :: L)) : UpE L := (List.pairwise_cons.1 h).2
theorem UpE.filter {L : List Ev} (h : UpE L) (f : Ev → Bool) : UpE (L.filter f) := List.Pairwise.filter _ h
theorem UpE.ext {L M : List Ev} (h1 : UpE L) (h2 : UpE M) (hp : L.Perm M) : L = M :=
  List.Perm.eq_of_pairwise (fun x y _ _ h h' => by rw [ordE.asymm _ _ h] at h'; cases h') h1 h2 hp
/-- What Add answers: its error. -/
def addE (due : Int) (nm : List UInt8) : Int := if due < 0 ∨ due > 1099511627776 then 4 else if nm.length > 64 then 2 else 0
def cutE (id : Int) (L : List Ev) : List Ev := L.filter fun x => decide (x.id ≠ id)
theorem cutE_le (id : Int) (L : List Ev) : (cutE id L).length ≤ L.length := List.length_filter_le _ _
theorem cutE_all {id : Int} {L : List Ev} : (cutE id L).length = L.length ↔ cutE id L = L := by
  refine ⟨fun h => ?_, fun h => by rw [h]⟩
  exact (List.filter_sublist (l := L)).eq_of_length h
end Go.Proofs.YthnobkiiaflelaaDoor
/- Those that are due: where they end. -/
namespace Go.Proofs.YthnobkiiaflelaaDoor

theorem dueE_at {now : Int} : ∀ {L : List Ev} {i : Nat}, i ≤ L.length → (∀ y ∈ L.take i, y.due ≤ now) → (∀ y, L[i]? = some y → ¬ y.due ≤ now) → dueE now L = L.take i ∧ restE now L = L.drop i
  | [], i, hi, _, _ => by simp [dueE, restE]
  | y :: r, 0, _, _, h2 => by
    have := h2 y rfl
    simp [dueE, restE, this]
  | y :: r, i + 1, hi, h1, h2 => by
    have ih := dueE_at (L := r) (i := i) (now := now) (by simpa using hi) (fun z hz => h1 z (by simp [hz])) (fun z hz => h2 z (by simpa using hz))
    have h0 := h1 y (by simp)
    simp only [dueE, restE] at ih ⊢
    rw [List.takeWhile_cons, List.dropWhile_cons, if_pos (decide_eq_true h0), if_pos (decide_eq_true h0), ih.1, ih.2]
    exact ⟨rfl, rfl⟩

end Go.Proofs.YthnobkiiaflelaaDoor
