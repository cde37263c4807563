/- Events by their due, then by their number; a heap of them, and a list that rises. -/
import Derived.Test.YthnobkiiaflelaaHpMath
namespace Go.Proofs.Ythnobkiiaflelaa

/-- An event: its number, its due, its name. -/
structure Ev where
  id : Int
  due : Int
  nm : List UInt8
instance : Inhabited Ev := ⟨⟨0, 0, []⟩⟩
def ltE (x y : Ev) : Bool := decide (x.due < y.due ∨ (x.due = y.due ∧ x.id < y.id))
theorem ltE_iff {x y : Ev} : ltE x y = true ↔ (x.due < y.due ∨ (x.due = y.due ∧ x.id < y.id)) := decide_eq_true_iff
theorem ltE_not {x y : Ev} : ltE x y = false ↔ ¬ (x.due < y.due ∨ (x.due = y.due ∧ x.id < y.id)) := decide_eq_false_iff_not
theorem ordE : Ord12 ltE where
  asymm x y h := by rw [ltE_iff] at h; rw [ltE_not]; omega
  trans x y z h1 h2 := by rw [ltE_not] at *; omega
/-- One behind the other. -/
def UpE (L : List Ev) : Prop := L.Pairwise fun x y => ltE x y = true
/-- The heap's first one is the list's. -/
theorem heap_first {n : Nat} {a : Nat → Ev} {x : Ev} {r : List Ev} (h : HeapN ltE n a) (hp : (rowA n a).Perm (x :: r)) (hu : UpE (x :: r)) : 0 < n ∧ a 0 = x := by
  have hn : n = r.length + 1 := by have := hp.length_eq; rw [rowA_length] at this; simpa using this
  refine ⟨by omega, ?_⟩
  have h0 : a 0 ∈ x :: r := hp.mem_iff.1 (List.mem_map.2 ⟨0, List.mem_range.2 (by omega), rfl⟩)
  rcases List.mem_cons.1 h0 with h0 | hr
  · exact h0
  · exfalso
    have hx : x ∈ rowA n a := hp.mem_iff.2 (List.mem_cons_self ..)
    obtain ⟨k, hk, rfl⟩ := List.mem_map.1 hx
    have h1 := h.root ordE k (List.mem_range.1 hk)
    have h2 := List.rel_of_pairwise_cons hu hr
    rw [h2] at h1; cases h1
theorem heap_none {n : Nat} {a : Nat → Ev} (hp : (rowA n a).Perm []) : n = 0 := by
  have := hp.length_eq
  rw [rowA_length] at this
  simpa using this
/-- The document's Add: behind all whose due is not above. -/
def insE (e : Ev) : List Ev → List Ev
  | [] => [e]
  | y :: r => if y.due ≤ e.due then y :: insE e r else e :: y :: r
theorem mem_insE {e x : Ev} : ∀ {L : List Ev}, x ∈ insE e L ↔ x = e ∨ x ∈ L
  | [] => by simp [insE]
  | y :: r => by
    rw [insE]
    split
    · rw [List.mem_cons, mem_insE, List.mem_cons]
      constructor
      · rintro (h | h | h)
        · exact .inr (.inl h)
        · exact .inl h
        · exact .inr (.inr h)
      · rintro (h | h | h)
        · exact .inr (.inl h)
        · exact .inl h
        · exact .inr (.inr h)
    · rw [List.mem_cons, List.mem_cons]
theorem insE_perm (e : Ev) : ∀ L : List Ev, (insE e L).Perm (e :: L)
  | [] => List.Perm.refl _
  | y :: r => by
    rw [insE]
    split
    · exact ((insE_perm e r).cons y).trans (List.Perm.swap e y r)
    · exact List.Perm.refl _
theorem insE_up {e : Ev} : ∀ {L : List Ev}, UpE L → (∀ x ∈ L, x.id < e.id) → UpE (insE e L)
  | [], _, _ => List.pairwise_singleton _ _
  | y :: r, h, hid => by
    unfold UpE at h ⊢
    rw [List.pairwise_cons] at h
    rw [insE]
    split
    · rename_i hd
      rw [List.pairwise_cons]
      refine ⟨fun z hz => ?_, insE_up h.2 (fun x hx => hid x (List.mem_cons_of_mem _ hx))⟩
      rcases mem_insE.1 hz with rfl | hz
      · rw [ltE_iff]
        have := hid y (List.mem_cons_self ..)
        omega
      · exact h.1 z hz
    · rename_i hd
      rw [List.pairwise_cons]
      refine ⟨fun z hz => ?_, by rw [List.pairwise_cons]; exact h⟩
      rw [ltE_iff]
      rcases List.mem_cons.1 hz with rfl | hz
      · omega
      · have := ltE_iff.1 (h.1 z hz)
        omega
/-- Where the document puts it. -/
theorem insE_at {e : Ev} : ∀ {L : List Ev} {i : Nat}, i ≤ L.length → (∀ y ∈ L.take i, y.due ≤ e.due) → (∀ y, L[i]? = some y → ¬ y.due ≤ e.due) → insE e L = L.take i ++ e :: L.drop i
  | [], i, hi, _, _ => by
    have : i = 0 := by simpa using hi
    subst this; rfl
  | y :: r, 0, _, _, h2 => by
    rw [insE, if_neg (h2 y rfl)]; rfl
  | y :: r, i + 1, hi, h1, h2 => by
    rw [insE, if_pos (h1 y (by simp)), insE_at (L := r) (i := i) (by simpa using hi) (fun z hz => h1 z (by simp [hz])) (fun z hz => h2 z (by simpa using hz))]
    rfl
/-- Those that are due, and those that are not yet. -/
def dueE (now : Int) (L : List Ev) : List Ev := L.takeWhile fun x => decide (x.due ≤ now)
def restE (now : Int) (L : List Ev) : List Ev := L.dropWhile fun x => decide (x.due ≤ now)
theorem dueE_rest (now : Int) (L : List Ev) : dueE now L ++ restE now L = L := List.takeWhile_append_dropWhile
theorem UpE.drop {L : List Ev} (h : UpE L) (n : Nat) : UpE (L.drop n) := List.Pairwise.sublist (List.drop_sublist n L) h
theorem UpE.tail {x : Ev} {L : List Ev} (h : UpE (x :: L)) : UpE L := (List.pairwise_cons.1 h).2
theorem UpE.filter {L : List Ev} (h : UpE L) (f : Ev → Bool) : UpE (L.filter f) := List.Pairwise.filter _ h
theorem UpE.ext {L M : List Ev} (h1 : UpE L) (h2 : UpE M) (hp : L.Perm M) : L = M :=
  List.Perm.eq_of_pairwise (fun x y _ _ h h' => by rw [ordE.asymm _ _ h] at h'; cases h') h1 h2 hp
/-- What Add answers: its error. -/
def addE (due : Int) (nm : List UInt8) : Int := if due < 0 ∨ due > 1099511627776 then 4 else if nm.length > 64 then 2 else 0
def cutE (id : Int) (L : List Ev) : List Ev := L.filter fun x => decide (x.id ≠ id)
theorem cutE_le (id : Int) (L : List Ev) : (cutE id L).length ≤ L.length := List.length_filter_le _ _
theorem cutE_all {id : Int} {L : List Ev} : (cutE id L).length = L.length ↔ cutE id L = L := by
  refine ⟨fun h => ?_, fun h => by rw [h]⟩
  exact (List.filter_sublist (l := L)).eq_of_length h
end Go.Proofs.Ythnobkiiaflelaa
