/- Lists by rising keys, as a map's datum has them. -/
import Derived.Maps.Ext
import Derived.Maps.OwnSet
import Derived.Lib.SlMapFilter
import Derived.Sort.KeysCollected
import Derived.Lib.Bytealg
namespace Go.Proofs.YtbfajoeilpkofaaGreatDoor
open Go.RowKit Go.Maps Go.Sort

section
variable {α : Type} (key : α → List UInt8) (en : α → DataW Unit)
def ent (x : α) : Lit × DataW Unit := (.string (key x), en x)
/-- One more, at its place by its key. -/
def insK (x : α) : List α → List α
  | [] => [x]
  | y :: r => if bytesBefore (key x) (key y) then x :: y :: r else y :: insK x r
/-- Without a key. -/
def delK (k : List UInt8) (l : List α) : List α := l.filter fun y => !(key y == k)
def putK (x : α) (l : List α) : List α := insK key x (delK key (key x) l)
def getK (k : List UInt8) (l : List α) : Option α := l.find? fun y => key y == k
/-- What a map with these entries reads as. -/
def dOf (l : List α) : DataW Unit := .map (l.map (ent key en))
def Rise (l : List α) : Prop := l.Pairwise fun x y => bytesBefore (key x) (key y) = true

theorem ins_ent (x : α) : ∀ l : List α, DataW.insert (ent key en x) (l.map (ent key en)) = (insK key x l).map (ent key en)
  | [] => rfl
  | y :: r => by
    show (if (ent key en x).1.before (ent key en y).1 then _ else _) = (if bytesBefore (key x) (key y) then x :: y :: r else y :: insK key x r).map _
    have : (ent key en x).1.before (ent key en y).1 = bytesBefore (key x) (key y) := rfl
    rw [this]
    split
    · rfl
    · rw [ins_ent x r]; rfl
theorem dOf_del (k : List UInt8) (l : List α) : (dOf key en l).del (.string k) = dOf key en (delK key k l) := by
  show DataW.map ((l.map (ent key en)).filter fun p => !p.1.sameKey (.string k)) = .map ((l.filter fun y => !(key y == k)).map (ent key en))
  rw [List.filter_map]
  rfl
theorem dOf_put (x : α) (l : List α) : (dOf key en l).put (.string (key x)) (en x) = dOf key en (putK key x l) := by
  show DataW.map (DataW.insert (ent key en x) ((l.map (ent key en)).filter fun p => !p.1.sameKey (.string (key x)))) = .map ((insK key x (l.filter fun y => !(key y == key x))).map (ent key en))
  rw [List.filter_map, ins_ent]
  rfl
theorem dOf_nil : dOf key en [] = .map [] := rfl
theorem dOf_size (l : List α) : Maps.size (dOf key en l) = l.length := by simp [Maps.size, dOf]
theorem dOf_has (k : List UInt8) (l : List α) : Maps.has (dOf key en l) (.string k) = (getK key k l).isSome := by
  show (l.map (ent key en)).any (fun p => p.1.sameKey (.string k)) = _
  unfold getK
  rw [List.any_map, List.isSome_find?]
  rfl
theorem dOf_at (k : List UInt8) (z : DataW Unit) (l : List α) : (dOf key en l).atKey (.string k) z = match getK key k l with | some x => en x | none => z := by
  unfold DataW.atKey dOf getK
  dsimp only
  rw [List.find?_map]
  have : ((fun p : Lit × DataW Unit => p.1.sameKey (.string k)) ∘ ent key en) = fun y => key y == k := rfl
  rw [this]
  cases l.find? (fun y => key y == k) <;> rfl
theorem dOf_filter (pd : Lit → DataW Unit → Bool) (l : List α) : Lib.deleteFuncD pd (dOf key en l) = dOf key en (l.filter fun x => !pd (.string (key x)) (en x)) := by
  show DataW.map ((l.map (ent key en)).filter fun p => !pd p.1 p.2) = .map _
  rw [List.filter_map]
  rfl
theorem dOf_keys (l : List α) : strKeys (dOf key en l) = l.map key := by
  show (l.map (ent key en)).map (fun p => strOf p.1) = _
  rw [List.map_map]
  rfl
theorem mem_insK {x y : α} : ∀ {l : List α}, y ∈ insK key x l ↔ y = x ∨ y ∈ l
  | [] => by simp [insK]
  | a :: r => by
    unfold insK
    split
    · simp
    · simp only [List.mem_cons, mem_insK (l := r)]
      constructor
      · rintro (h | h | h)
        · exact .inr (.inl h)
        · exact .inl h
        · exact .inr (.inr h)
      · rintro (h | h | h)
        · exact .inr (.inl h)
        · exact .inl h
        · exact .inr (.inr h)
theorem insK_length (x : α) : ∀ l : List α, (insK key x l).length = l.length + 1
  | [] => rfl
  | a :: r => by
    unfold insK
    split
    · rfl
    · simp [insK_length x r]
theorem mem_delK {k : List UInt8} {y : α} {l : List α} : y ∈ delK key k l ↔ y ∈ l ∧ key y ≠ k := by simp [delK]
theorem mem_putK {x y : α} {l : List α} : y ∈ putK key x l ↔ y = x ∨ (y ∈ l ∧ key y ≠ key x) := by rw [putK, mem_insK, mem_delK]
theorem before_irrefl (a : List UInt8) : bytesBefore a a = false := WideAt.bytes_irrefl a
theorem before_of_not {a b : List UInt8} (h : bytesBefore a b = false) (hne : a ≠ b) : bytesBefore b a = true := (WideAt.bytes_total a b hne).resolve_left (by simp [h])
theorem Rise.del {l : List α} (h : Rise key l) (k : List UInt8) : Rise key (delK key k l) := List.Pairwise.filter _ h
theorem Rise.filter {l : List α} (h : Rise key l) (f : α → Bool) : Rise key (l.filter f) := List.Pairwise.filter _ h
theorem Rise.ins {x : α} : ∀ {l : List α}, Rise key l → (∀ y ∈ l, key y ≠ key x) → Rise key (insK key x l)
  | [], _, _ => by simp [insK, Rise]
  | a :: r, h, hn => by
    obtain ⟨h1, h2⟩ := List.pairwise_cons.1 h
    unfold insK
    split
    · rename_i hb
      refine List.pairwise_cons.2 ⟨fun y hy => ?_, h⟩
      rcases List.mem_cons.1 hy with rfl | hy
      · exact hb
      · exact WideShapes.bytes_trans _ _ _ hb (h1 y hy)
    · rename_i hb
      refine List.pairwise_cons.2 ⟨fun y hy => ?_, Rise.ins h2 fun y hy => hn y (List.mem_cons_of_mem _ hy)⟩
      rcases (mem_insK key).1 hy with rfl | hy
      · exact before_of_not (by simpa using hb) (fun e => hn a (List.mem_cons_self ..) e.symm)
      · exact h1 y hy
theorem Rise.put {x : α} {l : List α} (h : Rise key l) : Rise key (putK key x l) := Rise.ins key (h.del key _) fun _ hy => ((mem_delK key).1 hy).2
theorem Rise.inj {l : List α} (h : Rise key l) {x y : α} (hx : x ∈ l) (hy : y ∈ l) (e : key x = key y) : x = y := by
  induction l with
  | nil => cases hx
  | cons a r ih =>
    obtain ⟨h1, h2⟩ := List.pairwise_cons.1 h
    rcases List.mem_cons.1 hx with e1 | hx1
    · rcases List.mem_cons.1 hy with e2 | hy1
      · rw [e1, e2]
      · have := h1 y hy1; rw [← e1, e, before_irrefl] at this; cases this
    · rcases List.mem_cons.1 hy with e2 | hy1
      · have := h1 x hx1; rw [← e2, e, before_irrefl] at this; cases this
      · exact ih h2 hx1 hy1
theorem getK_mem {k : List UInt8} {l : List α} {x : α} (h : getK key k l = some x) : x ∈ l ∧ key x = k := by
  unfold getK at h
  exact ⟨List.mem_of_find?_eq_some h, by simpa using List.find?_some h⟩
theorem getK_some {l : List α} (h : Rise key l) {x : α} (hx : x ∈ l) : getK key (key x) l = some x := by
  cases e : getK key (key x) l with
  | none =>
    unfold getK at e
    rw [List.find?_eq_none] at e
    exact absurd (by simp) (e x hx)
  | some y =>
    obtain ⟨h1, h2⟩ := getK_mem key e
    rw [h.inj key h1 hx h2]
theorem getK_none {k : List UInt8} {l : List α} : getK key k l = none ↔ ∀ y ∈ l, key y ≠ k := by
  unfold getK
  rw [List.find?_eq_none]
  simp
/-- Two lists by rising keys with the same members are one. -/
theorem Rise.ext : ∀ {l m : List α}, Rise key l → Rise key m → (∀ x, x ∈ l ↔ x ∈ m) → l = m
  | [], [], _, _, _ => rfl
  | [], b :: m, _, _, h => by have := (h b).2 (List.mem_cons_self ..); cases this
  | a :: l, [], _, _, h => by have := (h a).1 (List.mem_cons_self ..); cases this
  | a :: l, b :: m, h1, h2, h => by
    obtain ⟨p1, p2⟩ := List.pairwise_cons.1 h1
    obtain ⟨q1, q2⟩ := List.pairwise_cons.1 h2
    have e : a = b := by
      rcases List.mem_cons.1 ((h a).1 (List.mem_cons_self ..)) with e | ha
      · exact e
      · rcases List.mem_cons.1 ((h b).2 (List.mem_cons_self ..)) with e | hb
        · exact e.symm
        · have h3 := WideShapes.bytes_trans _ _ _ (p1 b hb) (q1 a ha)
          rw [before_irrefl] at h3; cases h3
    subst e
    rw [Rise.ext p2 q2 fun x => ?_]
    have hx := h x
    constructor
    · intro hl
      rcases List.mem_cons.1 (hx.1 (List.mem_cons_of_mem _ hl)) with rfl | hm
      · have := p1 _ hl; rw [before_irrefl] at this; cases this
      · exact hm
    · intro hm
      rcases List.mem_cons.1 (hx.2 (List.mem_cons_of_mem _ hm)) with rfl | hl
      · have := q1 _ hm; rw [before_irrefl] at this; cases this
      · exact hl
end
/-- Go's order of strings. -/
theorem compare_before : ∀ a b : List UInt8, Lib.compareBytes a b = if bytesBefore a b then -1 else if bytesBefore b a then 1 else 0
  | [], [] => by simp [Lib.compareBytes, bytesBefore]
  | [], _ :: _ => by simp [Lib.compareBytes, bytesBefore]
  | _ :: _, [] => by simp [Lib.compareBytes, bytesBefore]
  | a :: as, b :: bs => by
    unfold Lib.compareBytes
    rw [compare_before as bs]
    by_cases h1 : a < b
    · simp [bytesBefore, h1]
    · by_cases h2 : b < a
      · have h3 : ¬ (a = b) := by rintro rfl; exact h1 h2
        simp [bytesBefore, h1, h2, h3]
      · have h3 : a = b := UInt8.le_antisymm (UInt8.not_lt.1 h2) (UInt8.not_lt.1 h1)
        subst h3
        simp [bytesBefore, h1]
theorem before_lt : ∀ a b : List UInt8, bytesBefore a b = decide (a < b)
  | [], [] => by simp [bytesBefore]
  | [], _ :: _ => by simp [bytesBefore]
  | _ :: _, [] => by simp [bytesBefore]
  | a :: as, b :: bs => by
    unfold bytesBefore
    rw [before_lt as bs, Bool.eq_iff_iff]
    simp [List.cons_lt_cons_iff]
end Go.Proofs.YtbfajoeilpkofaaGreatDoor
