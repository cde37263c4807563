/- Events that lie somewhere (cut out of what tools/mkev.py made). -/
import Derived.Test.YthnobkiiaflelaaDoorOwnShelf01
import Derived.Test.YthnobkiiaflelaaDoorOwnShelf02
import Derived.Maps.AppendAt
import Derived.Deep.AppendSrc
import Derived.Deep.RegionHeld
import Derived.Deep.RegionHeld3
import Derived.StringKeys
import Derived.Maps.Ext
import Derived.Maps.OwnSet
import Derived.Lib.SlMapFilter
import Derived.Sort.KeysCollected
import Derived.Lib.Bytealg
namespace Go.Proofs.YthnobkiiaflelaaDoor
open Go.RowKit Go.Maps Go.Sort

section
variable {w w' : World}
theorem owns_row_keep {B n size : Nat} {e : TypeId} {v : Value} {xs : List Value} (h : w.ownsRow B e size v n xs) (hk : ∀ k, v.ownBlock = some k → w'.heap[k]? = w.heap[k]?) : w'.ownsRow B e size v n xs := by
  refine ⟨h.1, ?_⟩
  rcases h.2 with hnil | ⟨k, cap, cur, e, hb, hg, rest⟩
  · exact .inl hnil
  · exact .inr ⟨k, cap, cur, e, hb, by rw [hk k (by rw [e]; rfl)]; exact hg, rest⟩
end
def evL (x : Ev) : List Value := [.int .i64 x.id, .int .i64 x.due, encStr x.nm]
def flatE (L : List Ev) : List Value := L.flatMap evL
/-- The document's events lie at ad. -/
def EvAt (w : World) (ad : Option Addr) (L : List Ev) : Prop := 0 < L.length → ∃ b off, ad = some ⟨b, off, none⟩ ∧ ∀ j x, L[j]? = some x →
  w.cell? ⟨b, off + j * 3, none⟩ = some (.int .i64 x.id) ∧ w.cell? ⟨b, off + j * 3 + 1, none⟩ = some (.int .i64 x.due) ∧ w.cell? ⟨b, off + j * 3 + 2, none⟩ = some (encStr x.nm)
theorem EvAt.lt {w : World} {ad : Option Addr} {L : List Ev} (h : EvAt w ad L) {a : Addr} (e : ad = some a) (hn : 0 < L.length) : a.block < w.heap.size := by
  obtain ⟨b, off, rfl, hc⟩ := h hn
  cases e
  have := (hc 0 _ (List.getElem?_eq_getElem hn)).1
  exact World.block_lt_of_cell? w _ this
theorem EvAt.keep {w w' : World} {ad : Option Addr} {L : List Ev} (h : EvAt w ad L) (hk : ∀ a, ad = some a → 0 < L.length → w'.heap[a.block]? = w.heap[a.block]?) : EvAt w' ad L := fun hn => by
  obtain ⟨b, off, rfl, hc⟩ := h hn
  refine ⟨b, off, rfl, fun j x hx => ?_⟩
  have hb := hk ⟨b, off, none⟩ rfl hn
  obtain ⟨h1, h2, h3⟩ := hc j x hx
  exact ⟨by rw [World.cell?_of_block (a := ⟨b, off + j * 3, none⟩) hb]; exact h1, by rw [World.cell?_of_block (a := ⟨b, off + j * 3 + 1, none⟩) hb]; exact h2, by rw [World.cell?_of_block (a := ⟨b, off + j * 3 + 2, none⟩) hb]; exact h3⟩
theorem EvAt.below {w w' : World} {ad : Option Addr} {L : List Ev} (h : EvAt w ad L) (hb : Below w.heap.size w w') : EvAt w' ad L := h.keep fun _ e hn => hb.block _ (h.lt e hn)
theorem flatE_append (l m : List Ev) : flatE (l ++ m) = flatE l ++ flatE m := List.flatMap_append
theorem flatE_length : ∀ l : List Ev, (flatE l).length = l.length * 3
  | [] => rfl
  | x :: r => by
    have := flatE_length r
    simp only [flatE, List.flatMap_cons, List.length_append, List.length_cons] at *
    rw [this]
    simp [evL]; omega
theorem flatE_get : ∀ (L : List Ev) (j : Nat) (x : Ev), L[j]? = some x → (flatE L)[j * 3]? = some (.int .i64 x.id) ∧ (flatE L)[j * 3 + 1]? = some (.int .i64 x.due) ∧ (flatE L)[j * 3 + 2]? = some (encStr x.nm)
  | [], j, x, h => by cases j <;> cases h
  | y :: r, 0, x, h => by cases h; exact ⟨rfl, rfl, rfl⟩
  | y :: r, j + 1, x, h => by
    have ih := flatE_get r j x h
    have e : ∀ q, (flatE (y :: r))[(j + 1) * 3 + q]? = (flatE r)[j * 3 + q]? := fun q => by
      unfold flatE
      rw [List.flatMap_cons, List.getElem?_append_right (by simp [evL]; omega)]
      congr 1
      simp [evL]; omega
    exact ⟨(e 0).trans ih.1, (e 1).trans ih.2.1, (e 2).trans ih.2.2⟩
theorem flatE_at {L : List Ev} {j : Nat} {u : Value} (h : (flatE L)[j]? = some u) : ∃ x, L[j / 3]? = some x ∧ ((j % 3 = 0 ∧ u = .int .i64 x.id) ∨ (j % 3 = 1 ∧ u = .int .i64 x.due) ∨ (j % 3 = 2 ∧ u = encStr x.nm)) := by
  have hj : j < (flatE L).length := (List.getElem?_eq_some_iff.1 h).1
  rw [flatE_length] at hj
  have hx : L[j / 3]? = some L[j / 3] := List.getElem?_eq_getElem (by omega)
  refine ⟨_, hx, ?_⟩
  have hg := flatE_get L (j / 3) _ hx
  have e3 : j = j / 3 * 3 + j % 3 := by omega
  have hm : j % 3 = 0 ∨ j % 3 = 1 ∨ j % 3 = 2 := by omega
  rcases hm with hm | hm | hm
  · refine .inl ⟨hm, ?_⟩
    rw [hm] at e3; rw [e3, Nat.add_zero, hg.1] at h
    exact (Option.some.inj h).symm
  · refine .inr (.inl ⟨hm, ?_⟩)
    rw [hm] at e3; rw [e3, hg.2.1] at h
    exact (Option.some.inj h).symm
  · refine .inr (.inr ⟨hm, ?_⟩)
    rw [hm] at e3; rw [e3, hg.2.2] at h
    exact (Option.some.inj h).symm
theorem EvAt.take {w : World} {ad : Option Addr} {L : List Ev} (h : EvAt w ad L) (i : Nat) : EvAt w ad (L.take i) := fun hn => by
  have hp : 0 < L.length := by rw [List.length_take] at hn; omega
  obtain ⟨b, off, rfl, hc⟩ := h hp
  refine ⟨b, off, rfl, fun j x hx => hc j x ?_⟩
  rw [List.getElem?_take] at hx
  split at hx
  · exact hx
  · cases hx
theorem EvAt.drop {w : World} {b off : Nat} {L : List Ev} (h : EvAt w (some ⟨b, off, none⟩) L) (i : Nat) : EvAt w (some ⟨b, off + i * 3, none⟩) (L.drop i) := fun hn => by
  have hp : 0 < L.length := by rw [List.length_drop] at hn; omega
  obtain ⟨b', off', e, hc⟩ := h hp
  cases e
  refine ⟨b, off + i * 3, rfl, fun j x hx => ?_⟩
  rw [List.getElem?_drop] at hx
  have e1 : off + (i + j) * 3 = off + i * 3 + j * 3 := by omega
  have := hc (i + j) x hx
  rwa [e1] at this
end Go.Proofs.YthnobkiiaflelaaDoor
