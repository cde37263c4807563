/- A store in memory: its pages, its loose writes. -/
import Derived.Test.YtidmpblaeohfaaaGreatDoorPOw
namespace Go.Proofs.YtidmpblaeohfaaaGreatDoor
open Go.RowKit

attribute [local go_sem ↓] Go.wp_at_zero Go.wp_at_succ

/-- Bytes as a slice holds them: where, how much room, which. -/
structure Bs where
  ad : Option Addr
  cap : Nat
  l : List Int
def Bs.v (x : Bs) : Value := .slice x.ad x.l.length x.cap
theorem Bs.v_one (x : Bs) : x.v.oneCell' = true := rfl
/-- The bytes lie there. -/
structure BsAt (w : World) (x : Bs) : Prop where
  lies : SlAt w x.ad x.l.length (fn x.l)
  nil : x.ad = none → x.l.length = 0 ∧ x.cap = 0
  len : x.l.length ≤ 4096
  bd : ∀ y, y ∈ x.l → 0 ≤ y ∧ y ≤ 255
def Bs.In (x : Bs) (F : Nat → Prop) : Prop := ∀ a, x.ad = some a → F a.block
theorem BsAt.keep {w w' : World} {x : Bs} {F : Nat → Prop} (h : BsAt w x) (hx : x.In F) (hk : ∀ k, F k → w'.heap[k]? = w.heap[k]?) : BsAt w' x :=
  ⟨h.lies.block fun b _ _ e => hk b (hx _ e), h.nil, h.len, h.bd⟩
def nilBs : Bs := ⟨none, 0, []⟩
theorem nilBs_at (w : World) : BsAt w nilBs := ⟨SlAt.zero _ _, fun _ => ⟨rfl, rfl⟩, by simp [nilBs], fun y h => by cases h⟩
theorem nilBs_in (F : Nat → Prop) : nilBs.In F := fun a h => by cases h

/-- A store's state: the safe pages, the loose writes. -/
structure St where
  safe : List Bs
  loose : List (Int × Bs)
  armed : Bool
  steps : Int
  down : Bool
/-- Loose writes as cells. -/
def flatW : List (Int × Bs) → List Value
  | [] => []
  | x :: r => .int .i64 x.1 :: x.2.v :: flatW r
theorem flatW_length : ∀ L : List (Int × Bs), (flatW L).length = L.length * 2
  | [] => rfl
  | _ :: r => by simp [flatW, flatW_length r]; omega
theorem flatW_append : ∀ (L : List (Int × Bs)) (M : List (Int × Bs)), flatW (L ++ M) = flatW L ++ flatW M
  | [], _ => rfl
  | _ :: r, M => by simp [flatW, flatW_append r M]
theorem flatW_at0 : ∀ (L : List (Int × Bs)) (i : Nat) (x : Int × Bs), L[i]? = some x → (flatW L)[i * 2]? = some (.int .i64 x.1)
  | [], i, _, h => by simp at h
  | y :: r, 0, x, h => by simp at h; subst h; simp [flatW]
  | y :: r, i + 1, x, h => by
    have := flatW_at0 r i x (by simpa using h)
    rw [show (i + 1) * 2 = i * 2 + 2 from by omega]
    simpa [flatW] using this
theorem flatW_at1 : ∀ (L : List (Int × Bs)) (i : Nat) (x : Int × Bs), L[i]? = some x → (flatW L)[i * 2 + 1]? = some x.2.v
  | [], i, _, h => by simp at h
  | y :: r, 0, x, h => by simp at h; subst h; simp [flatW]
  | y :: r, i + 1, x, h => by
    have := flatW_at1 r i x (by simpa using h)
    rw [show (i + 1) * 2 + 1 = i * 2 + 1 + 2 from by omega]
    simpa [flatW] using this
theorem flatW_one : ∀ L : List (Int × Bs), ∀ u ∈ flatW L, u.oneCell' = true
  | [], u, h => by cases h
  | x :: r, u, h => by
    simp only [flatW, List.mem_cons] at h
    rcases h with rfl | rfl | h
    · rfl
    · rfl
    · exact flatW_one r u h

/-- A store's five cells. -/
def stC (q : Nat) (lo : Value) (S : St) : Array Value := #[.slice (some ⟨q, 0, none⟩) S.safe.length S.safe.length, lo, .bool S.armed, .int .i64 S.steps, .bool S.down]
/-- Block p is a store: its safe pages in block q, its loose writes in the row lo, bytes in blocks of F. -/
structure St0 (w : World) (p q : Nat) (lo : Value) (F : Nat → Prop) (S : St) : Prop where
  cells : w.heap[p]? = some (.cells (stC q lo S) 75 (0, 0))
  safe : w.heap[q]? = some (.cells (S.safe.map Bs.v).toArray 29 (0, 0))
  loose : w.ownsRow 0 79 2 lo S.loose.length (flatW S.loose)
  ps : ∀ x ∈ S.safe, BsAt w x ∧ x.In F
  ls : ∀ x ∈ S.loose, BsAt w x.2 ∧ x.2.In F ∧ 0 ≤ x.1 ∧ x.1 < S.safe.length
  npq : p ≠ q
  nF : ¬ F p ∧ ¬ F q
  nlo : ∀ k, lo.ownBlock = some k → k ≠ p ∧ k ≠ q ∧ ¬ F k
  ltF : ∀ k, F k → k < w.heap.size
  small : S.safe.length ≤ 4096
  few : S.loose.length ≤ 1000000
  pos : 0 < S.safe.length
/-- A block of the store. -/
def Mine (p q : Nat) (lo : Value) (F : Nat → Prop) (k : Nat) : Prop := k = p ∨ k = q ∨ lo.ownBlock = some k ∨ F k
section
variable {w w' : World} {p q : Nat} {lo : Value} {F : Nat → Prop} {S : St}
theorem St0.ltlo (h : St0 w p q lo F S) {k : Nat} (hk : lo.ownBlock = some k) : k < w.heap.size := (h.loose.lt k hk).2
theorem St0.lt (h : St0 w p q lo F S) {k : Nat} (hk : Mine p q lo F k) : k < w.heap.size := by
  rcases hk with rfl | rfl | hk | hk
  · exact lt_of_block h.cells
  · exact lt_of_block h.safe
  · exact h.ltlo hk
  · exact h.ltF k hk
theorem owns_row_keep {B n size : Nat} {e : TypeId} {v : Value} {xs : List Value} (h : w.ownsRow B e size v n xs) (hk : ∀ k, v.ownBlock = some k → w'.heap[k]? = w.heap[k]?) : w'.ownsRow B e size v n xs := by
  refine ⟨h.1, ?_⟩
  rcases h.2 with hnil | ⟨k, cap, cur, e, hb, hg, rest⟩
  · exact .inl hnil
  · exact .inr ⟨k, cap, cur, e, hb, by rw [hk k (by rw [e]; rfl)]; exact hg, rest⟩
theorem St0.keep (h : St0 w p q lo F S) (hs : w.heap.size ≤ w'.heap.size) (hk : ∀ k, Mine p q lo F k → w'.heap[k]? = w.heap[k]?) : St0 w' p q lo F S := by
  have hF : ∀ k, F k → w'.heap[k]? = w.heap[k]? := fun k hf => hk k (.inr (.inr (.inr hf)))
  exact ⟨by rw [hk p (.inl rfl)]; exact h.cells, by rw [hk q (.inr (.inl rfl))]; exact h.safe, owns_row_keep h.loose fun k e => hk k (.inr (.inr (.inl e))),
    fun x hx => ⟨(h.ps x hx).1.keep (h.ps x hx).2 hF, (h.ps x hx).2⟩, fun x hx => ⟨(h.ls x hx).1.keep (h.ls x hx).2.1 hF, (h.ls x hx).2⟩, h.npq, h.nF, h.nlo, fun k hf => Nat.lt_of_lt_of_le (h.ltF k hf) hs, h.small, h.few, h.pos⟩
theorem St0.below (h : St0 w p q lo F S) (hb : Below w.heap.size w w') : St0 w' p q lo F S := h.keep hb.size fun k hk => hb.block k (h.lt hk)
theorem St0.c0 (h : St0 w p q lo F S) : w.cell? ⟨p, 0, none⟩ = some (.slice (some ⟨q, 0, none⟩) S.safe.length S.safe.length) := by rw [cell_of_row w p 0 _ _ _ h.cells]; rfl
theorem St0.c1 (h : St0 w p q lo F S) : w.cell? ⟨p, 1, none⟩ = some lo := by rw [cell_of_row w p 1 _ _ _ h.cells]; rfl
theorem St0.c2 (h : St0 w p q lo F S) : w.cell? ⟨p, 2, none⟩ = some (.bool S.armed) := by rw [cell_of_row w p 2 _ _ _ h.cells]; rfl
theorem St0.c3 (h : St0 w p q lo F S) : w.cell? ⟨p, 3, none⟩ = some (.int .i64 S.steps) := by rw [cell_of_row w p 3 _ _ _ h.cells]; rfl
theorem St0.c4 (h : St0 w p q lo F S) : w.cell? ⟨p, 4, none⟩ = some (.bool S.down) := by rw [cell_of_row w p 4 _ _ _ h.cells]; rfl
theorem St0.fz (h : St0 w p q lo F S) (o : Nat) : w.frozen? ⟨p, o, none⟩ = false := frozen_of_row w p o _ _ h.cells
theorem St0.lform (h : St0 w p q lo F S) : ∃ ad cap, lo = .slice ad S.loose.length cap := by
  rcases h.loose.2 with ⟨rfl, e⟩ | ⟨g, cap, cur, rfl, _⟩
  · exact ⟨none, 0, by rw [e]⟩
  · exact ⟨_, cap, rfl⟩
end
/-- A store in memory; all its blocks are of G. -/
def StAt (w : World) (G : Nat → Prop) (p : Nat) (S : St) : Prop := ∃ q lo F, St0 w p q lo F S ∧ (∀ k, Mine p q lo F k → G k)
theorem StAt.keep {w w' : World} {G : Nat → Prop} {p : Nat} {S : St} (h : StAt w G p S) (hs : w.heap.size ≤ w'.heap.size) (hk : ∀ k, k < w.heap.size → G k → w'.heap[k]? = w.heap[k]?) : StAt w' G p S := by
  obtain ⟨q, lo, F, h0, hG⟩ := h
  exact ⟨q, lo, F, h0.keep hs fun k hm => hk k (h0.lt hm) (hG k hm), hG⟩
theorem StAt.below {w w' : World} {G : Nat → Prop} {p : Nat} {S : St} (h : StAt w G p S) (hb : Below w.heap.size w w') : StAt w' G p S := h.keep hb.size fun k hk _ => hb.block k hk

set_option maxHeartbeats 400000 in
theorem pages_any (p q : Nat) (lo : Value) (F : Nat → Prop) (S : St) (w : World) (h : St0 w p q lo F S) :
    Calls Tryz.prog 34 #[.pointer (some ⟨p, 0, none⟩)] w fun e w' => e = .returned (.int .i64 S.safe.length) ∧ w' = w := by
  have h0 := h.c0
  clear h
  go_enter Tryz.func34, Tryz.ntmps34
  go_wp2
  go_ret
  exact ⟨rfl, rfl⟩
set_option maxHeartbeats 400000 in
theorem loose_any (p q : Nat) (lo : Value) (F : Nat → Prop) (S : St) (w : World) (h : St0 w p q lo F S) :
    Calls Tryz.prog 22 #[.pointer (some ⟨p, 0, none⟩)] w fun e w' => e = .returned (.int .i64 S.loose.length) ∧ w' = w := by
  have h1 := h.c1
  obtain ⟨ad, cap, rfl⟩ := h.lform
  clear h
  go_enter Tryz.func22, Tryz.ntmps22
  go_wp2
  go_ret
  exact ⟨rfl, rfl⟩
set_option maxHeartbeats 400000 in
theorem has_any (p q : Nat) (lo : Value) (F : Nat → Prop) (S : St) (pg : Int) (w : World) (h : St0 w p q lo F S) :
    Calls Tryz.prog 30 #[.pointer (some ⟨p, 0, none⟩), .int .i64 pg] w fun e w' => e = .returned (.bool (decide (0 ≤ pg ∧ pg < S.safe.length))) ∧ w' = w := by
  have hp := pages_any p q lo F S w h
  clear h
  by_cases h1 : 0 ≤ pg
  · have e1 : decide (0 ≤ pg ∧ pg < S.safe.length) = decide (pg < S.safe.length) := by simp [h1]
    rw [e1]
    go_enter Tryz.func30, Tryz.ntmps30
    go_wp2_with fail
    refine hp.mono ?_
    rintro e w1 ⟨rfl, rfl⟩
    go_wp2
    go_ret
    exact ⟨rfl, rfl⟩
  · have e1 : decide (0 ≤ pg ∧ pg < S.safe.length) = false := by simp [h1]
    rw [e1]
    go_enter Tryz.func30, Tryz.ntmps30
    go_wp2
    go_ret
    exact ⟨rfl, rfl⟩
end Go.Proofs.YtidmpblaeohfaaaGreatDoor
