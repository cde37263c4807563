/- A queue in memory: its heap of items, its map of numbers; a new one; Len and Next. -/
import Derived.Test.YthnobkiiaflelaaDoorOwnShelf24
import Derived.Test.YthnobkiiaflelaaDoorOwnShelf06
namespace Go.Proofs.YthnobkiiaflelaaDoor
open Go.RowKit Go.Maps Go.Sort

attribute [local go_sem ↓] Go.wp_at_zero Go.wp_at_succ

def ptD (b : Nat) : DataW Unit := .lit (.int .i64 (b : Int))
/-- How an item's address in the map reads. -/
def ptR (v : Value) : Option (DataW Unit × List MemPlace) :=
  match v with
  | .pointer none => some (.nil, [])
  | .pointer (some ⟨b, 0, none⟩) => some (ptD b, [])
  | _ => none
theorem ptR_mk (b : Nat) : ptR (.pointer (some ⟨b, 0, none⟩)) = some (ptD b, []) := rfl
theorem ptR_nil : ptR (.pointer none) = some (.nil, []) := rfl
theorem ptR_inv {v : Value} {b : Nat} {ps : List MemPlace} (h : ptR v = some (ptD b, ps)) : v = .pointer (some ⟨b, 0, none⟩) := by
  unfold ptR at h
  split at h
  · cases h
  · rename_i b'
    simp only [ptD, Option.some.injEq, Prod.mk.injEq, DataW.lit.injEq, Lit.int.injEq, true_and] at h
    have : b' = b := by omega
    rw [this]
  · cases h
theorem ptR_some {v : Value} {y : DataW Unit × List MemPlace} (h : ptR v = some y) : ∃ b, v = .pointer b := by
  unfold ptR at h
  split at h
  · exact ⟨_, rfl⟩
  · exact ⟨_, rfl⟩
  · cases h
theorem intK : Maps.Keyed Tryd.prog 3 := Maps.int_keyed Tryd.underlying3
theorem int_wf {x : Int} (h : -9223372036854775808 ≤ x ∧ x ≤ 9223372036854775807) : (Lit.int .i64 x).wf = true := by simp [Lit.wf, IntKind.min, IntKind.max, IntKind.signed, IntKind.bits]; omega
theorem key_int {x : Int} (h : -9223372036854775808 ≤ x ∧ x ≤ 9223372036854775807) : keyOf Tryd.prog 3 (.int .i64 x) = some (.int .i64 x) := keyOf_int_mk Tryd.underlying3 (int_wf h)
/-- The map tells where the items of L are, and of no others. -/
structure MpD (D : DataW Unit) (β : Int → Nat) (L : List Ev) : Prop where
  has : ∀ id : Int, Maps.has D (.int .i64 id) = true ↔ ∃ x ∈ L, x.id = id
  at_ : ∀ x ∈ L, ∀ z, D.atKey (.int .i64 x.id) z = ptD (β x.id)
abbrev qM (w : World) (m : Nat) (last : Int) (D : DataW Unit) : Prop := w.ownsMap Tryd.prog 3 ptR m last.toNat D
/-- What a queue is made of. -/
structure QP (w : World) (A : Nat → Prop) (p : Nat) (L : List Ev) (last : Int) (m : Nat) (β : Int → Nat) (R : Nat → Prop) (n : Nat) (a : Nat → Ev) (D : DataW Unit) : Prop where
  wt : Wt p m last β (fun x => x ∈ L) R w n a
  heap : HeapN ltE n a
  perm : (rowA n a).Perm L
  map : qM w m last D
  mp : MpD D β L
  ok : LOk L last
  sub : ∀ k, k = m ∨ wtM p β (fun x => x ∈ L) R k → A k
  low : ∀ k, A k → k < w.heap.size
  far : m ≠ p ∧ (¬ R m) ∧ ∀ x ∈ L, β x.id ≠ m
/-- Block p is a queue of the events L, the last number last; all its blocks are in A. -/
def Qs (w : World) (A : Nat → Prop) (p : Nat) (L : List Ev) (last : Int) : Prop := ∃ m β R n a D, QP w A p L last m β R n a D
section
variable {w w' : World} {A : Nat → Prop} {p : Nat} {L : List Ev} {last : Int} {m : Nat} {β : Int → Nat} {R : Nat → Prop} {n : Nat} {a : Nat → Ev} {D : DataW Unit}
theorem map_keep {n : Nat} (h : w.ownsMap Tryd.prog 3 ptR m n D) (hk : w'.heap[m]? = w.heap[m]?) : w'.ownsMap Tryd.prog 3 ptR m n D := by
  obtain ⟨es, cl, hb, r⟩ := h
  exact ⟨es, cl, hk.trans hb, r⟩
theorem QP.keep (h : QP w A p L last m β R n a D) (hs : w.heap.size ≤ w'.heap.size) (hk : ∀ k, A k → w'.heap[k]? = w.heap[k]?) : QP w' A p L last m β R n a D :=
  ⟨h.wt.keep fun k hM _ => hk k (h.sub k (.inr hM)), h.heap, h.perm, map_keep h.map (hk m (h.sub m (.inl rfl))), h.mp, h.ok, h.sub, fun k hA => Nat.lt_of_lt_of_le (h.low k hA) hs, h.far⟩
theorem QP.len (h : QP w A p L last m β R n a D) : n = L.length := by have := h.perm.length_eq; rwa [rowA_length] at this
theorem Qs.keep (h : Qs w A p L last) (hs : w.heap.size ≤ w'.heap.size) (hk : ∀ k, A k → w'.heap[k]? = w.heap[k]?) : Qs w' A p L last := by
  obtain ⟨m, β, R, n, a, D, h⟩ := h
  exact ⟨m, β, R, n, a, D, h.keep hs hk⟩
theorem QP.same (h : QP w A p L last m β R n a D) (hb : Below w.heap.size w w') : Qr Qs A p L last w w' A :=
  ⟨⟨m, β, R, n, a, D, h.keep hb.size fun k hA => hb.block k (h.low k hA)⟩, fun _ h => .inl h, Fr.ofBelow hb⟩
/-- The first one is the heap's. -/
theorem QP.first (h : QP w A p L last m β R n a D) {x : Ev} {r : List Ev} (e : L = x :: r) : 0 < n ∧ a 0 = x := by
  subst e
  exact heap_first h.heap h.perm h.ok.up
theorem QP.cell (h : QP w A p L last m β R n a D) : ∃ v, w.heap[p]? = some (.cells #[.int .i64 last, v, .map (some m)] 65 (0, 0)) ∧ ∃ ad cap, v = .slice ad n cap := by
  obtain ⟨v, hq, ho, _⟩ := h.wt.q
  exact ⟨v, hq, own_form ho⟩
end
set_option maxRecDepth 100000 in
set_option maxHeartbeats 800000 in
theorem new_any (w : World) : Calls Tryd.prog 8 #[] w fun e w' => ∃ p A, e = .returned (.pointer (some ⟨p, 0, none⟩)) ∧ Qs w' A p [] 0 ∧ (∀ k, A k → w.heap.size ≤ k) ∧ Below w.heap.size w w' := by
  have HE : Hid (∃ A, Qs ((w.alloc (.map #[] 0)).alloc (.cells #[.int .i64 0, .slice none 0 0, .map (some w.heap.size)] 65)) A (w.heap.size + 1) [] 0 ∧ (∀ k, A k → w.heap.size ≤ k)) := by
    have h1 := World.ownsMap_made w Tryd.prog 3 ptR
    have h2 : ((w.alloc (.map #[] 0)).alloc (.cells #[.int .i64 0, .slice none 0 0, .map (some w.heap.size)] 65)).heap[w.heap.size + 1]? = some (.cells #[.int .i64 0, .slice none 0 0, .map (some w.heap.size)] 65 (0, 0)) := by
      have := heap_alloc_new (w.alloc (.map #[] 0)) (.cells #[.int .i64 0, .slice none 0 0, .map (some w.heap.size)] 65)
      simpa using this
    refine ⟨fun k => k = w.heap.size ∨ k = w.heap.size + 1, ⟨w.heap.size, fun _ => 0, fun _ => False, 0, fun _ => default, .map [], ⟨⟨by omega, ⟨_, h2, World.ownsRow_nil _ _ _ _, (fun r e => by cases e)⟩, (fun x hx => by cases hx), (fun k hk => by omega), ⟨id, fun x hx => by cases hx⟩⟩, (fun k _ hk => by omega), List.Perm.refl _, World.ownsMap.alloc h1 _, ⟨(fun id => ⟨(fun h => by simp [Maps.has_eq] at h), (fun ⟨x, hx, _⟩ => by cases hx)⟩), (fun x hx => by cases hx)⟩, ⟨List.Pairwise.nil, (fun x hx => by cases hx), (fun x hx => by cases hx), (fun x hx => by cases hx), Int.le_refl _, Int.le_refl _⟩, fun k hk => ?_, fun k hk => ?_, ⟨by omega, id, (fun x hx => by cases hx)⟩⟩⟩, fun k hk => by omega⟩
    · rcases hk with h | h | h | ⟨x, hx, _⟩
      · exact .inl h
      · exact .inr h
      · exact h.elim
      · cases hx
    · simp
      omega
  have hmk := @run_makeMap Tryd.prog
  go_enter Tryd.func8, Tryd.ntmps8
  go_wp2
  go_ret
  obtain ⟨A, h1, h2⟩ := HE.out
  exact ⟨_, A, rfl, h1, h2, (by repeat (first | exact Below.refl _ _ | refine Below.alloc ?_ (by simp; try omega) _ | refine Below.setCell ?_ (by simp) _ | refine below_drewN ?_ _ | refine Below.drew ?_))⟩
set_option maxRecDepth 100000 in
set_option maxHeartbeats 800000 in
theorem len_run {w : World} {A : Nat → Prop} {p : Nat} {L : List Ev} {last : Int} {m : Nat} {β : Int → Nat} {R : Nat → Prop} {n : Nat} {a : Nat → Ev} {D : DataW Unit} (h : QP w A p L last m β R n a D) :
    Calls Tryd.prog 11 #[.pointer (some ⟨p, 0, none⟩)] w fun e w' => e = .returned (.int .i64 (n : Int)) ∧ w' = w := by
  obtain ⟨v, hq, ad, cap, rfl⟩ := h.cell
  have c1 : w.cell? ⟨p, 1, none⟩ = some (.slice ad n cap) := by rw [cell_of_row _ _ 1 _ _ _ hq]; rfl
  clear h hq
  go_enter Tryd.func11, Tryd.ntmps11
  go_wp2
  go_ret
  exact ⟨rfl, rfl⟩
set_option maxRecDepth 100000 in
set_option maxHeartbeats 800000 in
theorem next_run {w : World} {A : Nat → Prop} {p : Nat} {L : List Ev} {last : Int} {m : Nat} {β : Int → Nat} {R : Nat → Prop} {n : Nat} {a : Nat → Ev} {D : DataW Unit} (h : QP w A p L last m β R n a D) :
    Calls Tryd.prog 7 #[.pointer (some ⟨p, 0, none⟩)] w fun e w' => e = .returned (.tuple #[.int .i64 (hdE L), .bool (decide (0 < L.length))]) ∧ w' = w := by
  have hl := len_run h
  have hn := h.len
  have hN := h.wt.few
  obtain ⟨v, hv⟩ := h.wt.cell
  cases L with
  | nil =>
    have h0 : n = 0 := hn
    subst h0
    clear h hv hN hn
    go_enter Tryd.func7, Tryd.ntmps7
    go_wp2_with (go_at_call 11; refine hl.mono ?_; rintro e w' ⟨rfl, rfl⟩)
    go_ret2
    exact ⟨rfl, rfl⟩
  | cons x r =>
    obtain ⟨h0, ha⟩ := h.first rfl
    obtain ⟨g, cap, rfl, -, -, hc, hcap, -, -⟩ := h.wt.row hv h0
    have ci := hc 0 h0
    obtain ⟨-, x1, -, -, -⟩ := h.wt.item h0
    have hd : hdE (x :: r) = x.due := rfl
    have hdc : decide (0 < (x :: r).length) = true := by simp
    rw [hd, hdc]
    have hn0 : ¬ ((n : Int) = 0) := by omega
    rw [ha] at x1 ci
    generalize x.due = xd at *
    unfold ptB at ci
    generalize β x.id = bb at *
    clear h hc ha hd hdc hn
    go_enter Tryd.func7, Tryd.ntmps7
    go_wp2_with (go_at_call 11; refine hl.mono ?_; rintro e w' ⟨rfl, rfl⟩)
    go_ret2
    exact ⟨rfl, rfl⟩
end Go.Proofs.YthnobkiiaflelaaDoor
