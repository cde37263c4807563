/- A row of paths of one's own. -/
import Derived.Test.YtlnoabedcnlpoaaDoorJSmall
namespace Go.Proofs.YtlnoabedcnlpoaaDoor
open Go.RowKit

/-- A value that owns some paths' slices, made since w0; nothing that was there in w0 has changed. -/
structure POw (w0 w : World) (v : Value) (L : List Value) : Prop where
  own : w.ownsRow w0.heap.size 34 1 v L.length L
  below : Below w0.heap.size w0 w
  one : ∀ u ∈ L, u.oneCell' = true
theorem POw.nil (w : World) : POw w w (.slice none 0 0) [] := ⟨World.ownsRow_nil _ _ _ _, Below.refl _ _, fun u hu => by cases hu⟩
theorem POw.keep {w0 w w' : World} {v : Value} {L : List Value} (h : POw w0 w v L) (hb : Below w.heap.size w w') : POw w0 w' v L := by
  refine ⟨⟨h.own.1, ?_⟩, h.below.trans (hb.mono h.below.size), h.one⟩
  rcases h.own.2 with hn | ⟨g, cap, cur, e, hbs, hg, rest⟩
  · exact .inl hn
  · exact .inr ⟨g, cap, cur, e, hbs, by rw [hb.block _ (lt_of_block hg)]; exact hg, rest⟩
theorem POw.form {w0 w : World} {v : Value} {L : List Value} (h : POw w0 w v L) : (v = .slice none 0 0 ∧ L = []) ∨ ∃ g cap, v = .slice (some ⟨g, 0, none⟩) L.length cap ∧ w0.heap.size ≤ g ∧ ∀ j u, L[j]? = some u → w.cell? ⟨g, j, none⟩ = some u := by
  rcases h.own.2 with ⟨rfl, e⟩ | ⟨g, cap, cur, rfl, hbs, hg, hc, hm, _⟩
  · exact .inl ⟨rfl, List.eq_nil_of_length_eq_zero e⟩
  · refine .inr ⟨g, cap, rfl, hbs, fun j u hj => ?_⟩
    have := h.own.cells (g := g) rfl j u hj
    rwa [Addr.add_lit, Nat.zero_add] at this
theorem underPs : Tryd.prog.underlying 54 = some (.slice 34) := Tryd.underlying54
theorem infoP : (Tryd.prog.info? 34).map (fun i => (i.zero, i.size, i.bytes)) = some (some (.slice none 0 0), 1, 24) := by kernel_rfl
theorem run_append_P (w w0 : World) (ty : TypeId) (v u : Value) (L : List Value) (hown : POw w0 w v L) (hu1 : u.oneCell' = true) (g : Nat) (hg : w.heap[g]? = some (.cells #[u] 34 (0, 0))) (hlen : L.length + 1 ≤ 1000000) :
    ∃ v' w1, (Builtin.append_ #[54, 54] ty #[v, .slice (some ⟨g, 0, none⟩) 1 1]).run Tryd.prog w = .ok v' w1 ∧ POw w0 w1 v' (L ++ [u]) ∧ (∀ k, k < w.heap.size → v.ownBlock ≠ some k → w1.heap[k]? = w.heap[k]?) := by
  obtain ⟨i0, hi0, hz0, hz1, hz2⟩ := info_parts infoP
  obtain ⟨v', w1, hr, h2, h3, _, h5⟩ := run_append_own_at (P := Tryd.prog) w w0.heap.size 54 ty 34 i0 (.slice none 0 0) 1 24 underPs hi0 hz0 hz1 hz2 rfl (by decide) v L.length L hown.own ⟨g, 0, none⟩ 1 1 [u] (by simp)
    (fun j x hj => by
      rw [Addr.add_lit, cell_of_row _ _ _ _ _ _ hg, Nat.zero_add]
      simpa using hj)
    (fun x hx => by simp at hx; subst hx; exact hu1) (by simp only [maxLen]; omega) (by omega) hown.below.size
  refine ⟨v', w1, hr, ⟨by simpa using h2, hown.below.trans ⟨h3.os, h3.tape, h3.output, h3.size, fun k hk => h3.block k (by have := hown.below.size; omega) (fun e => ?_)⟩, fun x hx => ?_⟩, fun k hk hne => h3.block k hk (fun e => hne e.symm)⟩
  · have := (hown.own.lt k e.symm).1
    omega
  · rcases List.mem_append.1 hx with hx | hx
    · exact hown.one x hx
    · simp at hx; subst hx; exact hu1
section
variable {ops : Array Oper} {rest : List Oper} {o : Oper} {a : Act} {w : World} {Q : Exit → Act → World → Prop}
theorem wpList_append_P (hgd : o.guard = none) (s x : Operand) (ho : o.op = .call { callee := .builtin .append, args := #[s, x], argTypes := #[54, 54] })
    (w0 : World) (v u : Value) (L : List Value) (hown : POw w0 w v L) (hu1 : u.oneCell' = true) (g : Nat) (hs : a.eval s = v) (hx : a.eval x = .slice (some ⟨g, 0, none⟩) 1 1) (hg : w.heap[g]? = some (.cells #[u] 34 (0, 0))) (hlen : L.length + 1 ≤ 1000000)
    (h : ∀ v' w1, POw w0 w1 v' (L ++ [u]) → (∀ k, k < w.heap.size → v.ownBlock ≠ some k → w1.heap[k]? = w.heap[k]?) → wpList Tryd.prog ops Q rest (a.put o.dst v') w1) : wpList Tryd.prog ops Q (o :: rest) a w := by
  obtain ⟨v', w1, hr, h2, h3⟩ := run_append_P w w0 o.type v u L hown hu1 g hg hlen
  refine wpList_plain hgd fun K hK => ?_
  unfold Oper.wp execOp
  simp only [ho, resolve, invoke, builtin, Sem.run_bind, Sem.run_pure, Result.andThen_ok, List.map_toArray, List.map_cons, List.map_nil, hs, hx, hr]
  exact hK _ _ (h v' w1 h2 h3)
end
/-- A path in a row of ints. -/
def PthAt (w : World) (u : Value) (k : Nat) (z : Nat → Int) : Prop := ∃ b cap cur, u = .slice (some ⟨b, 0, none⟩) k cap ∧ w.heap[b]? = some (.cells cur 3 (0, 0)) ∧ IsAt w (some ⟨b, 0, none⟩) k z
theorem PthAt.below {w w' : World} {u : Value} {k : Nat} {z : Nat → Int} (h : PthAt w u k z) (hb : Below w.heap.size w w') : PthAt w' u k z := by
  obtain ⟨b, cap, cur, h1, h2, h3⟩ := h
  exact ⟨b, cap, cur, h1, heap_below hb h2, h3.below hb⟩
/-- It stays where a row of paths grows. -/
theorem PthAt.grow {w0 w w' : World} {u v : Value} {k : Nat} {z : Nat → Int} {L : List Value} (h : PthAt w u k z) (ho : POw w0 w v L) (hk : ∀ k, k < w.heap.size → v.ownBlock ≠ some k → w'.heap[k]? = w.heap[k]?) : PthAt w' u k z := by
  obtain ⟨b, cap, cur, h1, h2, h3⟩ := h
  have hb : w'.heap[b]? = w.heap[b]? := hk b (lt_of_block h2) (fun e => by
    rcases ho.own.2 with ⟨rfl, _⟩ | ⟨g, c2, cur2, rfl, _, hg, _⟩
    · cases e
    · cases e
      rw [h2] at hg
      cases hg)
  refine ⟨b, cap, cur, h1, by rw [hb]; exact h2, fun hn => ?_⟩
  obtain ⟨b', off, e, hc⟩ := h3 hn
  cases e
  exact ⟨b, 0, rfl, fun j hj => by rw [World.cell?_of_block (a := ⟨b, 0 + j, none⟩) hb]; exact hc j hj⟩
/-- A path that was kept: where it lies, what it is. -/
structure Kept (c : Tc) (n : Nat) (w : World) (u : Value) (v : Int) : Prop where
  at_ : ∃ z, PthAt w u n z ∧ Ht c z n ∧ v < vl c z n
theorem Kept.below {c : Tc} {n : Nat} {w w' : World} {u : Value} {v : Int} (h : Kept c n w u v) (hb : Below w.heap.size w w') : Kept c n w' u v := by
  obtain ⟨z, h2, h3⟩ := h.at_
  exact ⟨z, h2.below hb, h3⟩
theorem Kept.grow {c : Tc} {n : Nat} {w0 w w' : World} {u v : Value} {x : Int} {L : List Value} (h : Kept c n w u x) (ho : POw w0 w v L) (hk : ∀ k, k < w.heap.size → v.ownBlock ≠ some k → w'.heap[k]? = w.heap[k]?) : Kept c n w' u x := by
  obtain ⟨z, h2, h3⟩ := h.at_
  exact ⟨z, h2.grow ho hk, h3⟩
theorem Kept.less {c : Tc} {n : Nat} {w : World} {u : Value} {v v' : Int} (h : Kept c n w u v) (hv : v' ≤ v) : Kept c n w u v' := by
  obtain ⟨z, h2, h3, h4⟩ := h.at_
  exact ⟨z, h2, h3, by omega⟩
end Go.Proofs.YtlnoabedcnlpoaaDoor
