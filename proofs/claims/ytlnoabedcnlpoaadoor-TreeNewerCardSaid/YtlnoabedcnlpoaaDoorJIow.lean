/- Rows of ints of one's own: append. -/
import Derived.Test.YtlnoabedcnlpoaaDoorJBase
import Derived.Deep.AppendSrc
import Derived.Maps.AppendAt
namespace Go.Proofs.YtlnoabedcnlpoaaDoor
open Go.RowKit

def keysL (z : Nat → Int) (n : Nat) : List Int := (List.range n).map z
theorem keysL_length (z : Nat → Int) (n : Nat) : (keysL z n).length = n := by simp [keysL]
theorem keysL_at {z : Nat → Int} {n j : Nat} (h : j < n) : (keysL z n)[j]? = some (z j) := by simp [keysL, h]
theorem keysL_succ (z : Nat → Int) (n : Nat) : keysL z (n + 1) = keysL z n ++ [z n] := by simp [keysL, List.range_succ]
def iC (L : List Int) : List Value := L.map (Value.int .i64)
def fi (L : List Int) : Nat → Int := fun j => L.getD j 0
/-- What is appended: ints that lie somewhere, or nothing. -/
def ISrc (w : World) (u : Value) (ys : List Int) : Prop :=
  ∃ ad c, u = .slice ad ys.length c ∧ ((ad = none ∧ ys = []) ∨ ∃ a, ad = some a ∧ ∀ j v, (iC ys)[j]? = some v → w.cell? (a.add j) = some v)
theorem ISrc.below {w w' : World} {u : Value} {ys : List Int} (h : ISrc w u ys) (hb : Below w.heap.size w w') : ISrc w' u ys := by
  obtain ⟨ad, c, rfl, h⟩ := h
  refine ⟨ad, c, rfl, ?_⟩
  rcases h with h | ⟨a, rfl, hc⟩
  · exact .inl h
  · refine .inr ⟨a, rfl, fun j v hv => ?_⟩
    have h1 := hc j v hv
    rw [hb.cell (p := a.add j) (World.block_lt_of_cell? w _ h1)]
    exact h1
/-- A value that owns ints, made since w0; nothing that was there in w0 has changed. -/
structure IOw (w0 w : World) (v : Value) (L : List Int) : Prop where
  own : w.ownsRow w0.heap.size 3 1 v L.length (iC L)
  below : Below w0.heap.size w0 w
theorem IOw.nil (w : World) : IOw w w (.slice none 0 0) [] := ⟨World.ownsRow_nil _ _ _ _, Below.refl _ _⟩
theorem IOw.nil' {w0 w : World} (h : Below w0.heap.size w0 w) : IOw w0 w (.slice none 0 0) [] := ⟨World.ownsRow_nil _ _ _ _, h⟩
theorem IOw.keep {w0 w w' : World} {v : Value} {L : List Int} (h : IOw w0 w v L) (hb : Below w.heap.size w w') : IOw w0 w' v L := by
  refine ⟨⟨h.own.1, ?_⟩, h.below.trans (hb.mono h.below.size)⟩
  rcases h.own.2 with hn | ⟨g, cap, cur, e, hbs, hg, rest⟩
  · exact .inl hn
  · exact .inr ⟨g, cap, cur, e, hbs, by rw [hb.block _ (lt_of_block hg)]; exact hg, rest⟩
theorem IOw.mono {w w0 w1 : World} {v : Value} {L : List Int} (h : IOw w0 w1 v L) (hb : Below w.heap.size w w0) : IOw w w1 v L := by
  refine ⟨⟨h.own.1, ?_⟩, hb.trans (h.below.mono hb.size)⟩
  rcases h.own.2 with hn | ⟨g, cap, cur, e, hbs, rest⟩
  · exact .inl hn
  · exact .inr ⟨g, cap, cur, e, Nat.le_trans hb.size hbs, rest⟩
theorem IOw.form {w0 w : World} {v : Value} {L : List Int} (h : IOw w0 w v L) : (v = .slice none 0 0 ∧ L = []) ∨ ∃ g cap, v = .slice (some ⟨g, 0, none⟩) L.length cap ∧ L.length ≤ cap ∧ cap ≤ maxLen ∧ w0.heap.size ≤ g ∧ g < w.heap.size ∧ ∀ j, j < L.length → w.cell? ⟨g, 0 + j, none⟩ = some (.int .i64 (fi L j)) := by
  rcases h.own.2 with ⟨rfl, e⟩ | ⟨g, cap, cur, rfl, hbs, hg, hc, hm, _⟩
  · exact .inl ⟨rfl, List.eq_nil_of_length_eq_zero e⟩
  · refine .inr ⟨g, cap, rfl, hc, hm, hbs, lt_of_block hg, fun j hj => ?_⟩
    have := h.own.cells (g := g) rfl j (.int .i64 (fi L j)) (by simp [iC, fi, hj])
    rwa [Addr.add_lit] at this
theorem IOw.isAt {w0 w : World} {ad : Option Addr} {n cap : Nat} {L : List Int} (h : IOw w0 w (.slice ad n cap) L) : n = L.length ∧ IsAt w ad L.length (fi L) := by
  rcases h.form with ⟨e, rfl⟩ | ⟨g, c, e, _, _, _, _, hc⟩
  · cases e; exact ⟨rfl, fun h => by cases h⟩
  · cases e; exact ⟨rfl, fun _ => ⟨g, 0, rfl, hc⟩⟩

theorem run_append_I {T : TypeId} (hT : Tryd.prog.underlying T = some (.slice 3)) (w w0 : World) (ty : TypeId) (v u : Value) (L ys : List Int) (hown : IOw w0 w v L) (hu : ISrc w u ys) (hlen : L.length + ys.length ≤ 1000000) :
    ∃ v' w1, (Builtin.append_ #[T, T] ty #[v, u]).run Tryd.prog w = .ok v' w1 ∧ IOw w0 w1 v' (L ++ ys) ∧ (∀ k, k < w.heap.size → v.ownBlock ≠ some k → w1.heap[k]? = w.heap[k]?) := by
  obtain ⟨i0, hi0, hz0, hz1, hz2⟩ := info_parts infoI
  obtain ⟨ad, c, rfl, ⟨rfl, rfl⟩ | ⟨a, rfl, hc⟩⟩ := hu
  · refine ⟨v, w, ?_, by simpa using hown, fun _ _ _ => rfl⟩
    rcases hown.own.2 with ⟨rfl, hl⟩ | ⟨g, cap, cur, rfl, hbs, hg, hcap, _⟩
    · simp [Builtin.append_, run_underlying hT, sizeOf, typeInfo, hi0, Builtin.lenOf, Builtin.firstCells]
    · have := run_append_room_src (P := Tryd.prog) w T T ty 3 i0 hT hi0 g 0 L.length cap (.slice none 0 c) 0 [] (Src.ofNil w hT c) (by omega) (fun j hj => by simp at hj) (fun j hj => by simp at hj)
      simpa [World.setCells] using this
  · obtain ⟨v', w1, hr, h2, h3, _, h5⟩ := run_append_own_at (P := Tryd.prog) w w0.heap.size T ty 3 i0 (.int .i64 0) 1 8 hT hi0 hz0 hz1 hz2 rfl (by decide) v L.length (iC L) hown.own a ys.length c (iC ys) (by simp [iC]) hc
      (fun u hu => by obtain ⟨y, _, rfl⟩ := List.mem_map.1 hu; rfl) (by simp only [maxLen]; omega) (by omega) hown.below.size
    refine ⟨v', w1, hr, ⟨by simpa [iC] using h2, hown.below.trans ⟨h3.os, h3.tape, h3.output, h3.size, fun k hk => h3.block k (by have := hown.below.size; omega) (fun e => ?_)⟩⟩, fun k hk hne => h3.block k hk (fun e => hne e.symm)⟩
    have := (hown.own.lt k e.symm).1
    omega

section
variable {ops : Array Oper} {rest : List Oper} {o : Oper} {a : Act} {w : World} {Q : Exit → Act → World → Prop} {K : Act → World → Prop} {E : Prop}
theorem wpList_append_I {T : TypeId} (hT : Tryd.prog.underlying T = some (.slice 3)) (hgd : o.guard = none) (s x : Operand) (ho : o.op = .call { callee := .builtin .append, args := #[s, x], argTypes := #[T, T] })
    (w0 : World) (v u : Value) (L ys : List Int) (hs : a.eval s = v) (hx : a.eval x = u) (hown : IOw w0 w v L) (hu : ISrc w u ys) (hlen : L.length + ys.length ≤ 1000000)
    (h : ∀ v' w1, IOw w0 w1 v' (L ++ ys) → (∀ k, k < w.heap.size → v.ownBlock ≠ some k → w1.heap[k]? = w.heap[k]?) → wpList Tryd.prog ops Q rest (a.put o.dst v') w1) : wpList Tryd.prog ops Q (o :: rest) a w := by
  obtain ⟨v', w1, hr, h2, h3⟩ := run_append_I hT w w0 o.type v u L ys hown hu hlen
  refine wpList_plain hgd fun K hK => ?_
  unfold Oper.wp execOp
  simp only [ho, resolve, invoke, builtin, Sem.run_bind, Sem.run_pure, Result.andThen_ok, List.map_toArray, List.map_cons, List.map_nil, hs, hx, hr]
  exact hK _ _ (h v' w1 h2 h3)
theorem step_append_I {T : TypeId} (hT : Tryd.prog.underlying T = some (.slice 3)) (hgd : o.guard = none) (s x : Operand) (ho : o.op = .call { callee := .builtin .append, args := #[s, x], argTypes := #[T, T] })
    (w0 : World) (v u : Value) (L ys : List Int) (hs : a.eval s = v) (hx : a.eval x = u) (hown : IOw w0 w v L) (hu : ISrc w u ys) (hlen : L.length + ys.length ≤ 1000000)
    (h : ∀ v' w1, IOw w0 w1 v' (L ++ ys) → K (a.put o.dst v') w1) : if Region.wanted o (yielded ops a.tmps) = true then Oper.wp Tryd.prog o a w K Q else E := by
  have hw : Region.wanted o (yielded ops a.tmps) = true := by simp [Region.wanted, hgd]
  rw [if_pos hw]
  obtain ⟨v', w1, hr, h2, h3⟩ := run_append_I hT w w0 o.type v u L ys hown hu hlen
  unfold Oper.wp execOp
  simp only [ho, resolve, invoke, builtin, Sem.run_bind, Sem.run_pure, Result.andThen_ok, List.map_toArray, List.map_cons, List.map_nil, hs, hx, hr]
  exact h v' w1 h2
end
theorem src_of {w : World} {sa : Option Addr} {sn sc : Nat} {sz : Nat → Int} (h : IsAt w sa sn sz) : ISrc w (.slice sa sn sc) (keysL sz sn) := by
  have h0 : sn = 0 ∧ sa = none ∨ ∃ a, sa = some a := by
    cases sa with
    | some a => exact .inr ⟨a, rfl⟩
    | none =>
      refine .inl ⟨?_, rfl⟩
      rcases Nat.eq_zero_or_pos sn with h1 | h1
      · exact h1
      · obtain ⟨b, off, e, _⟩ := h h1
        cases e
  refine ⟨sa, sc, by rw [keysL_length], ?_⟩
  rcases h0 with ⟨rfl, rfl⟩ | ⟨a, rfl⟩
  · exact .inl ⟨rfl, rfl⟩
  · refine .inr ⟨a, rfl, fun j v hj => ?_⟩
    have hl : j < sn := by
      have := (List.getElem?_eq_some_iff.1 hj).1
      simpa [iC, keysL_length] using this
    obtain ⟨b, off, e, hc⟩ := h (by omega)
    obtain rfl := Option.some.inj e
    have hv : v = .int .i64 (sz j) := by
      simp [iC, keysL, hl] at hj
      exact hj.symm
    rw [hv, Addr.add_lit]
    exact hc j hl
theorem underI : Tryd.prog.underlying 26 = some (.slice 3) := Tryd.underlying26
theorem underP : Tryd.prog.underlying 34 = some (.slice 3) := Tryd.underlying34
/-- A slice of no ints, just made. -/
theorem IOw.fresh {w w0 w1 : World} (hb : Below w0.heap.size w0 w) (hN : New w w1 #[] 3) : IOw w0 w1 (.slice (some ⟨w.heap.size, 0, none⟩) 0 0) [] :=
  ⟨⟨rfl, .inr ⟨w.heap.size, 0, #[], rfl, hb.size, hN.blk, Nat.le_refl _, by simp [maxLen], rfl, rfl⟩⟩, hb.trans (hN.below.mono hb.size)⟩
/-- One int, just made. -/
theorem src_one {w w1 : World} {v : Int} (hN : New w w1 #[.int .i64 v] 3) : ISrc w1 (.slice (some ⟨w.heap.size, 0, none⟩) 1 1) [v] :=
  ⟨_, 1, rfl, .inr ⟨_, rfl, fun j u hj => by
    rw [Addr.add_lit, cell_of_row _ _ _ _ _ _ hN.blk, Nat.zero_add]
    simpa [iC] using hj⟩⟩
end Go.Proofs.YtlnoabedcnlpoaaDoor
