/- Rows of ints of one's own: append. (CIow0, beside pages' texts.) -/
import Derived.Test.YtidmpblaeohfaaaGreatDoorPStart
import Derived.Deep.AppendSrc
import Derived.Maps.AppendAt
import Derived.Deep.AppendLies
namespace Go.Proofs.YtidmpblaeohfaaaGreatDoor
open Go.RowKit

theorem infoInt : (Tryz.prog.info? 3).map (fun i => (i.zero, i.size, i.bytes)) = some (some (.int .i64 0), 1, 8) := by kernel_rfl
def iC (L : List Int) : List Value := L.map (Value.int .i64)
/-- What is appended: ints that lie somewhere, or nothing. -/
def ISrc (w : World) (u : Value) (ys : List Int) : Prop :=
  ∃ ad c, u = .slice ad ys.length c ∧ ((ad = none ∧ ys = []) ∨ ∃ a, ad = some a ∧ ∀ j v, (iC ys)[j]? = some v → w.cell? (a.add j) = some v)
theorem one_isrc {w : World} {r : Nat} {y : Int} (hr : w.heap[r]? = some (.cells #[.int .i64 y] 3 (0, 0))) : ISrc w (.slice (some ⟨r, 0, none⟩) 1 1) [y] :=
  ⟨_, _, rfl, .inr ⟨_, rfl, fun j v hv => by rw [Addr.add_lit, Nat.zero_add, cell_of_row _ _ j _ _ _ hr]; simpa [iC] using hv⟩⟩
/-- A value that owns ints, made since w0; nothing that was there in w0 has changed. -/
structure IOw (w0 w : World) (v : Value) (L : List Int) : Prop where
  own : w.ownsRow w0.heap.size 3 1 v L.length (iC L)
  below : Below w0.heap.size w0 w
theorem IOw.nil (w : World) : IOw w w (.slice none 0 0) [] := ⟨World.ownsRow_nil _ _ _ _, Below.refl _ _⟩
theorem IOw.nil' {w0 w : World} (h : Below w0.heap.size w0 w) : IOw w0 w (.slice none 0 0) [] := ⟨World.ownsRow_nil _ _ _ _, h⟩
theorem IOw.keep {w0 w w' : World} {v : Value} {L : List Int} (h : IOw w0 w v L) (hb : Below w.heap.size w w') : IOw w0 w' v L := by
  refine ⟨⟨h.own.1, ?_⟩, h.below.trans (hb.mono h.below.size)⟩
  rcases h.own.2 with hn | ⟨g, cap, cur, e, hbs, hg, rest⟩
  · exact .inl hn
  · exact .inr ⟨g, cap, cur, e, hbs, by rw [hb.block _ (lt_of_block hg)]; exact hg, rest⟩
theorem IOw.mono {w w0 w1 : World} {v : Value} {L : List Int} (h : IOw w0 w1 v L) (hb : Below w.heap.size w w0) : IOw w w1 v L := by
  refine ⟨⟨h.own.1, ?_⟩, hb.trans (h.below.mono hb.size)⟩
  rcases h.own.2 with hn | ⟨g, cap, cur, e, hbs, rest⟩
  · exact .inl hn
  · exact .inr ⟨g, cap, cur, e, Nat.le_trans hb.size hbs, rest⟩
theorem IOw.form {w0 w : World} {v : Value} {L : List Int} (h : IOw w0 w v L) : (v = .slice none 0 0 ∧ L = []) ∨ ∃ g cap, v = .slice (some ⟨g, 0, none⟩) L.length cap ∧ L.length ≤ cap ∧ cap ≤ maxLen ∧ w0.heap.size ≤ g ∧ g < w.heap.size ∧ ∀ j x, L[j]? = some x → w.cell? ⟨g, 0 + j, none⟩ = some (.int .i64 x) := by
  rcases h.own.2 with ⟨rfl, e⟩ | ⟨g, cap, cur, rfl, hbs, hg, hc, hm, _⟩
  · exact .inl ⟨rfl, List.eq_nil_of_length_eq_zero e⟩
  · refine .inr ⟨g, cap, rfl, hc, hm, hbs, lt_of_block hg, fun j x hj => ?_⟩
    have := h.own.cells (g := g) rfl j (.int .i64 x) (by simp [iC, hj])
    rwa [Addr.add_lit] at this
theorem IOw.sl {w0 w : World} {v : Value} {L : List Int} (h : IOw w0 w v L) : ∃ ad cap, v = .slice ad L.length cap ∧ IsL w ad L ∧ L.length ≤ cap := by
  rcases h.form with ⟨rfl, rfl⟩ | ⟨g, c, rfl, hc1, _, _, _, hc⟩
  · exact ⟨none, 0, rfl, (fun h => by cases h), Nat.le_refl _⟩
  · exact ⟨_, c, rfl, (fun _ => ⟨g, 0, rfl, hc⟩), hc1⟩
theorem run_append_I (w w0 : World) (ty : TypeId) (v u : Value) (L ys : List Int) (hown : IOw w0 w v L) (hu : ISrc w u ys) (hlen : L.length + ys.length ≤ 1000000) :
    ∃ v' w1, (Builtin.append_ #[63, 63] ty #[v, u]).run Tryz.prog w = .ok v' w1 ∧ IOw w0 w1 v' (L ++ ys) ∧ (∀ k, k < w.heap.size → v.ownBlock ≠ some k → w1.heap[k]? = w.heap[k]?) := by
  obtain ⟨i0, hi0, hz0, hz1, hz2⟩ := info_parts infoInt
  obtain ⟨ad, c, rfl, ⟨rfl, rfl⟩ | ⟨a, rfl, hc⟩⟩ := hu
  · refine ⟨v, w, ?_, by simpa using hown, fun _ _ _ => rfl⟩
    rcases hown.own.2 with ⟨rfl, hl⟩ | ⟨g, cap, cur, rfl, hbs, hg, hcap, _⟩
    · simp [Builtin.append_, run_underlying Tryz.underlying63, sizeOf, typeInfo, hi0, Builtin.lenOf, Builtin.firstCells]
    · have := run_append_room_src (P := Tryz.prog) w 63 63 ty 3 i0 Tryz.underlying63 hi0 g 0 L.length cap (.slice none 0 c) 0 [] (Src.ofNil w Tryz.underlying63 c) (by omega) (fun j hj => by simp at hj) (fun j hj => by simp at hj)
      simpa [World.setCells] using this
  · obtain ⟨v', w1, hr, h2, h3, _, h5⟩ := run_append_own_at (P := Tryz.prog) w w0.heap.size 63 ty 3 i0 (.int .i64 0) 1 8 Tryz.underlying63 hi0 hz0 hz1 hz2 rfl (by decide) v L.length (iC L) hown.own a ys.length c (iC ys) (by simp [iC]) hc
      (fun u hu => by obtain ⟨y, _, rfl⟩ := List.mem_map.1 hu; rfl) (by simp only [maxLen]; omega) (by omega) hown.below.size
    refine ⟨v', w1, hr, ⟨by simpa [iC] using h2, hown.below.trans ⟨h3.os, h3.tape, h3.output, h3.size, fun k hk => h3.block k (by have := hown.below.size; omega) (fun e => ?_)⟩⟩, fun k hk hne => h3.block k hk (fun e => hne e.symm)⟩
    have := (hown.own.lt k e.symm).1
    omega
theorem wpList_append_I {ops : Array Oper} {rest : List Oper} {o : Oper} {a : Act} {w : World} {Q : Exit → Act → World → Prop} (hgd : o.guard = none) (s x : Operand) (ho : o.op = .call { callee := .builtin .append, args := #[s, x], argTypes := #[63, 63] })
    (w0 : World) (v u : Value) (L ys : List Int) (hs : a.eval s = v) (hx : a.eval x = u) (hown : IOw w0 w v L) (hu : ISrc w u ys) (hlen : L.length + ys.length ≤ 1000000)
    (h : ∀ v' w1, IOw w0 w1 v' (L ++ ys) → wpList Tryz.prog ops Q rest (a.put o.dst v') w1) : wpList Tryz.prog ops Q (o :: rest) a w := by
  obtain ⟨v', w1, hr, h2, _⟩ := run_append_I w w0 o.type v u L ys hown hu hlen
  refine wpList_plain hgd fun K hK => ?_
  unfold Oper.wp execOp
  simp only [ho, resolve, invoke, builtin, Sem.run_bind, Sem.run_pure, Result.andThen_ok, List.map_toArray, List.map_cons, List.map_nil, hs, hx, hr]
  exact hK _ _ (h v' w1 h2)
theorem IOw.alloc {w0 w : World} {v : Value} {L : List Int} (h : IOw w0 w v L) (o : Obj) : IOw w0 (w.alloc o) v L := h.keep ((Below.refl _ w).alloc (Nat.le_refl _) _)
end Go.Proofs.YtidmpblaeohfaaaGreatDoor
