/- The document's events: rows of one's own (cut out of what tools/mkev.py made). -/
import Derived.Test.YthnobkiiaflelaaDoorOwnShelf03
namespace Go.Proofs.YthnobkiiaflelaaDoor
open Go.RowKit Go.Maps Go.Sort

/-- A value that owns events, made since w0. -/
structure EvOw (w0 w : World) (v : Value) (L : List Ev) : Prop where
  own : w.ownsRow w0.heap.size 51 3 v L.length (flatE L)
  below : Below w0.heap.size w0 w
theorem EvOw.nil' {w0 w : World} (h : Below w0.heap.size w0 w) : EvOw w0 w (.slice none 0 0) [] := ⟨World.ownsRow_nil _ _ _ _, h⟩
theorem EvOw.keep {w0 w w' : World} {v : Value} {L : List Ev} (h : EvOw w0 w v L) (hb : Below w.heap.size w w') : EvOw w0 w' v L :=
  ⟨owns_row_keep h.own fun k e => hb.block k (h.own.lt k e).2, Below.transS h.below hb⟩
theorem EvOw.mono {w w0 w1 : World} {v : Value} {L : List Ev} (h : EvOw w0 w1 v L) (hb : Below w.heap.size w w0) : EvOw w w1 v L := by
  refine ⟨⟨h.own.1, ?_⟩, hb.trans (h.below.mono hb.size)⟩
  rcases h.own.2 with hn | ⟨g, cap, cur, e, hbs, rest⟩
  · exact .inl hn
  · exact .inr ⟨g, cap, cur, e, Nat.le_trans hb.size hbs, rest⟩
theorem EvOw.sl {w0 w : World} {v : Value} {L : List Ev} (h : EvOw w0 w v L) : ∃ ad cap, v = .slice ad L.length cap ∧ L.length ≤ cap ∧ EvAt w ad L ∧ (∀ a, ad = some a → w0.heap.size ≤ a.block ∧ a.block < w.heap.size) := by
  rcases h.own.2 with ⟨rfl, e⟩ | ⟨g, cap, cur, rfl, hbs, hg, hcap, _⟩
  · exact ⟨none, 0, by rw [e], by omega, (fun hn => by omega), fun a e => by cases e⟩
  · refine ⟨_, cap, rfl, hcap, fun _ => ⟨g, 0, rfl, fun j x hx => ?_⟩, fun a e => by cases e; exact ⟨hbs, lt_of_block hg⟩⟩
    have hf := flatE_get L j x hx
    have hc := h.own.cells (g := g) rfl
    simp only [Addr.add_lit] at hc
    exact ⟨hc _ _ hf.1, by rw [Nat.add_assoc]; exact hc _ _ hf.2.1, by rw [Nat.add_assoc]; exact hc _ _ hf.2.2⟩
theorem infoEv : (Tryd.prog.info? 51).map (fun i => (i.zero, i.size, i.bytes)) = some (some (.agg #[.int .i64 0, .int .i64 0, .string ⟨#[]⟩]), 3, 32) := by kernel_rfl
theorem run_append_Ev {w0 w : World} {v : Value} {L ys : List Ev} {ad : Option Addr} {c : Nat} (h : EvOw w0 w v L) (hs : EvAt w ad ys) (hnil : ad = none → ys = []) (hn : L.length + ys.length ≤ 100000) (ty : TypeId) :
    ∃ v' w1, (Builtin.append_ #[37, 37] ty #[v, .slice ad ys.length c]).run Tryd.prog w = .ok v' w1 ∧ EvOw w0 w1 v' (L ++ ys) ∧ (∀ k, k < w.heap.size → v.ownBlock ≠ some k → w1.heap[k]? = w.heap[k]?) := by
  obtain ⟨i0, hi0, hz0, hz1, hz2⟩ := info_parts infoEv
  cases ad with
  | none =>
    obtain rfl := hnil rfl
    refine ⟨v, w, ?_, by simpa using h, fun _ _ _ => rfl⟩
    rcases h.own.2 with ⟨rfl, hl⟩ | ⟨g, cap, cur, rfl, hbs, hg, hcap, _⟩
    · simp [Builtin.append_, run_underlying Tryd.underlying37, sizeOf, typeInfo, hi0, Builtin.lenOf, Builtin.firstCells]
    · have := run_append_room_src (P := Tryd.prog) w 37 37 ty 51 i0 Tryd.underlying37 hi0 g 0 L.length cap (.slice none 0 c) 0 [] (Src.ofNil w Tryd.underlying37 c) (by omega) (fun j hj => by simp at hj) (fun j hj => by simp at hj)
      simpa [World.setCells] using this
  | some a =>
    obtain ⟨v', w1, h1, h2, h3, _, _⟩ := run_append_own_at (P := Tryd.prog) w w0.heap.size 37 ty 51 i0 (.agg #[.int .i64 0, .int .i64 0, .string ⟨#[]⟩]) 3 32 Tryd.underlying37 hi0 hz0 hz1 hz2 rfl (by decide) v L.length (flatE L) h.own a ys.length c (flatE ys) (flatE_length ys)
      (fun j u hj => by
        obtain ⟨x, hx, hu⟩ := flatE_at hj
        have hp : 0 < ys.length := by have := (List.getElem?_eq_some_iff.1 hx).1; omega
        obtain ⟨b, off, e, hc⟩ := hs hp
        cases e
        rw [Addr.add_lit]
        obtain ⟨c0, c1, c2⟩ := hc _ _ hx
        rcases hu with ⟨hm, rfl⟩ | ⟨hm, rfl⟩ | ⟨hm, rfl⟩
        · have : off + j / 3 * 3 = off + j := by omega
          rw [this] at c0; exact c0
        · have : off + j / 3 * 3 + 1 = off + j := by omega
          rw [this] at c1; exact c1
        · have : off + j / 3 * 3 + 2 = off + j := by omega
          rw [this] at c2; exact c2)
      (fun u hu => by
        obtain ⟨x, _, hx⟩ := List.mem_flatMap.1 hu
        simp [evL] at hx
        rcases hx with rfl | rfl | rfl <;> rfl) (by unfold maxLen; omega) (by omega) h.below.size
    refine ⟨v', w1, h1, ⟨by rw [flatE_append, List.length_append]; exact h2, h.below.grown h3 h.below.size (fun k e => (h.own.lt k e).1)⟩, fun k hk hne => h3.block k hk (fun e => hne e.symm)⟩
theorem wpList_append_Ev {ops : Array Oper} {rest : List Oper} {o : Oper} {a : Act} {w : World} {Q : Exit → Act → World → Prop} (hgd : o.guard = none) (s x : Operand) (ho : o.op = .call { callee := .builtin .append, args := #[s, x], argTypes := #[37, 37] })
    (w0 : World) (v : Value) (L ys : List Ev) (ad : Option Addr) (c : Nat) (hs : a.eval s = v) (hx : a.eval x = .slice ad ys.length c) (h : EvOw w0 w v L) (hr : EvAt w ad ys) (hnil : ad = none → ys = []) (hn : L.length + ys.length ≤ 100000)
    (hk : ∀ v' w1, EvOw w0 w1 v' (L ++ ys) → wpList Tryd.prog ops Q rest (a.put o.dst v') w1) : wpList Tryd.prog ops Q (o :: rest) a w := by
  obtain ⟨v', w1, hrun, h2, _⟩ := run_append_Ev (c := c) h hr hnil hn o.type
  refine wpList_plain hgd fun K hK => ?_
  unfold Oper.wp execOp
  simp only [ho, resolve, invoke, builtin, Sem.run_bind, Sem.run_pure, Result.andThen_ok, List.map_toArray, List.map_cons, List.map_nil, hs, hx, hrun]
  exact hK _ _ (hk v' w1 h2)
theorem EvAt.one (x : Ev) (w : World) : EvAt (w.alloc (.cells #[.int .i64 x.id, .int .i64 x.due, encStr x.nm] 51)) (some ⟨w.heap.size, 0, none⟩) [x] := fun _ => by
  refine ⟨w.heap.size, 0, rfl, fun j y hy => ?_⟩
  have hj : j = 0 := by have := (List.getElem?_eq_some_iff.1 hy).1; simp at this; omega
  subst hj
  cases hy
  exact ⟨by simp, by simp, by simp⟩
section
variable {ops : Array Oper} {o : Oper} {a : Act} {w : World} {K : Act → World → Prop} {Q : Exit → Act → World → Prop} {E : Prop}
theorem step_append_Ev (hgd : o.guard = none) (s x : Operand) (ho : o.op = .call { callee := .builtin .append, args := #[s, x], argTypes := #[37, 37] })
    (w0 : World) (v : Value) (L ys : List Ev) (ad : Option Addr) (c : Nat) (hs : a.eval s = v) (hx : a.eval x = .slice ad ys.length c) (hown : EvOw w0 w v L) (hr : EvAt w ad ys) (hnil : ad = none → ys = []) (hn : L.length + ys.length ≤ 100000)
    (h : ∀ v' w1, EvOw w0 w1 v' (L ++ ys) → (∀ k, k < w.heap.size → v.ownBlock ≠ some k → w1.heap[k]? = w.heap[k]?) → K (a.put o.dst v') w1) : if Region.wanted o (yielded ops a.tmps) = true then Oper.wp Tryd.prog o a w K Q else E := by
  have hw : Region.wanted o (yielded ops a.tmps) = true := by simp [Region.wanted, hgd]
  rw [if_pos hw]
  obtain ⟨v', w1, hrun, h2, h3⟩ := run_append_Ev (c := c) hown hr hnil hn o.type
  unfold Oper.wp execOp
  simp only [ho, resolve, invoke, builtin, Sem.run_bind, Sem.run_pure, Result.andThen_ok, List.map_toArray, List.map_cons, List.map_nil, hs, hx, hrun]
  exact h v' w1 h2 h3
theorem slice_ev (k v : Int) (p : List UInt8) (w : World) : (Instr.buildSlice 37 1 #[(0, .agg #[.int .i64 k, .int .i64 v, encStr p])]).run Tryd.prog w = .ok (.slice (some ⟨w.heap.size, 0, none⟩) 1 1) (w.alloc (.cells #[.int .i64 k, .int .i64 v, encStr p] 51)) := by kernel_rfl
theorem step_sliceEv (hgd : o.guard = none) (x : Operand) (ho : o.op = .buildSlice 37 1 #[(0, x)]) (k v : Int) (p : List UInt8) (hx : a.eval x = .agg #[.int .i64 k, .int .i64 v, encStr p])
    (h : K (a.put o.dst (.slice (some ⟨w.heap.size, 0, none⟩) 1 1)) (w.alloc (.cells #[.int .i64 k, .int .i64 v, encStr p] 51))) : if Region.wanted o (yielded ops a.tmps) = true then Oper.wp Tryd.prog o a w K Q else E := by
  have hw : Region.wanted o (yielded ops a.tmps) = true := by simp [Region.wanted, hgd]
  rw [if_pos hw]
  unfold Oper.wp execOp
  simp only [ho, List.map_toArray, List.map_cons, List.map_nil, hx, Sem.run_bind, slice_ev, Result.andThen]
  exact h
end
theorem EvOw.block {w w1 : World} {v : Value} {L : List Ev} (h : EvOw w w1 v L) : ∀ k, v.ownBlock = some k → w.heap.size ≤ k := fun k e => (h.own.lt k e).1
end Go.Proofs.YthnobkiiaflelaaDoor
