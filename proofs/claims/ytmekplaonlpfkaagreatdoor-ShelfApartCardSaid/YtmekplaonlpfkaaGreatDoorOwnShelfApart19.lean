/- The document's changes: rows of one's own (made by tools/mkdoc.py). -/
import Derived.Test.YtmekplaonlpfkaaGreatDoorOwnShelfApart14
import Derived.Test.YtmekplaonlpfkaaGreatDoorOwnShelfApart15
import Derived.Test.YtmekplaonlpfkaaGreatDoorOwnShelfApart07
import Derived.Test.YtmekplaonlpfkaaGreatDoorOwnShelfApart18
namespace Go.Proofs.YtmekplaonlpfkaaGreatDoor
open Go.RowKit Go.Maps Go.Sort

theorem flatC_get3 (L : List Cg) (j : Nat) (x : Cg) (h : L[j]? = some x) : (flatC L)[j * 3]? = some (encStr x.k) ∧ (flatC L)[j * 3 + 1]? = some (encStr x.v) ∧ (flatC L)[j * 3 + 2]? = some (.bool x.g) := ⟨flatC_get L j 0 x h (by omega), flatC_get L j 1 x h (by omega), flatC_get L j 2 x h (by omega)⟩
theorem flatC_at {L : List Cg} {j : Nat} {u : Value} (h : (flatC L)[j]? = some u) : ∃ x, L[j / 3]? = some x ∧ ((j % 3 = 0 ∧ u = encStr x.k) ∨ (j % 3 = 1 ∧ u = encStr x.v) ∨ (j % 3 = 2 ∧ u = .bool x.g)) := by
  have hj : j < (flatC L).length := (List.getElem?_eq_some_iff.1 h).1
  rw [flatC_length] at hj
  have hx : L[j / 3]? = some L[j / 3] := List.getElem?_eq_getElem (by omega)
  refine ⟨_, hx, ?_⟩
  have hg := flatC_get3 L (j / 3) _ hx
  have e3 : j = j / 3 * 3 + j % 3 := by omega
  have hm : j % 3 = 0 ∨ j % 3 = 1 ∨ j % 3 = 2 := by omega
  rcases hm with hm | hm | hm
  · refine .inl ⟨hm, ?_⟩
    rw [hm] at e3; rw [e3, Nat.add_zero, hg.1] at h
    exact (Option.some.inj h).symm
  · refine .inr (.inl ⟨hm, ?_⟩)
    rw [hm] at e3; rw [e3, hg.2.1] at h
    exact (Option.some.inj h).symm
  · refine .inr (.inr ⟨hm, ?_⟩)
    rw [hm] at e3; rw [e3, hg.2.2] at h
    exact (Option.some.inj h).symm
/-- A value that owns leaves, made since w0. -/
structure ChOw (w0 w : World) (v : Value) (L : List Cg) : Prop where
  own : w.ownsRow w0.heap.size 114 3 v L.length (flatC L)
  below : Below w0.heap.size w0 w
theorem ChOw.nil' {w0 w : World} (h : Below w0.heap.size w0 w) : ChOw w0 w (.slice none 0 0) [] := ⟨World.ownsRow_nil _ _ _ _, h⟩
theorem ChOw.keep {w0 w w' : World} {v : Value} {L : List Cg} (h : ChOw w0 w v L) (hb : Below w.heap.size w w') : ChOw w0 w' v L :=
  ⟨owns_row_keep h.own fun k e => hb.block k (h.own.lt k e).2, Below.transS h.below hb⟩
theorem ChOw.mono {w w0 w1 : World} {v : Value} {L : List Cg} (h : ChOw w0 w1 v L) (hb : Below w.heap.size w w0) : ChOw w w1 v L := by
  refine ⟨⟨h.own.1, ?_⟩, hb.trans (h.below.mono hb.size)⟩
  rcases h.own.2 with hn | ⟨g, cap, cur, e, hbs, rest⟩
  · exact .inl hn
  · exact .inr ⟨g, cap, cur, e, Nat.le_trans hb.size hbs, rest⟩
theorem ChOw.sl {w0 w : World} {v : Value} {L : List Cg} (h : ChOw w0 w v L) : ∃ ad cap, v = .slice ad L.length cap ∧ L.length ≤ cap ∧ CgAt w ad L ∧ (∀ a, ad = some a → w0.heap.size ≤ a.block ∧ a.block < w.heap.size) := by
  rcases h.own.2 with ⟨rfl, e⟩ | ⟨g, cap, cur, rfl, hbs, hg, hcap, _⟩
  · exact ⟨none, 0, by rw [e], by omega, (fun hn => by omega), fun a e => by cases e⟩
  · refine ⟨_, cap, rfl, hcap, fun _ => ⟨g, 0, rfl, fun j x hx => ?_⟩, fun a e => by cases e; exact ⟨hbs, lt_of_block hg⟩⟩
    have hf := flatC_get3 L j x hx
    have hc := h.own.cells (g := g) rfl
    simp only [Addr.add_lit] at hc
    exact ⟨hc _ _ hf.1, by rw [Nat.add_assoc]; exact hc _ _ hf.2.1, by rw [Nat.add_assoc]; exact hc _ _ hf.2.2⟩
theorem infoCh : (Tryz.prog.info? 114).map (fun i => (i.zero, i.size, i.bytes)) = some (some (.agg #[.string ⟨#[]⟩, .string ⟨#[]⟩, .bool false]), 3, 40) := by kernel_rfl
theorem run_append_Ch {w0 w : World} {v : Value} {L ys : List Cg} {ad : Option Addr} {c : Nat} (h : ChOw w0 w v L) (hs : CgAt w ad ys) (hnil : ad = none → ys = []) (hn : L.length + ys.length ≤ 100000) (ty : TypeId) :
    ∃ v' w1, (Builtin.append_ #[51, 51] ty #[v, .slice ad ys.length c]).run Tryz.prog w = .ok v' w1 ∧ ChOw w0 w1 v' (L ++ ys) ∧ (∀ k, k < w.heap.size → v.ownBlock ≠ some k → w1.heap[k]? = w.heap[k]?) := by
  obtain ⟨i0, hi0, hz0, hz1, hz2⟩ := info_parts infoCh
  cases ad with
  | none =>
    obtain rfl := hnil rfl
    refine ⟨v, w, ?_, by simpa using h, fun _ _ _ => rfl⟩
    rcases h.own.2 with ⟨rfl, hl⟩ | ⟨g, cap, cur, rfl, hbs, hg, hcap, _⟩
    · simp [Builtin.append_, run_underlying Tryz.underlying51, sizeOf, typeInfo, hi0, Builtin.lenOf, Builtin.firstCells]
    · have := run_append_room_src (P := Tryz.prog) w 51 51 ty 114 i0 Tryz.underlying51 hi0 g 0 L.length cap (.slice none 0 c) 0 [] (Src.ofNil w Tryz.underlying51 c) (by omega) (fun j hj => by simp at hj) (fun j hj => by simp at hj)
      simpa [World.setCells] using this
  | some a =>
    obtain ⟨v', w1, h1, h2, h3, _, _⟩ := run_append_own_at (P := Tryz.prog) w w0.heap.size 51 ty 114 i0 (.agg #[.string ⟨#[]⟩, .string ⟨#[]⟩, .bool false]) 3 40 Tryz.underlying51 hi0 hz0 hz1 hz2 rfl (by decide) v L.length (flatC L) h.own a ys.length c (flatC ys) (flatC_length ys)
      (fun j u hj => by
        obtain ⟨x, hx, hu⟩ := flatC_at hj
        have hp : 0 < ys.length := by have := (List.getElem?_eq_some_iff.1 hx).1; omega
        obtain ⟨b, off, e, hc⟩ := hs hp
        cases e
        rw [Addr.add_lit]
        obtain ⟨c0, c1, c2⟩ := hc _ _ hx
        rcases hu with ⟨hm, rfl⟩ | ⟨hm, rfl⟩ | ⟨hm, rfl⟩
        · have : off + j / 3 * 3 = off + j := by omega
          rw [this] at c0; exact c0
        · have : off + j / 3 * 3 + 1 = off + j := by omega
          rw [this] at c1; exact c1
        · have : off + j / 3 * 3 + 2 = off + j := by omega
          rw [this] at c2; exact c2)
      (fun u hu => by
        obtain ⟨x, _, hx⟩ := List.mem_flatMap.1 hu
        simp [cgL] at hx
        rcases hx with rfl | rfl | rfl <;> rfl) (by unfold maxLen; omega) (by omega) h.below.size
    refine ⟨v', w1, h1, ⟨by rw [flatC_append, List.length_append]; exact h2, h.below.grown h3 h.below.size (fun k e => (h.own.lt k e).1)⟩, fun k hk hne => h3.block k hk (fun e => hne e.symm)⟩
theorem wpList_append_Ch {ops : Array Oper} {rest : List Oper} {o : Oper} {a : Act} {w : World} {Q : Exit → Act → World → Prop} (hgd : o.guard = none) (s x : Operand) (ho : o.op = .call { callee := .builtin .append, args := #[s, x], argTypes := #[51, 51] })
    (w0 : World) (v : Value) (L ys : List Cg) (ad : Option Addr) (c : Nat) (hs : a.eval s = v) (hx : a.eval x = .slice ad ys.length c) (h : ChOw w0 w v L) (hr : CgAt w ad ys) (hnil : ad = none → ys = []) (hn : L.length + ys.length ≤ 100000)
    (hk : ∀ v' w1, ChOw w0 w1 v' (L ++ ys) → wpList Tryz.prog ops Q rest (a.put o.dst v') w1) : wpList Tryz.prog ops Q (o :: rest) a w := by
  obtain ⟨v', w1, hrun, h2, _⟩ := run_append_Ch (c := c) h hr hnil hn o.type
  refine wpList_plain hgd fun K hK => ?_
  unfold Oper.wp execOp
  simp only [ho, resolve, invoke, builtin, Sem.run_bind, Sem.run_pure, Result.andThen_ok, List.map_toArray, List.map_cons, List.map_nil, hs, hx, hrun]
  exact hK _ _ (hk v' w1 h2)
theorem CgAt.one (x : Cg) (w : World) : CgAt (w.alloc (.cells #[encStr x.k, encStr x.v, .bool x.g] 114)) (some ⟨w.heap.size, 0, none⟩) [x] := fun _ => by
  refine ⟨w.heap.size, 0, rfl, fun j y hy => ?_⟩
  have hj : j = 0 := by have := (List.getElem?_eq_some_iff.1 hy).1; simp at this; omega
  subst hj
  cases hy
  exact ⟨by simp, by simp, by simp⟩
section
variable {ops : Array Oper} {o : Oper} {a : Act} {w : World} {K : Act → World → Prop} {Q : Exit → Act → World → Prop} {E : Prop}
theorem step_append_Ch (hgd : o.guard = none) (s x : Operand) (ho : o.op = .call { callee := .builtin .append, args := #[s, x], argTypes := #[51, 51] })
    (w0 : World) (v : Value) (L ys : List Cg) (ad : Option Addr) (c : Nat) (hs : a.eval s = v) (hx : a.eval x = .slice ad ys.length c) (hown : ChOw w0 w v L) (hr : CgAt w ad ys) (hnil : ad = none → ys = []) (hn : L.length + ys.length ≤ 100000)
    (h : ∀ v' w1, ChOw w0 w1 v' (L ++ ys) → (∀ k, k < w.heap.size → v.ownBlock ≠ some k → w1.heap[k]? = w.heap[k]?) → K (a.put o.dst v') w1) : if Region.wanted o (yielded ops a.tmps) = true then Oper.wp Tryz.prog o a w K Q else E := by
  have hw : Region.wanted o (yielded ops a.tmps) = true := by simp [Region.wanted, hgd]
  rw [if_pos hw]
  obtain ⟨v', w1, hrun, h2, h3⟩ := run_append_Ch (c := c) hown hr hnil hn o.type
  unfold Oper.wp execOp
  simp only [ho, resolve, invoke, builtin, Sem.run_bind, Sem.run_pure, Result.andThen_ok, List.map_toArray, List.map_cons, List.map_nil, hs, hx, hrun]
  exact h v' w1 h2 h3
theorem slice_ch (k v : List UInt8) (p : Bool) (w : World) : (Instr.buildSlice 51 1 #[(0, .agg #[encStr k, encStr v, .bool p])]).run Tryz.prog w = .ok (.slice (some ⟨w.heap.size, 0, none⟩) 1 1) (w.alloc (.cells #[encStr k, encStr v, .bool p] 114)) := by kernel_rfl
theorem step_sliceCh (hgd : o.guard = none) (x : Operand) (ho : o.op = .buildSlice 51 1 #[(0, x)]) (k v : List UInt8) (p : Bool) (hx : a.eval x = .agg #[encStr k, encStr v, .bool p])
    (h : K (a.put o.dst (.slice (some ⟨w.heap.size, 0, none⟩) 1 1)) (w.alloc (.cells #[encStr k, encStr v, .bool p] 114))) : if Region.wanted o (yielded ops a.tmps) = true then Oper.wp Tryz.prog o a w K Q else E := by
  have hw : Region.wanted o (yielded ops a.tmps) = true := by simp [Region.wanted, hgd]
  rw [if_pos hw]
  unfold Oper.wp execOp
  simp only [ho, List.map_toArray, List.map_cons, List.map_nil, hx, Sem.run_bind, slice_ch, Result.andThen]
  exact h
end
theorem CgAt.take {w : World} {ad : Option Addr} {L : List Cg} (h : CgAt w ad L) (i : Nat) : CgAt w ad (L.take i) := fun hn => by
  have hp : 0 < L.length := by rw [List.length_take] at hn; omega
  obtain ⟨b, off, rfl, hc⟩ := h hp
  refine ⟨b, off, rfl, fun j x hx => hc j x ?_⟩
  rw [List.getElem?_take] at hx
  split at hx
  · exact hx
  · cases hx
theorem CgAt.drop {w : World} {b off : Nat} {L : List Cg} (h : CgAt w (some ⟨b, off, none⟩) L) (i : Nat) : CgAt w (some ⟨b, off + i * 3, none⟩) (L.drop i) := fun hn => by
  have hp : 0 < L.length := by rw [List.length_drop] at hn; omega
  obtain ⟨b', off', e, hc⟩ := h hp
  cases e
  refine ⟨b, off + i * 3, rfl, fun j x hx => ?_⟩
  rw [List.getElem?_drop] at hx
  have e1 : off + (i + j) * 3 = off + i * 3 + j * 3 := by omega
  have := hc (i + j) x hx
  rwa [e1] at this
theorem ChOw.block {w w1 : World} {v : Value} {L : List Cg} (h : ChOw w w1 v L) : ∀ k, v.ownBlock = some k → w.heap.size ≤ k := fun k e => (h.own.lt k e).1
/-- Where a change is put. -/
theorem insC_at {x : Cg} : ∀ {L : List Cg} {i : Nat}, i ≤ L.length → (∀ y ∈ L.take i, bytesBefore y.k x.k = true) → (∀ y, L[i]? = some y → bytesBefore y.k x.k = false) → (∀ y ∈ L, y.k ≠ x.k) → insK Cg.k x L = L.take i ++ x :: L.drop i
  | [], i, hi, _, _, _ => by
    have : i = 0 := by simp at hi; exact hi
    subst this; rfl
  | y :: r, 0, _, _, h2, h3 => by
    have h4 := h2 y rfl
    have h5 := before_of_not h4 (h3 y (List.mem_cons_self ..))
    unfold insK
    rw [if_pos h5]; rfl
  | y :: r, i + 1, hi, h1, h2, h3 => by
    have h4 := h1 y (by simp)
    have h5 : bytesBefore x.k y.k = false := by
      cases e : bytesBefore x.k y.k with
      | false => rfl
      | true =>
        rw [before_lt, decide_eq_true_iff] at e h4
        exact absurd (List.lt_trans e h4) (List.lt_irrefl _)
    have ih := insC_at (L := r) (i := i) (x := x) (by simpa using hi) (fun z hz => h1 z (by simp [hz])) (fun z hz => h2 z (by simpa using hz)) (fun z hz => h3 z (List.mem_cons_of_mem _ hz))
    unfold insK
    rw [if_neg (by simp [h5]), ih]
    rfl
end Go.Proofs.YtmekplaonlpfkaaGreatDoor
/- The document's Set: what stands in its loops. -/
namespace Go.Proofs.YtmekplaonlpfkaaGreatDoor
open Go.RowKit Go.Maps Go.Sort

/-- Leaves as a slice has them, in a block of B. -/
def LrB (B : Nat → Prop) (w : World) (v : Value) (L : List Lf) : Prop := ∃ ad cap, v = .slice ad L.length cap ∧ L.length ≤ cap ∧ (ad = none → L.length = 0 ∧ cap = 0) ∧ (∀ a, ad = some a → (∃ bb off, a = ⟨bb, off, none⟩) ∧ B a.block ∧ a.block < w.heap.size) ∧ LrAt w ad L
theorem LrB.nil (B : Nat → Prop) (w : World) : LrB B w (.slice none 0 0) [] := ⟨none, 0, rfl, Nat.le_refl _, (fun _ => ⟨rfl, rfl⟩), (fun a e => by cases e), fun hn => by simp at hn⟩
theorem LrB.keep {B B' : Nat → Prop} {w w' : World} {v : Value} {L : List Lf} (h : LrB B w v L) (hs : w.heap.size ≤ w'.heap.size) (hk : ∀ k, B k → k < w.heap.size → B' k ∧ w'.heap[k]? = w.heap[k]?) : LrB B' w' v L := by
  obtain ⟨ad, cap, rfl, h1, h2, h3, h4⟩ := h
  refine ⟨ad, cap, rfl, h1, h2, fun a e => ?_, h4.keep fun a e _ => (hk _ (h3 a e).2.1 (h3 a e).2.2).2⟩
  obtain ⟨h5, h6, h7⟩ := h3 a e
  exact ⟨h5, (hk _ h6 h7).1, by omega⟩
theorem LrB.below {B : Nat → Prop} {w w' : World} {v : Value} {L : List Lf} (h : LrB B w v L) (hb : Below w.heap.size w w') : LrB B w' v L := h.keep hb.size fun k h1 h2 => ⟨h1, hb.block k h2⟩
theorem LrB.mono {B B' : Nat → Prop} {w : World} {v : Value} {L : List Lf} (h : LrB B w v L) (hk : ∀ k, B k → k < w.heap.size → B' k) : LrB B' w v L := h.keep (Nat.le_refl _) fun k h1 h2 => ⟨hk k h1 h2, rfl⟩
theorem LrOw.ls {w0 w : World} {v : Value} {L : List Lf} (h : LrOw w0 w v L) : LrB (w0.heap.size ≤ ·) w v L := by
  obtain ⟨ad, cap, hv, hc, hl, hbk⟩ := h.sl
  subst hv
  refine ⟨ad, cap, rfl, hc, fun e => ?_, fun a e => ⟨?_, hbk a e⟩, hl⟩
  · subst e
    rcases h.own.2 with ⟨e, e2⟩ | ⟨g, cap, cur, e, _⟩
    · simp at e; exact ⟨e2, e.2⟩
    · simp at e
  · subst e
    rcases h.own.2 with ⟨e, _⟩ | ⟨g, cap, cur, e, _⟩
    · simp at e
    · simp at e; exact ⟨g, 0, e.1⟩
theorem findF_cases (k : List UInt8) : ∀ (L : List Lf) (i : Int), (findF k i L = -1 ∧ getK Lf.k k L = none) ∨ ∃ (j : Nat) (x : Lf), findF k i L = i + j ∧ L[j]? = some x ∧ getK Lf.k k L = some x
  | [], i => .inl ⟨rfl, rfl⟩
  | x :: r, i => by
    unfold findF getK
    rw [List.find?_cons]
    by_cases e : x.k = k
    · rw [if_pos e]
      exact .inr ⟨0, x, by simp, rfl, by simp [e]⟩
    · rw [if_neg e]
      have e' : (x.k == k) = false := by simpa using e
      simp only [e']
      rcases findF_cases k r (i + 1) with ⟨h1, h2⟩ | ⟨j, y, h1, h2, h3⟩
      · exact .inl ⟨h1, h2⟩
      · exact .inr ⟨j + 1, y, by rw [h1]; omega, h2, h3⟩
/-- The first loop: what has been picked. -/
structure S1 (w wr : World) (L : List Lf) (cs : List Cg) (sv : Value) (i : Nat) (acc : List Cg) : Prop where
  own : ChOw w wr sv acc
  pick : pickL L acc (cs.drop i) = todoL L cs
  apart : ∀ y ∈ acc, ∀ d ∈ cs.drop i, d.k ≠ y.k
  few : acc.length ≤ i
theorem S1.start (w w' : World) (L : List Lf) (cs : List Cg) (hb : Below w.heap.size w w') : S1 w w' L cs (.slice none 0 0) 0 [] := ⟨ChOw.nil' hb, pickL_todo L cs, (fun y hy => by cases hy), Nat.le_refl _⟩
theorem drop_at {α : Type} {l : List α} {i : Nat} {x : α} (h : l[i]? = some x) : l.drop i = x :: l.drop (i + 1) := by
  obtain ⟨hl, rfl⟩ := List.getElem?_eq_some_iff.1 h
  exact List.drop_eq_getElem_cons hl
section
variable {w wr w' : World} {L : List Lf} {cs acc : List Cg} {sv v' : Value} {i : Nat} {c : Cg}
theorem S1.skip (h : S1 w wr L cs sv i acc) (hc : cs[i]? = some c) (hn : ¬ (lastB' c (cs.drop (i + 1)) = true ∧ sameC L c = false)) (hb : Below wr.heap.size wr w') : S1 w w' L cs sv (i + 1) acc := by
  have hd := drop_at hc
  refine ⟨h.own.keep hb, ?_, fun y hy d hdr => h.apart y hy d (by rw [hd]; exact List.mem_cons_of_mem _ hdr), by have := h.few; omega⟩
  have hp := h.pick
  rw [hd, pickL, if_neg hn] at hp
  exact hp
theorem S1.ne (h : S1 w wr L cs sv i acc) (hc : cs[i]? = some c) : ∀ y ∈ acc, y.k ≠ c.k := fun y hy e => h.apart y hy c (by rw [drop_at hc]; exact List.mem_cons_self ..) e.symm
theorem S1.ins (h : S1 w wr L cs sv i acc) (hc : cs[i]? = some c) (hy : lastB' c (cs.drop (i + 1)) = true ∧ sameC L c = false) (ho : ChOw w w' v' (insK Cg.k c acc)) : S1 w w' L cs v' (i + 1) (insK Cg.k c acc) := by
  have hd := drop_at hc
  refine ⟨ho, ?_, fun y hym d hdr => ?_, by rw [insK_length]; have := h.few; omega⟩
  · have hp := h.pick
    rw [hd, pickL, if_pos hy] at hp
    exact hp
  · rcases (mem_insK Cg.k).1 hym with rfl | hym
    · exact lastB'_iff.1 hy.1 d hdr
    · exact h.apart y hym d (by rw [hd]; exact List.mem_cons_of_mem _ hdr)
theorem S1.done (h : S1 w wr L cs sv cs.length acc) : ChOw w wr sv (todoL L cs) := by
  have hp := h.pick
  rw [List.drop_length, pickL] at hp
  rw [← hp]; exact h.own
end
theorem lastB'_step {c d : Cg} {cs : List Cg} {i k : Nat} (hk : i + 1 ≤ k) (hd : cs[k]? = some d) : lastB' c ((cs.drop (i + 1)).take (k + 1 - (i + 1))) = (lastB' c ((cs.drop (i + 1)).take (k - (i + 1))) && !(d.k == c.k)) := by
  have e : k + 1 - (i + 1) = (k - (i + 1)) + 1 := by omega
  have hg : (cs.drop (i + 1))[k - (i + 1)]? = some d := by
    rw [List.getElem?_drop]
    have : i + 1 + (k - (i + 1)) = k := by omega
    rw [this]; exact hd
  rw [e, List.take_add_one, hg]
  unfold lastB'
  simp
theorem lastB'_all {c : Cg} {cs : List Cg} {i : Nat} : lastB' c ((cs.drop (i + 1)).take (cs.length - (i + 1))) = lastB' c (cs.drop (i + 1)) := by
  rw [List.take_of_length_le (by rw [List.length_drop]; omega)]
/-- The third loop: what is left to be done. -/
structure S3 (B : Nat → Prop) (w wr : World) (L : List Lf) (n : Nat) (C : List Cg) (R : List Lf) (v : Value) (q i : Nat) (M : List Lf) : Prop where
  sl : LrB (fun k => B k ∨ w.heap.size ≤ k) wr v M
  below : Below w.heap.size w wr
  beh : behL (C.drop i) (frF L n q) M = R
  room : nlay (C.drop i) ≤ (frF L n q).length
  few : M.length ≤ L.length + i
theorem S3.gone {B : Nat → Prop} {w wr w' : World} {L : List Lf} {n : Nat} {C : List Cg} {R : List Lf} {v v' : Value} {q i : Nat} {M : List Lf} {c : Cg} (h : S3 B w wr L n C R v q i M) (hc : C[i]? = some c) (hg : c.g = true) (hl : LrB (fun k => B k ∨ w.heap.size ≤ k) w' v' (delK Lf.k c.k M)) (hb : Below w.heap.size w w') : S3 B w w' L n C R v' q (i + 1) (delK Lf.k c.k M) := by
  have hd := drop_at hc
  have h1 := h.beh
  have h2 := h.room
  rw [hd] at h1 h2
  rw [behL_gone hg] at h1
  rw [nlay_cons, hg] at h2
  have h3 : (delK Lf.k c.k M).length ≤ M.length := List.length_filter_le _ _
  exact ⟨hl, hb, h1, by simpa using h2, by have := h.few; omega⟩
theorem S3.room1 {B : Nat → Prop} {w wr : World} {L : List Lf} {n : Nat} {C : List Cg} {R : List Lf} {v : Value} {q i : Nat} {M : List Lf} {c : Cg} (h : S3 B w wr L n C R v q i M) (hc : C[i]? = some c) (hg : c.g = false) : 0 < (frF L n q).length := by
  have h2 := h.room
  rw [drop_at hc, nlay_cons, hg] at h2
  simp at h2
  omega
theorem S3.put {B : Nat → Prop} {w wr w' : World} {L : List Lf} {n : Nat} {C : List Cg} {R : List Lf} {v v' : Value} {q q' i : Nat} {M : List Lf} {c : Cg} (h : S3 B w wr L n C R v q i M) (hc : C[i]? = some c) (hg : c.g = false) (hf : frF L n q = q' :: frF L n (q' + 1)) (hl : LrB (fun k => B k ∨ w.heap.size ≤ k) w' v' (insK Lf.k ⟨c.k, q', c.v⟩ (delK Lf.k c.k M))) (hb : Below w.heap.size w w') : S3 B w w' L n C R v' (q' + 1) (i + 1) (insK Lf.k ⟨c.k, q', c.v⟩ (delK Lf.k c.k M)) := by
  have hd := drop_at hc
  have h1 := h.beh
  have h2 := h.room
  rw [hd, hf] at h1 h2
  rw [behL_put hg] at h1
  rw [nlay_cons, hg] at h2
  have h3 : (delK Lf.k c.k M).length ≤ M.length := List.length_filter_le _ _
  refine ⟨hl, hb, h1, ?_, by rw [insK_length]; have := h.few; omega⟩
  simp at h2
  omega
theorem S3.done {B : Nat → Prop} {w wr : World} {L : List Lf} {n : Nat} {C : List Cg} {R : List Lf} {v : Value} {q : Nat} {M : List Lf} (h : S3 B w wr L n C R v q C.length M) : LrB (fun k => B k ∨ w.heap.size ≤ k) wr v R := by
  have h1 := h.beh
  rw [List.drop_length, behL_nil] at h1
  rw [← h1]; exact h.sl
end Go.Proofs.YtmekplaonlpfkaaGreatDoor
/- give: the document's changes as the program's. -/
namespace Go.Proofs.YtmekplaonlpfkaaGreatDoor
open Go.RowKit Go.Maps Go.Sort

attribute [local go_sem ↓] Go.wp_at_zero Go.wp_at_succ

set_option maxRecDepth 100000 in
set_option maxHeartbeats 1600000 in
theorem give_any (ad : Option Addr) (cap : Nat) (C : List Cg) (w : World) (h : CgAt w ad C) (hl : C.length ≤ 1000) :
    Calls Tryz.prog 20 #[.slice ad C.length cap] w fun e w' => ∃ v, e = .returned v ∧ CgOw w w' v C := by
  have HL : Hid (CgAt w ad C) := h
  clear h
  have HI0 : Hid (CgOw w w (.slice none 0 0) (C.take 0)) := CgOw.nil w
  go_enter Tryz.func20, Tryz.ntmps20
  go_wp2
  go_loopw [3, 4] (fun ov iv wr => ∃ i : Nat, i ≤ C.length ∧ iv = .int .i64 i ∧ CgOw w wr ov (C.take i)) (fun _ iv _ => C.length - (intOf iv).toNat)
  case atStart => exact ⟨0, Nat.zero_le _, rfl, HI0.out⟩
  case round =>
    clear HI0
    obtain ⟨i, hi, rfl, hO⟩ := hrel
    have HO : Hid (CgOw w wr u3 (C.take i)) := hO
    clear hO
    by_cases hlt : i < C.length
    · have hlt' : (i : Int) < C.length := by omega
      have hx : C[i]? = some C[i] := List.getElem?_eq_getElem hlt
      have htk : C.take (i + 1) = C.take i ++ [C[i]] := (List.take_append_getElem hlt).symm
      obtain ⟨bb, off, rfl, hc⟩ := (HL.out.below HO.out.below) (by omega)
      have c0 := (hc i _ hx).1
      have c1 := (hc i _ hx).2.1
      have c2 := (hc i _ hx).2.2
      have hle : (C.take i).length ≤ 100000 := by rw [List.length_take]; omega
      clear hc hx
      generalize C[i] = x at *
      obtain ⟨wa, hwa⟩ : ∃ wa, wr.alloc (.cells #[encStr x.k, encStr x.v, .bool x.g] 70) = wa := ⟨_, rfl⟩
      have hOw : CgOw w wa u3 (C.take i) := by rw [← hwa]; exact HO.out.keep ((Below.refl _ wr).alloc (Nat.le_refl _) _)
      have hrow : wa.heap[wr.heap.size]? = some (.cells #[encStr x.k, encStr x.v, .bool x.g] 70 (0, 0)) := by rw [← hwa]; exact heap_alloc_new wr _
      have HN : Hid (∀ v' w1, CgOw w w1 v' (C.take i ++ [x]) → CgOw w w1 v' (C.take (i + 1))) := fun v' w1 h1 => by rw [htk]; exact h1
      clear htk
      generalize C.take i = D at *
      obtain ⟨xk, hxk⟩ : ∃ xk, x.k = xk := ⟨_, rfl⟩
      obtain ⟨xv, hxv⟩ : ∃ xv, x.v = xv := ⟨_, rfl⟩
      obtain ⟨xg, hxg⟩ : ∃ xg, x.g = xg := ⟨_, rfl⟩
      rw [hxk] at c0 hwa
      rw [hxv] at c1 hwa
      rw [hxg] at c2 hwa
      clear hxk hxv hxg
      go_wp2_with (first | (at_builtin; refine wpList_append_Cg rfl _ _ rfl w _ D wr.heap.size x rfl rfl hOw hrow hle ?_; intro v4 w4 hO4) | fail)
      have HN4 : Hid (CgOw w w4 v4 (C.take (i + 1))) := HN.out v4 w4 hO4
      clear hOw hrow hle hwa hO4
      go_wp2
      exact ⟨⟨i + 1, by omega, by go_num, HN4.out⟩, by simp [intOf]; omega⟩
    · obtain rfl : i = C.length := by omega
      have hlt' : ¬ ((C.length : Int) < C.length) := by omega
      have hE : CgOw w wr u3 C := by have := HO.out; rw [List.take_length] at this; exact this
      have HE : Hid (CgOw w wr u3 C) := hE
      clear hE
      go_wp2
      go_ret
      exact ⟨_, rfl, HE.out⟩
end Go.Proofs.YtmekplaonlpfkaaGreatDoor
/- long: is there more than is gone through? -/
namespace Go.Proofs.YtmekplaonlpfkaaGreatDoor
open Go.RowKit Go.Maps Go.Sort

attribute [local go_sem ↓] Go.wp_at_zero Go.wp_at_succ

/-- How many bytes some changes bear. -/
def sumL (C : List Cg) : Nat := (C.map fun x => x.k.length + x.v.length).sum
theorem sumL_snoc (C : List Cg) (x : Cg) : sumL (C ++ [x]) = sumL C + x.k.length + x.v.length := by simp [sumL]; omega
theorem sumL_cons (y : Cg) (C : List Cg) : sumL (y :: C) = y.k.length + y.v.length + sumL C := by simp [sumL]
theorem sumL_mem : ∀ {C : List Cg} {x : Cg}, x ∈ C → x.k.length + x.v.length ≤ sumL C
  | y :: r, x, h => by
    rw [sumL_cons]
    rcases List.mem_cons.1 h with rfl | h
    · omega
    · have := sumL_mem h; omega
def longB (C : List Cg) : Bool := decide (60 < C.length ∨ 20000 < sumL C)
theorem longB_not {C : List Cg} (h : longB C = false) : C.length ≤ 60 ∧ ∀ x ∈ C, x.k.length ≤ 20000 ∧ x.v.length ≤ 20000 := by
  unfold longB at h
  have h1 := of_decide_eq_false h
  exact ⟨by omega, fun x hx => by have := sumL_mem hx; omega⟩
set_option maxRecDepth 100000 in
set_option maxHeartbeats 1600000 in
theorem long_any (ad : Option Addr) (cap : Nat) (C : List Cg) (w : World) (h : CgAt w ad C) (hl : C.length ≤ maxLen) (hsz : ∀ x ∈ C, x.k.length ≤ 140737488355328 ∧ x.v.length ≤ 140737488355328) :
    Calls Tryz.prog 19 #[.slice ad C.length cap] w fun e w' => e = .returned (.bool (longB C)) ∧ Below w.heap.size w w' := by
  have HL : Hid (CgAt w ad C) := h
  have HZ : Hid (∀ x ∈ C, x.k.length ≤ 140737488355328 ∧ x.v.length ≤ 140737488355328) := hsz
  have hml : maxLen = 9223372036854775807 := rfl
  rw [hml] at hl
  clear h hsz hml
  have hlk : ∀ u : List UInt8, (⟨u.toArray⟩ : ByteArray).size = u.length := fun u => by simp [ByteArray.size]
  go_enter Tryz.func19, Tryz.ntmps19
  go_wp2
  go_loopw [3, 4] (fun nv iv wr => ∃ i : Nat, i ≤ C.length ∧ i ≤ 100 ∧ iv = .int .i64 i ∧ nv = .int .i64 (sumL (C.take i)) ∧ sumL (C.take i) ≤ i * 281474976710656 ∧ Below w.heap.size w wr) (fun _ iv _ => C.length - (intOf iv).toNat)
  case atStart => exact ⟨0, Nat.zero_le _, by omega, rfl, rfl, by simp [sumL], Below.refl _ _⟩
  case round =>
    obtain ⟨i, hi, hi1, rfl, rfl, hsum, hb⟩ := hrel
    have HB : Hid (Below w.heap.size w wr) := hb
    clear hb
    by_cases hgo : i < C.length ∧ i < 100
    · have h1 : (i : Int) < C.length := by omega
      have h2 : (i : Int) < 100 := by omega
      have hx : C[i]? = some (C[i]'hgo.1) := List.getElem?_eq_getElem hgo.1
      have htk : C.take (i + 1) = C.take i ++ [C[i]'hgo.1] := (List.take_append_getElem hgo.1).symm
      have hxz := HZ.out _ (List.getElem_mem hgo.1)
      obtain ⟨bb, off, rfl, hc⟩ := (HL.out.below HB.out) (by omega)
      have c0 := (hc i _ hx).1
      have c1 := (hc i _ hx).2.1
      clear hc hx
      generalize C[i]'hgo.1 = x at *
      have hsn : sumL (C.take (i + 1)) = sumL (C.take i) + x.k.length + x.v.length := by rw [htk, sumL_snoc]
      have HN : Hid (sumL (C.take (i + 1)) = sumL (C.take i) + x.k.length + x.v.length) := hsn
      have HBd : Hid (Below w.heap.size w wr.drew) := HB.out.drew
      clear htk hsn
      generalize sumL (C.take i) = s at *
      generalize x.k = xk at *
      generalize x.v = xv at *
      have hw1 : IntKind.i64.wrap ((s : Int) + (xk.length : Int)) = (s : Int) + (xk.length : Int) := by rw [IntKind.wrap_i64]; omega
      have hw2 : IntKind.i64.wrap ((s : Int) + (xk.length : Int) + (xv.length : Int)) = (s : Int) + (xk.length : Int) + (xv.length : Int) := by rw [IntKind.wrap_i64]; omega
      go_upto_region 5 with fail
      refine wp_region_noPanic ?_
      refine wp_region_held_drew (S := fun w' => w'.cell? ⟨bb, off + i * 3, none⟩ = some (encStr xk) ∧ w'.cell? ⟨bb, off + i * 3 + 1, none⟩ = some (encStr xv)) (by kernel_rfl) ⟨c0, c1⟩ (fun hHeld => ?_)
      refine wpAnyH_take (i := 0) (oi := { dst := some 15, op := Go.Op.move (Go.Operand.tmp 3), type := 3, pos := "law.go:55", after := #[], guard := none }) (v := ?_) rfl (by kernel_rfl) (by kernel_rfl) (by kernel_rfl) (fun _ _ _ h => h) (Or.inl ⟨by rfl, ?_⟩) (by assumption) ?_
      rotate_left
      · intro wz hSw; (try dsimp only at hSw); go_simp; (try with_reducible rfl)
      try simp only [Act.put, List.setIfInBounds_toArray, List.set_cons_zero, List.set_cons_succ]
      refine wpAnyH_take (i := 1) (oi := { dst := some 16, op := Go.Op.move (Go.Operand.tmp 0), type := 51, pos := "law.go:55", after := #[], guard := none }) (v := ?_) rfl (by kernel_rfl) (by kernel_rfl) (by kernel_rfl) (fun _ _ _ h => h) (Or.inl ⟨by rfl, ?_⟩) (by assumption) ?_
      rotate_left
      · intro wz hSw; (try dsimp only at hSw); go_simp; (try with_reducible rfl)
      try simp only [Act.put, List.setIfInBounds_toArray, List.set_cons_zero, List.set_cons_succ]
      refine wpAnyH_take (i := 2) (oi := { dst := some 17, op := Go.Op.move (Go.Operand.tmp 4), type := 3, pos := "law.go:55", after := #[], guard := none }) (v := ?_) rfl (by kernel_rfl) (by kernel_rfl) (by kernel_rfl) (fun _ _ _ h => h) (Or.inl ⟨by rfl, ?_⟩) (by assumption) ?_
      rotate_left
      · intro wz hSw; (try dsimp only at hSw); go_simp; (try with_reducible rfl)
      try simp only [Act.put, List.setIfInBounds_toArray, List.set_cons_zero, List.set_cons_succ]
      refine wpAnyH_take (i := 3) (oi := { dst := some 18, op := Go.Op.indexAddr 51 (Go.Operand.tmp 16) (Go.Operand.tmp 17), type := 0, pos := "law.go:55", after := #[{ on := 1, ground := Go.Ground.data }, { on := 2, ground := Go.Ground.data }], guard := none }) (v := ?_) rfl (by kernel_rfl) (by kernel_rfl) (by kernel_rfl) (fun _ _ _ h => h) (Or.inl ⟨by rfl, ?_⟩) (by assumption) ?_
      rotate_left
      · intro wz hSw; (try dsimp only at hSw); go_simp; (try with_reducible rfl)
      try simp only [Act.put, List.setIfInBounds_toArray, List.set_cons_zero, List.set_cons_succ]
      refine wpAnyH_take (i := 4) (oi := { dst := some 19, op := Go.Op.fieldAddr 114 (Go.Operand.tmp 18) 0, type := 0, pos := "law.go:55", after := #[{ on := 3, ground := Go.Ground.data }], guard := none }) (v := ?_) rfl (by kernel_rfl) (by kernel_rfl) (by kernel_rfl) (fun _ _ _ h => h) (Or.inl ⟨by rfl, ?_⟩) (by assumption) ?_
      rotate_left
      · intro wz hSw; (try dsimp only at hSw); go_simp; (try with_reducible rfl)
      try simp only [Act.put, List.setIfInBounds_toArray, List.set_cons_zero, List.set_cons_succ]
      refine wpAnyH_take (i := 5) (oi := { dst := some 20, op := Go.Op.load 9 (Go.Operand.tmp 19), type := 9, pos := "law.go:55", after := #[{ on := 4, ground := Go.Ground.data }], guard := none }) (v := encStr xk) rfl (by kernel_rfl) (by kernel_rfl) (by kernel_rfl) (fun _ _ _ h => h) (Or.inl ⟨by rfl, ?_⟩) (by assumption) ?_
      · intro wz hSw; (try dsimp only at hSw); have h1 := hSw.1; go_simp; try rfl
      try simp only [Act.put, List.setIfInBounds_toArray, List.set_cons_zero, List.set_cons_succ]
      refine wpAnyH_take (i := 6) (oi := { dst := some 21, op := Go.Op.call { callee := Go.Callee.builtin Go.Builtin.len, args := #[Go.Operand.tmp 20], argTypes := #[9] }, type := 3, pos := "law.go:55", after := #[{ on := 5, ground := Go.Ground.data }], guard := none }) (v := .int .i64 (xk.length : Int)) rfl (by kernel_rfl) (by kernel_rfl) (by kernel_rfl) (fun _ _ _ h => h) (Or.inl ⟨by rfl, ?_⟩) (by assumption) ?_
      · intro wz hSw; (try dsimp only at hSw); go_simp; try rfl
      try simp only [Act.put, List.setIfInBounds_toArray, List.set_cons_zero, List.set_cons_succ]
      refine wpAnyH_take (i := 7) (oi := { dst := some 22, op := Go.Op.binOp Go.BinOp.add 3 (Go.Operand.tmp 15) (Go.Operand.tmp 21) 3, type := 3, pos := "law.go:55", after := #[{ on := 0, ground := Go.Ground.data }, { on := 6, ground := Go.Ground.data }], guard := none }) (v := .int .i64 ((s : Int) + (xk.length : Int))) rfl (by kernel_rfl) (by kernel_rfl) (by kernel_rfl) (fun _ _ _ h => h) (Or.inl ⟨by rfl, ?_⟩) (by assumption) ?_
      · intro wz hSw; (try dsimp only at hSw); go_simp; try rfl
      try simp only [Act.put, List.setIfInBounds_toArray, List.set_cons_zero, List.set_cons_succ]
      refine wpAnyH_take (i := 8) (oi := { dst := some 23, op := Go.Op.move (Go.Operand.tmp 0), type := 51, pos := "law.go:55", after := #[], guard := none }) (v := ?_) rfl (by kernel_rfl) (by kernel_rfl) (by kernel_rfl) (fun _ _ _ h => h) (Or.inl ⟨by rfl, ?_⟩) (by assumption) ?_
      rotate_left
      · intro wz hSw; (try dsimp only at hSw); go_simp; (try with_reducible rfl)
      try simp only [Act.put, List.setIfInBounds_toArray, List.set_cons_zero, List.set_cons_succ]
      refine wpAnyH_take (i := 9) (oi := { dst := some 24, op := Go.Op.move (Go.Operand.tmp 4), type := 3, pos := "law.go:55", after := #[], guard := none }) (v := ?_) rfl (by kernel_rfl) (by kernel_rfl) (by kernel_rfl) (fun _ _ _ h => h) (Or.inl ⟨by rfl, ?_⟩) (by assumption) ?_
      rotate_left
      · intro wz hSw; (try dsimp only at hSw); go_simp; (try with_reducible rfl)
      try simp only [Act.put, List.setIfInBounds_toArray, List.set_cons_zero, List.set_cons_succ]
      refine wpAnyH_take (i := 10) (oi := { dst := some 25, op := Go.Op.indexAddr 51 (Go.Operand.tmp 23) (Go.Operand.tmp 24), type := 0, pos := "law.go:55", after := #[{ on := 8, ground := Go.Ground.data }, { on := 9, ground := Go.Ground.data }], guard := none }) (v := ?_) rfl (by kernel_rfl) (by kernel_rfl) (by kernel_rfl) (fun _ _ _ h => h) (Or.inl ⟨by rfl, ?_⟩) (by assumption) ?_
      rotate_left
      · intro wz hSw; (try dsimp only at hSw); go_simp; (try with_reducible rfl)
      try simp only [Act.put, List.setIfInBounds_toArray, List.set_cons_zero, List.set_cons_succ]
      refine wpAnyH_take (i := 11) (oi := { dst := some 26, op := Go.Op.fieldAddr 114 (Go.Operand.tmp 25) 1, type := 0, pos := "law.go:55", after := #[{ on := 10, ground := Go.Ground.data }], guard := none }) (v := ?_) rfl (by kernel_rfl) (by kernel_rfl) (by kernel_rfl) (fun _ _ _ h => h) (Or.inl ⟨by rfl, ?_⟩) (by assumption) ?_
      rotate_left
      · intro wz hSw; (try dsimp only at hSw); go_simp; (try with_reducible rfl)
      try simp only [Act.put, List.setIfInBounds_toArray, List.set_cons_zero, List.set_cons_succ]
      refine wpAnyH_take (i := 12) (oi := { dst := some 27, op := Go.Op.load 9 (Go.Operand.tmp 26), type := 9, pos := "law.go:55", after := #[{ on := 11, ground := Go.Ground.data }], guard := none }) (v := encStr xv) rfl (by kernel_rfl) (by kernel_rfl) (by kernel_rfl) (fun _ _ _ h => h) (Or.inl ⟨by rfl, ?_⟩) (by assumption) ?_
      · intro wz hSw; (try dsimp only at hSw); have h1 := hSw.2; go_simp; try rfl
      try simp only [Act.put, List.setIfInBounds_toArray, List.set_cons_zero, List.set_cons_succ]
      refine wpAnyH_take (i := 13) (oi := { dst := some 28, op := Go.Op.call { callee := Go.Callee.builtin Go.Builtin.len, args := #[Go.Operand.tmp 27], argTypes := #[9] }, type := 3, pos := "law.go:55", after := #[{ on := 12, ground := Go.Ground.data }], guard := none }) (v := .int .i64 (xv.length : Int)) rfl (by kernel_rfl) (by kernel_rfl) (by kernel_rfl) (fun _ _ _ h => h) (Or.inl ⟨by rfl, ?_⟩) (by assumption) ?_
      · intro wz hSw; (try dsimp only at hSw); go_simp; try rfl
      try simp only [Act.put, List.setIfInBounds_toArray, List.set_cons_zero, List.set_cons_succ]
      refine wpAnyH_take (i := 14) (oi := { dst := some 29, op := Go.Op.binOp Go.BinOp.add 3 (Go.Operand.tmp 22) (Go.Operand.tmp 28) 3, type := 3, pos := "law.go:55", after := #[{ on := 7, ground := Go.Ground.data }, { on := 13, ground := Go.Ground.data }], guard := none }) (v := .int .i64 ((s : Int) + (xk.length : Int) + (xv.length : Int))) rfl (by kernel_rfl) (by kernel_rfl) (by kernel_rfl) (fun _ _ _ h => h) (Or.inl ⟨by rfl, ?_⟩) (by assumption) ?_
      · intro wz hSw; (try dsimp only at hSw); go_simp; try rfl
      try simp only [Act.put, List.setIfInBounds_toArray, List.set_cons_zero, List.set_cons_succ]
      refine wpAnyH_take (i := 15) (oi := { dst := some 3, op := Go.Op.assign (Go.Operand.tmp 29), type := 3, pos := "law.go:55", after := #[{ on := 14, ground := Go.Ground.data }, { on := 0, ground := Go.Ground.phase }, { on := 1, ground := Go.Ground.phase }, { on := 2, ground := Go.Ground.phase }, { on := 3, ground := Go.Ground.phase }, { on := 4, ground := Go.Ground.phase }, { on := 5, ground := Go.Ground.phase }, { on := 6, ground := Go.Ground.phase }, { on := 7, ground := Go.Ground.phase }, { on := 8, ground := Go.Ground.phase }, { on := 9, ground := Go.Ground.phase }, { on := 10, ground := Go.Ground.phase }, { on := 11, ground := Go.Ground.phase }, { on := 12, ground := Go.Ground.phase }, { on := 13, ground := Go.Ground.phase }, { on := 14, ground := Go.Ground.phase }], guard := none }) (v := ?_) rfl (by kernel_rfl) (by kernel_rfl) (by kernel_rfl) (fun _ _ _ h => h) (Or.inl ⟨by rfl, ?_⟩) (by assumption) ?_
      rotate_left
      · intro wz hSw; (try dsimp only at hSw); go_simp; (try with_reducible rfl)
      try simp only [Act.put, List.setIfInBounds_toArray, List.set_cons_zero, List.set_cons_succ]
      refine wpAnyH_done (by kernel_rfl) (NoPanic.normal ?_) _
      try simp only [Act.put, List.setIfInBounds_toArray, List.set_cons_zero, List.set_cons_succ]
      clear hHeld c0 c1 hw1 hw2
      go_wp2
      refine ⟨⟨i + 1, by omega, by omega, by go_num, ?_, ?_, HBd.out⟩, by simp [intOf]; omega⟩
      · rw [HN.out]; simp
      · rw [HN.out]; omega
    · by_cases hstop : i < C.length
      · have h1 : (i : Int) < C.length := by omega
        have h2 : ¬ ((i : Int) < 100) := by omega
        have h60' : (60 : Int) < C.length := by omega
        have h60 : 60 < C.length := by omega
        have HE : Hid (true = longB C ∧ Below w.heap.size w wr) := ⟨by simp [longB, h60], HB.out⟩
        clear h60
        go_wp2
        go_ret
        exact ⟨by rw [← HE.out.1]; rfl, HE.out.2⟩
      · have h1 : ¬ ((i : Int) < C.length) := by omega
        by_cases h60 : 60 < C.length
        · have h60' : (60 : Int) < C.length := by omega
          have HE : Hid (true = longB C ∧ Below w.heap.size w wr) := ⟨by simp [longB, h60], HB.out⟩
          clear h60
          go_wp2
          go_ret
          exact ⟨by rw [← HE.out.1]; rfl, HE.out.2⟩
        · have h60' : ¬ ((60 : Int) < C.length) := by omega
          have htk : C.take i = C := List.take_of_length_le (by omega)
          rw [htk]
          by_cases hs : 20000 < sumL C
          · have hs' : (20000 : Int) < (sumL C : Int) := by omega
            have HE : Hid (true = longB C ∧ Below w.heap.size w wr) := ⟨by simp [longB, hs], HB.out⟩
            clear hs h60 htk
            generalize sumL C = sc at *
            go_wp2
            go_ret
            exact ⟨by rw [← HE.out.1]; rfl, HE.out.2⟩
          · have hs' : ¬ ((20000 : Int) < (sumL C : Int)) := by omega
            have HE : Hid (false = longB C ∧ Below w.heap.size w wr) := ⟨by simp [longB, hs, h60], HB.out⟩
            clear hs h60 htk
            generalize sumL C = sc at *
            go_wp2
            go_ret
            exact ⟨by rw [← HE.out.1]; rfl, HE.out.2⟩
end Go.Proofs.YtmekplaonlpfkaaGreatDoor
/- Shelves beside the document's rows: what stays. -/
namespace Go.Proofs.YtmekplaonlpfkaaGreatDoor
open Go.RowKit Go.Maps Go.Sort

/-- A, and what was made since. -/
def upA (A : Nat → Prop) (w w' : World) : Nat → Prop := fun k => A k ∨ (w.heap.size ≤ k ∧ k < w'.heap.size)
/-- All of A was made behind B, and is there. -/
def LowA (A : Nat → Prop) (B : Nat) (w : World) : Prop := ∀ k, A k → B ≤ k ∧ k < w.heap.size
theorem LowA.up {A : Nat → Prop} {B : Nat} {w w' : World} (h : LowA A B w) (hB : B ≤ w.heap.size) (hs : w.heap.size ≤ w'.heap.size) : LowA (upA A w w') B w' := fun k hk => by
  rcases hk with hk | hk
  · have := h k hk; omega
  · omega
theorem LowA.more {A : Nat → Prop} {B : Nat} {w w' : World} (h : LowA A B w) (hs : w.heap.size ≤ w'.heap.size) : LowA A B w' := fun k hk => by have := h k hk; omega
/-- The document's rows stay, whatever becomes of A. -/
theorem LrB.fr {A : Nat → Prop} {w w' : World} {v : Value} {L : List Lf} (h : LrB (fun k => ¬ A k) w v L) (hf : Fr A w w') : LrB (fun k => ¬ upA A w w' k) w' v L :=
  h.keep hf.size fun k h1 h2 => ⟨fun h3 => by rcases h3 with h3 | h3; exact h1 h3; omega, hf.block k h2 h1⟩
theorem setA (A : Nat → Prop) (sh p fr n N : Nat) (L : List Lf) (c : Ct) (ad : Option Addr) (cap : Nat) (cs : List Cg) (w : World) (h : ShU A w sh p fr n N L c) (hc : CgAt w ad cs) (hok : COk cs) : Calls Tryz.prog 16 #[.pointer (some ⟨sh, 0, none⟩), .slice ad cs.length cap] w fun e w' => e = .returned (errV (setI fr n L c cs).1) ∧ ShU (upA A w w') w' sh p fr n N (setI fr n L c cs).2.1 (setI fr n L c cs).2.2 ∧ Fr A w w' := by
  refine (setU (fun k => A k ∨ w.heap.size ≤ k) sh p fr n N L c ad cap cs w (h.mono fun k _ hk => .inl hk) (fun k hk => .inr hk) hc hok).mono ?_
  rintro e w' ⟨rfl, h1, h2⟩
  refine ⟨rfl, h1.mono fun k hlt hk => ?_, h2.mono fun k hlt hk => ?_⟩
  · rcases hk with hk | hk
    · exact .inl hk
    · exact .inr ⟨hk, hlt⟩
  · rcases hk with hk | hk
    · exact hk
    · omega
theorem openA (A : Nat → Prop) (p fr n N : Nat) (c : Ct) (L : List Lf) (w : World) (h : StU A w p N c) (hN : fr + n ≤ N) (hn : 2 ≤ n ∧ n ≤ 1024) (hL : openR c fr n = some L) : Calls Tryz.prog 11 #[.pointer (some ⟨p, 0, none⟩), .agg #[.int .i64 (fr : Int), .int .i64 (n : Int)]] w fun e w' => ∃ sh, e = .returned (.tuple #[.pointer (some ⟨sh, 0, none⟩), .nilIface]) ∧ ShU (upA A w w') w' sh p fr n N L c ∧ Below w.heap.size w w' := by
  refine (openU_some (fun k => A k ∨ w.heap.size ≤ k) p fr n N c L w (h.mono fun k _ hk => .inl hk) (fun k hk => .inr hk) hN hn hL).mono ?_
  rintro e w' ⟨sh, rfl, h1, h2⟩
  refine ⟨sh, rfl, h1.mono fun k hlt hk => ?_, h2⟩
  rcases hk with hk | hk
  · exact .inl hk
  · exact .inr ⟨hk, hlt⟩
theorem ShU.ok {A : Nat → Prop} {w : World} {sh p fr n N : Nat} {L : List Lf} {c : Ct} (h : ShU A w sh p fr n N L c) : LOk n L ∧ c.Idle ∧ c.safe.length = N := by
  obtain ⟨G, m, h1, _, _, _, h5⟩ := h
  exact ⟨h1.at_.ok, h5, h1.len⟩
theorem sameA (A : Nat → Prop) (sh p fr n N : Nat) (L : List Lf) (c : Ct) (B : Nat → Prop) (v : Value) (M : List Lf) (w : World) (h : ShU A w sh p fr n N L c) (hm : LrB B w v M) (hl : M.length ≤ 1000) (hkl : ∀ y ∈ M, y.k.length ≤ 100000) : Calls Tryz.prog 14 #[.pointer (some ⟨sh, 0, none⟩), v, .int .i64 (n : Int)] w fun e w' => e = .returned (.bool (decide (kvs L = kvs M))) ∧ Below w.heap.size w w' := by
  obtain ⟨G, m, h1, _⟩ := h
  obtain ⟨ad, cap, rfl, _, _, _, h6⟩ := hm
  exact same_any sh m p fr n L 0 ad cap M w h1.at_ h6 hl (fun y hy => by have := hkl y hy; unfold maxLen; omega)
/-- Two shelves on one idle store. -/
def TwU (A : Nat → Prop) (w : World) (s t p f1 n1 f2 n2 N : Nat) (L M : List Lf) (c : Ct) : Prop := ∃ (G : Nat → Prop) (ms mt : Nat), ShS w G s ms p f1 n1 N L 0 c ∧ ShS w G t mt p f2 n2 N M 0 c ∧ (s ≠ t ∧ s ≠ mt ∧ ms ≠ t ∧ ms ≠ mt) ∧ (∀ k, G k → A k) ∧ (A s ∧ A ms) ∧ (A t ∧ A mt) ∧ c.Idle
section
variable {A A' : Nat → Prop} {w w' : World} {s t p f1 n1 f2 n2 N : Nat} {L M : List Lf} {c : Ct}
theorem TwU.symm (h : TwU A w s t p f1 n1 f2 n2 N L M c) : TwU A w t s p f2 n2 f1 n1 N M L c := by
  obtain ⟨G, ms, mt, h1, h2, ⟨h3, h4, h5, h6⟩, h7, h8, h9, h10⟩ := h
  exact ⟨G, mt, ms, h2, h1, ⟨h3.symm, h5.symm, h4.symm, h6.symm⟩, h7, h9, h8, h10⟩
theorem TwU.first (h : TwU A w s t p f1 n1 f2 n2 N L M c) : ShU A w s p f1 n1 N L c := by
  obtain ⟨G, ms, mt, h1, h2, h3, h7, h8, h9, h10⟩ := h
  exact ⟨G, ms, h1, h7, h8.1, h8.2, h10⟩
theorem TwU.mono (h : TwU A w s t p f1 n1 f2 n2 N L M c) (ha : ∀ k, k < w.heap.size → A k → A' k) : TwU A' w s t p f1 n1 f2 n2 N L M c := by
  obtain ⟨G, ms, mt, h1, h2, h3, h7, h8, h9, h10⟩ := h
  exact ⟨G, ms, mt, h1, h2, h3, fun k hk => ha k (h1.lt k hk) (h7 k hk), ⟨ha _ h1.at_.lt h8.1, ha _ h1.at_.ltm h8.2⟩, ⟨ha _ h2.at_.lt h9.1, ha _ h2.at_.ltm h9.2⟩, h10⟩
theorem ShS.below {G : Nat → Prop} {sh m fr n : Nat} {dead : Int} (h1 : ShS w G sh m p fr n N L dead c) (hb : Below w.heap.size w w') : ShS w' G sh m p fr n N L dead c := ⟨h1.at_.below hb, h1.st.below hb, h1.nsh, h1.nm, fun k hk => Nat.lt_of_lt_of_le (h1.lt k hk) hb.size, h1.len, h1.fit, h1.ne⟩
theorem TwU.below (h : TwU A w s t p f1 n1 f2 n2 N L M c) (hb : Below w.heap.size w w') : TwU A w' s t p f1 n1 f2 n2 N L M c := by
  obtain ⟨G, ms, mt, h1, h2, h3, h7, h8, h9, h10⟩ := h
  exact ⟨G, ms, mt, h1.below hb, h2.below hb, h3, h7, h8, h9, h10⟩
end
theorem open2 (A : Nat → Prop) (s p f1 n1 f2 n2 N : Nat) (c : Ct) (L M : List Lf) (w : World) (h : ShU A w s p f1 n1 N L c) (hN : f2 + n2 ≤ N) (hn : 2 ≤ n2 ∧ n2 ≤ 1024) (hL : openR c f2 n2 = some M) : Calls Tryz.prog 11 #[.pointer (some ⟨p, 0, none⟩), .agg #[.int .i64 (f2 : Int), .int .i64 (n2 : Int)]] w fun e w' => ∃ t, e = .returned (.tuple #[.pointer (some ⟨t, 0, none⟩), .nilIface]) ∧ TwU (upA A w w') w' s t p f1 n1 f2 n2 N L M c ∧ Below w.heap.size w w' := by
  obtain ⟨G, m, h1, h2, h3, h4, h5⟩ := h
  refine (open_any G p f2 n2 N c w h1.st (h5.ok h1.len) hN hn).mono ?_
  rintro e w' ⟨⟨h6, _⟩ | ⟨L', sh, m', h6, rfl, h7, h8, h9⟩, hb⟩
  · rw [hL] at h6; cases h6
  · rw [hL] at h6; cases h6
    have l1 := h1.at_.lt
    have l2 := h1.at_.ltm
    have l3 := h7.lt
    have l4 := h7.ltm
    refine ⟨sh, rfl, ⟨G, m, m', h1.below hb, ⟨h7, h1.st.below hb, fun k => ?_, fun k => ?_, fun k hk => Nat.lt_of_lt_of_le (h1.lt k hk) hb.size, h1.len, hN, fun e => ?_⟩, ⟨by omega, by omega, by omega, by omega⟩, fun k hk => .inl (h2 k hk), ⟨.inl h3, .inl h4⟩, ⟨.inr ⟨h8, l3⟩, .inr ⟨h9, l4⟩⟩, h5⟩, hb⟩
    · have := h1.lt _ k; omega
    · have := h1.lt _ k; omega
    · obtain ⟨es, cl, hb, _⟩ := h7.map
      rw [← e, h7.cells] at hb; cases hb
theorem set2 (A : Nat → Prop) (s t p f1 n1 f2 n2 N : Nat) (L M : List Lf) (c : Ct) (ad : Option Addr) (cap : Nat) (cs : List Cg) (w : World) (h : TwU A w s t p f1 n1 f2 n2 N L M c) (hc : CgAt w ad cs) (hok : COk cs) : Calls Tryz.prog 16 #[.pointer (some ⟨s, 0, none⟩), .slice ad cs.length cap] w fun e w' => e = .returned (errV (setI f1 n1 L c cs).1) ∧ TwU (upA A w w') w' s t p f1 n1 f2 n2 N (setI f1 n1 L c cs).2.1 M (setI f1 n1 L c cs).2.2 ∧ Fr A w w' := by
  obtain ⟨G, ms, mt, h1, h2, ⟨h3, h4, h5, h6⟩, h7, h8, h9, h10⟩ := h
  refine (set_any G s ms p f1 n1 N L 0 c ad cap cs w h1 (fun _ => h10.down) (by rw [h10.steps]; decide) (by rw [h10.loose]; simp) hc hok).mono ?_
  rw [setO_idle h10]
  rintro e w' ⟨rfl, G', m', g1, g2, g3, g4⟩
  have l1 := h2.at_.lt
  have l2 := h2.at_.ltm
  have hG : ∀ k, G k → k < w.heap.size := h1.lt
  have nG : ∀ k, k < w.heap.size → ¬ G k → ¬ G' k := fun k hk hn hg => by
    rcases g2 k hg with h | h
    · exact hn h
    · omega
  have kt : w'.heap[t]? = w.heap[t]? := g4.block t l1 (fun hk => by rcases hk with hk | hk; exact h2.nsh hk; exact h3 hk.symm)
  have km : w'.heap[mt]? = w.heap[mt]? := g4.block mt l2 (fun hk => by rcases hk with hk | hk; exact h2.nm hk; exact h4 hk.symm)
  have hA' : ∀ k, G' k → upA A w w' k := fun k hk => by
    rcases g2 k hk with h | h
    · exact .inl (h7 k h)
    · exact .inr ⟨h, g1.lt k hk⟩
  have hm' : m' ≠ t ∧ m' ≠ mt ∧ upA A w w' m' := by
    rcases g3 with rfl | h
    · exact ⟨h5, h6, .inl h8.2⟩
    · exact ⟨by omega, by omega, .inr ⟨h, g1.at_.ltm⟩⟩
  refine ⟨rfl, ⟨G', m', mt, g1, ⟨h2.at_.keep kt km, g1.st, nG t l1 h2.nsh, nG mt l2 h2.nm, g1.lt, g1.len, h2.fit, h2.ne⟩, ⟨h3, h4, hm'.1, hm'.2.1⟩, hA', ⟨.inl h8.1, hm'.2.2⟩, ⟨.inl h9.1, .inl h9.2⟩, setI_idle h10 _ _ _ _⟩, g4.mono fun k hlt hk => ?_⟩
  rcases hk with hk | hk
  · exact h7 k hk
  · rw [hk]; exact h8.1
/-- A Set touches its own area alone. -/
theorem setI_off {c : Ct} {fr n : Nat} {L : List Lf} (cs : List Cg) (hn : 2 ≤ n) {j : Nat} (hj : j < fr ∨ fr + n ≤ j) : (setI fr n L c cs).2.2.safe[j]? = c.safe[j]? := by
  unfold setI
  cases layL (todoL L cs) with
  | none => rfl
  | some ls =>
    simp only
    split
    · rfl
    · split
      · rfl
      · simp only [Ct.laid]
        refine setP_off _ _ _ fun x hx => ?_
        rcases List.mem_append.1 hx with hx | hx
        · obtain ⟨q, hq, e⟩ := mem_wsOf hx
          have := (mem_frN.1 hq).1
          rw [e, Int.toNat_natCast]; omega
        · rw [List.mem_singleton.1 hx]
          simp only [Int.toNat_natCast]; omega
theorem setI_apart {c : Ct} {fr n f2 n2 : Nat} {L M : List Lf} (cs : List Cg) (hc : c.Idle) (hn : 2 ≤ n) (hM : LOk n2 M) (hn2 : 2 ≤ n2) (hd : f2 + n2 ≤ fr ∨ fr + n ≤ f2) (h : Laid c f2 n2 M) : Laid (setI fr n L c cs).2.2 f2 n2 M := by
  refine h.off hc.loose (setI_idle hc _ _ _ _).loose fun j hj => setI_off cs hn ?_
  rcases hj with rfl | ⟨x, hx, rfl⟩
  · omega
  · have := hM.place x hx
    omega
end Go.Proofs.YtmekplaonlpfkaaGreatDoor
