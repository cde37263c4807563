/- TimerOnce: what is wanted, and what waits. -/
import Derived.Test.YthnobkiiaflelaaTCaM
import Derived.Test.YthnobkiiaflelaaTWp
namespace Go.Proofs.Ythnobkiiaflelaa
open Go.RowKit Go.Maps Go.Sort

def iC (L : List Int) : List Value := L.map (Value.int .i64)
theorem iC_len (L : List Int) : (iC L).length = L.length := List.length_map _
theorem infoI : (Try.prog.info? 3).map (fun i => (i.zero, i.size, i.bytes)) = some (some (.int .i64 0), 1, 8) := by kernel_rfl
theorem wpList_append_Ir {ops : Array Oper} {rest : List Oper} {o : Oper} {a : Act} {w : World} {Q : Exit → Act → World → Prop} (hgd : o.guard = none) (s x : Operand) (ho : o.op = .call { callee := .builtin .append, args := #[s, x], argTypes := #[22, 22] })
    (B : Nat) (v : Value) (L : List Int) (r c : Nat) (y : Int) (hs : a.eval s = v) (hx : a.eval x = .slice (some ⟨r, 0, none⟩) 1 c) (hown : w.ownsRow B 3 1 v L.length (iC L)) (hr : w.cell? ⟨r, 0, none⟩ = some (.int .i64 y)) (hn : L.length ≤ 100000) (hB : B ≤ w.heap.size)
    (hk : ∀ v' w1, w1.ownsRow B 3 1 v' (L ++ [y]).length (iC (L ++ [y])) → w.grownBy w1 v.ownBlock → (v'.ownBlock = v.ownBlock ∨ v'.ownBlock = some w.heap.size) → wpList Try.prog ops Q rest (a.put o.dst v') w1) : wpList Try.prog ops Q (o :: rest) a w := by
  obtain ⟨i0, hi0, hz0, hz1, hz2⟩ := info_parts infoI
  obtain ⟨v', w1, hrun, h2, h3, _, h5⟩ := run_append_own_at (P := Try.prog) w B 22 o.type 3 i0 (.int .i64 0) 1 8 Try.underlying22 hi0 hz0 hz1 hz2 rfl (by decide) v L.length (iC L) hown ⟨r, 0, none⟩ 1 c [.int .i64 y] rfl
    (fun j u hj => by
      have : j = 0 := by have := (List.getElem?_eq_some_iff.1 hj).1; simp at this; omega
      subst this
      cases hj
      rw [Addr.add_lit]; exact hr) (fun u hu => by simp at hu; subst hu; rfl) (by unfold maxLen; omega) (by omega) hB
  refine wpList_plain hgd fun K hK => ?_
  unfold Oper.wp execOp
  simp only [ho, resolve, invoke, builtin, Sem.run_bind, Sem.run_pure, Result.andThen_ok, List.map_toArray, List.map_cons, List.map_nil, hs, hx, hrun]
  refine hK _ _ (hk v' w1 ?_ h3 h5)
  rw [List.length_append]
  unfold iC at h2 ⊢
  rw [List.map_append]
  exact h2
theorem ints_form {w : World} {B : Nat} {v : Value} {n : Nat} {xs : List Value} (h : w.ownsRow B 3 1 v n xs) : ∃ ad cap, v = .slice ad n cap := by
  rcases h.2 with ⟨rfl, e⟩ | ⟨g, cap, cur, rfl, _⟩
  · exact ⟨none, 0, by rw [e]⟩
  · exact ⟨_, cap, rfl⟩
/-- Where a row of ints lies. -/
theorem ints_at {w : World} {B : Nat} {ad : Option Addr} {n cap : Nat} {W : List Int} (h : w.ownsRow B 3 1 (.slice ad n cap) W.length (iC W)) (hn : 0 < W.length) : ∃ g, ad = some ⟨g, 0, none⟩ ∧ n = W.length ∧ n ≤ cap ∧ g < w.heap.size ∧ B ≤ g ∧ (∀ j x, W[j]? = some x → w.cell? ⟨g, j, none⟩ = some (.int .i64 x)) ∧ ∀ o, w.frozen? ⟨g, o, none⟩ = false := by
  rcases h.2 with ⟨e, hl⟩ | ⟨g, cap', cur, e, hB, hg, hc, _⟩
  · omega
  · cases e
    refine ⟨g, rfl, rfl, hc, lt_of_block hg, hB, fun j x hx => ?_, fun o => by simp [World.frozen?, hg]⟩
    have := h.cells (g := g) rfl j (.int .i64 x) (by simp [iC, hx])
    rwa [Addr.add_lit, Nat.zero_add] at this
theorem ints_set {w : World} {B g cap j : Nat} {W : List Int} (h : w.ownsRow B 3 1 (.slice (some ⟨g, 0, none⟩) W.length cap) W.length (iC W)) (y : Int) (hj : j < W.length) : (w.setCell ⟨g, j, none⟩ (.int .i64 y)).ownsRow B 3 1 (.slice (some ⟨g, 0, none⟩) (W.set j y).length cap) (W.set j y).length (iC (W.set j y)) := by
  rw [List.length_set]
  refine ⟨by rw [iC_len, List.length_set, Nat.mul_one], ?_⟩
  rcases h.2 with ⟨e, hl⟩ | ⟨g', cap', cur, e, hB, hg, hc, hm, hs, ht⟩
  · cases e
  · cases e
    refine .inr ⟨g, cap, cur.setIfInBounds j (.int .i64 y), rfl, hB, heap_setCell_same _ _ j _ _ _ hg, hc, hm, by simpa using hs, ?_⟩
    rw [Nat.mul_one] at ht ⊢
    rw [Array.toList_setIfInBounds]
    unfold iC at ht ⊢
    rw [List.map_set, ← ht]
    apply List.ext_getElem?
    intro k
    by_cases hk : k < W.length
    · rw [List.getElem?_take_of_lt hk, List.getElem?_set, List.getElem?_set, List.getElem?_take_of_lt hk]
      by_cases e : j = k
      · subst e
        have hl : j < cur.toList.length := by rw [Array.length_toList, hs]; omega
        rw [if_pos rfl, if_pos rfl, if_pos hl, if_pos (by rw [List.length_take]; omega)]
      · simp [e]
    · rw [List.getElem?_eq_none (by rw [List.length_take]; omega), List.getElem?_eq_none (by rw [List.length_set, List.length_take]; omega)]
/-- What waits is wanted: its number, its due. -/
structure OnM (W : List Int) (L : List Ev) : Prop where
  ids : ∀ x ∈ L, 1 ≤ x.id ∧ x.id ≤ W.length ∧ W[(x.id - 1).toNat]? = some x.due
  nd : (idS L).Nodup
  lo : ∀ x ∈ L, x.due < 1000
theorem OnM.nil : OnM [] [] := ⟨fun x hx => (by cases hx), List.nodup_nil, fun x hx => (by cases hx)⟩
theorem OnM.ins {W : List Int} {L : List Ev} (h : OnM W L) (d : Int) (hd : d < 1000) : OnM (W ++ [d]) (insE ⟨W.length + 1, d, []⟩ L) := by
  refine ⟨fun x hx => ?_, ?_, fun x hx => ?_⟩
  · rcases mem_insE.1 hx with rfl | hx
    · refine ⟨by simp; omega, by simp, ?_⟩
      simp
    · obtain ⟨h1, h2, h3⟩ := h.ids x hx
      refine ⟨h1, by simp; omega, ?_⟩
      rw [List.getElem?_append_left (List.getElem?_eq_some_iff.1 h3).1]
      exact h3
  · refine (idS_ins _ L).nodup_iff.2 (List.nodup_cons.2 ⟨fun hm => ?_, h.nd⟩)
    obtain ⟨x, hx, e⟩ := List.mem_map.1 hm
    have := (h.ids x hx).2.1
    simp at e
    omega
  · rcases mem_insE.1 hx with rfl | hx
    · exact hd
    · exact h.lo x hx
/-- One that came is wanted no more; the others still are. -/
theorem OnM.step {W : List Int} {e : Ev} {r : List Ev} (h : OnM W (e :: r)) : OnM (W.set (e.id - 1).toNat (-1)) r := by
  have hn := h.nd
  simp only [idS, List.map_cons, List.nodup_cons] at hn
  refine ⟨fun x hx => ?_, hn.2, fun x hx => h.lo x (List.mem_cons_of_mem _ hx)⟩
  obtain ⟨h1, h2, h3⟩ := h.ids x (List.mem_cons_of_mem _ hx)
  have h4 := (h.ids e (List.mem_cons_self ..)).1
  refine ⟨h1, by rw [List.length_set]; exact h2, ?_⟩
  rw [List.getElem?_set_ne]
  · exact h3
  · intro e'
    have : x.id = e.id := by omega
    exact hn.1 (this ▸ List.mem_map_of_mem hx)
theorem rest_due {now : Int} : ∀ {L : List Ev}, UpE L → ∀ x ∈ restE now L, now < x.due
  | [], _, x, hx => by simp [restE] at hx
  | y :: r, hu, x, hx => by
    unfold restE at hx
    rw [List.dropWhile_cons] at hx
    split at hx
    · exact rest_due (L := r) hu.tail x hx
    · rename_i hy
      have hy' : ¬ (y.due ≤ now) := by simpa using hy
      rcases List.mem_cons.1 hx with rfl | hx
      · omega
      · have := ltE_iff.1 (List.rel_of_pairwise_cons hu hx)
        omega
theorem due_due {now : Int} : ∀ {L : List Ev}, ∀ x ∈ dueE now L, x.due ≤ now
  | [], x, hx => by simp [dueE] at hx
  | y :: r, x, hx => by
    unfold dueE at hx
    rw [List.takeWhile_cons] at hx
    split at hx
    · rename_i hy
      rcases List.mem_cons.1 hx with rfl | hx
      · simpa using hy
      · exact due_due (L := r) x hx
    · cases hx
theorem due_up {now : Int} {L : List Ev} (h : UpE L) : UpE (dueE now L) := List.Pairwise.sublist (List.takeWhile_sublist _) h
theorem due_len (now : Int) (L : List Ev) : (dueE now L).length + (restE now L).length = L.length := by
  rw [← List.length_append, dueE_rest]
/-- The queue and the row of what is wanted, apart from one another. -/
structure OnI (QS : World → (Nat → Prop) → Nat → List Ev → Int → Prop) (w wr : World) (A : Nat → Prop) (p : Nat) (last : Int) (wv : Value) (W : List Int) (L : List Ev) : Prop where
  q : QAt QS w.heap.size wr A p L last
  row : wr.ownsRow w.heap.size 3 1 wv W.length (iC W)
  far : ∀ k, wv.ownBlock = some k → ¬ A k
  below : Below w.heap.size w wr
theorem OnI.call {QS : World → (Nat → Prop) → Nat → List Ev → Int → Prop} {w wr w' : World} {A A' : Nat → Prop} {p : Nat} {last l' : Int} {wv : Value} {W : List Int} {L M : List Ev} (h : OnI QS w wr A p last wv W L) (hr : Qr QS A p M l' wr w' A') : OnI QS w w' A' p l' wv W M := by
  have h1 := hr.at h.q h.below.size
  refine ⟨h1.1, owns_row_keep h.row fun k e => hr.fr.block k (h.row.lt k e).2 (h.far k e), fun k e hA => ?_, h.below.trans h1.2⟩
  rcases hr.sub k hA with h2 | h2
  · exact h.far k e h2
  · have := (h.row.lt k e).2
    omega
theorem OnI.keepB {QS : World → (Nat → Prop) → Nat → List Ev → Int → Prop} (hK : QK0 QS) {w wr w' : World} {A : Nat → Prop} {p : Nat} {last : Int} {wv : Value} {W : List Int} {L : List Ev} (h : OnI QS w wr A p last wv W L) (hb : Below wr.heap.size wr w') : OnI QS w w' A p last wv W L :=
  ⟨⟨hK.keep h.q.q hb.size fun k hk => hb.block k (hK.low h.q.q k hk), h.q.up⟩, owns_row_keep h.row fun k e => hb.block k (h.row.lt k e).2, h.far, Below.transS h.below hb⟩
theorem OnI.grow {QS : World → (Nat → Prop) → Nat → List Ev → Int → Prop} (hK : QK0 QS) {w wr w' : World} {A : Nat → Prop} {p : Nat} {last : Int} {wv v' : Value} {W W' : List Int} {L : List Ev} (h : OnI QS w wr A p last wv W L) (hg : wr.grownBy w' wv.ownBlock) (hr : w'.ownsRow w.heap.size 3 1 v' W'.length (iC W')) (ho : v'.ownBlock = wv.ownBlock ∨ v'.ownBlock = some wr.heap.size) : OnI QS w w' A p last v' W' L := by
  refine ⟨⟨hK.keep h.q.q hg.size fun k hk => hg.block k (hK.low h.q.q k hk) (fun e => h.far k e.symm hk), h.q.up⟩, hr, fun k e hA => ?_, h.below.trans ⟨hg.os, hg.tape, hg.output, hg.size, fun k hk => hg.block k (Nat.lt_of_lt_of_le hk h.below.size) (fun e => ?_)⟩⟩
  · rcases ho with h1 | h1
    · exact h.far k (by rw [← h1]; exact e) hA
    · rw [h1] at e
      cases e
      have := hK.low h.q.q _ hA
      omega
  · have := (h.row.lt k e.symm).1
    omega
end Go.Proofs.Ythnobkiiaflelaa
