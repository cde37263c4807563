/- The queue's heap of items: Push and Pop; all of it as container/heap wants it. -/
import Derived.Test.YthnobkiiaflelaaDoorOwnShelf23
namespace Go.Proofs.YthnobkiiaflelaaDoor
open Go.RowKit Go.Maps Go.Sort

attribute [local go_sem ↓] Go.wp_at_zero Go.wp_at_succ

theorem infoPt : (Tryd.prog.info? 66).map (fun i => (i.zero, i.size, i.bytes)) = some (some (.pointer none), 1, 8) := by kernel_rfl
theorem wpList_append_Pt {ops : Array Oper} {rest : List Oper} {o : Oper} {a : Act} {w : World} {Q : Exit → Act → World → Prop} (hgd : o.guard = none) (s x : Operand) (ho : o.op = .call { callee := .builtin .append, args := #[s, x], argTypes := #[62, 62] })
    (v : Value) (n : Nat) (xs : List Value) (r b c : Nat) (hs : a.eval s = v) (hx : a.eval x = .slice (some ⟨r, 0, none⟩) 1 c) (hown : w.ownsRow 0 66 1 v n xs) (hr : w.cell? ⟨r, 0, none⟩ = some (ptB b)) (hn : n ≤ 100000)
    (hk : ∀ v' w1, w1.ownsRow 0 66 1 v' (n + 1) (xs ++ [ptB b]) → w.grownBy w1 v.ownBlock → (v'.ownBlock = v.ownBlock ∨ v'.ownBlock = some w.heap.size) → wpList Tryd.prog ops Q rest (a.put o.dst v') w1) : wpList Tryd.prog ops Q (o :: rest) a w := by
  obtain ⟨i0, hi0, hz0, hz1, hz2⟩ := info_parts infoPt
  obtain ⟨v', w1, hrun, h2, h3, _, h5⟩ := run_append_own_at (P := Tryd.prog) w 0 62 o.type 66 i0 (.pointer none) 1 8 Tryd.underlying62 hi0 hz0 hz1 hz2 rfl (by decide) v n xs hown ⟨r, 0, none⟩ 1 c [ptB b] rfl
    (fun j u hj => by
      have : j = 0 := by have := (List.getElem?_eq_some_iff.1 hj).1; simp at this; omega
      subst this
      cases hj
      rw [Addr.add_lit]; exact hr) (fun u hu => by simp at hu; subst hu; rfl) (by unfold maxLen; omega) (by omega) (Nat.zero_le _)
  refine wpList_plain hgd fun K hK => ?_
  unfold Oper.wp execOp
  simp only [ho, resolve, invoke, builtin, Sem.run_bind, Sem.run_pure, Result.andThen_ok, List.map_toArray, List.map_cons, List.map_nil, hs, hx, hrun]
  exact hK _ _ (hk v' w1 h2 h3 h5)
theorem assert_it (v : Value) (w : World) : (Instr.typeAssert (.iface 66 v) 20 66 false).run Tryd.prog w = .ok v w := by kernel_rfl
theorem own_form {w : World} {v : Value} {n : Nat} {xs : List Value} (h : w.ownsRow 0 66 1 v n xs) : ∃ ad cap, v = .slice ad n cap := by
  rcases h.2 with ⟨rfl, e⟩ | ⟨g, cap, cur, rfl, _⟩
  · exact ⟨none, 0, by rw [e]⟩
  · exact ⟨_, cap, rfl⟩
section
variable {p m : Nat} {last : Int} {β : Int → Nat} {K : Ev → Prop} {R : Nat → Prop} {w w' : World} {n : Nat} {a : Nat → Ev}
/-- One more at the end. -/
def putA (a : Nat → Ev) (n : Nat) (e : Ev) : Nat → Ev := fun k => if k = n then e else a k
theorem ptL_put (β : Int → Nat) (n : Nat) (a : Nat → Ev) (e : Ev) : ptL β (n + 1) (putA a n e) = ptL β n a ++ [ptB (β e.id)] := by
  unfold ptL
  rw [rowA_succ, List.map_append, rowA_congr (n := n) (a := putA a n e) (b := a) (fun k hk => by simp [putA, show k ≠ n by omega])]
  simp [putA]
theorem q_set {W : World} {u : Value} (h : W.heap[p]? = some (.cells #[.int .i64 last, u, .map (some m)] 65 (0, 0))) (v : Value) : (W.setCell ⟨p, 1, none⟩ v).heap[p]? = some (.cells #[.int .i64 last, v, .map (some m)] 65 (0, 0)) := by
  rw [heap_setCell_same _ _ 1 _ _ v h]; rfl
theorem Wt.push (h : Wt p m last β K R w n a) {e : Ev} (hK : K e) (hn : n < 1000) (hne : ∀ k, k < n → β (a k).id ≠ β e.id) {v v' : Value} (hv : w.cell? ⟨p, 1, none⟩ = some v) {o : Obj} {w1 : World}
    (ho : w1.ownsRow 0 66 1 v' (n + 1) (ptL β n a ++ [ptB (β e.id)])) (hg : ((w.setCell ⟨β e.id, 3, none⟩ (.int .i64 n)).alloc o).grownBy w1 v.ownBlock) (hr' : ∀ r, v'.ownBlock = some r → R r) :
    Wt p m last β K R (w1.setCell ⟨p, 1, none⟩ v') (n + 1) (putA a n e) := by
  obtain ⟨u, hq, hown, hr⟩ := h.q
  have e1 : v = u := by
    rw [cell_of_row _ _ 1 _ _ _ hq] at hv
    exact (Option.some.inj hv).symm
  subst e1
  have hkeep : ∀ b O, w.heap[b]? = some O → β e.id ≠ b → ¬ R b → w1.heap[b]? = some O := fun b O hb h1 h2 => by
    rw [hg.block b (by simp [World.setCell]; have := lt_of_block hb; omega) (fun e => h2 (hr b e.symm)), Below.heap_alloc _ _ _ (by simpa [World.setCell] using lt_of_block hb), setc _ _ _ _ (Ne.symm h1)]
    exact hb
  obtain ⟨hap, hax⟩ := h.apart
  have hep := (hax e hK).2
  have hw1e : w1.heap[β e.id]? = some (.cells (itC e n) 69 (0, 0)) := by
    obtain ⟨pl, hpl⟩ := h.it e hK
    have h3 := heap_setCell_same _ _ 3 _ _ (.int .i64 (n : Int)) hpl
    rw [itC_set] at h3
    rw [hg.block _ (by simp [World.setCell]; have := lt_of_block hpl; omega) (fun e' => (hax e hK).1 (hr _ e'.symm)), Below.heap_alloc _ _ _ (by simpa [World.setCell] using lt_of_block hpl)]
    exact h3
  refine ⟨by omega, ⟨v', q_set (hkeep _ _ hq hep hap) v', ?_, hr'⟩, fun x hx => ?_, fun k hk => ?_, h.apart⟩
  · rw [ptL_put]
    exact owns_row_keep ho fun k e' => by
      rw [setc _ _ _ _ (fun e2 : k = p => hap (e2 ▸ hr' k e'))]
  · rw [setc _ _ _ _ (hax x hx).2]
    obtain ⟨pl, hpl⟩ := h.it x hx
    by_cases e2 : β e.id = β x.id
    · rw [← e2]
      have h3 := heap_setCell_same _ _ 3 _ _ (.int .i64 (n : Int)) (e2 ▸ hpl : w.heap[β e.id]? = _)
      rw [itC_set] at h3
      refine ⟨n, ?_⟩
      rw [hg.block _ (by simp [World.setCell]; rw [e2]; have := lt_of_block hpl; omega) (fun e' => (hax e hK).1 (hr _ e'.symm)), Below.heap_alloc _ _ _ (by rw [e2]; simpa [World.setCell] using lt_of_block hpl)]
      exact h3
    · exact ⟨pl, hkeep _ _ hpl e2 (hax x hx).1⟩
  · by_cases e2 : k = n
    · subst e2
      have e3 : putA a k e k = e := by simp [putA]
      rw [e3, setc _ _ _ _ hep]
      exact ⟨hK, hw1e⟩
    · have e3 : putA a n e k = a k := by simp [putA, e2]
      have hkn : k < n := by omega
      rw [e3]
      obtain ⟨h1, h2⟩ := h.pl k hkn
      rw [setc _ _ _ _ (hax _ h1).2]
      exact ⟨h1, hkeep _ _ h2 (Ne.symm (hne k hkn)) (hax _ h1).1⟩
end
set_option maxRecDepth 100000 in
set_option maxHeartbeats 1600000 in
theorem push_wt {p m : Nat} {last : Int} {β : Int → Nat} {K : Ev → Prop} {R : Nat → Prop} (w : World) (n : Nat) (a : Nat → Ev) (e : Ev) (h : Wt p m last β K R w n a) (hK : K e) (hn : n < 1000) (hne : ∀ k, k < n → β (a k).id ≠ β e.id) (hR : ∀ k, w.heap.size ≤ k → R k) :
    Calls Tryd.prog 89 #[.pointer (some ⟨p, 1, none⟩), .iface 66 (.pointer (some ⟨β e.id, 0, none⟩))] w fun x w' => x = .returned (.tuple #[]) ∧ Wt p m last β K R w' (n + 1) (fun k => if k = n then e else a k) ∧ Fr (wtM p β K R) w w' := by
  obtain ⟨v, hv⟩ := h.cell
  obtain ⟨u, hq, hown, hr⟩ := h.q
  have e1 : v = u := by
    rw [cell_of_row _ _ 1 _ _ _ hq] at hv
    exact (Option.some.inj hv).symm
  subst e1
  obtain ⟨hap, hax⟩ := h.apart
  have hep := (hax e hK).2
  have hpr : ∀ r, v.ownBlock = some r → r ≠ p ∧ r ≠ β e.id := fun r e' => ⟨fun e2 => hap (e2 ▸ hr r e'), fun e2 => (hax e hK).1 (e2 ▸ hr r e')⟩
  obtain ⟨ad, cap, hsl⟩ : ∃ ad cap, v = .slice ad n cap := by
    rcases hown.2 with ⟨rfl, e⟩ | ⟨g, cap, cur, rfl, _⟩
    · exact ⟨none, 0, by rw [e]⟩
    · exact ⟨_, cap, rfl⟩
  obtain ⟨pl, hpl⟩ := h.it e hK
  have c3 : w.cell? ⟨β e.id, 3, none⟩ = some (.int .i64 pl) := by rw [cell_of_row _ _ 3 _ _ _ hpl]; rfl
  have f3 : w.frozen? ⟨β e.id, 3, none⟩ = false := by simp [World.frozen?, hpl]
  have fp : ∀ W : World, (∀ b O, w.heap[b]? = some O → β e.id ≠ b → ¬ R b → W.heap[b]? = some O) → W.cell? ⟨p, 1, none⟩ = some v ∧ W.frozen? ⟨p, 1, none⟩ = false := fun W hk => by
    have := hk _ _ hq hep hap
    exact ⟨by rw [cell_of_row _ _ 1 _ _ _ this]; rfl, by simp [World.frozen?, this]⟩
  have HP : Hid (∀ (v' : Value) (o : Obj) (w1 : World), w1.ownsRow 0 66 1 v' (n + 1) (ptL β n a ++ [ptB (β e.id)]) → ((w.setCell ⟨β e.id, 3, none⟩ (.int .i64 n)).alloc o).grownBy w1 v.ownBlock → (v'.ownBlock = v.ownBlock ∨ v'.ownBlock = some ((w.setCell ⟨β e.id, 3, none⟩ (.int .i64 n)).alloc o).heap.size) →
      (w1.cell? ⟨p, 1, none⟩ = some v ∧ w1.frozen? ⟨p, 1, none⟩ = false) ∧ Wt p m last β K R (w1.setCell ⟨p, 1, none⟩ v') (n + 1) (fun k => if k = n then e else a k) ∧ Fr (wtM p β K R) w (w1.setCell ⟨p, 1, none⟩ v')) := fun v' o w1 ho hg hor => by
    have hr' : ∀ r, v'.ownBlock = some r → R r := fun r e' => by
      rcases hor with h1 | h1
      · exact hr r (by rw [← h1]; exact e')
      · rw [h1] at e'
        cases e'
        exact hR _ (by simp [World.setCell])
    refine ⟨fp w1 fun b O hb h1 h2 => ?_, h.push hK hn hne hv ho hg hr', ?_⟩
    · rw [hg.block b (by simp [World.setCell]; have := lt_of_block hb; omega) (fun e => h2 (hr b e.symm)), Below.heap_alloc _ _ _ (by simpa [World.setCell] using lt_of_block hb), setc _ _ _ _ (Ne.symm h1)]
      exact hb
    · refine Fr.set ?_ _ _ (.inl rfl)
      refine ⟨hg.os, hg.tape, hg.output, Nat.le_trans (by simp [World.setCell]) hg.size, fun k hk hM => ?_⟩
      rw [hg.block k (by simp [World.setCell]; omega) (fun e' => hM (.inr (.inl (hr k e'.symm)))), Below.heap_alloc _ _ _ (by simpa [World.setCell] using hk), setc _ _ _ _ (fun e' => hM (.inr (.inr ⟨e, hK, e'⟩)))]
  have HO : Hid (w.ownsRow 0 66 1 v n (ptL β n a) ∧ ∀ W : World, (∀ b O, w.heap[b]? = some O → β e.id ≠ b → W.heap[b]? = some O) → W.ownsRow 0 66 1 v n (ptL β n a)) := ⟨hown, fun W hk => owns_row_keep hown fun k e' => by
    have hlt := (hown.lt k e').2
    rw [hk k w.heap[k] (Array.getElem?_eq_getElem hlt) (Ne.symm (hpr k e').2)]
    exact (Array.getElem?_eq_getElem hlt).symm⟩
  have c1 : (w.setCell ⟨β e.id, 3, none⟩ (.int .i64 n)).cell? ⟨p, 1, none⟩ = some v := by rw [World.cell?_setCell_far _ _ _ _ hep]; exact hv
  have hvv := hv
  clear hq hown hr h fp hpr hpl
  subst hsl
  generalize β e.id = be at *
  go_enter Tryd.func89, Tryd.ntmps89
  have ha := assert_it (.pointer (some ⟨be, 0, none⟩)) w
  have hwo : ∀ o : Obj, ((w.setCell ⟨be, 3, none⟩ (.int .i64 n)).alloc o).ownsRow 0 66 1 (.slice ad n cap) n (ptL β n a) := fun o => HO.out.2 _ fun b O hb hne => by
    rw [Below.heap_alloc _ _ _ (by simpa [World.setCell] using lt_of_block hb), setc _ _ _ _ (Ne.symm hne)]
    exact hb
  have hcw : ((w.setCell ⟨be, 3, none⟩ (.int .i64 n)).alloc (.cells #[.pointer (some ⟨be, 0, none⟩)] 66)).cell? ⟨w.heap.size, 0, none⟩ = some (ptB be) := by
    have hb := heap_alloc_new (w.setCell ⟨be, 3, none⟩ (.int .i64 n)) (.cells #[.pointer (some ⟨be, 0, none⟩)] 66)
    rw [show (w.setCell ⟨be, 3, none⟩ (.int .i64 n)).heap.size = w.heap.size by simp [World.setCell]] at hb
    rw [cell_of_row _ _ 0 _ _ _ hb]; rfl
  go_wp2_with (first | (at_builtin; refine wpList_append_Pt rfl _ _ rfl (.slice ad n cap) n (ptL β n a) _ be 1 rfl rfl (hwo _) hcw (by omega) ?_; intro v' w1 ho hg hor; obtain ⟨⟨p1, p2⟩, hW, hF⟩ := HP.out v' _ w1 ho hg hor; obtain ⟨ga, gc, rfl⟩ := own_form ho; clear ho hg hor hcw hwo ha) | fail)
  go_end0
  exact ⟨rfl, hW, hF⟩
section
variable {p m : Nat} {last : Int} {β : Int → Nat} {K : Ev → Prop} {R : Nat → Prop} {w w' : World} {n : Nat} {a : Nat → Ev}
theorem Wt.pop (h : Wt p m last β K R w (n + 1) a) {g cap : Nat} (hv : w.cell? ⟨p, 1, none⟩ = some (.slice (some ⟨g, 0, none⟩) (n + 1) cap)) :
    Wt p m last β K R ((w.setCell ⟨g, n, none⟩ (.pointer none)).setCell ⟨p, 1, none⟩ (.slice (some ⟨g, 0, none⟩) n cap)) n a := by
  obtain ⟨v, hq, ho, hr⟩ := h.q
  have e : v = .slice (some ⟨g, 0, none⟩) (n + 1) cap := by
    rw [cell_of_row _ _ 1 _ _ _ hq] at hv
    exact Option.some.inj hv
  subst e
  have hRg := hr g rfl
  obtain ⟨hap, hax⟩ := h.apart
  have hpg : p ≠ g := fun e => hap (e ▸ hRg)
  have hxg : ∀ x, K x → β x.id ≠ g := fun x hx e => (hax x hx).1 (e ▸ hRg)
  refine ⟨by have := h.few; omega, ⟨_, q_set (by rw [setc _ _ _ _ hpg]; exact hq) _, ?_, hr⟩, fun x hx => ?_, fun k hk => ?_, h.apart⟩
  · refine ⟨by rw [ptL_len, Nat.mul_one], ?_⟩
    rcases ho.2 with ⟨e, _⟩ | ⟨g', cap', cur, e, hB, hg, hc, hm, hs, ht⟩
    · cases e
    · cases e
      refine .inr ⟨g, cap, cur.setIfInBounds n (.pointer none), rfl, hB, ?_, by omega, hm, by simpa using hs, ?_⟩
      · rw [setc _ _ _ _ (Ne.symm hpg)]
        exact heap_setCell_same _ _ n _ _ _ hg
      · rw [Nat.mul_one] at ht ⊢
        have h1 : (ptL β (n + 1) a).take n = ptL β n a := by
          unfold ptL
          rw [rowA_succ, List.map_append, List.take_left' (by simp [rowA])]
        rw [← h1, ← ht, Array.toList_setIfInBounds, List.take_take, Nat.min_eq_left (by omega)]
        apply List.ext_getElem?
        intro k
        by_cases hk : k < n
        · rw [List.getElem?_take_of_lt hk, List.getElem?_take_of_lt hk, List.getElem?_set_ne (by omega)]
        · rw [List.getElem?_eq_none (by rw [List.length_take]; omega), List.getElem?_eq_none (by rw [List.length_take]; omega)]
  · obtain ⟨pl, hpl⟩ := h.it x hx
    exact ⟨pl, by rw [setc _ _ _ _ (hax x hx).2, setc _ _ _ _ (hxg x hx)]; exact hpl⟩
  · obtain ⟨h1, h2⟩ := h.pl k (by omega)
    exact ⟨h1, by rw [setc _ _ _ _ (hax _ h1).2, setc _ _ _ _ (hxg _ h1)]; exact h2⟩
end
set_option maxRecDepth 100000 in
set_option maxHeartbeats 1600000 in
theorem pop_wt {p m : Nat} {last : Int} {β : Int → Nat} {K : Ev → Prop} {R : Nat → Prop} (w : World) (n : Nat) (a : Nat → Ev) (h : Wt p m last β K R w (n + 1) a) :
    Calls Tryd.prog 88 #[.pointer (some ⟨p, 1, none⟩)] w fun x w' => x = .returned (.iface 66 (.pointer (some ⟨β (a n).id, 0, none⟩))) ∧ Wt p m last β K R w' n a ∧ Fr (wtM p β K R) w w' := by
  obtain ⟨v, hv⟩ := h.cell
  obtain ⟨g, cap, rfl, hRg, hgl, hc, hcap, hfr, -⟩ := h.row hv (by omega)
  have cn := hc n (by omega)
  unfold ptB at cn
  have fn := hfr n
  have hpg : g ≠ p := fun e => h.apart.1 (e ▸ hRg)
  have hN := h.few
  have HE : Hid (Wt p m last β K R ((w.setCell ⟨g, n, none⟩ (.pointer none)).setCell ⟨p, 1, none⟩ (.slice (some ⟨g, 0, none⟩) n cap)) n a ∧ Fr (wtM p β K R) w ((w.setCell ⟨g, n, none⟩ (.pointer none)).setCell ⟨p, 1, none⟩ (.slice (some ⟨g, 0, none⟩) n cap))) :=
    ⟨h.pop hv, ((Fr.refl _ w).set _ _ (.inr (.inl hRg))).set _ _ (.inl rfl)⟩
  obtain ⟨u, hq, -, -⟩ := h.q
  have fp : w.frozen? ⟨p, 1, none⟩ = false := by simp [World.frozen?, hq]
  have c1 : (w.setCell ⟨g, n, none⟩ (.pointer none)).cell? ⟨p, 1, none⟩ = some (.slice (some ⟨g, 0, none⟩) (n + 1) cap) := by rw [World.cell?_setCell_far _ _ _ _ hpg]; exact hv
  have hsub : ((n + 1 : Nat) : Int) - 1 = (n : Int) := by omega
  clear h hc hfr hq
  generalize β (a n).id = be at *
  go_enter Tryd.func88, Tryd.ntmps88
  go_wp2
  go_ret
  exact ⟨rfl, HE.out⟩
/-- A queue's heap, as container/heap wants it. -/
def wtH (p m : Nat) (last : Int) (β : Int → Nat) (K : Ev → Prop) (R : Nat → Prop) : HpD ⟨p, 1, none⟩ where
  at_ w n a := Wt p m last β K R w n a
  rel := Fr (wtM p β K R)
  refl := Fr.refl _
  trans h k := h.trans k fun _ _ h => h
  few h := h.few
  cell h := h.cell
  less w n a v i j h hv hi hj := (less_wt w n a v i j h hv hi hj).mono fun _ _ ⟨h1, h2⟩ => ⟨h1, h.below h2, Fr.ofBelow h2⟩
  swap w n a v i j h hv hi hj := swap_wt w n a v i j h hv hi hj
  box e := .iface 66 (.pointer (some ⟨β e.id, 0, none⟩))
  congr h hab := by
    obtain ⟨v, hq, ho, hr⟩ := h.q
    refine ⟨h.few, ⟨v, hq, ?_, hr⟩, h.it, fun k hk => by rw [← hab k hk]; exact h.pl k hk, h.apart⟩
    unfold ptL at ho ⊢
    rw [← rowA_congr hab]; exact ho
  len w n a v h hv := (len_wt w n a v h hv).mono fun _ _ ⟨h1, h2⟩ => ⟨h1, by rw [h2]; exact h, by rw [h2]; exact Fr.refl _ _⟩
  pop w n a h := pop_wt w n a h
end Go.Proofs.YthnobkiiaflelaaDoor
