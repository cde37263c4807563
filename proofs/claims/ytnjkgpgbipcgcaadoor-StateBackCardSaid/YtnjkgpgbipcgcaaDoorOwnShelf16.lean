/- A region that draws its order, walked in the order of its text: what may come up earlier leaves the world alone till one operation (c), which waits for all loads, has come up. -/
import Derived.OrdersHeld
import Derived.Deep.RegionHeld3
namespace Go.Proofs.YtnjkgpgbipcgcaaDoor
open Go

section
variable {P : Program} {ops : Array Oper} {md : Region.Mode} {Q : Exit → Act → World → Prop} {c : Nat} {w0 : World}

/-- Whatever order is picked from here on; while c has not come up the world is w0. -/
def anyL (P : Program) (md : Region.Mode) (ops : Array Oper) (Q : Exit → Act → World → Prop) (c : Nat) (w0 : World) : Nat → Array Bool → Act → World → Prop
  | 0, l, a, w => Region.ready md ops l = [] ∧ Q .normal a w
  | n + 1, l, a, w => (Region.ready md ops l = [] → Q .normal a w) ∧
    ∀ i ∈ Region.ready md ops l, wpOp P ops Q i (fun a' w' => ((l.setIfInBounds i true).getD c true = false → w' = w0) ∧ anyL P md ops Q c w0 n (l.setIfInBounds i true) a' w') a w

theorem any_of_anyL : ∀ (n : Nat) (l : Array Bool) (a : Act) (w : World), anyL P md ops Q c w0 n l a w → wpAny P md ops Q n l a w
  | 0, _, _, _, h => h
  | n + 1, _, _, _, h => ⟨h.1, fun i hi => wpOp_mono (fun a' w' h' => any_of_anyL n _ a' w' h'.2) (h.2 i hi)⟩

/-- k waits for i, by f edges at most. -/
def waits (md : Region.Mode) (ops : Array Oper) (i : Nat) : Nat → Nat → Bool
  | 0, _ => false
  | f + 1, k => match ops[k]? with
    | none => false
    | some o => o.after.any fun e => Region.binds md e && (e.on == i || waits md ops i f e.on)

/-- Whoever has come up came behind all that it waits for. -/
def Shut2 (md : Region.Mode) (ops : Array Oper) (l : Array Bool) : Prop :=
  ∀ k o, ops[k]? = some o → l.getD k false = true → ∀ e ∈ o.after, Region.binds md e = true → l.getD e.on false = true

theorem waits_edge {i f k : Nat} (h : waits md ops i (f + 1) k = true) : ∃ o, ops[k]? = some o ∧ ∃ e ∈ o.after, Region.binds md e = true ∧ (e.on = i ∨ waits md ops i f e.on = true) := by
  unfold waits at h
  split at h
  · cases h
  · rename_i o ho
    refine ⟨o, ho, ?_⟩
    obtain ⟨e, he, hh⟩ := Array.any_eq_true'.1 h
    simp only [Bool.and_eq_true, Bool.or_eq_true, beq_iff_eq] at hh
    exact ⟨e, he, hh.1, hh.2⟩

theorem waits_un {i : Nat} {l : Array Bool} (hs : Shut2 md ops l) (hi : l.getD i false = false) : ∀ (f k : Nat), waits md ops i f k = true → l.getD k false = false
  | 0, _, h => by simp [waits] at h
  | f + 1, k, h => by
    obtain ⟨o, ho, e, he, hb, hor⟩ := waits_edge h
    cases hk : l.getD k false with
    | false => rfl
    | true =>
      have h1 := hs k o ho hk e he hb
      rcases hor with rfl | h2
      · rw [hi] at h1; cases h1
      · rw [waits_un hs hi f _ h2] at h1; cases h1

theorem un_false {l : Array Bool} {i : Nat} (h : l.getD i true = false) : l.getD i false = false := by
  rw [Array.getD_eq_getD_getElem?] at h ⊢
  cases he : l[i]? with
  | none => simp [he] at h
  | some b => simp [he] at h ⊢; exact h

theorem waits_not_ready {i f : Nat} {l : Array Bool} (hs : Shut2 md ops l) (hi : l.getD i false = false) (h : waits md ops i f c = true) : c ∉ Region.ready md ops l := by
  intro hr
  obtain ⟨_, o, ho, hall⟩ := mem_ready.1 hr
  cases f with
  | zero => simp [waits] at h
  | succ f =>
    obtain ⟨o', ho', e, he, hb, hor⟩ := waits_edge h
    rw [ho] at ho'
    cases ho'
    have h1 := hall e he hb
    rcases hor with rfl | h2
    · rw [hi] at h1; cases h1
    · rw [waits_un hs hi f _ h2] at h1; cases h1

theorem getD_of_set {l : Array Bool} {i k : Nat} (h : (l.setIfInBounds i true).getD k false = true) : k = i ∨ l.getD k false = true := by
  by_cases e : i = k
  · exact .inl e.symm
  · rw [getD_set_ne false e] at h; exact .inr h

theorem Shut2.set {l : Array Bool} {i : Nat} (hs : Shut2 md ops l) (hi : i ∈ Region.ready md ops l) : Shut2 md ops (l.setIfInBounds i true) := by
  intro k o ho hk e he hb
  obtain ⟨_, oi, hoi, hall⟩ := mem_ready.1 hi
  rcases getD_of_set hk with rfl | hk
  · rw [ho] at hoi
    cases hoi
    exact getD_set_true (hall e he hb)
  · exact getD_set_true (hs k o ho hk e he hb)

/-- What may come up now may be taken first: it yields its value in every world, or in w0, and c waits for it. -/
theorem anyL_first {T : World → Prop} {f i : Nat} {oi : Oper} {v : Value} (hi : ops[i]? = some oi) (hsel : ∀ (j : Nat) (o : Oper) cs b, ops[j]? = some o → o.op ≠ .select cs b)
    (hQ : ∀ ch a w, Q (.panic ch) (a.put oi.dst v) w → Q (.panic ch) a w) (hic : i ≠ c) :
    ∀ (n : Nat) (l : Array Bool) (a : Act) (w : World), ((∀ w, T w) ∨ (T w0 ∧ waits md ops i f c = true ∧ l.getD c true = false)) →
      (∀ j oj, ops[j]? = some oj → j ≠ i → l.getD j true = false → (∀ e ∈ oj.after, Region.binds md e = true → e.on ≠ i) → oi.apart ops oj = true) →
      Shut2 md ops l → i ∈ Region.ready md ops l → YieldsIf P ops T oi v a → (l.getD c true = false → w = w0) →
      anyL P md ops Q c w0 n (l.setIfInBounds i true) (a.put oi.dst v) w → anyL P md ops Q c w0 (n + 1) l a w := by
  have self : ∀ (n : Nat) (l : Array Bool) (a : Act) (w : World), ((∀ w, T w) ∨ (T w0 ∧ waits md ops i f c = true ∧ l.getD c true = false)) → YieldsIf P ops T oi v a → (l.getD c true = false → w = w0) →
      anyL P md ops Q c w0 n (l.setIfInBounds i true) (a.put oi.dst v) w → wpOp P ops Q i (fun a' w' => ((l.setIfInBounds i true).getD c true = false → w' = w0) ∧ anyL P md ops Q c w0 n (l.setIfInBounds i true) a' w') a w := by
    intro n l a w hT hy hw H
    have hTw : T w := by
      rcases hT with h | ⟨h, _, h2⟩
      · exact h w
      · rw [hw h2]; exact h
    exact hy.wpOp hi hTw ⟨fun h => hw (by rw [getD_set_ne true hic] at h; exact h), H⟩
  intro n
  induction n with
  | zero =>
    intro l a w hT _ _ hr hy hw H
    refine ⟨fun h => (by rw [h] at hr; cases hr), fun j hj => ?_⟩
    by_cases hji : j = i
    · subst hji; exact self 0 l a w hT hy hw H
    · have := ready_mono hj hji
      rw [H.1] at this
      cases this
  | succ n ih =>
    intro l a w hT hfree hs hr hy hw H
    refine ⟨fun h => (by rw [h] at hr; cases hr), fun j hj => ?_⟩
    by_cases hji : j = i
    · subst hji; exact self (n + 1) l a w hT hy hw H
    · have h1 := H.2 j (ready_mono hj hji)
      obtain ⟨hjun, oj, hoj, hall⟩ := mem_ready.1 hj
      have hiun := (mem_ready.1 hr).1
      have hnot : ∀ e ∈ oj.after, Region.binds md e = true → e.on ≠ i := fun e he hb heq => by
        have h2 := hall e he hb
        rw [heq, un_false hiun] at h2
        cases h2
      have h2 := wpOp_putIf hoj (hfree j oj hoj hji hjun hnot) (fun cs b => hsel i oi cs b hi) (fun cs b => hsel j oj cs b hoj) hQ hy h1
      have hfree' : ∀ k ok, ops[k]? = some ok → k ≠ i → (l.setIfInBounds j true).getD k true = false →
          (∀ e ∈ ok.after, Region.binds md e = true → e.on ≠ i) → oi.apart ops ok = true := fun k ok hk hki hun hno => by
        refine hfree k ok hk hki ?_ hno
        by_cases hjk : j = k
        · subst hjk; exact hjun
        · rw [getD_set_ne true hjk] at hun; exact hun
      refine wpOp_mono (fun a' w' h3 => ?_) h2
      have hw' : (l.setIfInBounds j true).getD c true = false → w' = w0 := fun h => h3.2.1 (by rw [Array.setIfInBounds_comm _ _ (Ne.symm hji), getD_set_ne true hic]; exact h)
      refine ⟨hw', ih (l.setIfInBounds j true) a' w' ?_ hfree' (hs.set hj) (ready_mono hr (Ne.symm hji)) h3.1 hw' ?_⟩
      · rcases hT with h | ⟨h, hwt, hc⟩
        · exact .inl h
        · refine .inr ⟨h, hwt, ?_⟩
          have hjc : j ≠ c := fun e => waits_not_ready hs (un_false hiun) hwt (e ▸ hj)
          rw [getD_set_ne true hjc]; exact hc
      · rw [Array.setIfInBounds_comm _ _ hji]
        exact h3.2.2

/-- The look at a region: in the order of its rows (a tag and a place) each operation is taken (0: it yields in every world; 1: it yields in this world, and c waits for it) or is the only one that may come up (2). -/
def seqB (md : Region.Mode) (ops : Array Oper) (c f : Nat) : List (Nat × Nat) → Array Bool → Bool
  | [], l => (Region.ready md ops l).isEmpty
  | (t, k) :: ts, l =>
    (match t with
      | 0 => k != c && (Region.ready md ops l).contains k && Region.free md ops l k
      | 1 => k != c && (Region.ready md ops l).contains k && Region.free md ops l k && !l.getD c true && waits md ops k f c
      | _ => Region.ready md ops l == [k] && (k == c || l.getD c false) && decide (k < l.size)) && seqB md ops c f ts (l.setIfInBounds k true)

/-- The walk in that order. -/
def seqL (P : Program) (ops : Array Oper) (Q : Exit → Act → World → Prop) : List (Nat × Nat) → Act → World → Prop
  | [], a, w => Q .normal a w
  | (t, k) :: ts, a, w => match ops[k]? with
    | none => False
    | some o => match t with
      | 0 => ∃ v, YieldsIf P ops (fun _ => True) o v a ∧ seqL P ops Q ts (a.put o.dst v) w
      | 1 => ∃ v, YieldsIf P ops (fun x => x = w) o v a ∧ seqL P ops Q ts (a.put o.dst v) w
      | _ => if Region.wanted o (yielded ops a.tmps) = true then o.wp P a w (seqL P ops Q ts) Q else seqL P ops Q ts (a.put o.dst undef) w

theorem any_of_seq {f : Nat} (hn : Region.noSelect ops = true) (hQ : ∀ ch d v a w, Q (.panic ch) (Act.put a d v) w → Q (.panic ch) a w) :
    ∀ (ts : List (Nat × Nat)) (l : Array Bool) (a : Act) (w : World), seqB md ops c f ts l = true → Shut2 md ops l → (l.getD c true = false → w = w0) →
      seqL P ops Q ts a w → anyL P md ops Q c w0 ts.length l a w := by
  intro ts
  induction ts with
  | nil => intro l a w hB hs hw h; exact ⟨by simpa [seqB] using hB, h⟩
  | cons tk ts ih =>
    obtain ⟨t, k⟩ := tk
    intro l a w hB hs hw h
    unfold seqL at h
    split at h
    · exact h.elim
    · rename_i o h0
      match t, hB, h with
      | 0, hB, h =>
        simp only [seqB, Bool.and_eq_true, bne_iff_ne, ne_eq] at hB
        obtain ⟨⟨⟨hkc, hrd⟩, hfr⟩, hB'⟩ := hB
        have hrd' : k ∈ Region.ready md ops l := by simpa using hrd
        obtain ⟨v, hy, hn'⟩ := h
        refine anyL_first (f := f) h0 (Region.noSelect_spec hn) (fun ch a w => hQ ch _ _ a w) hkc ts.length l a w (.inl fun _ => trivial) (Region.free_spec h0 hfr) hs hrd' hy hw ?_
        exact ih _ _ w hB' (hs.set hrd') (fun h => hw (by rw [getD_set_ne true hkc] at h; exact h)) hn'
      | 1, hB, h =>
        simp only [seqB, Bool.and_eq_true, bne_iff_ne, ne_eq, Bool.not_eq_true'] at hB
        obtain ⟨⟨⟨⟨⟨hkc, hrd⟩, hfr⟩, hcl⟩, hwt⟩, hB'⟩ := hB
        have hrd' : k ∈ Region.ready md ops l := by simpa using hrd
        obtain ⟨v, hy, hn'⟩ := h
        have hw1 := hw hcl
        subst hw1
        refine anyL_first (f := f) (T := fun x => x = w) h0 (Region.noSelect_spec hn) (fun ch a w => hQ ch _ _ a w) hkc ts.length l a w (.inr ⟨rfl, hwt, hcl⟩) (Region.free_spec h0 hfr) hs hrd' hy hw ?_
        exact ih _ _ w hB' (hs.set hrd') (fun h => hw (by rw [getD_set_ne true hkc] at h; exact h)) hn'
      | t + 2, hB, h =>
        simp only [seqB, Bool.and_eq_true, beq_iff_eq, Bool.or_eq_true, decide_eq_true_eq] at hB
        obtain ⟨⟨⟨hrd, hkc⟩, hlt⟩, hB'⟩ := hB
        have hrd' : k ∈ Region.ready md ops l := by rw [hrd]; simp
        have hcl : (l.setIfInBounds k true).getD c true = true := by
          rcases hkc with rfl | h1
          · simp [Array.getD_eq_getD_getElem?, hlt]
          · have := getD_set_true (i := k) h1
            rw [Array.getD_eq_getD_getElem?] at this ⊢
            cases he : (l.setIfInBounds k true)[c]? with
            | none => simp
            | some b => simp [he] at this ⊢; exact this
        refine ⟨fun h => (by rw [h] at hrd; cases hrd), fun i hi => ?_⟩
        rw [hrd] at hi
        have hik : i = k := by simpa using hi
        subst hik
        have h1 : wpOp P ops Q i (seqL P ops Q ts) a w := by
          unfold wpOp
          simp only [h0]
          have h2 : if Region.wanted o (yielded ops a.tmps) = true then o.wp P a w (seqL P ops Q ts) Q else seqL P ops Q ts (a.put o.dst undef) w := h
          split
          · rename_i hww; rw [if_pos hww] at h2; exact .inl h2
          · rename_i hww; rw [if_neg hww] at h2; exact h2
        refine wpOp_mono (fun a' w' h' => ⟨fun h => (by rw [hcl] at h; cases h), ?_⟩) h1
        exact ih _ a' w' hB' (hs.set hrd') (fun h => (by rw [hcl] at h; cases h)) h'

/-- A region that draws its order, in the order of the rows. -/
theorem region_seq {id f : Nat} {c : Nat} {ts : List (Nat × Nat)} {ops : Array Oper} {a : Act} {w : World} (hm : P.follows .mixedOrders = true)
    (hB : (Region.noSelect ops && ts.length == ops.size && seqB .any ops c f ts (Array.replicate ops.size false)) = true) (h : seqL P ops (NoPanic Q) ts a w.drew) : (Code.region id ops true).wp P Q a w := by
  simp only [Bool.and_eq_true, beq_iff_eq] at hB
  obtain ⟨⟨hn, hl⟩, hB⟩ := hB
  refine wp_region_noPanic (wp_region_any hm ?_)
  have := any_of_seq (c := c) (w0 := w.drew) (f := f) (md := .any) (Q := NoPanic Q) (P := P) hn (fun _ _ _ _ _ h => h) ts (Array.replicate ops.size false) a w.drew hB
    (fun k o _ hk => by
      simp only [Array.getD_eq_getD_getElem?, Array.getElem?_replicate] at hk
      split at hk <;> simp at hk) (fun _ => rfl) h
  rw [hl] at this
  exact any_of_anyL _ _ _ _ this
end

section
variable {P : Program} {ops : Array Oper} {Q : Exit → Act → World → Prop} {ts : List (Nat × Nat)} {o : Oper} {k : Nat} {a : Act} {w : World} {v : Value}
theorem wanted_plain (hgd : o.guard = none) (y : Nat → Option Bool) : Region.wanted o y = true := by simp [Region.wanted, hgd]
theorem seq_nil (h : Q .normal a w) : seqL P ops Q [] a w := h
theorem seq_W (ho : ops[k]? = some o) (hgd : o.guard = none) (hr : ∀ w, (execOp a.eval o).run P w = .ok (.value v) w) (h : seqL P ops Q ts (a.put o.dst v) w) : seqL P ops Q ((0, k) :: ts) a w := by
  unfold seqL
  simp only [ho]
  exact ⟨v, .inl ⟨wanted_plain hgd _, fun w _ => hr w⟩, h⟩
theorem seq_R (ho : ops[k]? = some o) (hgd : o.guard = none) (hr : (execOp a.eval o).run P w = .ok (.value v) w) (h : seqL P ops Q ts (a.put o.dst v) w) : seqL P ops Q ((1, k) :: ts) a w := by
  unfold seqL
  simp only [ho]
  exact ⟨v, .inl ⟨wanted_plain hgd _, fun w' e => by subst e; exact hr⟩, h⟩
theorem seq_A (ho : ops[k]? = some o) (hgd : o.guard = none) (h : ∀ K : Act → World → Prop, (∀ a w, seqL P ops Q ts a w → K a w) → o.wp P a w K Q) : seqL P ops Q ((2, k) :: ts) a w := by
  unfold seqL
  simp only [ho]
  rw [if_pos (wanted_plain hgd _)]
  exact h _ (fun _ _ h => h)
end
end Go.Proofs.YtnjkgpgbipcgcaaDoor
