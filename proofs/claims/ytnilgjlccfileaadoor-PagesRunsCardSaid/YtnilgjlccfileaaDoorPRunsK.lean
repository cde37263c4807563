/- The store beside the document's; a nil store. -/
import Derived.Test.YtnilgjlccfileaaDoorPRef6
import Derived.Test.YtnilgjlccfileaaDoorPNum
namespace Go.Proofs.YtnilgjlccfileaaDoor
open Go.RowKit

attribute [local go_sem ↓] Go.wp_at_zero Go.wp_at_succ

theorem npages (w : World) : Calls Tryd.prog 11 #[.pointer none] w fun e w' => e = .returned (.int .i64 0) ∧ w' = w := by
  go_enter Tryd.func11, Tryd.ntmps11
  go_wp2
  go_ret
  exact ⟨rfl, rfl⟩
theorem nloose (w : World) : Calls Tryd.prog 12 #[.pointer none] w fun e w' => e = .returned (.int .i64 0) ∧ w' = w := by
  go_enter Tryd.func12, Tryd.ntmps12
  go_wp2
  go_ret
  exact ⟨rfl, rfl⟩
theorem ndown (w : World) : Calls Tryd.prog 13 #[.pointer none] w fun e w' => e = .returned (.bool false) ∧ w' = w := by
  go_enter Tryd.func13, Tryd.ntmps13
  go_wp2
  go_ret
  exact ⟨rfl, rfl⟩
theorem nhas (w : World) : Calls Tryd.prog 23 #[.pointer none, .int .i64 0] w fun e w' => e = .returned (.bool false) ∧ w' = w := by
  have hp := npages w
  go_enter Tryd.func23, Tryd.ntmps23
  go_wp2_with fail
  refine hp.mono ?_
  rintro e w1 ⟨rfl, rfl⟩
  go_wp2
  go_ret
  exact ⟨rfl, rfl⟩
theorem nread (w : World) : Calls Tryd.prog 5 #[.pointer none, .int .i64 0] w fun e w' => e = .returned (.tuple #[.slice none 0 0, .iface 59 (.int .i64 1)]) ∧ w' = w := by
  have hh := nhas w
  go_enter Tryd.func5, Tryd.ntmps5
  go_wp2_with fail
  refine hh.mono ?_
  rintro e w1 ⟨rfl, rfl⟩
  go_wp2
  go_ret2
  exact ⟨rfl, rfl⟩
theorem nwrite (w : World) : Calls Tryd.prog 8 #[.pointer none, .int .i64 0, .slice none 0 0] w fun e w' => e = .returned (.iface 59 (.int .i64 1)) ∧ w' = w := by
  have hh := nhas w
  go_enter Tryd.func8, Tryd.ntmps8
  go_wp2_with fail
  refine hh.mono ?_
  rintro e w1 ⟨rfl, rfl⟩
  go_wp2
  go_ret
  exact ⟨rfl, rfl⟩
theorem nsync (w : World) : Calls Tryd.prog 9 #[.pointer none] w fun e w' => e = .returned (.iface 59 (.int .i64 1)) ∧ w' = w := by
  go_enter Tryd.func9, Tryd.ntmps9
  go_wp2
  go_ret
  exact ⟨rfl, rfl⟩
theorem narm (w : World) : Calls Tryd.prog 10 #[.pointer none, .int .i64 1] w fun e w' => e = .returned (.iface 59 (.int .i64 1)) ∧ w' = w := by
  go_enter Tryd.func10, Tryd.ntmps10
  go_wp2
  go_ret
  exact ⟨rfl, rfl⟩
theorem nstart (w : World) : Calls Tryd.prog 6 #[.pointer none, .slice none 0 0] w fun e w' => e = .returned (.tuple #[]) ∧ w' = w := by
  go_enter Tryd.func6, Tryd.ntmps6
  go_wp2
  refine bodyPost_ret (results_none rfl _ _ _) rfl ?_
  exact ⟨rfl, rfl⟩

/-- What a store and the document's say of one another. -/
structure Rel (S R : St) : Prop where
  safe : S.safe.map (fun x => x.l) = R.safe.map (fun x => x.l)
  loose : S.loose.map (fun e => (e.1, e.2.l)) = R.loose.map (fun e => (e.1, e.2.l))
  down : S.down = R.down
  steps : S.down = false → (S.armed = false ∧ R.steps = -1) ∨ (S.armed = true ∧ R.steps = S.steps)
  hs : 0 ≤ S.steps ∧ S.steps < 9223372036854775808
  hr : -1 ≤ R.steps ∧ R.steps ≤ 9223372036854775807
/-- A step of the document's. -/
def St.rstep (R : St) : St := { R with steps := rstS R.steps, down := rstD R.steps R.down }
theorem Rel.step {S R : St} (h : Rel S R) (hd : S.down = false) : stepE S = rstE R.steps ∧ Rel (stepS S) R.rstep := by
  have hdR : R.down = false := by rw [← h.down]; exact hd
  have hs := h.hs
  have hr := h.hr
  rcases h.steps hd with ⟨h1, h2⟩ | ⟨h1, h2⟩
  · refine ⟨by simp [stepE, h1, rstE, h2], ?_⟩
    have e1 : stepS S = S := by simp [stepS, h1]
    have e2 : R.rstep = R := by
      unfold St.rstep rstS rstD
      rw [h2]
      simp
      rw [← h2]
    rw [e1, e2]; exact h
  · have eE : stepE S = if 0 < S.steps then 0 else 13 := by simp [stepE, h1]
    have eS : stepS S = if 0 < S.steps then { S with steps := S.steps - 1 } else { S with down := true } := by simp [stepS, h1]
    rw [eE, eS]
    by_cases hp : 0 < S.steps
    · have hne : ¬ R.steps = 0 := by omega
      rw [if_pos hp, if_pos hp, rstE, if_neg hne]
      have e3 : R.rstep = { R with steps := R.steps - 1 } := by
        unfold St.rstep rstS rstD
        rw [if_neg hne, if_pos (by omega), if_neg hne]
      rw [e3]
      exact ⟨rfl, h.safe, h.loose, h.down, fun _ => .inr ⟨h1, by simp only [h2]⟩, by simp only; omega, by simp only; omega⟩
    · have hz : R.steps = 0 := by omega
      rw [if_neg hp, if_neg hp, rstE, if_pos hz]
      have e3 : R.rstep = { R with steps := -1, down := true } := by
        unfold St.rstep rstS rstD
        rw [if_pos hz, if_pos hz]
      rw [e3]
      exact ⟨rfl, h.safe, h.loose, rfl, (fun e => by cases e), h.hs, by simp⟩
theorem Rel.put {S R : St} (h : Rel S R) (pg : Int) {x y : Bs} (e : y.l = x.l) : Rel (S.put pg y) (R.put pg x) :=
  ⟨h.safe, by simp [St.put, h.loose, e], h.down, h.steps, h.hs, h.hr⟩
theorem setF_rel (K : Nat → Bool) : ∀ (L M : List (Int × Bs)) (i : Nat) (s t : List Bs), L.map (fun e => (e.1, e.2.l)) = M.map (fun e => (e.1, e.2.l)) → s.map (fun x => x.l) = t.map (fun x => x.l) → (setF K i L s).map (fun x => x.l) = (setF K i M t).map (fun x => x.l)
  | [], [], _, _, _, _, h => h
  | [], _ :: _, _, _, _, h, _ => by simp at h
  | _ :: _, [], _, _, _, h, _ => by simp at h
  | x :: L, y :: M, i, s, t, h, hs => by
    simp only [List.map_cons, List.cons.injEq, Prod.mk.injEq] at h
    rw [setF, setF]
    refine setF_rel K L M (i + 1) _ _ h.2 ?_
    split
    · rw [List.map_set, List.map_set, hs, h.1.1, h.1.2]
    · exact hs
theorem Rel.settled {S R : St} (h : Rel S R) (K : Nat → Bool) : Rel (S.settled K) (R.settled K) :=
  ⟨setF_rel K _ _ 0 _ _ h.loose h.safe, rfl, h.down, h.steps, h.hs, h.hr⟩
theorem Rel.last {S R : St} (h : Rel S R) (pg : Int) : (lastB S pg).l = (lastR R.safe R.loose pg).l := by
  have key : ∀ (L M : List (Int × Bs)), L.map (fun e => (e.1, e.2.l)) = M.map (fun e => (e.1, e.2.l)) → (L.find? (fun x => x.1 == pg)).map (fun e => e.2.l) = (M.find? (fun x => x.1 == pg)).map (fun e => e.2.l) := by
    intro L
    induction L with
    | nil => intro M hM; cases M with
      | nil => rfl
      | cons y M => simp at hM
    | cons x L ih => intro M hM; cases M with
      | nil => simp at hM
      | cons y M =>
        simp only [List.map_cons, List.cons.injEq, Prod.mk.injEq] at hM
        rw [List.find?_cons, List.find?_cons, hM.1.1]
        split
        · simp [hM.1.2]
        · exact ih M hM.2
  have hk := key S.loose.reverse R.loose.reverse (by rw [List.map_reverse, List.map_reverse, h.loose])
  unfold lastR lastB
  simp only
  cases e1 : S.loose.reverse.find? (fun x => x.1 == pg) with
  | some a =>
    cases e2 : R.loose.reverse.find? (fun x => x.1 == pg) with
    | some b => rw [e1, e2] at hk; simpa using hk
    | none => rw [e1, e2] at hk; simp at hk
  | none =>
    cases e2 : R.loose.reverse.find? (fun x => x.1 == pg) with
    | some b => rw [e1, e2] at hk; simp at hk
    | none =>
      simp only
      have := congrArg (fun l : List (List Int) => (l[pg.toNat]?).getD []) h.safe
      simp only [List.getElem?_map] at this
      cases e3 : S.safe[pg.toNat]? with
      | none => cases e4 : R.safe[pg.toNat]? with
        | none => rfl
        | some b => rw [e3, e4] at this; simpa [nilBs] using this
      | some a => cases e4 : R.safe[pg.toNat]? with
        | none => rw [e3, e4] at this; simpa [nilBs] using this
        | some b => rw [e3, e4] at this; simpa using this
theorem Rel.lens {S R : St} (h : Rel S R) : S.safe.length = R.safe.length ∧ S.loose.length = R.loose.length := by
  have h1 := congrArg List.length h.safe
  have h2 := congrArg List.length h.loose
  simp at h1 h2
  exact ⟨h1, h2⟩
/-- A store, the document's rows, and the document's in block c, all apart. -/
structure Fl2 (w : World) (c p : Nat) (G : Nat → Prop) (S : St) (pa : Option Addr) (pc : Nat) (la : Option Addr) (lc : Nat) (R : St) (wr : World) : Prop where
  st : StAt wr G p S
  pr : RowC wr pa R.safe.length (R.safe.map Bs.v)
  lr : RowC wr la R.loose.length (flatW R.loose)
  ln : la = none → R.loose.length = 0 ∧ lc = 0
  lk : R.loose.length ≤ lc
  pg : ∀ a, pa = some a → ¬ G a.block ∧ a.block ≠ c ∧ a.block < wr.heap.size
  lg : ∀ a, la = some a → ¬ G a.block ∧ a.block ≠ c ∧ a.block < wr.heap.size
  cr : wr.heap[c]? = some (.cells #[.slice pa R.safe.length pc, .slice la R.loose.length lc, .int .i64 R.steps, .bool R.down] 41 (0, 0))
  gB : ∀ k, G k → w.heap.size ≤ k ∧ k < wr.heap.size ∧ k ≠ c
  cB : w.heap.size ≤ c
  bel : Below w.heap.size w wr
section
variable {w wr w1 : World} {c p : Nat} {G : Nat → Prop} {S S' R R' : St} {pa la pa' la' : Option Addr} {pc lc pc' lc' : Nat}
theorem Fl2.store (h : Fl2 w c p G S pa pc la lc R wr) (hs : StAt w1 (Gn G wr w1) p S') (hf : Fr G wr w1) : Fl2 w c p (Gn G wr w1) S' pa pc la lc R w1 := by
  have hz := hf.size
  have lcc := lt_of_block h.cr
  have hB := h.bel.size
  have hgn : ∀ k, k < wr.heap.size → ¬ G k → ¬ Gn G wr w1 k := fun k hk hn e => by
    rcases e with e | e
    · exact hn e
    · omega
  refine ⟨hs, h.pr.keep hz fun a e hl => hf.block _ hl (h.pg a e).1, h.lr.keep hz fun a e hl => hf.block _ hl (h.lg a e).1, h.ln, h.lk, fun a e => ?_, fun a e => ?_, ?_, fun k hk => ?_, h.cB, h.bel.trans (hf.below hB fun k g => (h.gB k g).1)⟩
  · have := h.pg a e
    exact ⟨hgn _ this.2.2 this.1, this.2.1, by omega⟩
  · have := h.lg a e
    exact ⟨hgn _ this.2.2 this.1, this.2.1, by omega⟩
  · rw [hf.block c lcc (fun g => (h.gB c g).2.2 rfl)]; exact h.cr
  · rcases hk with g | g
    · have := h.gB k g
      exact ⟨this.1, by omega, this.2.2⟩
    · exact ⟨by omega, g.2, by omega⟩
theorem Fl2.keepG (h : Fl2 w c p G S pa pc la lc R wr) (hs : StAt w1 G p S') (hf : Fr G wr w1) : Fl2 w c p G S' pa pc la lc R w1 := by
  have hz := hf.size
  have lcc := lt_of_block h.cr
  have hB := h.bel.size
  exact ⟨hs, h.pr.keep hz fun a e hl => hf.block _ hl (h.pg a e).1, h.lr.keep hz fun a e hl => hf.block _ hl (h.lg a e).1, h.ln, h.lk, fun a e => ⟨(h.pg a e).1, (h.pg a e).2.1, by have := (h.pg a e).2.2; omega⟩, fun a e => ⟨(h.lg a e).1, (h.lg a e).2.1, by have := (h.lg a e).2.2; omega⟩, by
    rw [hf.block c lcc (fun g => (h.gB c g).2.2 rfl)]; exact h.cr, fun k g => ⟨(h.gB k g).1, by have := (h.gB k g).2.1; omega, (h.gB k g).2.2⟩, h.cB, h.bel.trans (hf.below hB fun k g => (h.gB k g).1)⟩
theorem Fl2.below (h : Fl2 w c p G S pa pc la lc R wr) (hb : Below wr.heap.size wr w1) : Fl2 w c p G S pa pc la lc R w1 := h.keepG (h.st.below hb) (Fr.ofBelow hb)
theorem Fl2.drew (h : Fl2 w c p G S pa pc la lc R wr) : Fl2 w c p G S pa pc la lc R wr.drew := h.keepG (h.st.keep (Nat.le_refl _) (fun _ _ _ => rfl)) (Fr.refl G wr).drew
/-- The document's turns: its rows are what they were, or new. -/
theorem Fl2.turn (h : Fl2 w c p G S pa pc la lc R wr) (hb : Below wr.heap.size wr w1) (hp : RowC w1 pa' R'.safe.length (R'.safe.map Bs.v)) (hl : RowC w1 la' R'.loose.length (flatW R'.loose)) (hln : la' = none → R'.loose.length = 0 ∧ lc' = 0) (hlk : R'.loose.length ≤ lc')
    (hpf : pa' = pa ∨ ∃ g, pa' = some ⟨g, 0, none⟩ ∧ wr.heap.size ≤ g ∧ g < w1.heap.size) (hlf : la' = la ∨ la' = none ∨ ∃ g, la' = some ⟨g, 0, none⟩ ∧ wr.heap.size ≤ g ∧ g < w1.heap.size) :
    Fl2 w c p G S pa' pc' la' lc' R' ((((w1.setCell ⟨c, 0, none⟩ (.slice pa' R'.safe.length pc')).setCell ⟨c, 1, none⟩ (.slice la' R'.loose.length lc')).setCell ⟨c, 2, none⟩ (.int .i64 R'.steps)).setCell ⟨c, 3, none⟩ (.bool R'.down)) := by
  have h1 := h.below hb
  have hz := hb.size
  have lcc := lt_of_block h.cr
  have hf := set4_frm (w := w1) (g := c) (.slice pa' R'.safe.length pc') (.slice la' R'.loose.length lc') (.int .i64 R'.steps) (.bool R'.down)
  have hs4 := set4 h1.cr (.slice pa' R'.safe.length pc') (.slice la' R'.loose.length lc') (.int .i64 R'.steps) (.bool R'.down)
  have hB := h1.bel.size
  have hPG : ∀ a, pa' = some a → ¬ G a.block ∧ a.block ≠ c ∧ a.block < w1.heap.size := fun a e => by
    rcases hpf with e1 | ⟨g, e1, h2, h3⟩
    · rw [e1] at e; exact h1.pg a e
    · rw [e1] at e; cases e
      exact ⟨fun g2 => by have := (h.gB _ g2).2.1; simp at this; omega, by simp; omega, h3⟩
  have hLG : ∀ a, la' = some a → ¬ G a.block ∧ a.block ≠ c ∧ a.block < w1.heap.size := fun a e => by
    rcases hlf with e1 | e1 | ⟨g, e1, h2, h3⟩
    · rw [e1] at e; exact h1.lg a e
    · rw [e1] at e; cases e
    · rw [e1] at e; cases e
      exact ⟨fun g2 => by have := (h.gB _ g2).2.1; simp at this; omega, by simp; omega, h3⟩
  have hz4 := hf.size
  refine ⟨h1.st.keep hz4 fun k hk g => hf.block k hk (by simpa using (h1.gB k g).2.2), hp.keep hz4 fun a e hl => hf.block _ hl (by simpa using (hPG a e).2.1), hl.keep hz4 fun a e hl => hf.block _ hl (by simpa using (hLG a e).2.1), hln, hlk, fun a e => ⟨(hPG a e).1, (hPG a e).2.1, by have := (hPG a e).2.2; omega⟩, fun a e => ⟨(hLG a e).1, (hLG a e).2.1, by have := (hLG a e).2.2; omega⟩, hs4, fun k g => ⟨(h1.gB k g).1, by have := (h1.gB k g).2.1; omega, (h1.gB k g).2.2⟩, h.cB, h1.bel.trans (hf.below hB (by simp; exact h.cB))⟩
end
end Go.Proofs.YtnilgjlccfileaaDoor
