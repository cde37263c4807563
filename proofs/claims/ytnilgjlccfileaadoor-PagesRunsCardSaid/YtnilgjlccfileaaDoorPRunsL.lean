/- What is done to the store, and to the document's. -/
import Derived.Test.YtnilgjlccfileaaDoorPRunsK
namespace Go.Proofs.YtnilgjlccfileaaDoor
open Go.RowKit

/-- Behind i of what is done. -/
structure RIx (w : World) (c p many : Nat) (G : Nat → Prop) (S : St) (pa : Option Addr) (pc : Nat) (la : Option Addr) (lc : Nat) (R : St) (wr : World) (i : Nat) : Prop where
  fl : Fl2 w c p G S pa pc la lc R wr
  rel : Rel S R
  ds : ∀ x ∈ R.safe, DtAt w x
  dl : ∀ e ∈ R.loose, DtAt w e.2 ∧ 0 ≤ e.1 ∧ e.1 < many
  len : R.safe.length = many
  few : R.loose.length ≤ i
def RI (w : World) (c p many : Nat) (wr : World) (i : Nat) : Prop := ∃ G S pa pc la lc R, RIx w c p many G S pa pc la lc R wr i
theorem RI.bel {w : World} {c p many : Nat} {wr : World} {i : Nat} (h : RI w c p many wr i) : Below w.heap.size w wr := by
  obtain ⟨G, S, pa, pc, la, lc, R, h⟩ := h
  exact h.fl.bel
theorem RI.below {w wr w1 : World} {c p many i : Nat} (h : RI w c p many wr i) (hb : Below wr.heap.size wr w1) : RI w c p many w1 i := by
  obtain ⟨G, S, pa, pc, la, lc, R, h⟩ := h
  exact ⟨G, S, pa, pc, la, lc, R, h.fl.below hb, h.rel, h.ds, h.dl, h.len, h.few⟩
theorem RI.mono {w wr : World} {c p many i j : Nat} (h : RI w c p many wr i) (hj : i ≤ j) : RI w c p many wr j := by
  obtain ⟨G, S, pa, pc, la, lc, R, h⟩ := h
  exact ⟨G, S, pa, pc, la, lc, R, h.fl, h.rel, h.ds, h.dl, h.len, by have := h.few; omega⟩
/-- The document's five cells' words. -/
def set4c (w : World) (c : Nat) (a b d e : Value) : World := (((w.setCell ⟨c, 0, none⟩ a).setCell ⟨c, 1, none⟩ b).setCell ⟨c, 2, none⟩ d).setCell ⟨c, 3, none⟩ e
/-- Behind the store's turn: what the document's call leaves. -/
def RefGo (w : World) (c p many i v : Nat) (vc : Array Value) (f : Nat) (mk : Value → Array Value) (E : Int) (w1 : World) : Prop :=
  ∃ (pa : Option Addr) (pn pc : Nat) (la : Option Addr) (ln lc : Nat) (st : Int) (dn : Bool), w1.heap[c]? = some (.cells #[.slice pa pn pc, .slice la ln lc, .int .i64 st, .bool dn] 41 (0, 0)) ∧ w1.heap[v]? = some (.cells vc 46 (0, 0)) ∧
    Calls Tryd.prog f (mk (.agg #[.slice pa pn pc, .slice la ln lc, .int .i64 st, .bool dn])) w1 fun e w2 => ∃ (pa' : Option Addr) (pn' pc' : Nat) (la' : Option Addr) (ln' lc' : Nat) (st' : Int) (dn' : Bool), e = .returned (.tuple #[.agg #[.slice pa' pn' pc', .slice la' ln' lc', .int .i64 st', .bool dn'], .int .i64 E]) ∧
      w2.heap[c]? = some (.cells #[.slice pa pn pc, .slice la ln lc, .int .i64 st, .bool dn] 41 (0, 0)) ∧ RI w c p many (set4c w2 c (.slice pa' pn' pc') (.slice la' ln' lc') (.int .i64 st') (.bool dn')) (i + 1)
section
variable {w wr w1 : World} {c p many i v : Nat} {vc : Array Value} {G : Nat → Prop} {S S' R : St} {pa la : Option Addr} {pc lc : Nat}
/-- The store's turn is done, the document's is its own. -/
theorem RIx.go (_h : RIx w c p many G S pa pc la lc R wr i) (hv : wr.heap[v]? = some (.cells vc 46 (0, 0))) (hvG : ¬ G v) {w1 : World} {G' : Nat → Prop} (hF : Fl2 w c p G' S' pa pc la lc R w1) (hfr : Fr G wr w1) (f : Nat) (mk : Value → Array Value) (E : Int)
    (hcall : Calls Tryd.prog f (mk (.agg #[.slice pa R.safe.length pc, .slice la R.loose.length lc, .int .i64 R.steps, .bool R.down])) w1 fun e w2 => ∃ (pa' : Option Addr) (pc' : Nat) (la' : Option Addr) (lc' : Nat) (R' : St), e = .returned (.tuple #[.agg #[.slice pa' R'.safe.length pc', .slice la' R'.loose.length lc', .int .i64 R'.steps, .bool R'.down], .int .i64 E]) ∧
      Below w1.heap.size w1 w2 ∧ RowC w2 pa' R'.safe.length (R'.safe.map Bs.v) ∧ RowC w2 la' R'.loose.length (flatW R'.loose) ∧ (la' = none → R'.loose.length = 0 ∧ lc' = 0) ∧ R'.loose.length ≤ lc' ∧ (pa' = pa ∨ ∃ g, pa' = some ⟨g, 0, none⟩ ∧ w1.heap.size ≤ g ∧ g < w2.heap.size) ∧ (la' = la ∨ la' = none ∨ ∃ g, la' = some ⟨g, 0, none⟩ ∧ w1.heap.size ≤ g ∧ g < w2.heap.size) ∧
      Rel S' R' ∧ (∀ x ∈ R'.safe, DtAt w x) ∧ (∀ e ∈ R'.loose, DtAt w e.2 ∧ 0 ≤ e.1 ∧ e.1 < many) ∧ R'.safe.length = many ∧ R'.loose.length ≤ i + 1) : RefGo w c p many i v vc f mk E w1 := by
  refine ⟨pa, R.safe.length, pc, la, R.loose.length, lc, R.steps, R.down, hF.cr, (hfr.block v (lt_of_block hv) hvG).trans hv, hcall.mono ?_⟩
  rintro e w2 ⟨pa', pc', la', lc', R', rfl, hb, h1, h2, h3, h4, h5, h6, h7, h8, h9, h10, h11⟩
  exact ⟨pa', R'.safe.length, pc', la', R'.loose.length, lc', R'.steps, R'.down, rfl, (hb.block c (lt_of_block hF.cr)).trans hF.cr, G', S', pa', pc', la', lc', R', hF.turn hb h1 h2 h3 h4 h5 h6, h7, h8, h9, h10, h11⟩
theorem dl_settled {R : St} (K : Nat → Bool) (hs : ∀ x ∈ R.safe, DtAt w x) (hl : ∀ e ∈ R.loose, DtAt w e.2 ∧ 0 ≤ e.1 ∧ e.1 < (many : Int)) : ∀ x ∈ (R.settled K).safe, DtAt w x := fun x hx => by
  rcases setF_mem K _ _ _ x hx with h | ⟨pg, h⟩
  · exact hs x h
  · exact (hl _ h).1
theorem br_sync (h : RIx w c p many G S pa pc la lc R wr i) (hi : i ≤ 100) (hm : 1 ≤ many ∧ many ≤ 100) (hv : wr.heap[v]? = some (.cells vc 46 (0, 0))) (hvG : ¬ G v) :
    Calls Tryd.prog 9 #[.pointer (some ⟨p, 0, none⟩)] wr fun e w1 => ∃ E, e = .returned (errV E) ∧ Below w.heap.size w w1 ∧ RefGo w c p many i v vc 17 (fun r => #[r]) E w1 := by
  have hlen := h.len
  have hfew := h.few
  by_cases hd : S.down = true
  · refine (syncB_st G p S wr h.fl.st hd).mono ?_
    rintro e w1 ⟨rfl, rfl⟩
    have hdR : R.down = true := by rw [← h.rel.down]; exact hd
    refine ⟨13, rfl, h.fl.bel, h.go hv hvG h.fl (Fr.refl _ _) _ _ _ ?_⟩
    rw [hdR]
    refine (rsync_down _ _ _ _ _ _ _ _).mono ?_
    rintro e w2 ⟨rfl, hb⟩
    exact ⟨pa, pc, la, lc, R, by rw [hdR], hb, h.fl.pr.below hb, h.fl.lr.below hb, h.fl.ln, h.fl.lk, .inl rfl, .inl rfl, h.rel, h.ds, h.dl, h.len, by omega⟩
  · have hd' : S.down = false := by simpa using hd
    have hdR : R.down = false := by rw [← h.rel.down]; exact hd'
    obtain ⟨eE, hst⟩ := h.rel.step hd'
    refine (sync_st G p S wr h.fl.st h.rel.hs hd').mono ?_
    rintro e w1 ⟨rfl, hS1, hF1⟩
    have hFl := h.fl.keepG hS1 hF1
    refine ⟨stepE S, rfl, hFl.bel, h.go hv hvG hFl hF1 _ _ _ ?_⟩
    rw [hdR]
    refine (rsync_any pa pc R.safe la lc R.loose R.steps w1 (by omega) (by omega) hFl.pr hFl.lr (by omega) (fun e he => by have := (h.dl e he).2; omega) h.rel.hr).mono ?_
    rintro e w2 ⟨hb, ⟨hne, rfl⟩ | ⟨hez, g, cap, rfl, hrow, hg⟩⟩
    · refine ⟨pa, pc, la, lc, R.rstep, by rw [eE, ← hdR]; rfl, hb, hFl.pr.below hb, hFl.lr.below hb, hFl.ln, hFl.lk, .inl rfl, .inl rfl, ?_, h.ds, h.dl, h.len, by show R.loose.length ≤ _; omega⟩
      rw [syncS, if_neg (by rw [eE]; exact hne)]; exact hst
    · have e1 : (setF allK 0 R.loose R.safe).length = R.safe.length := setF_length _ _ _ _
      refine ⟨some ⟨g, 0, none⟩, cap, none, 0, (R.rstep).settled allK, ?_, hb, ?_, (fun hn => by cases hn), (fun _ => ⟨rfl, rfl⟩), Nat.zero_le _, .inr ⟨g, rfl, hg, ?_⟩, .inr (.inl rfl), ?_, dl_settled allK h.ds h.dl, (fun e he => by cases he), ?_, Nat.zero_le _⟩
      · rw [eE, hez]
        show _ = Ending.returned (.tuple #[.agg #[.slice (some ⟨g, 0, none⟩) (setF allK 0 R.loose R.safe).length cap, .slice none 0 0, .int .i64 (rstS R.steps), .bool (rstD R.steps R.down)], .int .i64 0])
        rw [e1, hdR]
      · show RowC w2 _ (setF allK 0 R.loose R.safe).length ((setF allK 0 R.loose R.safe).map Bs.v)
        rw [e1]; exact hrow
      · obtain ⟨g2, e2, hl2, _⟩ := hrow (by omega)
        cases e2; exact hl2
      · rw [syncS, if_pos (by rw [eE]; exact hez)]; exact hst.settled allK
      · show (setF allK 0 R.loose R.safe).length = many
        rw [e1]; exact h.len
theorem br_arm (h : RIx w c p many G S pa pc la lc R wr i) (hv : wr.heap[v]? = some (.cells vc 46 (0, 0))) (hvG : ¬ G v) (n : Int) (hn : -9223372036854775808 ≤ n ∧ n ≤ 9223372036854775807) :
    Calls Tryd.prog 10 #[.pointer (some ⟨p, 0, none⟩), .int .i64 n] wr fun e w1 => ∃ E, e = .returned (errV E) ∧ Below w.heap.size w w1 ∧ RefGo w c p many i v vc 19 (fun r => #[r, .int .i64 n]) E w1 := by
  have hfew := h.few
  by_cases h0 : n < 0
  · refine (armB_st p n wr h0).mono ?_
    rintro e w1 ⟨rfl, rfl⟩
    refine ⟨1, rfl, h.fl.bel, h.go hv hvG h.fl (Fr.refl _ _) _ _ _ ?_⟩
    refine (rarm_any _ _ _ _ _ _ _ _ _ _).mono ?_
    rintro e w2 ⟨rfl, hb⟩
    exact ⟨pa, pc, la, lc, R, by rw [if_pos h0, if_pos h0], hb, h.fl.pr.below hb, h.fl.lr.below hb, h.fl.ln, h.fl.lk, .inl rfl, .inl rfl, h.rel, h.ds, h.dl, h.len, by omega⟩
  · refine (arm_st G p S n wr h.fl.st (by omega)).mono ?_
    rintro e w1 ⟨rfl, hS1, hF1⟩
    have hFl := h.fl.keepG hS1 hF1
    refine ⟨0, rfl, hFl.bel, h.go hv hvG hFl hF1 _ _ _ ?_⟩
    refine (rarm_any _ _ _ _ _ _ _ _ _ _).mono ?_
    rintro e w2 ⟨rfl, hb⟩
    exact ⟨pa, pc, la, lc, { R with steps := n }, by rw [if_neg h0, if_neg h0], hb, hFl.pr.below hb, hFl.lr.below hb, hFl.ln, hFl.lk, .inl rfl, .inl rfl,
      ⟨h.rel.safe, h.rel.loose, h.rel.down, fun _ => .inr ⟨rfl, rfl⟩, by show 0 ≤ n ∧ n < _; omega, by show -1 ≤ n ∧ n ≤ _; omega⟩, h.ds, h.dl, h.len, by show R.loose.length ≤ _; omega⟩
theorem br_write (h : RIx w c p many G S pa pc la lc R wr i) (hi : i ≤ 100) (_hm : 1 ≤ many ∧ many ≤ 100) (hv : wr.heap[v]? = some (.cells vc 46 (0, 0))) (hvG : ¬ G v) (pg : Int) (x : Bs) (hx : DtAt w x) :
    Calls Tryd.prog 8 #[.pointer (some ⟨p, 0, none⟩), .int .i64 pg, .slice x.ad x.l.length x.cap] wr fun e w1 => ∃ E, e = .returned (errV E) ∧ Below w.heap.size w w1 ∧ RefGo w c p many i v vc 22 (fun r => #[r, .int .i64 pg, .slice x.ad x.l.length x.cap]) E w1 := by
  have hfew := h.few
  have hlen := h.len
  have hxr := hx.below h.fl.bel
  have eE : wrE S pg x.l.length = rpE R.safe.length R.down pg x.l.length := by unfold wrE rpE; rw [h.rel.lens.1, h.rel.down]
  by_cases he : wrE S pg x.l.length = 0
  · have hd : S.down = false := by
      cases hd : S.down with
      | false => rfl
      | true =>
        unfold wrE at he
        rw [hd] at he
        split at he
        · cases he
        · split at he
          · cases he
          · simp at he
    have h1 : 0 ≤ pg ∧ pg < S.safe.length := by
      unfold wrE at he
      split at he
      · cases he
      · rename_i h; exact Classical.not_not.1 h
    have h2 : ¬ 4096 < x.l.length := by
      intro h2
      unfold wrE at he
      rw [if_neg (by simpa using h1), if_pos h2] at he
      cases he
    have hdR : R.down = false := by rw [← h.rel.down]; exact hd
    refine (write_st G p S pg x.ad x.cap x.l wr h.fl.st h.rel.hs h1 hd (by have := h.rel.lens.2; omega) hxr.lies hxr.nil hxr.bd (by omega)).mono ?_
    rintro e w1 ⟨rfl, y, hy, hS1, hF1⟩
    have hFl := h.fl.store hS1 hF1
    obtain ⟨eS, hst⟩ := (h.rel.put pg hy).step hd
    refine ⟨stepE S, rfl, hFl.bel, h.go hv hvG hFl hF1 _ _ _ ?_⟩
    rw [hdR]
    refine (rput_ok pa R.safe.length pc la lc R.loose R.steps pg x w1 (by rw [← hdR, ← eE]; exact he) hFl.lr hFl.ln hFl.lk (by omega) h.rel.hr).mono ?_
    rintro e w2 ⟨g, lc', rfl, hrow, hg, hlc, hb⟩
    have e1 : (R.loose ++ [(pg, x)]).length = R.loose.length + 1 := by simp
    refine ⟨pa, pc, some ⟨g, 0, none⟩, lc', (R.put pg x).rstep, ?_, hb, hFl.pr.below hb, ?_, (fun e => by cases e), by show (R.loose ++ [(pg, x)]).length ≤ lc'; omega, .inl rfl, .inr (.inr ⟨g, rfl, hg, ?_⟩), hst, h.ds, ?_, h.len, by show (R.loose ++ [(pg, x)]).length ≤ i + 1; omega⟩
    · show _ = Ending.returned (.tuple #[.agg #[.slice pa R.safe.length pc, .slice (some ⟨g, 0, none⟩) (R.loose ++ [(pg, x)]).length lc', .int .i64 (rstS R.steps), .bool (rstD R.steps R.down)], .int .i64 (stepE S)])
      have : stepE S = rstE R.steps := eS
      rw [e1, hdR, this]
    · show RowC w2 _ (R.loose ++ [(pg, x)]).length (flatW (R.loose ++ [(pg, x)]))
      rw [e1]; exact hrow
    · obtain ⟨g2, e2, hl2, _⟩ := hrow (by omega)
      cases e2; exact hl2
    · intro e he2
      have he2 : e ∈ R.loose ++ [(pg, x)] := he2
      rcases List.mem_append.1 he2 with h3 | h3
      · exact h.dl e h3
      · have : e = (pg, x) := by simpa using h3
        subst this
        have := h.rel.lens.1
        exact ⟨hx, h1.1, by simp only; omega⟩
  · refine (writeB_st G p S pg x.ad x.l.length x.cap wr h.fl.st he).mono ?_
    rintro e w1 ⟨rfl, rfl⟩
    refine ⟨wrE S pg x.l.length, rfl, h.fl.bel, h.go hv hvG h.fl (Fr.refl _ _) _ _ _ ?_⟩
    refine (rput_bad _ _ _ _ _ _ _ _ _ _ _ _ _ (by rw [← eE]; exact he)).mono ?_
    rintro e w2 ⟨rfl, hb⟩
    exact ⟨pa, pc, la, lc, R, by rw [eE], hb, h.fl.pr.below hb, h.fl.lr.below hb, h.fl.ln, h.fl.lk, .inl rfl, .inl rfl, h.rel, h.ds, h.dl, h.len, by omega⟩
/-- The same where the document's call answers a store alone. -/
def RefGo1 (w : World) (c p many i v : Nat) (vc : Array Value) (f : Nat) (mk : Value → Array Value) (w1 : World) : Prop :=
  ∃ (pa : Option Addr) (pn pc : Nat) (la : Option Addr) (ln lc : Nat) (st : Int) (dn : Bool), w1.heap[c]? = some (.cells #[.slice pa pn pc, .slice la ln lc, .int .i64 st, .bool dn] 41 (0, 0)) ∧ w1.heap[v]? = some (.cells vc 46 (0, 0)) ∧
    Calls Tryd.prog f (mk (.agg #[.slice pa pn pc, .slice la ln lc, .int .i64 st, .bool dn])) w1 fun e w2 => ∃ (pa' : Option Addr) (pn' pc' : Nat) (la' : Option Addr) (ln' lc' : Nat) (st' : Int) (dn' : Bool), e = .returned (.agg #[.slice pa' pn' pc', .slice la' ln' lc', .int .i64 st', .bool dn']) ∧
      w2.heap[c]? = some (.cells #[.slice pa pn pc, .slice la ln lc, .int .i64 st, .bool dn] 41 (0, 0)) ∧ RI w c p many (set4c w2 c (.slice pa' pn' pc') (.slice la' ln' lc') (.int .i64 st') (.bool dn')) (i + 1)
theorem br_start (h : RIx w c p many G S pa pc la lc R wr i) (hi : i ≤ 100) (hm : 1 ≤ many ∧ many ≤ 100) (hv : wr.heap[v]? = some (.cells vc 46 (0, 0))) (hvG : ¬ G v) (oa : Option Addr) (oc : Nat) (ks : List Int) (hoI : IsL wr oa ks) (ka : Option Addr) (kc : Nat) (hkI : IsL w ka ks) (hks : ks.length ≤ 140737488355328) :
    Calls Tryd.prog 6 #[.pointer (some ⟨p, 0, none⟩), .slice oa ks.length oc] wr fun e w1 => e = .returned (.tuple #[]) ∧ Below w.heap.size w w1 ∧ RefGo1 w c p many i v vc 21 (fun r => #[r, .slice ka ks.length kc]) w1 := by
  have hfew := h.few
  have hlen := h.len
  refine (start_st G p S oa oc ks wr h.fl.st hoI hks).mono ?_
  rintro e w1 ⟨rfl, hS1, hF1⟩
  have hFl := h.fl.keepG hS1 hF1
  have hbw := hFl.bel
  have hkI1 := hkI.keep (w' := w1) fun a e hn => hbw.block _ (hkI.lt e hn)
  refine ⟨rfl, hFl.bel, pa, R.safe.length, pc, la, R.loose.length, lc, R.steps, R.down, hFl.cr, (hF1.block v (lt_of_block hv) hvG).trans hv, ?_⟩
  refine (rstart_any pa pc R.safe la lc R.loose R.steps R.down ka kc ks w1 (by omega) (by omega) hFl.pr hFl.lr (by omega) (fun e he => by have := (h.dl e he).2; omega) hkI1 hks).mono ?_
  rintro e w2 ⟨g, cap, rfl, hrow, hg, hb⟩
  have e1 : (setF (toldK ks) 0 R.loose R.safe).length = R.safe.length := setF_length _ _ _ _
  have hrel : Rel (S.started (toldK ks)) { (R.settled (toldK ks)) with steps := -1, down := false } :=
    ⟨(h.rel.settled (toldK ks)).safe, rfl, rfl, fun _ => .inl ⟨rfl, rfl⟩, h.rel.hs, by simp⟩
  have hgl : g < w2.heap.size := by
    obtain ⟨g2, e2, hl2, _⟩ := hrow (by omega)
    cases e2; exact hl2
  have ht := hFl.turn (R' := { (R.settled (toldK ks)) with steps := -1, down := false }) (pa' := some ⟨g, 0, none⟩) (pc' := cap) (la' := none) (lc' := 0) hb (by
      show RowC w2 _ (setF (toldK ks) 0 R.loose R.safe).length ((setF (toldK ks) 0 R.loose R.safe).map Bs.v)
      rw [e1]; exact hrow) (fun hn => by cases hn) (fun _ => ⟨rfl, rfl⟩) (Nat.zero_le _) (.inr ⟨g, rfl, hg, hgl⟩) (.inr (.inl rfl))
  refine ⟨some ⟨g, 0, none⟩, R.safe.length, cap, none, 0, 0, -1, false, rfl, (hb.block c (lt_of_block hFl.cr)).trans hFl.cr, G, _, some ⟨g, 0, none⟩, cap, none, 0, _, ?_, hrel, dl_settled (toldK ks) h.ds h.dl, (fun e he => by cases he), ?_, Nat.zero_le _⟩
  · have e2 : ({ (R.settled (toldK ks)) with steps := -1, down := false } : St).safe.length = R.safe.length := e1
    rw [e2] at ht
    exact ht
  · show (setF (toldK ks) 0 R.loose R.safe).length = many
    rw [e1]; exact h.len
/-- A page read here and there. -/
def RdGo (w : World) (c p many i : Nat) (wr : World) (E : Int) (l : List Int) (w1 : World) (pg : Int) : Prop :=
  Below wr.heap.size wr w1 ∧ ∃ (pa : Option Addr) (pn pc : Nat) (la : Option Addr) (ln lc : Nat) (st : Int) (dn : Bool), w1.heap[c]? = some (.cells #[.slice pa pn pc, .slice la ln lc, .int .i64 st, .bool dn] 41 (0, 0)) ∧ RI w c p many w1 i ∧
    Calls Tryd.prog 18 #[.agg #[.slice pa pn pc, .slice la ln lc, .int .i64 st, .bool dn], .int .i64 pg] w1 fun e w2 => ∃ x : Bs, x.l = l ∧ DtAt w x ∧ e = .returned (.tuple #[.slice x.ad x.l.length x.cap, .int .i64 E]) ∧ Below w1.heap.size w1 w2
theorem br_read (h : RIx w c p many G S pa pc la lc R wr i) (hi : i ≤ 100) (pg : Int) :
    Calls Tryd.prog 5 #[.pointer (some ⟨p, 0, none⟩), .int .i64 pg] wr fun e w1 => ∃ E ad cap l, e = .returned (.tuple #[.slice ad l.length cap, errV E]) ∧ SlAt w1 ad l.length (fn l) ∧ (ad = none → l.length = 0 ∧ cap = 0) ∧ RdGo w c p many i wr E l w1 pg := by
  have hfew := h.few
  have hlen := h.len
  have hll := h.rel.lens
  have eE : rdE S pg = rrE R.safe.length R.down pg := by unfold rdE rrE; rw [hll.1, h.rel.down]
  by_cases he : rdE S pg = 0
  · have hd : S.down = false := by
      cases hd : S.down with
      | false => rfl
      | true =>
        unfold rdE at he
        rw [hd] at he
        split at he
        · cases he
        · simp at he
    have h1 : 0 ≤ pg ∧ pg < S.safe.length := by
      unfold rdE at he
      split at he
      · cases he
      · rename_i h; exact Classical.not_not.1 h
    have hdR : R.down = false := by rw [← h.rel.down]; exact hd
    refine (read_st G p S pg wr h.fl.st h1 hd).mono ?_
    rintro e w1 ⟨ad, cap, rfl, how⟩
    have hFl := h.fl.below how.below
    refine ⟨0, ad, cap, _, rfl, how.fresh.2.1, how.fresh.2.2.1, how.below, pa, R.safe.length, pc, la, R.loose.length, lc, R.steps, R.down, hFl.cr, ⟨G, S, pa, pc, la, lc, R, hFl, h.rel, h.ds, h.dl, h.len, h.few⟩, ?_⟩
    rw [hdR]
    refine (rread_ok pa pc R.safe la lc R.loose R.steps pg w1 (by omega) hFl.pr hFl.lr (by omega)).mono ?_
    rintro e w2 ⟨rfl, hb⟩
    refine ⟨lastR R.safe R.loose pg, (h.rel.last pg).symm, ?_, rfl, hb⟩
    unfold lastR lastB
    split
    · rename_i x hx2
      have := List.mem_of_find?_eq_some hx2
      exact (h.dl x (by simpa using this)).1
    · cases hs : R.safe[pg.toNat]? with
      | none => exact ⟨SlAt.zero _ _, fun _ => ⟨rfl, rfl⟩, fun y hy => by cases hy⟩
      | some x => exact h.ds x (List.mem_of_getElem? hs)
  · refine (readB_st G p S pg wr h.fl.st he).mono ?_
    rintro e w1 ⟨rfl, rfl⟩
    refine ⟨rdE S pg, none, 0, [], rfl, SlAt.zero _ _, fun _ => ⟨rfl, rfl⟩, Below.refl _ _, pa, R.safe.length, pc, la, R.loose.length, lc, R.steps, R.down, h.fl.cr, ⟨G, S, pa, pc, la, lc, R, h⟩, ?_⟩
    refine (rread_bad _ _ _ _ _ _ _ _ _ _ (by rw [← eE]; exact he)).mono ?_
    rintro e w2 ⟨rfl, hb⟩
    exact ⟨nilBs, rfl, ⟨SlAt.zero _ _, fun _ => ⟨rfl, rfl⟩, fun y hy => by cases hy⟩, by rw [eE]; rfl, hb⟩
theorem RIx.below (h : RIx w c p many G S pa pc la lc R wr i) (hb : Below wr.heap.size wr w1) : RIx w c p many G S pa pc la lc R w1 i := ⟨h.fl.below hb, h.rel, h.ds, h.dl, h.len, h.few⟩
theorem RI.cell (h : RI w c p many wr i) : ∃ (pa : Option Addr) (pn pc : Nat) (la : Option Addr) (ln lc : Nat) (st : Int) (dn : Bool), wr.heap[c]? = some (.cells #[.slice pa pn pc, .slice la ln lc, .int .i64 st, .bool dn] 41 (0, 0)) ∧
    (∀ w', Below wr.heap.size wr w' → Calls Tryd.prog 12 #[.pointer (some ⟨p, 0, none⟩)] w' (fun e w2 => e = .returned (.int .i64 ln) ∧ w2 = w')) ∧ (∀ w', Below wr.heap.size wr w' → Calls Tryd.prog 13 #[.pointer (some ⟨p, 0, none⟩)] w' (fun e w2 => e = .returned (.bool dn) ∧ w2 = w')) ∧
    (∀ w', Below wr.heap.size wr w' → Calls Tryd.prog 11 #[.pointer (some ⟨p, 0, none⟩)] w' (fun e w2 => e = .returned (.int .i64 many) ∧ w2 = w')) := by
  obtain ⟨G, S, pa, pc, la, lc, R, h⟩ := h
  refine ⟨pa, R.safe.length, pc, la, R.loose.length, lc, R.steps, R.down, h.fl.cr, fun w' hb => ?_, fun w' hb => ?_, fun w' hb => ?_⟩
  · have := loose_st G p S w' (h.fl.st.below hb)
    rwa [h.rel.lens.2] at this
  · have := down_st G p S w' (h.fl.st.below hb)
    rwa [h.rel.down] at this
  · have := pages_st G p S w' (h.fl.st.below hb)
    rwa [h.rel.lens.1, h.len] at this
theorem ri_new {wp w1 w2 : World} {n : Nat} (hb0 : Below w.heap.size w wp) (hS : StAt w1 (Gn (fun _ => False) wp w1) (wp.heap.size + 1) (newS n)) (hb1 : Below wp.heap.size wp w1) {pa : Option Addr} (hR : RowC w2 pa n ((newS n).safe.map Bs.v)) (hpa : ∀ a, pa = some a → w1.heap.size ≤ a.block) (hb2 : Below w1.heap.size w1 w2) (hn : 1 ≤ n) :
    RI w w2.heap.size (wp.heap.size + 1) n (w2.alloc (.cells #[.slice pa n n, .slice none 0 0, .int .i64 (-1), .bool false] 41)) 0 := by
  have hz1 := hb1.size
  have hz2 := hb2.size
  have hz0 := hb0.size
  have hbA := (Below.refl w2.heap.size w2).alloc (Nat.le_refl _) (.cells #[.slice pa n n, .slice none 0 0, .int .i64 (-1), .bool false] 41)
  have hlen : (newS n).safe.length = n := by simp [newS]
  refine ⟨Gn (fun _ => False) wp w1, newS n, pa, n, none, 0, { newS n with steps := -1 }, ⟨⟨(hS.below hb2).below hbA, ?_, (fun h => by simp [newS] at h), (fun _ => ⟨rfl, rfl⟩), Nat.zero_le _, fun a e => ?_, (fun a e => by cases e), ?_, fun k g => ?_, by omega, ?_⟩, ⟨rfl, rfl, rfl, fun _ => .inl ⟨rfl, rfl⟩, by simp [newS], by simp⟩, ?_, (fun e he => by cases he), hlen, Nat.zero_le _⟩⟩
  · show RowC _ pa (newS n).safe.length _
    rw [hlen]; exact hR.below hbA
  · have h1 := hpa a e
    obtain ⟨g, e2, hl, _⟩ := hR (by omega)
    rw [e] at e2; cases e2
    refine ⟨fun g2 => ?_, by simp; omega, by simp; omega⟩
    rcases g2 with g2 | g2
    · exact g2
    · simp at h1 g2; omega
  · show _ = some (Obj.cells #[.slice pa (newS n).safe.length n, .slice none 0 0, .int .i64 (-1), .bool false] _ _)
    rw [hlen]; exact heap_alloc_new w2 _
  · rcases g with g | g
    · exact g.elim
    · exact ⟨by omega, by simp; omega, by omega⟩
  · exact ((hb0.trans (hb1.mono hz0)).trans (hb2.mono (by omega))).trans (hbA.mono (by omega))
  · intro x hx
    have : x = nilBs := by simp [newS] at hx; exact hx.2
    subst this
    exact ⟨SlAt.zero _ _, fun _ => ⟨rfl, rfl⟩, fun y hy => by cases hy⟩
end
end Go.Proofs.YtnilgjlccfileaaDoor
