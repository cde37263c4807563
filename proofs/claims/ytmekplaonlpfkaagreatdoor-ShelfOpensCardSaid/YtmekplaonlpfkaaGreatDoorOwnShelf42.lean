/- A Set on a store that may crash within it; leaves with the same keys and values. -/
import Derived.Test.YtmekplaonlpfkaaGreatDoorOwnShelf32
import Derived.Test.YtmekplaonlpfkaaGreatDoorOwnShelf41
import Derived.Test.YtmekplaonlpfkaaGreatDoorOwnShelf33
import Derived.Test.YtmekplaonlpfkaaGreatDoorOwnShelf20
namespace Go.Proofs.YtmekplaonlpfkaaGreatDoor
open Go.RowKit Go.Maps Go.Sort

/-- The same leaves and the same error as the program's. -/
theorem setD_setI {n : Nat} {L : List Lf} (h : LOk n L) (fr : Nat) (c : Ct) (cs : List Cg) : (setD n L cs).1 = (setI fr n L c cs).2.1 ∧ (setD n L cs).2.2.2 = (setI fr n L c cs).1 := by
  have hf := frN_length h
  have e : n - 1 - L.length = (frN L n).length := by omega
  unfold setD setI
  rw [e]
  cases layL (todoL L cs) with
  | none => exact ⟨rfl, rfl⟩
  | some ls =>
    simp only
    split
    · exact ⟨rfl, rfl⟩
    · split
      · rename_i h0
        have h1 : todoL L cs = [] := List.eq_nil_of_length_eq_zero h0
        rw [h1]
        exact ⟨rfl, rfl⟩
      · exact ⟨rfl, rfl⟩
/-- A store that is up, with nothing loose. -/
structure Ct.Rest (c : Ct) (N : Nat) : Prop where
  len : c.safe.length = N
  loose : c.loose = []
  down : c.down = false
  steps : 0 ≤ c.steps ∧ c.steps < 9223372036854775808
theorem Ct.Rest.ok {c : Ct} {N : Nat} (h : c.Rest N) : c.Ok N := ⟨h.len, h.steps, h.down, by rw [h.loose]; simp⟩
theorem newC_rest (n : Nat) : (newC n).Rest n := ⟨by simp [newC], rfl, rfl, ⟨Int.le_refl 0, by show (0 : Int) < _; decide⟩⟩
theorem last_rest {c : Ct} (h : c.loose = []) (pg : Int) : c.last pg = (c.safe[pg.toNat]?).getD [] := by
  unfold Ct.last
  rw [h]
  rfl
theorem step_ok {c : Ct} (hE : c.stepE = 0) (h0 : 0 ≤ c.steps) : ∃ s, c.step = { c with steps := s } ∧ 0 ≤ s ∧ s ≤ c.steps := by
  unfold Ct.stepE at hE
  unfold Ct.step
  by_cases h1 : c.armed = false
  · rw [if_pos h1]; exact ⟨c.steps, rfl, h0, Int.le_refl _⟩
  · rw [if_neg h1] at hE ⊢
    by_cases h2 : 0 < c.steps
    · rw [if_pos h2]; exact ⟨_, rfl, by omega, by omega⟩
    · rw [if_neg h2] at hE; cases hE
theorem step_bad {c : Ct} (hE : c.stepE ≠ 0) : c.stepE = 13 ∧ c.step = { c with down := true } := by
  unfold Ct.stepE at hE ⊢
  unfold Ct.step
  by_cases h1 : c.armed = false
  · rw [if_pos h1] at hE; exact absurd rfl hE
  · rw [if_neg h1] at hE ⊢
    rw [if_neg h1]
    by_cases h2 : 0 < c.steps
    · rw [if_pos h2] at hE; exact absurd rfl hE
    · rw [if_neg h2, if_neg h2]; exact ⟨rfl, rfl⟩
theorem wrs_cases : ∀ (ws : List (Int × List Int)) (c : Ct), 0 ≤ c.steps →
    (∃ s, c.wrs ws = (0, { c with loose := c.loose ++ ws, steps := s }) ∧ 0 ≤ s ∧ s ≤ c.steps) ∨ (∃ j s, c.wrs ws = (13, { c with loose := c.loose ++ ws.take j, steps := s, down := true }) ∧ 0 ≤ s ∧ s ≤ c.steps)
  | [], c, h0 => .inl ⟨c.steps, by simp [Ct.wrs], h0, Int.le_refl _⟩
  | x :: r, c, h0 => by
    rw [Ct.wrs]
    by_cases hE : c.stepE = 0
    · rw [if_pos hE]
      obtain ⟨s, h1, h2, h3⟩ := step_ok (c := c.put x.1 x.2) hE h0
      rw [h1]
      have h3' : s ≤ c.steps := h3
      rcases wrs_cases r { c.put x.1 x.2 with steps := s } h2 with ⟨s', h4, h5, h6⟩ | ⟨j, s', h4, h5, h6⟩
      · refine .inl ⟨s', ?_, h5, Int.le_trans h6 h3'⟩
        rw [h4]; simp [Ct.put]
      · refine .inr ⟨j + 1, s', ?_, h5, Int.le_trans h6 h3'⟩
        rw [h4]; simp [Ct.put]
    · rw [if_neg hE]
      obtain ⟨h1, h2⟩ := step_bad (c := c.put x.1 x.2) hE
      refine .inr ⟨1, c.steps, ?_, h0, Int.le_refl _⟩
      have h1' : c.stepE = 13 := h1
      rw [h2, h1']; simp [Ct.put]
theorem root_cases (c : Ct) (fr : Int) (root : List Int) (hl : c.loose = []) (h0 : 0 ≤ c.steps) :
    (∃ s, c.root fr root = (0, { c with safe := setP [(fr, root)] c.safe, steps := s }) ∧ 0 ≤ s ∧ s ≤ c.steps) ∨ (∃ s, c.root fr root = (13, { c with loose := [(fr, root)], steps := s, down := true }) ∧ 0 ≤ s ∧ s ≤ c.steps) := by
  unfold Ct.root
  by_cases hE : c.stepE = 0
  · rw [if_pos hE]
    obtain ⟨s, h1, h2, h3⟩ := step_ok (c := c.put fr root) hE h0
    have h3' : s ≤ c.steps := h3
    rw [h1]
    obtain ⟨c1, hc1⟩ : ∃ c1, ({ c.put fr root with steps := s } : Ct) = c1 := ⟨_, rfl⟩
    have hs1 : c1.steps = s := by rw [← hc1]
    by_cases hE1 : c1.stepE = 0
    · obtain ⟨s', h4, h5, h6⟩ := step_ok (c := c1) hE1 (by omega)
      refine .inl ⟨s', ?_, h5, by omega⟩
      rw [hc1]
      unfold Ct.sync
      rw [if_pos hE1, hE1, h4, ← hc1]
      simp [Ct.settled, Ct.put, setC_all, hl]
    · obtain ⟨h4, h5⟩ := step_bad (c := c1) hE1
      refine .inr ⟨s, ?_, h2, h3'⟩
      rw [hc1]
      unfold Ct.sync
      rw [if_neg hE1, h4, h5, ← hc1]
      simp [Ct.put, hl]
  · rw [if_neg hE]
    obtain ⟨h1, h2⟩ := step_bad (c := c.put fr root) hE
    have h1' : c.stepE = 13 := h1
    refine .inr ⟨c.steps, ?_, h0, Int.le_refl _⟩
    rw [h2, h1']; simp [Ct.put, hl]
theorem lay_cases (c : Ct) (ws : List (Int × List Int)) (fr : Int) (root : List Int) (hl : c.loose = []) (h0 : 0 ≤ c.steps) :
    (∃ s, c.lay ws fr root = (0, { c with safe := setP (ws ++ [(fr, root)]) c.safe, steps := s }) ∧ 0 ≤ s ∧ s ≤ c.steps)
    ∨ (∃ j s, c.lay ws fr root = (13, { c with loose := ws.take j, steps := s, down := true }) ∧ 0 ≤ s ∧ s ≤ c.steps)
    ∨ (∃ s, c.lay ws fr root = (13, { c with safe := setP ws c.safe, loose := [(fr, root)], steps := s, down := true }) ∧ 0 ≤ s ∧ s ≤ c.steps) := by
  unfold Ct.lay
  rcases wrs_cases ws c h0 with ⟨s, h1, h2, h3⟩ | ⟨j, s, h1, h2, h3⟩
  · rw [h1]
    rw [if_pos rfl]
    by_cases hw : ws = []
    · rw [if_pos hw]
      rcases root_cases { c with loose := c.loose ++ ws, steps := s } fr root (by simp [hl, hw]) h2 with ⟨s', h4, h5, h6⟩ | ⟨s', h4, h5, h6⟩
      · refine .inl ⟨s', ?_, h5, Int.le_trans h6 h3⟩
        dsimp only
        rw [h4]; simp [hl, hw]
      · refine .inr (.inr ⟨s', ?_, h5, Int.le_trans h6 h3⟩)
        dsimp only
        rw [h4]; simp [hw, setP]
    · rw [if_neg hw]
      dsimp only
      obtain ⟨c1, hc1⟩ : ∃ c1, ({ c with loose := c.loose ++ ws, steps := s } : Ct) = c1 := ⟨_, rfl⟩
      rw [hc1]
      have hs1 : c1.steps = s := by rw [← hc1]
      by_cases hE1 : c1.stepE = 0
      · rw [if_pos hE1]
        obtain ⟨s', h4, h5, h6⟩ := step_ok (c := c1) hE1 (by omega)
        have hsy : c1.sync = { c with safe := setP ws c.safe, loose := [], steps := s' } := by
          unfold Ct.sync
          rw [if_pos hE1, h4, ← hc1]
          simp [Ct.settled, setC_all, hl]
        rw [hsy]
        rcases root_cases { c with safe := setP ws c.safe, loose := [], steps := s' } fr root rfl h5 with ⟨s2, h7, h8, h9⟩ | ⟨s2, h7, h8, h9⟩
        · refine .inl ⟨s2, ?_, h8, by have : s2 ≤ s' := h9; omega⟩
          rw [h7]; simp [setP_append, hl]
        · refine .inr (.inr ⟨s2, ?_, h8, by have : s2 ≤ s' := h9; omega⟩)
          rw [h7]
      · rw [if_neg hE1]
        obtain ⟨h4, h5⟩ := step_bad (c := c1) hE1
        refine .inr (.inl ⟨ws.length, s, ?_, h2, h3⟩)
        unfold Ct.sync
        rw [if_neg hE1, h4, h5, ← hc1]
        simp [hl]
  · rw [h1]
    rw [if_neg (show ¬ ((13 : Int) = 0) by decide)]
    exact .inr (.inl ⟨j, s, by simp [hl], h2, h3⟩)
theorem setC_off (K : Nat → Bool) : ∀ (ws : List (Int × List Int)) (i : Nat) (s : List (List Int)) (j : Nat), (∀ x ∈ ws, x.1.toNat ≠ j) → (setC K i ws s)[j]? = s[j]?
  | [], _, _, _, _ => rfl
  | x :: r, i, s, j, h => by
    rw [setC, setC_off K r _ _ j (fun y hy => h y (List.mem_cons_of_mem _ hy))]
    split
    · rw [List.getElem?_set_ne (h x (List.mem_cons_self ..))]
    · rfl
theorem Laid.off {c c' : Ct} {fr n : Nat} {L : List Lf} (h : Laid c fr n L) (hl : c.loose = []) (hl' : c'.loose = []) (hs : ∀ j, (j = fr ∨ ∃ x ∈ L, j = fr + x.p) → c'.safe[j]? = c.safe[j]?) : Laid c' fr n L := by
  have e : ∀ j : Nat, (j = fr ∨ ∃ x ∈ L, j = fr + x.p) → c'.last (j : Int) = c.last (j : Int) := fun j hj => by
    rw [last_rest hl, last_rest hl', Int.toNat_natCast, hs j hj]
  refine ⟨?_, fun x hx => by rw [e _ (.inr ⟨x, hx, rfl⟩)]; exact h.leaf x hx⟩
  rw [e fr (.inl rfl)]
  exact h.root
/-- The pages behind all writes of a Set. -/
theorem laid_done {c : Ct} {fr n N : Nat} {L : List Lf} (cs : List Cg) (hl : c.loose = []) (hlen : c.safe.length = N) (hN : fr + n ≤ N) (hL : LOk n L) (hn : 2 ≤ n) (h : Laid c fr n L) {ls : List (List Int)} (hls : layL (todoL L cs) = some ls) (hf : ¬ (frN L n).length < ls.length) (h0 : ¬ (todoL L cs).length = 0) {c' : Ct} (hl' : c'.loose = []) (hs' : c'.safe = setP (wsOf fr ls (frN L n) ++ [((fr : Int), rootB (behL (todoL L cs) (frN L n) L))]) c.safe) : Laid c' fr n (behL (todoL L cs) (frN L n) L) := by
  have hi : (⟨c.safe, [], false, 0, false⟩ : Ct).Idle := ⟨rfl, rfl, rfl, rfl⟩
  have h1 : Laid ⟨c.safe, [], false, 0, false⟩ fr n L := h.off hl rfl fun _ _ => rfl
  have h2 := setI_laid cs hi hlen hN hL hn h1
  have e : setI fr n L ⟨c.safe, [], false, 0, false⟩ cs = (0, behL (todoL L cs) (frN L n) L, (⟨c.safe, [], false, 0, false⟩ : Ct).laid (wsOf fr ls (frN L n) ++ [((fr : Int), rootB (behL (todoL L cs) (frN L n) L))])) := by
    unfold setI
    rw [hls]
    simp only [if_neg hf, if_neg h0]
  rw [e] at h2
  exact h2.off rfl hl' fun j _ => by rw [hs']; rfl
theorem ws_off {fr n : Nat} {L : List Lf} {ls : List (List Int)} {x : Int × List Int} (hx : x ∈ wsOf fr ls (frN L n)) {j : Nat} (hj : j = fr ∨ ∃ y ∈ L, j = fr + y.p) : x.1.toNat ≠ j := by
  obtain ⟨q, hq, e⟩ := mem_wsOf hx
  have hq2 := mem_frN.1 hq
  rw [e, Int.toNat_natCast]
  intro e2
  rcases hj with rfl | ⟨y, hy, rfl⟩
  · omega
  · have : q = y.p := by omega
    subst this
    exact hq2.2 (List.mem_map.2 ⟨y, hy, rfl⟩)
/-- What a Set leaves, on a store that may crash. -/
theorem setO_rest {c : Ct} {fr n N : Nat} {L : List Lf} (cs : List Cg) (hr : c.Rest N) (hN : fr + n ≤ N) (hL : LOk n L) (hn : 2 ≤ n) (h : Laid c fr n L) :
    ((setO fr n L 0 c cs).1 = (setD n L cs).2.2.2 ∧ (setO fr n L 0 c cs).2.1 = (setD n L cs).1 ∧ (setO fr n L 0 c cs).2.2.1 = 0 ∧ (setO fr n L 0 c cs).2.2.2.Rest N ∧ Laid (setO fr n L 0 c cs).2.2.2 fr n (setD n L cs).1)
    ∨ ((setO fr n L 0 c cs).1 = 13 ∧ (setO fr n L 0 c cs).2.1 = L ∧ (setO fr n L 0 c cs).2.2.1 = 13 ∧ (setO fr n L 0 c cs).2.2.2.down = true ∧ (setO fr n L 0 c cs).2.2.2.safe.length = N ∧ ∀ K, ((setO fr n L 0 c cs).2.2.2.started K).Rest N ∧ (Laid ((setO fr n L 0 c cs).2.2.2.started K) fr n L ∨ Laid ((setO fr n L 0 c cs).2.2.2.started K) fr n (setD n L cs).1)) := by
  have hf := frN_length hL
  have e : n - 1 - L.length = (frN L n).length := by omega
  unfold setO setD
  rw [if_pos rfl, e]
  cases hls : layL (todoL L cs) with
  | none => exact .inl ⟨(by first | exact rfl | exact trivial), (by first | exact rfl | exact trivial), (by first | exact rfl | exact trivial), hr, h⟩
  | some ls =>
    simp only
    by_cases h1 : (frN L n).length < ls.length
    · simp only [if_pos h1]; exact .inl ⟨(by first | exact rfl | exact trivial), (by first | exact rfl | exact trivial), (by first | exact rfl | exact trivial), hr, h⟩
    · simp only [if_neg h1]
      by_cases h2 : (todoL L cs).length = 0
      · simp only [if_pos h2]
        have h3 : todoL L cs = [] := List.eq_nil_of_length_eq_zero h2
        rw [h3]
        exact .inl ⟨(by first | exact rfl | exact trivial), (by first | exact rfl | exact trivial), (by first | exact rfl | exact trivial), hr, h⟩
      · simp only [if_neg h2]
        have hk := fun c' => laid_done (c' := c') cs hr.loose hr.len hN hL hn h hls h1 h2
        obtain ⟨R, hR⟩ : ∃ R, behL (todoL L cs) (frN L n) L = R := ⟨_, rfl⟩
        obtain ⟨ws, hws⟩ : ∃ ws, wsOf fr ls (frN L n) = ws := ⟨_, rfl⟩
        have hoff : ∀ x ∈ ws, ∀ j, (j = fr ∨ ∃ y ∈ L, j = fr + y.p) → x.1.toNat ≠ j := fun x hx j hj => ws_off (hws ▸ hx) hj
        rw [hR, hws] at hk
        rw [hR, hws]
        have hst := hr.steps
        rcases lay_cases c ws (fr : Int) (rootB R) hr.loose hst.1 with ⟨s, e1, e2, e3⟩ | ⟨j, s, e1, e2, e3⟩ | ⟨s, e1, e2, e3⟩
        · rw [e1]
          simp only [if_true]
          exact .inl ⟨(by first | exact rfl | exact trivial), (by first | exact rfl | exact trivial), (by first | exact rfl | exact trivial), ⟨by rw [setP_length]; exact hr.len, hr.loose, hr.down, e2, by show s < 9223372036854775808; omega⟩, hk _ hr.loose rfl⟩
        · rw [e1]
          have h13 : ¬ ((13 : Int) = 0) := by decide
          simp only [if_neg h13]
          refine .inr ⟨(by first | exact rfl | exact trivial), (by first | exact rfl | exact trivial), (by first | exact rfl | exact trivial), (by first | exact rfl | exact trivial), hr.len, fun K => ⟨⟨by simp [Ct.started, Ct.settled, setC_length, hr.len], rfl, rfl, e2, by show s < 9223372036854775808; omega⟩, .inl ?_⟩⟩
          refine h.off hr.loose rfl fun j' hj => ?_
          simp only [Ct.started, Ct.settled]
          exact setC_off K _ _ _ _ fun x hx => hoff x (List.mem_of_mem_take hx) j' hj
        · rw [e1]
          have h13 : ¬ ((13 : Int) = 0) := by decide
          simp only [if_neg h13]
          refine .inr ⟨(by first | exact rfl | exact trivial), (by first | exact rfl | exact trivial), (by first | exact rfl | exact trivial), (by first | exact rfl | exact trivial), by rw [setP_length]; exact hr.len, fun K => ⟨⟨by simp [Ct.started, Ct.settled, setC_length, setP_length, hr.len], rfl, rfl, e2, by show s < 9223372036854775808; omega⟩, ?_⟩⟩
          by_cases hK : K 0 = true
          · refine .inr (hk _ rfl ?_)
            simp [Ct.started, Ct.settled, setC, hK, setP_append, setP]
          · refine .inl (h.off hr.loose rfl fun j' hj => ?_)
            simp only [Ct.started, Ct.settled, setC, if_neg hK]
            exact setP_off _ _ _ fun x hx => hoff x hx j' hj
theorem setD_ok {n : Nat} {L : List Lf} (h : LOk n L) (cs : List Cg) : LOk n (setD n L cs).1 := by
  have hf := frN_length h
  unfold setD
  cases hls : layL (todoL L cs) with
  | none => exact h
  | some ls =>
    simp only
    split
    · exact h
    · rename_i h1
      refine behL_ok _ _ _ (BOk.start h) ?_ (layL_len hls)
      rw [← layL_n hls]; omega
/-- Pairs alone. -/
def behP : List Cg → List (List UInt8 × List UInt8) → List (List UInt8 × List UInt8)
  | [], P => P
  | c :: r, P => if c.g then behP r (delK Prod.fst c.k P) else behP r (putK Prod.fst (c.k, c.v) (delK Prod.fst c.k P))
theorem kvs_del (k : List UInt8) (L : List Lf) : kvs (delK Lf.k k L) = delK Prod.fst k (kvs L) := by
  unfold kvs delK
  rw [List.filter_map]
  rfl
theorem kvs_ins (x : Lf) : ∀ L : List Lf, kvs (insK Lf.k x L) = insK Prod.fst (x.k, x.v) (kvs L)
  | [] => rfl
  | y :: r => by
    have ih := kvs_ins x r
    show kvs (insK Lf.k x (y :: r)) = insK Prod.fst (x.k, x.v) ((y.k, y.v) :: kvs r)
    rw [insK, insK]
    split
    · rfl
    · rw [← ih]; rfl
theorem kvs_put (x : Lf) (L : List Lf) : kvs (putK Lf.k x L) = putK Prod.fst (x.k, x.v) (kvs L) := by
  unfold putK
  rw [kvs_ins, kvs_del]
theorem kvs_beh : ∀ (C : List Cg) (f : List Nat) (L : List Lf), kvs (behL C f L) = behP C (kvs L)
  | [], _, _ => rfl
  | c :: r, f, L => by
    rw [behL, behP]
    split
    · rw [kvs_beh, kvs_del]
    · rw [kvs_beh, kvs_put, kvs_del]
theorem getK_kvs (k : List UInt8) : ∀ L : List Lf, (getK Lf.k k L).map (fun x => (x.k, x.v)) = getK Prod.fst k (kvs L)
  | [] => rfl
  | x :: r => by
    have ih := getK_kvs k r
    unfold getK kvs at *
    rw [List.map_cons, List.find?_cons, List.find?_cons]
    by_cases h : (x.k == k) = true
    · simp [h]
    · simp only [h]
      exact ih
theorem sameC_kvs {L M : List Lf} (h : kvs L = kvs M) (c : Cg) : sameC L c = sameC M c := by
  have e := getK_kvs c.k L
  rw [h, ← getK_kvs c.k M] at e
  unfold sameC
  cases h1 : getK Lf.k c.k L with
  | none =>
    cases h2 : getK Lf.k c.k M with
    | none => rfl
    | some y => rw [h1, h2] at e; cases e
  | some x =>
    cases h2 : getK Lf.k c.k M with
    | none => rw [h1, h2] at e; cases e
    | some y =>
      rw [h1, h2] at e
      simp only [Option.map_some, Option.some.injEq, Prod.mk.injEq] at e
      simp only [e.2]
theorem setD_kvs {n : Nat} {L M : List Lf} (h : kvs L = kvs M) (cs : List Cg) : kvs (setD n L cs).1 = kvs (setD n M cs).1 ∧ (setD n L cs).2.2.2 = (setD n M cs).2.2.2 := by
  have et : todoL L cs = todoL M cs := by
    unfold todoL
    congr 1
    funext c
    rw [sameC_kvs h]
  have el : L.length = M.length := by rw [← kvs_length L, h, kvs_length]
  unfold setD
  rw [et, el]
  cases layL (todoL M cs) with
  | none => exact ⟨h, rfl⟩
  | some ls =>
    simp only
    split
    · exact ⟨h, rfl⟩
    · exact ⟨by rw [kvs_beh, kvs_beh, h], rfl⟩
end Go.Proofs.YtmekplaonlpfkaaGreatDoor
/- The document's changes: rows of one's own (made by tools/mkdoc.py). -/
namespace Go.Proofs.YtmekplaonlpfkaaGreatDoor
open Go.RowKit Go.Maps Go.Sort

theorem flatC_get3 (L : List Cg) (j : Nat) (x : Cg) (h : L[j]? = some x) : (flatC L)[j * 3]? = some (encStr x.k) ∧ (flatC L)[j * 3 + 1]? = some (encStr x.v) ∧ (flatC L)[j * 3 + 2]? = some (.bool x.g) := ⟨flatC_get L j 0 x h (by omega), flatC_get L j 1 x h (by omega), flatC_get L j 2 x h (by omega)⟩
theorem flatC_at {L : List Cg} {j : Nat} {u : Value} (h : (flatC L)[j]? = some u) : ∃ x, L[j / 3]? = some x ∧ ((j % 3 = 0 ∧ u = encStr x.k) ∨ (j % 3 = 1 ∧ u = encStr x.v) ∨ (j % 3 = 2 ∧ u = .bool x.g)) := by
  have hj : j < (flatC L).length := (List.getElem?_eq_some_iff.1 h).1
  rw [flatC_length] at hj
  have hx : L[j / 3]? = some L[j / 3] := List.getElem?_eq_getElem (by omega)
  refine ⟨_, hx, ?_⟩
  have hg := flatC_get3 L (j / 3) _ hx
  have e3 : j = j / 3 * 3 + j % 3 := by omega
  have hm : j % 3 = 0 ∨ j % 3 = 1 ∨ j % 3 = 2 := by omega
  rcases hm with hm | hm | hm
  · refine .inl ⟨hm, ?_⟩
    rw [hm] at e3; rw [e3, Nat.add_zero, hg.1] at h
    exact (Option.some.inj h).symm
  · refine .inr (.inl ⟨hm, ?_⟩)
    rw [hm] at e3; rw [e3, hg.2.1] at h
    exact (Option.some.inj h).symm
  · refine .inr (.inr ⟨hm, ?_⟩)
    rw [hm] at e3; rw [e3, hg.2.2] at h
    exact (Option.some.inj h).symm
/-- A value that owns leaves, made since w0. -/
structure ChOw (w0 w : World) (v : Value) (L : List Cg) : Prop where
  own : w.ownsRow w0.heap.size 114 3 v L.length (flatC L)
  below : Below w0.heap.size w0 w
theorem ChOw.nil' {w0 w : World} (h : Below w0.heap.size w0 w) : ChOw w0 w (.slice none 0 0) [] := ⟨World.ownsRow_nil _ _ _ _, h⟩
theorem ChOw.keep {w0 w w' : World} {v : Value} {L : List Cg} (h : ChOw w0 w v L) (hb : Below w.heap.size w w') : ChOw w0 w' v L :=
  ⟨owns_row_keep h.own fun k e => hb.block k (h.own.lt k e).2, Below.transS h.below hb⟩
theorem ChOw.mono {w w0 w1 : World} {v : Value} {L : List Cg} (h : ChOw w0 w1 v L) (hb : Below w.heap.size w w0) : ChOw w w1 v L := by
  refine ⟨⟨h.own.1, ?_⟩, hb.trans (h.below.mono hb.size)⟩
  rcases h.own.2 with hn | ⟨g, cap, cur, e, hbs, rest⟩
  · exact .inl hn
  · exact .inr ⟨g, cap, cur, e, Nat.le_trans hb.size hbs, rest⟩
theorem ChOw.sl {w0 w : World} {v : Value} {L : List Cg} (h : ChOw w0 w v L) : ∃ ad cap, v = .slice ad L.length cap ∧ L.length ≤ cap ∧ CgAt w ad L ∧ (∀ a, ad = some a → w0.heap.size ≤ a.block ∧ a.block < w.heap.size) := by
  rcases h.own.2 with ⟨rfl, e⟩ | ⟨g, cap, cur, rfl, hbs, hg, hcap, _⟩
  · exact ⟨none, 0, by rw [e], by omega, (fun hn => by omega), fun a e => by cases e⟩
  · refine ⟨_, cap, rfl, hcap, fun _ => ⟨g, 0, rfl, fun j x hx => ?_⟩, fun a e => by cases e; exact ⟨hbs, lt_of_block hg⟩⟩
    have hf := flatC_get3 L j x hx
    have hc := h.own.cells (g := g) rfl
    simp only [Addr.add_lit] at hc
    exact ⟨hc _ _ hf.1, by rw [Nat.add_assoc]; exact hc _ _ hf.2.1, by rw [Nat.add_assoc]; exact hc _ _ hf.2.2⟩
theorem infoCh : (Tryz.prog.info? 114).map (fun i => (i.zero, i.size, i.bytes)) = some (some (.agg #[.string ⟨#[]⟩, .string ⟨#[]⟩, .bool false]), 3, 40) := by kernel_rfl
theorem run_append_Ch {w0 w : World} {v : Value} {L ys : List Cg} {ad : Option Addr} {c : Nat} (h : ChOw w0 w v L) (hs : CgAt w ad ys) (hnil : ad = none → ys = []) (hn : L.length + ys.length ≤ 100000) (ty : TypeId) :
    ∃ v' w1, (Builtin.append_ #[51, 51] ty #[v, .slice ad ys.length c]).run Tryz.prog w = .ok v' w1 ∧ ChOw w0 w1 v' (L ++ ys) ∧ (∀ k, k < w.heap.size → v.ownBlock ≠ some k → w1.heap[k]? = w.heap[k]?) := by
  obtain ⟨i0, hi0, hz0, hz1, hz2⟩ := info_parts infoCh
  cases ad with
  | none =>
    obtain rfl := hnil rfl
    refine ⟨v, w, ?_, by simpa using h, fun _ _ _ => rfl⟩
    rcases h.own.2 with ⟨rfl, hl⟩ | ⟨g, cap, cur, rfl, hbs, hg, hcap, _⟩
    · simp [Builtin.append_, run_underlying Tryz.underlying51, sizeOf, typeInfo, hi0, Builtin.lenOf, Builtin.firstCells]
    · have := run_append_room_src (P := Tryz.prog) w 51 51 ty 114 i0 Tryz.underlying51 hi0 g 0 L.length cap (.slice none 0 c) 0 [] (Src.ofNil w Tryz.underlying51 c) (by omega) (fun j hj => by simp at hj) (fun j hj => by simp at hj)
      simpa [World.setCells] using this
  | some a =>
    obtain ⟨v', w1, h1, h2, h3, _, _⟩ := run_append_own_at (P := Tryz.prog) w w0.heap.size 51 ty 114 i0 (.agg #[.string ⟨#[]⟩, .string ⟨#[]⟩, .bool false]) 3 40 Tryz.underlying51 hi0 hz0 hz1 hz2 rfl (by decide) v L.length (flatC L) h.own a ys.length c (flatC ys) (flatC_length ys)
      (fun j u hj => by
        obtain ⟨x, hx, hu⟩ := flatC_at hj
        have hp : 0 < ys.length := by have := (List.getElem?_eq_some_iff.1 hx).1; omega
        obtain ⟨b, off, e, hc⟩ := hs hp
        cases e
        rw [Addr.add_lit]
        obtain ⟨c0, c1, c2⟩ := hc _ _ hx
        rcases hu with ⟨hm, rfl⟩ | ⟨hm, rfl⟩ | ⟨hm, rfl⟩
        · have : off + j / 3 * 3 = off + j := by omega
          rw [this] at c0; exact c0
        · have : off + j / 3 * 3 + 1 = off + j := by omega
          rw [this] at c1; exact c1
        · have : off + j / 3 * 3 + 2 = off + j := by omega
          rw [this] at c2; exact c2)
      (fun u hu => by
        obtain ⟨x, _, hx⟩ := List.mem_flatMap.1 hu
        simp [cgL] at hx
        rcases hx with rfl | rfl | rfl <;> rfl) (by unfold maxLen; omega) (by omega) h.below.size
    refine ⟨v', w1, h1, ⟨by rw [flatC_append, List.length_append]; exact h2, h.below.grown h3 h.below.size (fun k e => (h.own.lt k e).1)⟩, fun k hk hne => h3.block k hk (fun e => hne e.symm)⟩
theorem wpList_append_Ch {ops : Array Oper} {rest : List Oper} {o : Oper} {a : Act} {w : World} {Q : Exit → Act → World → Prop} (hgd : o.guard = none) (s x : Operand) (ho : o.op = .call { callee := .builtin .append, args := #[s, x], argTypes := #[51, 51] })
    (w0 : World) (v : Value) (L ys : List Cg) (ad : Option Addr) (c : Nat) (hs : a.eval s = v) (hx : a.eval x = .slice ad ys.length c) (h : ChOw w0 w v L) (hr : CgAt w ad ys) (hnil : ad = none → ys = []) (hn : L.length + ys.length ≤ 100000)
    (hk : ∀ v' w1, ChOw w0 w1 v' (L ++ ys) → wpList Tryz.prog ops Q rest (a.put o.dst v') w1) : wpList Tryz.prog ops Q (o :: rest) a w := by
  obtain ⟨v', w1, hrun, h2, _⟩ := run_append_Ch (c := c) h hr hnil hn o.type
  refine wpList_plain hgd fun K hK => ?_
  unfold Oper.wp execOp
  simp only [ho, resolve, invoke, builtin, Sem.run_bind, Sem.run_pure, Result.andThen_ok, List.map_toArray, List.map_cons, List.map_nil, hs, hx, hrun]
  exact hK _ _ (hk v' w1 h2)
theorem CgAt.one (x : Cg) (w : World) : CgAt (w.alloc (.cells #[encStr x.k, encStr x.v, .bool x.g] 114)) (some ⟨w.heap.size, 0, none⟩) [x] := fun _ => by
  refine ⟨w.heap.size, 0, rfl, fun j y hy => ?_⟩
  have hj : j = 0 := by have := (List.getElem?_eq_some_iff.1 hy).1; simp at this; omega
  subst hj
  cases hy
  exact ⟨by simp, by simp, by simp⟩
section
variable {ops : Array Oper} {o : Oper} {a : Act} {w : World} {K : Act → World → Prop} {Q : Exit → Act → World → Prop} {E : Prop}
theorem step_append_Ch (hgd : o.guard = none) (s x : Operand) (ho : o.op = .call { callee := .builtin .append, args := #[s, x], argTypes := #[51, 51] })
    (w0 : World) (v : Value) (L ys : List Cg) (ad : Option Addr) (c : Nat) (hs : a.eval s = v) (hx : a.eval x = .slice ad ys.length c) (hown : ChOw w0 w v L) (hr : CgAt w ad ys) (hnil : ad = none → ys = []) (hn : L.length + ys.length ≤ 100000)
    (h : ∀ v' w1, ChOw w0 w1 v' (L ++ ys) → (∀ k, k < w.heap.size → v.ownBlock ≠ some k → w1.heap[k]? = w.heap[k]?) → K (a.put o.dst v') w1) : if Region.wanted o (yielded ops a.tmps) = true then Oper.wp Tryz.prog o a w K Q else E := by
  have hw : Region.wanted o (yielded ops a.tmps) = true := by simp [Region.wanted, hgd]
  rw [if_pos hw]
  obtain ⟨v', w1, hrun, h2, h3⟩ := run_append_Ch (c := c) hown hr hnil hn o.type
  unfold Oper.wp execOp
  simp only [ho, resolve, invoke, builtin, Sem.run_bind, Sem.run_pure, Result.andThen_ok, List.map_toArray, List.map_cons, List.map_nil, hs, hx, hrun]
  exact h v' w1 h2 h3
theorem slice_ch (k v : List UInt8) (p : Bool) (w : World) : (Instr.buildSlice 51 1 #[(0, .agg #[encStr k, encStr v, .bool p])]).run Tryz.prog w = .ok (.slice (some ⟨w.heap.size, 0, none⟩) 1 1) (w.alloc (.cells #[encStr k, encStr v, .bool p] 114)) := by kernel_rfl
theorem step_sliceCh (hgd : o.guard = none) (x : Operand) (ho : o.op = .buildSlice 51 1 #[(0, x)]) (k v : List UInt8) (p : Bool) (hx : a.eval x = .agg #[encStr k, encStr v, .bool p])
    (h : K (a.put o.dst (.slice (some ⟨w.heap.size, 0, none⟩) 1 1)) (w.alloc (.cells #[encStr k, encStr v, .bool p] 114))) : if Region.wanted o (yielded ops a.tmps) = true then Oper.wp Tryz.prog o a w K Q else E := by
  have hw : Region.wanted o (yielded ops a.tmps) = true := by simp [Region.wanted, hgd]
  rw [if_pos hw]
  unfold Oper.wp execOp
  simp only [ho, List.map_toArray, List.map_cons, List.map_nil, hx, Sem.run_bind, slice_ch, Result.andThen]
  exact h
end
theorem CgAt.take {w : World} {ad : Option Addr} {L : List Cg} (h : CgAt w ad L) (i : Nat) : CgAt w ad (L.take i) := fun hn => by
  have hp : 0 < L.length := by rw [List.length_take] at hn; omega
  obtain ⟨b, off, rfl, hc⟩ := h hp
  refine ⟨b, off, rfl, fun j x hx => hc j x ?_⟩
  rw [List.getElem?_take] at hx
  split at hx
  · exact hx
  · cases hx
theorem CgAt.drop {w : World} {b off : Nat} {L : List Cg} (h : CgAt w (some ⟨b, off, none⟩) L) (i : Nat) : CgAt w (some ⟨b, off + i * 3, none⟩) (L.drop i) := fun hn => by
  have hp : 0 < L.length := by rw [List.length_drop] at hn; omega
  obtain ⟨b', off', e, hc⟩ := h hp
  cases e
  refine ⟨b, off + i * 3, rfl, fun j x hx => ?_⟩
  rw [List.getElem?_drop] at hx
  have e1 : off + (i + j) * 3 = off + i * 3 + j * 3 := by omega
  have := hc (i + j) x hx
  rwa [e1] at this
theorem ChOw.block {w w1 : World} {v : Value} {L : List Cg} (h : ChOw w w1 v L) : ∀ k, v.ownBlock = some k → w.heap.size ≤ k := fun k e => (h.own.lt k e).1
/-- Where a change is put. -/
theorem insC_at {x : Cg} : ∀ {L : List Cg} {i : Nat}, i ≤ L.length → (∀ y ∈ L.take i, bytesBefore y.k x.k = true) → (∀ y, L[i]? = some y → bytesBefore y.k x.k = false) → (∀ y ∈ L, y.k ≠ x.k) → insK Cg.k x L = L.take i ++ x :: L.drop i
  | [], i, hi, _, _, _ => by
    have : i = 0 := by simp at hi; exact hi
    subst this; rfl
  | y :: r, 0, _, _, h2, h3 => by
    have h4 := h2 y rfl
    have h5 := before_of_not h4 (h3 y (List.mem_cons_self ..))
    unfold insK
    rw [if_pos h5]; rfl
  | y :: r, i + 1, hi, h1, h2, h3 => by
    have h4 := h1 y (by simp)
    have h5 : bytesBefore x.k y.k = false := by
      cases e : bytesBefore x.k y.k with
      | false => rfl
      | true =>
        rw [before_lt, decide_eq_true_iff] at e h4
        exact absurd (List.lt_trans e h4) (List.lt_irrefl _)
    have ih := insC_at (L := r) (i := i) (x := x) (by simpa using hi) (fun z hz => h1 z (by simp [hz])) (fun z hz => h2 z (by simpa using hz)) (fun z hz => h3 z (List.mem_cons_of_mem _ hz))
    unfold insK
    rw [if_neg (by simp [h5]), ih]
    rfl
end Go.Proofs.YtmekplaonlpfkaaGreatDoor
