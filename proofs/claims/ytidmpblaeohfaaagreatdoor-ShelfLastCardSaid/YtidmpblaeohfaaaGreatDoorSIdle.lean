/- A store that is not armed, under a Set. -/
import Derived.Test.YtidmpblaeohfaaaGreatDoorSOpen
import Derived.Test.YtidmpblaeohfaaaGreatDoorSKeys
import Derived.Lib.SmallJoins
namespace Go.Proofs.YtidmpblaeohfaaaGreatDoor
open Go.RowKit

/-- Nothing armed, nothing loose. -/
structure Ct.Idle (c : Ct) : Prop where
  armed : c.armed = false
  down : c.down = false
  loose : c.loose = []
  steps : c.steps = 0
theorem newC_idle (n : Nat) : (newC n).Idle := ⟨rfl, rfl, rfl, rfl⟩
theorem Ct.Idle.ok {c : Ct} {n : Nat} (h : c.Idle) (hl : c.safe.length = n) : c.Ok n := ⟨hl, by rw [h.steps]; decide, h.down, by rw [h.loose]; simp⟩
/-- Pages, set one behind the other. -/
def setP : List (Int × List Int) → List (List Int) → List (List Int)
  | [], s => s
  | x :: r, s => setP r (s.set x.1.toNat x.2)
theorem setC_all : ∀ (ws : List (Int × List Int)) (i : Nat) (s : List (List Int)), setC allK i ws s = setP ws s
  | [], _, _ => rfl
  | x :: r, i, s => by rw [setC, setP, if_pos (show allK i = true from rfl), setC_all r]
theorem setP_append (r : List (Int × List Int)) : ∀ (l : List (Int × List Int)) (s : List (List Int)), setP (l ++ r) s = setP r (setP l s)
  | [], _ => rfl
  | x :: l, s => by rw [List.cons_append, setP, setP, setP_append r l]
theorem wrs_unarmed : ∀ (ws : List (Int × List Int)) (c : Ct), c.armed = false → c.wrs ws = (0, { c with loose := c.loose ++ ws })
  | [], c, _ => by simp [Ct.wrs]
  | x :: r, c, h => by
    have e1 : c.stepE = 0 := by simp [Ct.stepE, h]
    have e2 : (c.put x.1 x.2).step = c.put x.1 x.2 := by simp [Ct.step, Ct.put, h]
    rw [Ct.wrs, if_pos e1, e2, wrs_unarmed r (c.put x.1 x.2) h]
    simp [Ct.put]
/-- A store with its pages set. -/
def Ct.laid (c : Ct) (ws : List (Int × List Int)) : Ct := { c with safe := setP ws c.safe, loose := [] }
theorem sync_unarmed {c : Ct} (h : c.armed = false) : c.sync = { c with safe := setP c.loose c.safe, loose := [] } := by
  have e1 : c.stepE = 0 := by simp [Ct.stepE, h]
  have e2 : c.step = c := by simp [Ct.step, h]
  unfold Ct.sync
  rw [if_pos e1, e2]
  simp [Ct.settled, setC_all]
theorem root_unarmed {c : Ct} (h : c.armed = false) (fr : Int) (root : List Int) : c.root fr root = (0, { c with safe := setP (c.loose ++ [(fr, root)]) c.safe, loose := [] }) := by
  have e1 : c.stepE = 0 := by simp [Ct.stepE, h]
  have e2 : (c.put fr root).step = c.put fr root := by simp [Ct.step, Ct.put, h]
  have h3 : (c.put fr root).armed = false := h
  unfold Ct.root
  rw [if_pos e1, e2, sync_unarmed h3]
  simp [Ct.stepE, Ct.put, h]
theorem lay_idle {c : Ct} (h : c.Idle) (ws : List (Int × List Int)) (fr : Int) (root : List Int) : c.lay ws fr root = (0, c.laid (ws ++ [(fr, root)])) := by
  unfold Ct.lay
  rw [wrs_unarmed ws c h.armed, if_pos rfl]
  by_cases hw : ws = []
  · rw [if_pos hw, hw, h.loose]
    have h1 : ({ c with loose := ([] : List (Int × List Int)) ++ [] } : Ct).armed = false := h.armed
    rw [root_unarmed h1]
    rfl
  · rw [if_neg hw]
    have h1 : ({ c with loose := c.loose ++ ws } : Ct).armed = false := h.armed
    have e1 : ({ c with loose := c.loose ++ ws } : Ct).stepE = 0 := by unfold Ct.stepE; rw [if_pos h1]
    dsimp only
    rw [if_pos e1, sync_unarmed h1, root_unarmed (c := { c with safe := setP (c.loose ++ ws) c.safe, loose := [] }) h.armed]
    simp [Ct.laid, setP_append, h.loose]
theorem Ct.Idle.laid {c : Ct} (h : c.Idle) (ws : List (Int × List Int)) : (c.laid ws).Idle := ⟨h.armed, h.down, rfl, h.steps⟩
theorem setP_length : ∀ (ws : List (Int × List Int)) (s : List (List Int)), (setP ws s).length = s.length
  | [], _ => rfl
  | x :: r, s => by rw [setP, setP_length r]; simp
theorem Ct.Idle.last {c : Ct} (h : c.Idle) (pg : Int) : c.last pg = (c.safe[pg.toNat]?).getD [] := by
  unfold Ct.last
  rw [h.loose]
  rfl
/-- The error, the leaves and the store of a Set on an idle store. -/
def setI (fr n : Nat) (L : List Lf) (c : Ct) (cs : List Cg) : Int × List Lf × Ct :=
  match layL (todoL L cs) with
  | none => (2, L, c)
  | some ls => if (frN L n).length < ls.length then (10, L, c) else if (todoL L cs).length = 0 then (0, L, c)
    else (0, behL (todoL L cs) (frN L n) L, c.laid (wsOf fr ls (frN L n) ++ [((fr : Int), rootB (behL (todoL L cs) (frN L n) L))]))
theorem setO_idle {c : Ct} (h : c.Idle) (fr n : Nat) (L : List Lf) (cs : List Cg) : setO fr n L 0 c cs = ((setI fr n L c cs).1, (setI fr n L c cs).2.1, 0, (setI fr n L c cs).2.2) := by
  unfold setO setI
  rw [if_pos rfl]
  cases layL (todoL L cs) with
  | none => rfl
  | some ls =>
    simp only [lay_idle h, if_true]
    split
    · rfl
    · split <;> rfl
theorem setI_idle {c : Ct} (h : c.Idle) (fr n : Nat) (L : List Lf) (cs : List Cg) : (setI fr n L c cs).2.2.Idle := by
  unfold setI
  split
  · exact h
  · split
    · exact h
    · split
      · exact h
      · exact h.laid _
theorem srtI_up {l : List Int} (h : l.Pairwise (· ≤ ·)) : srtI l = l := List.mergeSort_of_pairwise (h.imp fun {_ _} hab => decide_eq_true hab)
/-- A store all whose blocks are of A. -/
def StU (A : Nat → Prop) (w : World) (p N : Nat) (c : Ct) : Prop := ∃ G : Nat → Prop, CtAt w G p c ∧ (∀ k, G k → A k ∧ k < w.heap.size) ∧ c.safe.length = N ∧ c.Idle
/-- A shelf on an idle store, all of whose blocks are of A. -/
def ShU (A : Nat → Prop) (w : World) (sh p fr n N : Nat) (L : List Lf) (c : Ct) : Prop := ∃ (G : Nat → Prop) (m : Nat), ShS w G sh m p fr n N L 0 c ∧ (∀ k, G k → A k) ∧ A sh ∧ A m ∧ c.Idle
section
variable {A A' : Nat → Prop} {p fr n N sh : Nat} {L : List Lf} {c : Ct} {w w' : World}
theorem StU.below (h : StU A w p N c) (hb : Below w.heap.size w w') : StU A w' p N c := by
  obtain ⟨G, h1, h2, h3, h4⟩ := h
  exact ⟨G, h1.below hb, fun k hk => ⟨(h2 k hk).1, by have := (h2 k hk).2; have := hb.size; omega⟩, h3, h4⟩
theorem StU.mono (h : StU A w p N c) (ha : ∀ k, k < w.heap.size → A k → A' k) : StU A' w p N c := by
  obtain ⟨G, h1, h2, h3, h4⟩ := h
  exact ⟨G, h1, fun k hk => ⟨ha k (h2 k hk).2 (h2 k hk).1, (h2 k hk).2⟩, h3, h4⟩
theorem ShU.below (h : ShU A w sh p fr n N L c) (hb : Below w.heap.size w w') : ShU A w' sh p fr n N L c := by
  obtain ⟨G, m, h1, h2, h3, h4, h5⟩ := h
  exact ⟨G, m, ⟨h1.at_.below hb, h1.st.below hb, h1.nsh, h1.nm, fun k hk => Nat.lt_of_lt_of_le (h1.lt k hk) hb.size, h1.len, h1.fit, h1.ne⟩, h2, h3, h4, h5⟩
theorem ShU.mono (h : ShU A w sh p fr n N L c) (ha : ∀ k, k < w.heap.size → A k → A' k) : ShU A' w sh p fr n N L c := by
  obtain ⟨G, m, h1, h2, h3, h4, h5⟩ := h
  exact ⟨G, m, h1, fun k hk => ha k (h1.lt k hk) (h2 k hk), ha sh h1.at_.lt h3, ha m h1.at_.ltm h4, h5⟩
theorem ShU.store (h : ShU A w sh p fr n N L c) : StU A w p N c := by
  obtain ⟨G, m, h1, h2, h3, h4, h5⟩ := h
  exact ⟨G, h1.st, fun k hk => ⟨h2 k hk, h1.lt k hk⟩, h1.len, h5⟩
end
theorem newU (n : Nat) (h1 : 1 ≤ n) (h2 : n ≤ 4096) (w : World) : Calls Tryz.prog 9 #[.int .i64 (n : Int)] w fun e w' => ∃ p, e = .returned (.tuple #[.pointer (some ⟨p, 0, none⟩), .nilIface]) ∧ StU (w.heap.size ≤ ·) w' p n (newC n) ∧ Below w.heap.size w w' := by
  refine (new_ct n h1 h2 w).mono ?_
  rintro e w' ⟨p, rfl, ⟨G, h3, h4, h5⟩, h6⟩
  refine ⟨p, rfl, ⟨G, h3, fun k hk => ?_, by simp [newC], newC_idle n⟩, h6⟩
  rcases h4 k hk with h | h
  · exact h.elim
  · exact ⟨h.1, h.2⟩
theorem openU (A : Nat → Prop) (p fr n N : Nat) (c : Ct) (w : World) (h : StU A w p N c) (hA : ∀ k, w.heap.size ≤ k → A k) (hN : fr + n ≤ N) (hn : 2 ≤ n ∧ n ≤ 1024) : Calls Tryz.prog 11 #[.pointer (some ⟨p, 0, none⟩), .agg #[.int .i64 (fr : Int), .int .i64 (n : Int)]] w fun e w' => ((openR c fr n = none ∧ e = .returned (.tuple #[.pointer none, .iface 72 (.int .i64 14)])) ∨ ∃ L sh, openR c fr n = some L ∧ e = .returned (.tuple #[.pointer (some ⟨sh, 0, none⟩), .nilIface]) ∧ ShU A w' sh p fr n N L c) ∧ Below w.heap.size w w' := by
  obtain ⟨G, h1, h2, h3, h4⟩ := h
  refine (open_any G p fr n N c w h1 (h4.ok h3) hN hn).mono ?_
  rintro e w' ⟨h5 | ⟨L, sh, m, h6, rfl, h7, h8, h9⟩, hb⟩
  · exact ⟨.inl h5, hb⟩
  · refine ⟨.inr ⟨L, sh, h6, rfl, G, m, ⟨h7, h1.below hb, fun k => ?_, fun k => ?_, fun k hk => ?_, h3, hN, fun e => ?_⟩, fun k hk => (h2 k hk).1, hA _ h8, hA _ h9, h4⟩, hb⟩
    · have := (h2 _ k).2; omega
    · have := (h2 _ k).2; omega
    · have := (h2 _ hk).2; have := hb.size; omega
    · obtain ⟨es, cl, hb, _⟩ := h7.map
      rw [← e, h7.cells] at hb; cases hb
/-- Open where the leaves are known. -/
theorem openU_some (A : Nat → Prop) (p fr n N : Nat) (c : Ct) (L : List Lf) (w : World) (h : StU A w p N c) (hA : ∀ k, w.heap.size ≤ k → A k) (hN : fr + n ≤ N) (hn : 2 ≤ n ∧ n ≤ 1024) (hL : openR c fr n = some L) : Calls Tryz.prog 11 #[.pointer (some ⟨p, 0, none⟩), .agg #[.int .i64 (fr : Int), .int .i64 (n : Int)]] w fun e w' => ∃ sh, e = .returned (.tuple #[.pointer (some ⟨sh, 0, none⟩), .nilIface]) ∧ ShU A w' sh p fr n N L c ∧ Below w.heap.size w w' := by
  refine (openU A p fr n N c w h hA hN hn).mono ?_
  rintro e w' ⟨⟨h1, _⟩ | ⟨L', sh, h1, rfl, h2⟩, hb⟩
  · rw [hL] at h1; cases h1
  · rw [hL] at h1; cases h1; exact ⟨sh, rfl, h2, hb⟩
theorem setU (A : Nat → Prop) (sh p fr n N : Nat) (L : List Lf) (c : Ct) (ad : Option Addr) (cap : Nat) (cs : List Cg) (w : World) (h : ShU A w sh p fr n N L c) (hA : ∀ k, w.heap.size ≤ k → A k) (hc : CgAt w ad cs) (hok : COk cs) : Calls Tryz.prog 16 #[.pointer (some ⟨sh, 0, none⟩), .slice ad cs.length cap] w fun e w' => e = .returned (errV (setI fr n L c cs).1) ∧ ShU A w' sh p fr n N (setI fr n L c cs).2.1 (setI fr n L c cs).2.2 ∧ Fr A w w' := by
  obtain ⟨G, m, h1, h2, h3, h4, h5⟩ := h
  refine (set_any G sh m p fr n N L 0 c ad cap cs w h1 (fun _ => h5.down) (by rw [h5.steps]; decide) (by rw [h5.loose]; simp) hc hok).mono ?_
  rw [setO_idle h5]
  rintro e w' ⟨rfl, G', m', h6, h7, h8, h9⟩
  refine ⟨rfl, ⟨G', m', h6, fun k hk => ?_, h3, ?_, setI_idle h5 _ _ _ _⟩, h9.mono fun k _ hk => ?_⟩
  · rcases h7 k hk with h | h
    · exact h2 k h
    · exact hA k h
  · rcases h8 with rfl | h
    · exact h4
    · exact hA _ h
  · rcases hk with h | rfl
    · exact h2 k h
    · exact h3
theorem getU (A : Nat → Prop) (sh p fr n N : Nat) (L : List Lf) (c : Ct) (k : List UInt8) (w : World) (h : ShU A w sh p fr n N L c) (hk : k.length ≤ maxLen) : Calls Tryz.prog 15 #[.pointer (some ⟨sh, 0, none⟩), encStr k] w fun e w' => e = .returned (.tuple #[encStr (valK k L), .bool (getK Lf.k k L).isSome]) ∧ Below w.heap.size w w' := by
  obtain ⟨G, m, h1, _⟩ := h
  exact get_any sh m p fr n L 0 k w h1.at_ hk
theorem freeU (A : Nat → Prop) (sh p fr n N : Nat) (L : List Lf) (c : Ct) (w : World) (h : ShU A w sh p fr n N L c) : Calls Tryz.prog 18 #[.pointer (some ⟨sh, 0, none⟩)] w fun e w' => e = .returned (.int .i64 (frL L n).length) ∧ Below w.heap.size w w' := by
  obtain ⟨G, m, h1, _⟩ := h
  exact free_cnt sh m p fr n L 0 w h1.at_
/-- Keys: a slice of so many, new or none. -/
theorem keysU (A : Nat → Prop) (sh p fr n N : Nat) (L : List Lf) (c : Ct) (w : World) (h : ShU A w sh p fr n N L c) : Calls Tryz.prog 17 #[.pointer (some ⟨sh, 0, none⟩)] w fun e w' => ∃ v, e = .returned v ∧ StrR w w' v (L.map Lf.k) := by
  obtain ⟨G, m, h1, _⟩ := h
  exact keysS_any sh m p fr n L 0 w h1.at_
theorem keysN (A : Nat → Prop) (sh p fr n N : Nat) (L : List Lf) (c : Ct) (w : World) (h : ShU A w sh p fr n N L c) : Calls Tryz.prog 17 #[.pointer (some ⟨sh, 0, none⟩)] w fun e w' => ∃ ad cap, e = .returned (.slice ad L.length cap) ∧ Below w.heap.size w w' := by
  refine (keysU A sh p fr n N L c w h).mono ?_
  rintro e w' ⟨v, rfl, h1, h2⟩
  rcases Joins.ownsRow_forms h1 with ⟨rfl, h3⟩ | ⟨g, cap, rfl⟩
  · simp at h3
    exact ⟨none, 0, by simp [h3], h2⟩
  · exact ⟨some ⟨g, 0, none⟩, cap, by simp, h2⟩
/-- Changes in a block of their own. -/
theorem flat_get : ∀ (cs : List Cg) (j : Nat) (x : Cg), cs[j]? = some x → (cs.flatMap cgL)[j * 3]? = some (encStr x.k) ∧ (cs.flatMap cgL)[j * 3 + 1]? = some (encStr x.v) ∧ (cs.flatMap cgL)[j * 3 + 2]? = some (.bool x.g)
  | [], j, x, h => by cases j <;> cases h
  | y :: r, 0, x, h => by cases h; exact ⟨rfl, rfl, rfl⟩
  | y :: r, j + 1, x, h => by
    have ih := flat_get r j x h
    have e : ∀ q, ((y :: r).flatMap cgL)[(j + 1) * 3 + q]? = (r.flatMap cgL)[j * 3 + q]? := fun q => by
      rw [List.flatMap_cons, List.getElem?_append_right (by simp [cgL]; omega)]
      congr 1
      simp [cgL]; omega
    exact ⟨(e 0).trans ih.1, (e 1).trans ih.2.1, (e 2).trans ih.2.2⟩
theorem CgAt.new (cs : List Cg) (w : World) (T : TypeId) (z : Nat × Nat) : CgAt (w.alloc (.cells (cs.flatMap cgL).toArray T z)) (some ⟨w.heap.size, 0, none⟩) cs := fun _ => by
  refine ⟨w.heap.size, 0, rfl, fun j x hx => ?_⟩
  have h := flat_get cs j x hx
  have e : ∀ q, (w.alloc (.cells (cs.flatMap cgL).toArray T z)).cell? ⟨w.heap.size, q, none⟩ = (cs.flatMap cgL)[q]? := fun q => by
    rw [cell_of_row _ _ _ _ _ _ (heap_alloc_new w (.cells (cs.flatMap cgL).toArray T z))]
    simp
  simp only [Nat.zero_add, e]
  exact h
def cgA1 : Cg := ⟨[97], [49], false⟩
def cgB1 : Cg := ⟨[98], [], false⟩
def cgC1 : Cg := ⟨[97], [], false⟩
def cgD1 : Cg := ⟨[98], [50], false⟩
def lfs1 : List Lf := [⟨[97], 1, [49]⟩, ⟨[98], 2, []⟩]
def ct1 : Ct := ⟨[[], [], [1, 2, 1, 1, 1, 2], [97, 0, 0, 49, 0, 0], [98, 0, 0, 0, 0], [], [], [], []], [], false, 0, false⟩
theorem root1 : rootB lfs1 = [1, 2, 1, 1, 1, 2] := by
  have e : plI lfs1 = [1, 2] := srtI_up (l := [1, 2]) (by simp)
  have e2 : uB (lfs1.length : Int) ++ uBs [1, 2] = [1, 2, 1, 1, 1, 2] := by kernel_rfl
  rw [rootB, e, e2]
theorem sure1 : openR (newC 9) 2 4 = some [] := by kernel_rfl
theorem sure2 : setI 2 4 [] (newC 9) [cgA1, cgB1] = (0, lfs1, ct1) := by
  have e : setI 2 4 [] (newC 9) [cgA1, cgB1] = (0, lfs1, (newC 9).laid ([(3, [97, 0, 0, 49, 0, 0]), (4, [98, 0, 0, 0, 0])] ++ [(2, rootB lfs1)])) := by kernel_rfl
  have e2 : (newC 9).laid ([(3, [97, 0, 0, 49, 0, 0]), (4, [98, 0, 0, 0, 0])] ++ [(2, [1, 2, 1, 1, 1, 2])]) = ct1 := by kernel_rfl
  rw [e, root1, e2]
theorem sure3 : setI 2 4 lfs1 ct1 [cgC1, cgD1] = (10, lfs1, ct1) := by kernel_rfl
theorem sure4 : openR ct1 2 4 = some lfs1 := by kernel_rfl
theorem sure5 : (frL lfs1 4).length = 1 := by kernel_rfl
theorem sure6 : valK [97] lfs1 = [49] ∧ (getK Lf.k [97] lfs1).isSome = true := ⟨by kernel_rfl, by kernel_rfl⟩
end Go.Proofs.YtidmpblaeohfaaaGreatDoor
