/- A store that is not armed, under a Set. -/
import Derived.Test.YtbfajoeilpkofaaGreatDoorOwnShelf30
import Derived.Test.YtbfajoeilpkofaaGreatDoorOwnShelf27
import Derived.Lib.SmallJoins
import Derived.Test.YtbfajoeilpkofaaGreatDoorOwnShelf03
import Derived.Maps.AppendAt
namespace Go.Proofs.YtbfajoeilpkofaaGreatDoor
open Go.RowKit

/-- Nothing armed, nothing loose. -/
structure Ct.Idle (c : Ct) : Prop where
  armed : c.armed = false
  down : c.down = false
  loose : c.loose = []
  steps : c.steps = 0
theorem newC_idle (n : Nat) : (newC n).Idle := ⟨rfl, rfl, rfl, rfl⟩
theorem Ct.Idle.ok {c : Ct} {n : Nat} (h : c.Idle) (hl : c.safe.length = n) : c.Ok n := ⟨hl, by rw [h.steps]; decide, h.down, by rw [h.loose]; simp⟩
/-- Pages, set one behind the other. -/
def setP : List (Int × List Int) → List (List Int) → List (List Int)
  | [], s => s
  | x :: r, s => setP r (s.set x.1.toNat x.2)
theorem setC_all : ∀ (ws : List (Int × List Int)) (i : Nat) (s : List (List Int)), setC allK i ws s = setP ws s
  | [], _, _ => rfl
  | x :: r, i, s => by rw [setC, setP, if_pos (show allK i = true from rfl), setC_all r]
theorem setP_append (r : List (Int × List Int)) : ∀ (l : List (Int × List Int)) (s : List (List Int)), setP (l ++ r) s = setP r (setP l s)
  | [], _ => rfl
  | x :: l, s => by rw [List.cons_append, setP, setP, setP_append r l]
theorem wrs_unarmed : ∀ (ws : List (Int × List Int)) (c : Ct), c.armed = false → c.wrs ws = (0, { c with loose := c.loose ++ ws })
  | [], c, _ => by simp [Ct.wrs]
  | x :: r, c, h => by
    have e1 : c.stepE = 0 := by simp [Ct.stepE, h]
    have e2 : (c.put x.1 x.2).step = c.put x.1 x.2 := by simp [Ct.step, Ct.put, h]
    rw [Ct.wrs, if_pos e1, e2, wrs_unarmed r (c.put x.1 x.2) h]
    simp [Ct.put]
/-- A store with its pages set. -/
def Ct.laid (c : Ct) (ws : List (Int × List Int)) : Ct := { c with safe := setP ws c.safe, loose := [] }
theorem sync_unarmed {c : Ct} (h : c.armed = false) : c.sync = { c with safe := setP c.loose c.safe, loose := [] } := by
  have e1 : c.stepE = 0 := by simp [Ct.stepE, h]
  have e2 : c.step = c := by simp [Ct.step, h]
  unfold Ct.sync
  rw [if_pos e1, e2]
  simp [Ct.settled, setC_all]
theorem root_unarmed {c : Ct} (h : c.armed = false) (fr : Int) (root : List Int) : c.root fr root = (0, { c with safe := setP (c.loose ++ [(fr, root)]) c.safe, loose := [] }) := by
  have e1 : c.stepE = 0 := by simp [Ct.stepE, h]
  have e2 : (c.put fr root).step = c.put fr root := by simp [Ct.step, Ct.put, h]
  have h3 : (c.put fr root).armed = false := h
  unfold Ct.root
  rw [if_pos e1, e2, sync_unarmed h3]
  simp [Ct.stepE, Ct.put, h]
theorem lay_idle {c : Ct} (h : c.Idle) (ws : List (Int × List Int)) (fr : Int) (root : List Int) : c.lay ws fr root = (0, c.laid (ws ++ [(fr, root)])) := by
  unfold Ct.lay
  rw [wrs_unarmed ws c h.armed, if_pos rfl]
  by_cases hw : ws = []
  · rw [if_pos hw, hw, h.loose]
    have h1 : ({ c with loose := ([] : List (Int × List Int)) ++ [] } : Ct).armed = false := h.armed
    rw [root_unarmed h1]
    rfl
  · rw [if_neg hw]
    have h1 : ({ c with loose := c.loose ++ ws } : Ct).armed = false := h.armed
    have e1 : ({ c with loose := c.loose ++ ws } : Ct).stepE = 0 := by unfold Ct.stepE; rw [if_pos h1]
    dsimp only
    rw [if_pos e1, sync_unarmed h1, root_unarmed (c := { c with safe := setP (c.loose ++ ws) c.safe, loose := [] }) h.armed]
    simp [Ct.laid, setP_append, h.loose]
theorem Ct.Idle.laid {c : Ct} (h : c.Idle) (ws : List (Int × List Int)) : (c.laid ws).Idle := ⟨h.armed, h.down, rfl, h.steps⟩
theorem setP_length : ∀ (ws : List (Int × List Int)) (s : List (List Int)), (setP ws s).length = s.length
  | [], _ => rfl
  | x :: r, s => by rw [setP, setP_length r]; simp
theorem Ct.Idle.last {c : Ct} (h : c.Idle) (pg : Int) : c.last pg = (c.safe[pg.toNat]?).getD [] := by
  unfold Ct.last
  rw [h.loose]
  rfl
/-- The error, the leaves and the store of a Set on an idle store. -/
def setI (fr n : Nat) (L : List Lf) (c : Ct) (cs : List Cg) : Int × List Lf × Ct :=
  match layL (todoL L cs) with
  | none => (2, L, c)
  | some ls => if (frN L n).length < ls.length then (10, L, c) else if (todoL L cs).length = 0 then (0, L, c)
    else (0, behL (todoL L cs) (frN L n) L, c.laid (wsOf fr ls (frN L n) ++ [((fr : Int), rootB (behL (todoL L cs) (frN L n) L))]))
theorem setO_idle {c : Ct} (h : c.Idle) (fr n : Nat) (L : List Lf) (cs : List Cg) : setO fr n L 0 c cs = ((setI fr n L c cs).1, (setI fr n L c cs).2.1, 0, (setI fr n L c cs).2.2) := by
  unfold setO setI
  rw [if_pos rfl]
  cases layL (todoL L cs) with
  | none => rfl
  | some ls =>
    simp only [lay_idle h, if_true]
    split
    · rfl
    · split <;> rfl
theorem setI_idle {c : Ct} (h : c.Idle) (fr n : Nat) (L : List Lf) (cs : List Cg) : (setI fr n L c cs).2.2.Idle := by
  unfold setI
  split
  · exact h
  · split
    · exact h
    · split
      · exact h
      · exact h.laid _
theorem srtI_up {l : List Int} (h : l.Pairwise (· ≤ ·)) : srtI l = l := List.mergeSort_of_pairwise (h.imp fun {_ _} hab => decide_eq_true hab)
/-- A store all whose blocks are of A. -/
def StU (A : Nat → Prop) (w : World) (p N : Nat) (c : Ct) : Prop := ∃ G : Nat → Prop, CtAt w G p c ∧ (∀ k, G k → A k ∧ k < w.heap.size) ∧ c.safe.length = N ∧ c.Idle
/-- A shelf on an idle store, all of whose blocks are of A. -/
def ShU (A : Nat → Prop) (w : World) (sh p fr n N : Nat) (L : List Lf) (c : Ct) : Prop := ∃ (G : Nat → Prop) (m : Nat), ShS w G sh m p fr n N L 0 c ∧ (∀ k, G k → A k) ∧ A sh ∧ A m ∧ c.Idle
section
variable {A A' : Nat → Prop} {p fr n N sh : Nat} {L : List Lf} {c : Ct} {w w' : World}
theorem StU.below (h : StU A w p N c) (hb : Below w.heap.size w w') : StU A w' p N c := by
  obtain ⟨G, h1, h2, h3, h4⟩ := h
  exact ⟨G, h1.below hb, fun k hk => ⟨(h2 k hk).1, by have := (h2 k hk).2; have := hb.size; omega⟩, h3, h4⟩
theorem StU.mono (h : StU A w p N c) (ha : ∀ k, k < w.heap.size → A k → A' k) : StU A' w p N c := by
  obtain ⟨G, h1, h2, h3, h4⟩ := h
  exact ⟨G, h1, fun k hk => ⟨ha k (h2 k hk).2 (h2 k hk).1, (h2 k hk).2⟩, h3, h4⟩
theorem ShU.below (h : ShU A w sh p fr n N L c) (hb : Below w.heap.size w w') : ShU A w' sh p fr n N L c := by
  obtain ⟨G, m, h1, h2, h3, h4, h5⟩ := h
  exact ⟨G, m, ⟨h1.at_.below hb, h1.st.below hb, h1.nsh, h1.nm, fun k hk => Nat.lt_of_lt_of_le (h1.lt k hk) hb.size, h1.len, h1.fit, h1.ne⟩, h2, h3, h4, h5⟩
theorem ShU.mono (h : ShU A w sh p fr n N L c) (ha : ∀ k, k < w.heap.size → A k → A' k) : ShU A' w sh p fr n N L c := by
  obtain ⟨G, m, h1, h2, h3, h4, h5⟩ := h
  exact ⟨G, m, h1, fun k hk => ha k (h1.lt k hk) (h2 k hk), ha sh h1.at_.lt h3, ha m h1.at_.ltm h4, h5⟩
theorem ShU.store (h : ShU A w sh p fr n N L c) : StU A w p N c := by
  obtain ⟨G, m, h1, h2, h3, h4, h5⟩ := h
  exact ⟨G, h1.st, fun k hk => ⟨h2 k hk, h1.lt k hk⟩, h1.len, h5⟩
end
theorem newU (n : Nat) (h1 : 1 ≤ n) (h2 : n ≤ 4096) (w : World) : Calls Tryz.prog 9 #[.int .i64 (n : Int)] w fun e w' => ∃ p, e = .returned (.tuple #[.pointer (some ⟨p, 0, none⟩), .nilIface]) ∧ StU (w.heap.size ≤ ·) w' p n (newC n) ∧ Below w.heap.size w w' := by
  refine (new_ct n h1 h2 w).mono ?_
  rintro e w' ⟨p, rfl, ⟨G, h3, h4, h5⟩, h6⟩
  refine ⟨p, rfl, ⟨G, h3, fun k hk => ?_, by simp [newC], newC_idle n⟩, h6⟩
  rcases h4 k hk with h | h
  · exact h.elim
  · exact ⟨h.1, h.2⟩
theorem openU (A : Nat → Prop) (p fr n N : Nat) (c : Ct) (w : World) (h : StU A w p N c) (hA : ∀ k, w.heap.size ≤ k → A k) (hN : fr + n ≤ N) (hn : 2 ≤ n ∧ n ≤ 1024) : Calls Tryz.prog 11 #[.pointer (some ⟨p, 0, none⟩), .agg #[.int .i64 (fr : Int), .int .i64 (n : Int)]] w fun e w' => ((openR c fr n = none ∧ e = .returned (.tuple #[.pointer none, .iface 72 (.int .i64 14)])) ∨ ∃ L sh, openR c fr n = some L ∧ e = .returned (.tuple #[.pointer (some ⟨sh, 0, none⟩), .nilIface]) ∧ ShU A w' sh p fr n N L c) ∧ Below w.heap.size w w' := by
  obtain ⟨G, h1, h2, h3, h4⟩ := h
  refine (open_any G p fr n N c w h1 (h4.ok h3) hN hn).mono ?_
  rintro e w' ⟨h5 | ⟨L, sh, m, h6, rfl, h7, h8, h9⟩, hb⟩
  · exact ⟨.inl h5, hb⟩
  · refine ⟨.inr ⟨L, sh, h6, rfl, G, m, ⟨h7, h1.below hb, fun k => ?_, fun k => ?_, fun k hk => ?_, h3, hN, fun e => ?_⟩, fun k hk => (h2 k hk).1, hA _ h8, hA _ h9, h4⟩, hb⟩
    · have := (h2 _ k).2; omega
    · have := (h2 _ k).2; omega
    · have := (h2 _ hk).2; have := hb.size; omega
    · obtain ⟨es, cl, hb, _⟩ := h7.map
      rw [← e, h7.cells] at hb; cases hb
/-- Open where the leaves are known. -/
theorem openU_some (A : Nat → Prop) (p fr n N : Nat) (c : Ct) (L : List Lf) (w : World) (h : StU A w p N c) (hA : ∀ k, w.heap.size ≤ k → A k) (hN : fr + n ≤ N) (hn : 2 ≤ n ∧ n ≤ 1024) (hL : openR c fr n = some L) : Calls Tryz.prog 11 #[.pointer (some ⟨p, 0, none⟩), .agg #[.int .i64 (fr : Int), .int .i64 (n : Int)]] w fun e w' => ∃ sh, e = .returned (.tuple #[.pointer (some ⟨sh, 0, none⟩), .nilIface]) ∧ ShU A w' sh p fr n N L c ∧ Below w.heap.size w w' := by
  refine (openU A p fr n N c w h hA hN hn).mono ?_
  rintro e w' ⟨⟨h1, _⟩ | ⟨L', sh, h1, rfl, h2⟩, hb⟩
  · rw [hL] at h1; cases h1
  · rw [hL] at h1; cases h1; exact ⟨sh, rfl, h2, hb⟩
theorem setU (A : Nat → Prop) (sh p fr n N : Nat) (L : List Lf) (c : Ct) (ad : Option Addr) (cap : Nat) (cs : List Cg) (w : World) (h : ShU A w sh p fr n N L c) (hA : ∀ k, w.heap.size ≤ k → A k) (hc : CgAt w ad cs) (hok : COk cs) : Calls Tryz.prog 16 #[.pointer (some ⟨sh, 0, none⟩), .slice ad cs.length cap] w fun e w' => e = .returned (errV (setI fr n L c cs).1) ∧ ShU A w' sh p fr n N (setI fr n L c cs).2.1 (setI fr n L c cs).2.2 ∧ Fr A w w' := by
  obtain ⟨G, m, h1, h2, h3, h4, h5⟩ := h
  refine (set_any G sh m p fr n N L 0 c ad cap cs w h1 (fun _ => h5.down) (by rw [h5.steps]; decide) (by rw [h5.loose]; simp) hc hok).mono ?_
  rw [setO_idle h5]
  rintro e w' ⟨rfl, G', m', h6, h7, h8, h9⟩
  refine ⟨rfl, ⟨G', m', h6, fun k hk => ?_, h3, ?_, setI_idle h5 _ _ _ _⟩, h9.mono fun k _ hk => ?_⟩
  · rcases h7 k hk with h | h
    · exact h2 k h
    · exact hA k h
  · rcases h8 with rfl | h
    · exact h4
    · exact hA _ h
  · rcases hk with h | rfl
    · exact h2 k h
    · exact h3
theorem getU (A : Nat → Prop) (sh p fr n N : Nat) (L : List Lf) (c : Ct) (k : List UInt8) (w : World) (h : ShU A w sh p fr n N L c) (hk : k.length ≤ maxLen) : Calls Tryz.prog 15 #[.pointer (some ⟨sh, 0, none⟩), encStr k] w fun e w' => e = .returned (.tuple #[encStr (valK k L), .bool (getK Lf.k k L).isSome]) ∧ Below w.heap.size w w' := by
  obtain ⟨G, m, h1, _⟩ := h
  exact get_any sh m p fr n L 0 k w h1.at_ hk
theorem freeU (A : Nat → Prop) (sh p fr n N : Nat) (L : List Lf) (c : Ct) (w : World) (h : ShU A w sh p fr n N L c) : Calls Tryz.prog 18 #[.pointer (some ⟨sh, 0, none⟩)] w fun e w' => e = .returned (.int .i64 (frL L n).length) ∧ Below w.heap.size w w' := by
  obtain ⟨G, m, h1, _⟩ := h
  exact free_cnt sh m p fr n L 0 w h1.at_
/-- Keys: a slice of so many, new or none. -/
theorem keysU (A : Nat → Prop) (sh p fr n N : Nat) (L : List Lf) (c : Ct) (w : World) (h : ShU A w sh p fr n N L c) : Calls Tryz.prog 17 #[.pointer (some ⟨sh, 0, none⟩)] w fun e w' => ∃ v, e = .returned v ∧ StrR w w' v (L.map Lf.k) := by
  obtain ⟨G, m, h1, _⟩ := h
  exact keysS_any sh m p fr n L 0 w h1.at_
theorem keysN (A : Nat → Prop) (sh p fr n N : Nat) (L : List Lf) (c : Ct) (w : World) (h : ShU A w sh p fr n N L c) : Calls Tryz.prog 17 #[.pointer (some ⟨sh, 0, none⟩)] w fun e w' => ∃ ad cap, e = .returned (.slice ad L.length cap) ∧ Below w.heap.size w w' := by
  refine (keysU A sh p fr n N L c w h).mono ?_
  rintro e w' ⟨v, rfl, h1, h2⟩
  rcases Joins.ownsRow_forms h1 with ⟨rfl, h3⟩ | ⟨g, cap, rfl⟩
  · simp at h3
    exact ⟨none, 0, by simp [h3], h2⟩
  · exact ⟨some ⟨g, 0, none⟩, cap, by simp, h2⟩
/-- Changes in a block of their own. -/
theorem flat_get : ∀ (cs : List Cg) (j : Nat) (x : Cg), cs[j]? = some x → (cs.flatMap cgL)[j * 3]? = some (encStr x.k) ∧ (cs.flatMap cgL)[j * 3 + 1]? = some (encStr x.v) ∧ (cs.flatMap cgL)[j * 3 + 2]? = some (.bool x.g)
  | [], j, x, h => by cases j <;> cases h
  | y :: r, 0, x, h => by cases h; exact ⟨rfl, rfl, rfl⟩
  | y :: r, j + 1, x, h => by
    have ih := flat_get r j x h
    have e : ∀ q, ((y :: r).flatMap cgL)[(j + 1) * 3 + q]? = (r.flatMap cgL)[j * 3 + q]? := fun q => by
      rw [List.flatMap_cons, List.getElem?_append_right (by simp [cgL]; omega)]
      congr 1
      simp [cgL]; omega
    exact ⟨(e 0).trans ih.1, (e 1).trans ih.2.1, (e 2).trans ih.2.2⟩
theorem CgAt.new (cs : List Cg) (w : World) (T : TypeId) (z : Nat × Nat) : CgAt (w.alloc (.cells (cs.flatMap cgL).toArray T z)) (some ⟨w.heap.size, 0, none⟩) cs := fun _ => by
  refine ⟨w.heap.size, 0, rfl, fun j x hx => ?_⟩
  have h := flat_get cs j x hx
  have e : ∀ q, (w.alloc (.cells (cs.flatMap cgL).toArray T z)).cell? ⟨w.heap.size, q, none⟩ = (cs.flatMap cgL)[q]? := fun q => by
    rw [cell_of_row _ _ _ _ _ _ (heap_alloc_new w (.cells (cs.flatMap cgL).toArray T z))]
    simp
  simp only [Nat.zero_add, e]
  exact h
def cgA1 : Cg := ⟨[97], [49], false⟩
def cgB1 : Cg := ⟨[98], [], false⟩
def cgC1 : Cg := ⟨[97], [], false⟩
def cgD1 : Cg := ⟨[98], [50], false⟩
def lfs1 : List Lf := [⟨[97], 1, [49]⟩, ⟨[98], 2, []⟩]
def ct1 : Ct := ⟨[[], [], [1, 2, 1, 1, 1, 2], [97, 0, 0, 49, 0, 0], [98, 0, 0, 0, 0], [], [], [], []], [], false, 0, false⟩
theorem root1 : rootB lfs1 = [1, 2, 1, 1, 1, 2] := by
  have e : plI lfs1 = [1, 2] := srtI_up (l := [1, 2]) (by simp)
  have e2 : uB (lfs1.length : Int) ++ uBs [1, 2] = [1, 2, 1, 1, 1, 2] := by kernel_rfl
  rw [rootB, e, e2]
theorem sure1 : openR (newC 9) 2 4 = some [] := by kernel_rfl
theorem sure2 : setI 2 4 [] (newC 9) [cgA1, cgB1] = (0, lfs1, ct1) := by
  have e : setI 2 4 [] (newC 9) [cgA1, cgB1] = (0, lfs1, (newC 9).laid ([(3, [97, 0, 0, 49, 0, 0]), (4, [98, 0, 0, 0, 0])] ++ [(2, rootB lfs1)])) := by kernel_rfl
  have e2 : (newC 9).laid ([(3, [97, 0, 0, 49, 0, 0]), (4, [98, 0, 0, 0, 0])] ++ [(2, [1, 2, 1, 1, 1, 2])]) = ct1 := by kernel_rfl
  rw [e, root1, e2]
theorem sure3 : setI 2 4 lfs1 ct1 [cgC1, cgD1] = (10, lfs1, ct1) := by kernel_rfl
theorem sure4 : openR ct1 2 4 = some lfs1 := by kernel_rfl
theorem sure5 : (frL lfs1 4).length = 1 := by kernel_rfl
theorem sure6 : valK [97] lfs1 = [49] ∧ (getK Lf.k [97] lfs1).isSome = true := ⟨by kernel_rfl, by kernel_rfl⟩
end Go.Proofs.YtbfajoeilpkofaaGreatDoor
/- sure: the chapter's example. -/
namespace Go.Proofs.YtbfajoeilpkofaaGreatDoor
open Go.RowKit Go.Maps Go.Sort

attribute [local go_sem ↓] Go.wp_at_zero Go.wp_at_succ

/-- A shelf within sure, and the area's block, which stays. -/
structure SuI (w w2 W : World) (a : Nat) (A : Nat → Prop) (sh p : Nat) (L : List Lf) (c : Ct) : Prop where
  sh_ : ShU A W sh p 2 4 9 L c
  below : Below w.heap.size w W
  size : w2.heap.size ≤ W.heap.size
  area : W.heap[a]? = w2.heap[a]?
  lt : a < w2.heap.size
theorem SuI.next {w w2 W W' : World} {a : Nat} {A : Nat → Prop} {sh p : Nat} {L : List Lf} {c : Ct} (h : SuI w w2 W a A sh p L c) (hb : Below W.heap.size W W') : SuI w w2 W' a A sh p L c :=
  ⟨h.sh_.below hb, Below.transS h.below hb, Nat.le_trans h.size hb.size, (hb.block a (Nat.lt_of_lt_of_le h.lt h.size)).trans h.area, h.lt⟩
set_option maxRecDepth 100000 in
set_option maxHeartbeats 3200000 in
theorem sure_any (w : World) (hg : Glob w) : Calls Tryz.prog 8 #[] w fun e w' => e = .returned (.bool true) ∧ Below w.heap.size w w' := by
  have HG : Hid (Glob w) := hg
  have hpos := hg.pos
  have hnew := newU 9 (by omega) (by omega) w
  clear hg
  go_enter Tryz.func8, Tryz.ntmps8
  go_wp2_with fail
  refine hnew.mono ?_
  rintro e w1 ⟨p, rfl, hS1, hb1⟩
  obtain ⟨w2, hw2⟩ : ∃ w2, w1.alloc (.cells #[.int .i64 2, .int .i64 4] 35) = w2 := ⟨_, rfl⟩
  have hb2 : Below w1.heap.size w1 w2 := by rw [← hw2]; exact (Below.refl _ w1).alloc (Nat.le_refl _) _
  have hz2 : w2.heap.size = w1.heap.size + 1 := by rw [← hw2]; simp
  have hz1 := hb1.size
  have hsa : w1.heap.size < w2.heap.size := by omega
  have ka0 : w2.cell? ⟨w1.heap.size, 0, none⟩ = some (.int .i64 2) := by rw [← hw2]; simp
  have ka1 : w2.cell? ⟨w1.heap.size, 1, none⟩ = some (.int .i64 4) := by rw [← hw2]; simp
  obtain ⟨A, hA⟩ : ∃ A : Nat → Prop, A = fun k => w.heap.size ≤ k ∧ k ≠ w1.heap.size := ⟨_, rfl⟩
  have HA : Hid (∀ W : World, w2.heap.size ≤ W.heap.size → ∀ k, W.heap.size ≤ k → A k) := fun W hW k hk => by rw [hA]; exact ⟨by omega, by omega⟩
  have HAB : Hid (∀ W W' : World, w2.heap.size ≤ W.heap.size → Fr A W W' → Below w.heap.size W W') := fun W W' hW h => h.below (by omega) fun k hk => by rw [hA] at hk; exact hk.1
  have HAK : Hid (∀ W W' : World, w2.heap.size ≤ W.heap.size → Fr A W W' → W'.heap[w1.heap.size]? = W.heap[w1.heap.size]?) := fun W W' hW h => h.block _ (by omega) fun hk => by rw [hA] at hk; exact hk.2 rfl
  have hS2 : StU A w2 p 9 (newC 9) := (hS1.mono (A' := A) fun k hk h => by rw [hA]; exact ⟨h, by omega⟩).below hb2
  have hop := openU_some A p 2 4 9 (newC 9) [] w2 hS2 (HA.out w2 (Nat.le_refl _)) (by omega) (by omega) sure1
  have HB2 : Hid (Below w.heap.size w w2) := Below.transS hb1 hb2
  clear hnew hS1 hb1 hS2 hb2 hA hz2
  go_wp2_with fail
  clear hw2
  refine hop.mono ?_
  rintro e w3 ⟨sh, rfl, hS3, hb3⟩
  have HI3 : Hid (SuI w w2 w3 w1.heap.size A sh p [] (newC 9)) := ⟨hS3, Below.transS HB2.out hb3, hb3.size, hb3.block _ hsa, hsa⟩
  clear hop hS3 hb3
  obtain ⟨w4, hw4⟩ : ∃ w4, w3.alloc (.cells #[.string ⟨#[97]⟩, .string ⟨#[49]⟩, .bool false, .string ⟨#[98]⟩, .string ⟨#[]⟩, .bool false] 70) = w4 := ⟨_, rfl⟩
  have hb4 : Below w3.heap.size w3 w4 := by rw [← hw4]; exact (Below.refl _ w3).alloc (Nat.le_refl _) _
  have hc4 : CgAt w4 (some ⟨w3.heap.size, 0, none⟩) [cgA1, cgB1] := by rw [← hw4]; exact CgAt.new [cgA1, cgB1] w3 _ _
  have HI4 : Hid (SuI w w2 w4 w1.heap.size A sh p [] (newC 9)) := HI3.out.next hb4
  have hs4 := setU A sh p 2 4 9 [] (newC 9) (some ⟨w3.heap.size, 0, none⟩) 2 [cgA1, cgB1] w4 HI4.out.sh_ (HA.out _ HI4.out.size) hc4 (by unfold COk; decide)
  rw [sure2] at hs4
  dsimp only at hs4
  have e0 : errV 0 = .nilIface := rfl
  rw [e0] at hs4
  clear hb4 hc4 e0 HI3
  go_wp2_with fail
  clear hw4
  refine hs4.mono ?_
  rintro e w5 ⟨rfl, hS5, hF5⟩
  have HI5 : Hid (SuI w w2 w5 w1.heap.size A sh p lfs1 ct1) := ⟨hS5, HI4.out.below.trans (HAB.out _ _ HI4.out.size hF5), Nat.le_trans HI4.out.size hF5.size, (HAK.out _ _ HI4.out.size hF5).trans HI4.out.area, hsa⟩
  clear hs4 hS5 hF5 HI4
  have hf5 := freeU A sh p 2 4 9 lfs1 ct1 w5 HI5.out.sh_
  rw [sure5] at hf5
  go_wp2_with fail
  refine hf5.mono ?_
  rintro e w6 ⟨rfl, hb6⟩
  have HI6 : Hid (SuI w w2 w6 w1.heap.size A sh p lfs1 ct1) := HI5.out.next hb6
  clear hf5 hb6 HI5
  obtain ⟨w7, hw7⟩ : ∃ w7, w6.alloc (.cells #[.string ⟨#[97]⟩, .string ⟨#[]⟩, .bool false, .string ⟨#[98]⟩, .string ⟨#[50]⟩, .bool false] 70) = w7 := ⟨_, rfl⟩
  have hb7 : Below w6.heap.size w6 w7 := by rw [← hw7]; exact (Below.refl _ w6).alloc (Nat.le_refl _) _
  have hc7 : CgAt w7 (some ⟨w6.heap.size, 0, none⟩) [cgC1, cgD1] := by rw [← hw7]; exact CgAt.new [cgC1, cgD1] w6 _ _
  have HI7 : Hid (SuI w w2 w7 w1.heap.size A sh p lfs1 ct1) := HI6.out.next hb7
  have hs7 := setU A sh p 2 4 9 lfs1 ct1 (some ⟨w6.heap.size, 0, none⟩) 2 [cgC1, cgD1] w7 HI7.out.sh_ (HA.out _ HI7.out.size) hc7 (by unfold COk; decide)
  rw [sure3] at hs7
  dsimp only at hs7
  rw [errV_ne (by decide)] at hs7
  clear hb7 hc7 HI6
  go_wp2_with fail
  clear hw7
  refine hs7.mono ?_
  rintro e w8 ⟨rfl, hS8, hF8⟩
  have HI8 : Hid (SuI w w2 w8 w1.heap.size A sh p lfs1 ct1) := ⟨hS8, HI7.out.below.trans (HAB.out _ _ HI7.out.size hF8), Nat.le_trans HI7.out.size hF8.size, (HAK.out _ _ HI7.out.size hF8).trans HI7.out.area, hsa⟩
  clear hs7 hS8 hF8 HI7
  have k80 : w8.cell? ⟨w1.heap.size, 0, none⟩ = some (.int .i64 2) := by rw [World.cell?_of_block (a := ⟨w1.heap.size, 0, none⟩) HI8.out.area]; exact ka0
  have k81 : w8.cell? ⟨w1.heap.size, 1, none⟩ = some (.int .i64 4) := by rw [World.cell?_of_block (a := ⟨w1.heap.size, 1, none⟩) HI8.out.area]; exact ka1
  have ho8 := openU_some A p 2 4 9 ct1 lfs1 w8 HI8.out.sh_.store (HA.out _ HI8.out.size) (by omega) (by omega) sure4
  clear ka0 ka1
  go_wp2_with fail
  refine ho8.mono ?_
  rintro e w9 ⟨t, rfl, hS9, hb9⟩
  have HI9 : Hid (SuI w w2 w9 w1.heap.size A t p lfs1 ct1) := ⟨hS9, Below.transS HI8.out.below hb9, Nat.le_trans HI8.out.size hb9.size, (hb9.block _ (Nat.lt_of_lt_of_le hsa HI8.out.size)).trans HI8.out.area, hsa⟩
  clear ho8 hS9 hb9 HI8 k80 k81
  have hg9 := getU A t p 2 4 9 lfs1 ct1 [97] w9 HI9.out.sh_ (by decide)
  rw [sure6.1, sure6.2] at hg9
  go_wp2_with fail
  refine hg9.mono ?_
  rintro e w10 ⟨rfl, hb10⟩
  have HI10 : Hid (SuI w w2 w10 w1.heap.size A t p lfs1 ct1) := HI9.out.next hb10
  have hn10 := num_hit 10 w10 (HG.out.below HI10.out.below hpos)
  clear hg9 hb10 HI9
  go_wp2_with fail
  refine hn10.mono ?_
  rintro e w11 ⟨rfl, hb11⟩
  have HI11 : Hid (SuI w w2 w11 w1.heap.size A t p lfs1 ct1) := HI10.out.next hb11
  have hk11 := keysN A t p 2 4 9 lfs1 ct1 w11 HI11.out.sh_
  have e2 : lfs1.length = 2 := rfl
  rw [e2] at hk11
  have heq : (binOp .eql 9 (encStr [49]) (.string ⟨#[49]⟩)).run Tryz.prog w11 = .ok (.bool true) w11 := eq_str [49] [49] w11
  clear hn10 hb11 HI10 e2
  go_wp2_with fail
  refine hk11.mono ?_
  rintro e w12 ⟨ad, cap, rfl, hb12⟩
  have HE : Hid (Below w.heap.size w w12) := Below.transS HI11.out.below hb12
  clear hk11 heq HI11 hb12
  go_wp2
  go_ret
  exact ⟨rfl, HE.out⟩
end Go.Proofs.YtbfajoeilpkofaaGreatDoor
/- Rows of changes of one's own; changes of one key. -/
namespace Go.Proofs.YtbfajoeilpkofaaGreatDoor
open Go.RowKit Go.Maps Go.Sort

/-- A value that owns changes, made since w0; nothing that was there in w0 has changed. -/
structure CgOw (w0 w : World) (v : Value) (C : List Cg) : Prop where
  own : w.ownsRow w0.heap.size 70 3 v C.length (flatC C)
  below : Below w0.heap.size w0 w
theorem CgOw.nil (w : World) : CgOw w w (.slice none 0 0) [] := ⟨World.ownsRow_nil _ _ _ _, Below.refl _ _⟩
theorem CgOw.keep {w0 w w' : World} {v : Value} {C : List Cg} (h : CgOw w0 w v C) (hb : Below w.heap.size w w') : CgOw w0 w' v C :=
  ⟨owns_row_keep h.own fun k e => hb.block k (h.own.lt k e).2, Below.transS h.below hb⟩
theorem CgOw.sl {w0 w : World} {v : Value} {C : List Cg} (h : CgOw w0 w v C) : ∃ ad cap, v = .slice ad C.length cap ∧ CgAt w ad C ∧ (∀ a, ad = some a → w0.heap.size ≤ a.block ∧ a.block < w.heap.size) := by
  rcases h.own.2 with ⟨rfl, e⟩ | ⟨g, cap, cur, rfl, hbs, hg, _⟩
  · exact ⟨none, 0, by rw [e], (fun hn => by omega), fun a e => by cases e⟩
  · refine ⟨_, cap, rfl, fun _ => ⟨g, 0, rfl, fun j x hx => ?_⟩, fun a e => by cases e; exact ⟨hbs, lt_of_block hg⟩⟩
    have hf := flat_get C j x hx
    have hc := h.own.cells (g := g) rfl
    simp only [Addr.add_lit] at hc
    exact ⟨hc _ _ hf.1, by rw [Nat.add_assoc]; exact hc _ _ hf.2.1, by rw [Nat.add_assoc]; exact hc _ _ hf.2.2⟩
theorem infoCg : (Tryz.prog.info? 70).map (fun i => (i.zero, i.size, i.bytes)) = some (some (.agg #[.string ⟨#[]⟩, .string ⟨#[]⟩, .bool false]), 3, 40) := by kernel_rfl
theorem CgOw.append {w0 w : World} {v : Value} {C : List Cg} {r : Nat} {x : Cg} (h : CgOw w0 w v C) (hr : w.heap[r]? = some (.cells #[encStr x.k, encStr x.v, .bool x.g] 70 (0, 0))) (hn : C.length ≤ 100000) (ty : TypeId) :
    ∃ v' w1, (Builtin.append_ #[52, 52] ty #[v, .slice (some ⟨r, 0, none⟩) 1 1]).run Tryz.prog w = .ok v' w1 ∧ CgOw w0 w1 v' (C ++ [x]) := by
  obtain ⟨i0, hi0, hz0, hz1, hz2⟩ := info_parts infoCg
  obtain ⟨v', w1, h1, h2, h3, _, _⟩ := run_append_own_at (P := Tryz.prog) w w0.heap.size 52 ty 70 i0 (.agg #[.string ⟨#[]⟩, .string ⟨#[]⟩, .bool false]) 3 40 Tryz.underlying52 hi0 hz0 hz1 hz2 rfl (by decide) v C.length (flatC C) h.own ⟨r, 0, none⟩ 1 1 (flatC [x]) (by simp [flatC, cgL])
    (fun j u hj => by
      rw [Addr.add_lit, Nat.zero_add, cell_of_row _ _ j _ _ _ hr]
      simpa [flatC, cgL] using hj)
    (by simp [flatC, cgL, encStr, Value.oneCell']) (by unfold maxLen; omega) (by omega) h.below.size
  refine ⟨v', w1, h1, ?_, h.below.grown h3 h.below.size (fun k e => (h.own.lt k e).1)⟩
  rw [flatC_append]
  simpa using h2
theorem wpList_append_Cg {ops : Array Oper} {rest : List Oper} {o : Oper} {a : Act} {w : World} {Q : Exit → Act → World → Prop} (hgd : o.guard = none) (s x : Operand) (ho : o.op = .call { callee := .builtin .append, args := #[s, x], argTypes := #[52, 52] })
    (w0 : World) (v : Value) (C : List Cg) (r : Nat) (y : Cg) (hs : a.eval s = v) (hx : a.eval x = .slice (some ⟨r, 0, none⟩) 1 1) (h : CgOw w0 w v C) (hr : w.heap[r]? = some (.cells #[encStr y.k, encStr y.v, .bool y.g] 70 (0, 0))) (hn : C.length ≤ 100000)
    (hk : ∀ v' w1, CgOw w0 w1 v' (C ++ [y]) → wpList Tryz.prog ops Q rest (a.put o.dst v') w1) : wpList Tryz.prog ops Q (o :: rest) a w := by
  obtain ⟨v', w1, hrun, h2⟩ := h.append hr hn o.type
  refine wpList_plain hgd fun K hK => ?_
  unfold Oper.wp execOp
  simp only [ho, resolve, invoke, builtin, Sem.run_bind, Sem.run_pure, Result.andThen_ok, List.map_toArray, List.map_cons, List.map_nil, hs, hx, hrun]
  exact hK _ _ (hk v' w1 h2)

/-- Of changes of one key the last counts. -/
theorem lastL_one {ys : List Cg} {x : Cg} (h : ∀ y ∈ ys, y.k = x.k) : lastL (ys ++ [x]) = [x] := by
  have e : delK Cg.k x.k (lastL ys) = [] := by
    unfold delK
    rw [List.filter_eq_nil_iff]
    intro y hy
    simp [h y (lastL_mem hy)]
  rw [lastL_snoc, putK, e]
  rfl
section
variable {k v : List UInt8} {ys : List Cg} {c : Ct}
theorem last0 : setI 0 3 [] c [] = (0, [], c) := by
  have e : todoL [] [] = [] := rfl
  unfold setI
  rw [e]
  rfl
theorem last1 (h : ∀ y ∈ ys, y.k = k) (hk : k.length ≤ 50) (hv : v.length ≤ 50) : (setI 0 3 [] c (ys ++ [⟨k, v, false⟩])).1 = 0 ∧ (setI 0 3 [] c (ys ++ [⟨k, v, false⟩])).2.1 = [⟨k, 1, v⟩] := by
  have e1 : todoL [] (ys ++ [⟨k, v, false⟩]) = [⟨k, v, false⟩] := by unfold todoL; rw [lastL_one h]; simp [sameC, getK]
  have h1 := encB_le k
  have h2 := encB_le v
  have e2 : layL [⟨k, v, false⟩] = some [leafB k v] := by
    simp only [layL, Bool.false_eq_true, if_false, Option.map_some]
    rw [if_neg (by unfold leafB; simp only [List.length_append]; omega)]
  have e3 : frN [] 3 = [1, 2] := rfl
  have e4 : behL [⟨k, v, false⟩] [1, 2] [] = [⟨k, 1, v⟩] := by simp [behL, putK, delK, insK]
  unfold setI
  rw [e1, e2, e3, e4]
  simp
theorem last2 (h : ∀ y ∈ ys, y.k = k) : setI 0 3 [⟨k, 1, v⟩] c (ys ++ [⟨k, v, false⟩]) = (0, [⟨k, 1, v⟩], c) := by
  have e1 : todoL [⟨k, 1, v⟩] (ys ++ [⟨k, v, false⟩]) = [] := by unfold todoL; rw [lastL_one h]; simp [sameC, getK]
  unfold setI
  rw [e1]
  simp [layL]
theorem last3 : (setI 0 3 [⟨k, 1, v⟩] c [⟨k, [], true⟩]).1 = 0 ∧ (setI 0 3 [⟨k, 1, v⟩] c [⟨k, [], true⟩]).2.1 = [] := by
  have e0 : lastL [⟨k, [], true⟩] = [⟨k, [], true⟩] := rfl
  have e1 : todoL [⟨k, 1, v⟩] [⟨k, [], true⟩] = [⟨k, [], true⟩] := by unfold todoL; rw [e0]; simp [sameC, getK]
  have e4 : ∀ f, behL [⟨k, [], true⟩] f [⟨k, 1, v⟩] = [] := fun f => by simp [behL, delK]
  unfold setI
  rw [e1]
  simp [layL, e4]
theorem last4 : valK k [⟨k, 1, v⟩] = v ∧ (getK Lf.k k [⟨k, 1, v⟩]).isSome = true := by simp [valK, getK]
theorem last5 : (frL [⟨k, 1, v⟩] 3).length = 1 := rfl
end
/-- Values that came in. -/
def VsAt (W : World) (ad : Option Addr) (len : Nat) (Z : Nat → List UInt8) : Prop := 0 < len → ∃ b off, ad = some ⟨b, off, none⟩ ∧ ∀ j, j < len → W.cell? ⟨b, off + j, none⟩ = some (encStr (Z j))
/-- Changes of one key. -/
def csOf (k : List UInt8) (Z : Nat → List UInt8) (i : Nat) : List Cg := (List.range i).map fun j => ⟨k, Z j, false⟩
theorem csOf_succ (k : List UInt8) (Z : Nat → List UInt8) (i : Nat) : csOf k Z (i + 1) = csOf k Z i ++ [⟨k, Z i, false⟩] := by simp [csOf, List.range_succ]
theorem csOf_length (k : List UInt8) (Z : Nat → List UInt8) (i : Nat) : (csOf k Z i).length = i := by simp [csOf]
theorem csOf_k {k : List UInt8} {Z : Nat → List UInt8} {i : Nat} : ∀ y ∈ csOf k Z i, y.k = k := fun y hy => by
  obtain ⟨j, _, rfl⟩ := List.mem_map.1 hy; rfl
theorem csOf_ok {k : List UInt8} {Z : Nat → List UInt8} {i : Nat} (hi : i ≤ 10) (hk : k.length ≤ 50) (hZ : ∀ j, j < i → (Z j).length ≤ 50) : COk (csOf k Z i) := by
  refine ⟨by rw [csOf_length]; omega, fun x hx => ?_⟩
  obtain ⟨j, hj, rfl⟩ := List.mem_map.1 hx
  have := hZ j (List.mem_range.1 hj)
  exact ⟨by show k.length ≤ _; omega, by show (Z j).length ≤ _; omega⟩
end Go.Proofs.YtbfajoeilpkofaaGreatDoor
