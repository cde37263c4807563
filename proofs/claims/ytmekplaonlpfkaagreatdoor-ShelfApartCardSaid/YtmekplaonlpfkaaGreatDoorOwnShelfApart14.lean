/- A store that is not armed, under a Set. -/
import Derived.Test.YtmekplaonlpfkaaGreatDoorOwnShelfApart13
import Derived.Test.YtmekplaonlpfkaaGreatDoorOwnShelfApart12
import Derived.Lib.SmallJoins
import Derived.Test.YtmekplaonlpfkaaGreatDoorOwnShelfApart01
import Derived.Maps.AppendAt
import Derived.Test.YtmekplaonlpfkaaGreatDoorRows
import Derived.Deep.Strs
import Derived.ChangeSame
import Derived.ChangeVars
import Derived.JoinedOf
import Derived.RowKit
import Derived.RowKitTokens
import Derived.LaidLaws
import Derived.LaidHandle
import Derived.Stop.Joined
import Derived.ProofKit
import Derived.OpenShut
import Derived.ChangeOld
import Derived.SizedLaws
import Derived.Deep.Slices
import Derived.Deep.Grids
import Derived.Test.YtmekplaonlpfkaaGreatDoorOwnShelfApart10
import Derived.Test.YtmekplaonlpfkaaGreatDoorOwnShelfApart08
import Derived.Test.YtmekplaonlpfkaaGreatDoorOwnShelfApart09
namespace Go.Proofs.YtmekplaonlpfkaaGreatDoor
open Go.RowKit

/-- Nothing armed, nothing loose. -/
structure Ct.Idle (c : Ct) : Prop where
  armed : c.armed = false
  down : c.down = false
  loose : c.loose = []
  steps : c.steps = 0
theorem newC_idle (n : Nat) : (newC n).Idle := ⟨rfl, rfl, rfl, rfl⟩
theorem Ct.Idle.ok {c : Ct} {n : Nat} (h : c.Idle) (hl : c.safe.length = n) : c.Ok n := ⟨hl, by rw [h.steps]; decide, h.down, by rw [h.loose]; simp⟩
/-- Pages, set one behind the other. -/
def setP : List (Int × List Int) → List (List Int) → List (List Int)
  | [], s => s
  | x :: r, s => setP r (s.set x.1.toNat x.2)
theorem setC_all : ∀ (ws : List (Int × List Int)) (i : Nat) (s : List (List Int)), setC allK i ws s = setP ws s
  | [], _, _ => rfl
  | x :: r, i, s => by rw [setC, setP, if_pos (show allK i = true from rfl), setC_all r]
theorem setP_append (r : List (Int × List Int)) : ∀ (l : List (Int × List Int)) (s : List (List Int)), setP (l ++ r) s = setP r (setP l s)
  | [], _ => rfl
  | x :: l, s => by rw [List.cons_append, setP, setP, setP_append r l]
theorem wrs_unarmed : ∀ (ws : List (Int × List Int)) (c : Ct), c.armed = false → c.wrs ws = (0, { c with loose := c.loose ++ ws })
  | [], c, _ => by simp [Ct.wrs]
  | x :: r, c, h => by
    have e1 : c.stepE = 0 := by simp [Ct.stepE, h]
    have e2 : (c.put x.1 x.2).step = c.put x.1 x.2 := by simp [Ct.step, Ct.put, h]
    rw [Ct.wrs, if_pos e1, e2, wrs_unarmed r (c.put x.1 x.2) h]
    simp [Ct.put]
/-- A store with its pages set. -/
def Ct.laid (c : Ct) (ws : List (Int × List Int)) : Ct := { c with safe := setP ws c.safe, loose := [] }
theorem sync_unarmed {c : Ct} (h : c.armed = false) : c.sync = { c with safe := setP c.loose c.safe, loose := [] } := by
  have e1 : c.stepE = 0 := by simp [Ct.stepE, h]
  have e2 : c.step = c := by simp [Ct.step, h]
  unfold Ct.sync
  rw [if_pos e1, e2]
  simp [Ct.settled, setC_all]
theorem root_unarmed {c : Ct} (h : c.armed = false) (fr : Int) (root : List Int) : c.root fr root = (0, { c with safe := setP (c.loose ++ [(fr, root)]) c.safe, loose := [] }) := by
  have e1 : c.stepE = 0 := by simp [Ct.stepE, h]
  have e2 : (c.put fr root).step = c.put fr root := by simp [Ct.step, Ct.put, h]
  have h3 : (c.put fr root).armed = false := h
  unfold Ct.root
  rw [if_pos e1, e2, sync_unarmed h3]
  simp [Ct.stepE, Ct.put, h]
theorem lay_idle {c : Ct} (h : c.Idle) (ws : List (Int × List Int)) (fr : Int) (root : List Int) : c.lay ws fr root = (0, c.laid (ws ++ [(fr, root)])) := by
  unfold Ct.lay
  rw [wrs_unarmed ws c h.armed, if_pos rfl]
  by_cases hw : ws = []
  · rw [if_pos hw, hw, h.loose]
    have h1 : ({ c with loose := ([] : List (Int × List Int)) ++ [] } : Ct).armed = false := h.armed
    rw [root_unarmed h1]
    rfl
  · rw [if_neg hw]
    have h1 : ({ c with loose := c.loose ++ ws } : Ct).armed = false := h.armed
    have e1 : ({ c with loose := c.loose ++ ws } : Ct).stepE = 0 := by unfold Ct.stepE; rw [if_pos h1]
    dsimp only
    rw [if_pos e1, sync_unarmed h1, root_unarmed (c := { c with safe := setP (c.loose ++ ws) c.safe, loose := [] }) h.armed]
    simp [Ct.laid, setP_append, h.loose]
theorem Ct.Idle.laid {c : Ct} (h : c.Idle) (ws : List (Int × List Int)) : (c.laid ws).Idle := ⟨h.armed, h.down, rfl, h.steps⟩
theorem setP_length : ∀ (ws : List (Int × List Int)) (s : List (List Int)), (setP ws s).length = s.length
  | [], _ => rfl
  | x :: r, s => by rw [setP, setP_length r]; simp
theorem Ct.Idle.last {c : Ct} (h : c.Idle) (pg : Int) : c.last pg = (c.safe[pg.toNat]?).getD [] := by
  unfold Ct.last
  rw [h.loose]
  rfl
/-- The error, the leaves and the store of a Set on an idle store. -/
def setI (fr n : Nat) (L : List Lf) (c : Ct) (cs : List Cg) : Int × List Lf × Ct :=
  match layL (todoL L cs) with
  | none => (2, L, c)
  | some ls => if (frN L n).length < ls.length then (10, L, c) else if (todoL L cs).length = 0 then (0, L, c)
    else (0, behL (todoL L cs) (frN L n) L, c.laid (wsOf fr ls (frN L n) ++ [((fr : Int), rootB (behL (todoL L cs) (frN L n) L))]))
theorem setO_idle {c : Ct} (h : c.Idle) (fr n : Nat) (L : List Lf) (cs : List Cg) : setO fr n L 0 c cs = ((setI fr n L c cs).1, (setI fr n L c cs).2.1, 0, (setI fr n L c cs).2.2) := by
  unfold setO setI
  rw [if_pos rfl]
  cases layL (todoL L cs) with
  | none => rfl
  | some ls =>
    simp only [lay_idle h, if_true]
    split
    · rfl
    · split <;> rfl
theorem setI_idle {c : Ct} (h : c.Idle) (fr n : Nat) (L : List Lf) (cs : List Cg) : (setI fr n L c cs).2.2.Idle := by
  unfold setI
  split
  · exact h
  · split
    · exact h
    · split
      · exact h
      · exact h.laid _
theorem srtI_up {l : List Int} (h : l.Pairwise (· ≤ ·)) : srtI l = l := List.mergeSort_of_pairwise (h.imp fun {_ _} hab => decide_eq_true hab)
/-- A store all whose blocks are of A. -/
def StU (A : Nat → Prop) (w : World) (p N : Nat) (c : Ct) : Prop := ∃ G : Nat → Prop, CtAt w G p c ∧ (∀ k, G k → A k ∧ k < w.heap.size) ∧ c.safe.length = N ∧ c.Idle
/-- A shelf on an idle store, all of whose blocks are of A. -/
def ShU (A : Nat → Prop) (w : World) (sh p fr n N : Nat) (L : List Lf) (c : Ct) : Prop := ∃ (G : Nat → Prop) (m : Nat), ShS w G sh m p fr n N L 0 c ∧ (∀ k, G k → A k) ∧ A sh ∧ A m ∧ c.Idle
section
variable {A A' : Nat → Prop} {p fr n N sh : Nat} {L : List Lf} {c : Ct} {w w' : World}
theorem StU.below (h : StU A w p N c) (hb : Below w.heap.size w w') : StU A w' p N c := by
  obtain ⟨G, h1, h2, h3, h4⟩ := h
  exact ⟨G, h1.below hb, fun k hk => ⟨(h2 k hk).1, by have := (h2 k hk).2; have := hb.size; omega⟩, h3, h4⟩
theorem StU.mono (h : StU A w p N c) (ha : ∀ k, k < w.heap.size → A k → A' k) : StU A' w p N c := by
  obtain ⟨G, h1, h2, h3, h4⟩ := h
  exact ⟨G, h1, fun k hk => ⟨ha k (h2 k hk).2 (h2 k hk).1, (h2 k hk).2⟩, h3, h4⟩
theorem ShU.below (h : ShU A w sh p fr n N L c) (hb : Below w.heap.size w w') : ShU A w' sh p fr n N L c := by
  obtain ⟨G, m, h1, h2, h3, h4, h5⟩ := h
  exact ⟨G, m, ⟨h1.at_.below hb, h1.st.below hb, h1.nsh, h1.nm, fun k hk => Nat.lt_of_lt_of_le (h1.lt k hk) hb.size, h1.len, h1.fit, h1.ne⟩, h2, h3, h4, h5⟩
theorem ShU.mono (h : ShU A w sh p fr n N L c) (ha : ∀ k, k < w.heap.size → A k → A' k) : ShU A' w sh p fr n N L c := by
  obtain ⟨G, m, h1, h2, h3, h4, h5⟩ := h
  exact ⟨G, m, h1, fun k hk => ha k (h1.lt k hk) (h2 k hk), ha sh h1.at_.lt h3, ha m h1.at_.ltm h4, h5⟩
theorem ShU.store (h : ShU A w sh p fr n N L c) : StU A w p N c := by
  obtain ⟨G, m, h1, h2, h3, h4, h5⟩ := h
  exact ⟨G, h1.st, fun k hk => ⟨h2 k hk, h1.lt k hk⟩, h1.len, h5⟩
end
theorem newU (n : Nat) (h1 : 1 ≤ n) (h2 : n ≤ 4096) (w : World) : Calls Tryz.prog 9 #[.int .i64 (n : Int)] w fun e w' => ∃ p, e = .returned (.tuple #[.pointer (some ⟨p, 0, none⟩), .nilIface]) ∧ StU (w.heap.size ≤ ·) w' p n (newC n) ∧ Below w.heap.size w w' := by
  refine (new_ct n h1 h2 w).mono ?_
  rintro e w' ⟨p, rfl, ⟨G, h3, h4, h5⟩, h6⟩
  refine ⟨p, rfl, ⟨G, h3, fun k hk => ?_, by simp [newC], newC_idle n⟩, h6⟩
  rcases h4 k hk with h | h
  · exact h.elim
  · exact ⟨h.1, h.2⟩
theorem openU (A : Nat → Prop) (p fr n N : Nat) (c : Ct) (w : World) (h : StU A w p N c) (hA : ∀ k, w.heap.size ≤ k → A k) (hN : fr + n ≤ N) (hn : 2 ≤ n ∧ n ≤ 1024) : Calls Tryz.prog 11 #[.pointer (some ⟨p, 0, none⟩), .agg #[.int .i64 (fr : Int), .int .i64 (n : Int)]] w fun e w' => ((openR c fr n = none ∧ e = .returned (.tuple #[.pointer none, .iface 72 (.int .i64 14)])) ∨ ∃ L sh, openR c fr n = some L ∧ e = .returned (.tuple #[.pointer (some ⟨sh, 0, none⟩), .nilIface]) ∧ ShU A w' sh p fr n N L c) ∧ Below w.heap.size w w' := by
  obtain ⟨G, h1, h2, h3, h4⟩ := h
  refine (open_any G p fr n N c w h1 (h4.ok h3) hN hn).mono ?_
  rintro e w' ⟨h5 | ⟨L, sh, m, h6, rfl, h7, h8, h9⟩, hb⟩
  · exact ⟨.inl h5, hb⟩
  · refine ⟨.inr ⟨L, sh, h6, rfl, G, m, ⟨h7, h1.below hb, fun k => ?_, fun k => ?_, fun k hk => ?_, h3, hN, fun e => ?_⟩, fun k hk => (h2 k hk).1, hA _ h8, hA _ h9, h4⟩, hb⟩
    · have := (h2 _ k).2; omega
    · have := (h2 _ k).2; omega
    · have := (h2 _ hk).2; have := hb.size; omega
    · obtain ⟨es, cl, hb, _⟩ := h7.map
      rw [← e, h7.cells] at hb; cases hb
/-- Open where the leaves are known. -/
theorem openU_some (A : Nat → Prop) (p fr n N : Nat) (c : Ct) (L : List Lf) (w : World) (h : StU A w p N c) (hA : ∀ k, w.heap.size ≤ k → A k) (hN : fr + n ≤ N) (hn : 2 ≤ n ∧ n ≤ 1024) (hL : openR c fr n = some L) : Calls Tryz.prog 11 #[.pointer (some ⟨p, 0, none⟩), .agg #[.int .i64 (fr : Int), .int .i64 (n : Int)]] w fun e w' => ∃ sh, e = .returned (.tuple #[.pointer (some ⟨sh, 0, none⟩), .nilIface]) ∧ ShU A w' sh p fr n N L c ∧ Below w.heap.size w w' := by
  refine (openU A p fr n N c w h hA hN hn).mono ?_
  rintro e w' ⟨⟨h1, _⟩ | ⟨L', sh, h1, rfl, h2⟩, hb⟩
  · rw [hL] at h1; cases h1
  · rw [hL] at h1; cases h1; exact ⟨sh, rfl, h2, hb⟩
theorem setU (A : Nat → Prop) (sh p fr n N : Nat) (L : List Lf) (c : Ct) (ad : Option Addr) (cap : Nat) (cs : List Cg) (w : World) (h : ShU A w sh p fr n N L c) (hA : ∀ k, w.heap.size ≤ k → A k) (hc : CgAt w ad cs) (hok : COk cs) : Calls Tryz.prog 16 #[.pointer (some ⟨sh, 0, none⟩), .slice ad cs.length cap] w fun e w' => e = .returned (errV (setI fr n L c cs).1) ∧ ShU A w' sh p fr n N (setI fr n L c cs).2.1 (setI fr n L c cs).2.2 ∧ Fr A w w' := by
  obtain ⟨G, m, h1, h2, h3, h4, h5⟩ := h
  refine (set_any G sh m p fr n N L 0 c ad cap cs w h1 (fun _ => h5.down) (by rw [h5.steps]; decide) (by rw [h5.loose]; simp) hc hok).mono ?_
  rw [setO_idle h5]
  rintro e w' ⟨rfl, G', m', h6, h7, h8, h9⟩
  refine ⟨rfl, ⟨G', m', h6, fun k hk => ?_, h3, ?_, setI_idle h5 _ _ _ _⟩, h9.mono fun k _ hk => ?_⟩
  · rcases h7 k hk with h | h
    · exact h2 k h
    · exact hA k h
  · rcases h8 with rfl | h
    · exact h4
    · exact hA _ h
  · rcases hk with h | rfl
    · exact h2 k h
    · exact h3
theorem getU (A : Nat → Prop) (sh p fr n N : Nat) (L : List Lf) (c : Ct) (k : List UInt8) (w : World) (h : ShU A w sh p fr n N L c) (hk : k.length ≤ maxLen) : Calls Tryz.prog 15 #[.pointer (some ⟨sh, 0, none⟩), encStr k] w fun e w' => e = .returned (.tuple #[encStr (valK k L), .bool (getK Lf.k k L).isSome]) ∧ Below w.heap.size w w' := by
  obtain ⟨G, m, h1, _⟩ := h
  exact get_any sh m p fr n L 0 k w h1.at_ hk
theorem freeU (A : Nat → Prop) (sh p fr n N : Nat) (L : List Lf) (c : Ct) (w : World) (h : ShU A w sh p fr n N L c) : Calls Tryz.prog 18 #[.pointer (some ⟨sh, 0, none⟩)] w fun e w' => e = .returned (.int .i64 (frL L n).length) ∧ Below w.heap.size w w' := by
  obtain ⟨G, m, h1, _⟩ := h
  exact free_cnt sh m p fr n L 0 w h1.at_
/-- Keys: a slice of so many, new or none. -/
theorem keysU (A : Nat → Prop) (sh p fr n N : Nat) (L : List Lf) (c : Ct) (w : World) (h : ShU A w sh p fr n N L c) : Calls Tryz.prog 17 #[.pointer (some ⟨sh, 0, none⟩)] w fun e w' => ∃ v, e = .returned v ∧ StrR w w' v (L.map Lf.k) := by
  obtain ⟨G, m, h1, _⟩ := h
  exact keysS_any sh m p fr n L 0 w h1.at_
theorem keysN (A : Nat → Prop) (sh p fr n N : Nat) (L : List Lf) (c : Ct) (w : World) (h : ShU A w sh p fr n N L c) : Calls Tryz.prog 17 #[.pointer (some ⟨sh, 0, none⟩)] w fun e w' => ∃ ad cap, e = .returned (.slice ad L.length cap) ∧ Below w.heap.size w w' := by
  refine (keysU A sh p fr n N L c w h).mono ?_
  rintro e w' ⟨v, rfl, h1, h2⟩
  rcases Joins.ownsRow_forms h1 with ⟨rfl, h3⟩ | ⟨g, cap, rfl⟩
  · simp at h3
    exact ⟨none, 0, by simp [h3], h2⟩
  · exact ⟨some ⟨g, 0, none⟩, cap, by simp, h2⟩
/-- Changes in a block of their own. -/
theorem flat_get : ∀ (cs : List Cg) (j : Nat) (x : Cg), cs[j]? = some x → (cs.flatMap cgL)[j * 3]? = some (encStr x.k) ∧ (cs.flatMap cgL)[j * 3 + 1]? = some (encStr x.v) ∧ (cs.flatMap cgL)[j * 3 + 2]? = some (.bool x.g)
  | [], j, x, h => by cases j <;> cases h
  | y :: r, 0, x, h => by cases h; exact ⟨rfl, rfl, rfl⟩
  | y :: r, j + 1, x, h => by
    have ih := flat_get r j x h
    have e : ∀ q, ((y :: r).flatMap cgL)[(j + 1) * 3 + q]? = (r.flatMap cgL)[j * 3 + q]? := fun q => by
      rw [List.flatMap_cons, List.getElem?_append_right (by simp [cgL]; omega)]
      congr 1
      simp [cgL]; omega
    exact ⟨(e 0).trans ih.1, (e 1).trans ih.2.1, (e 2).trans ih.2.2⟩
theorem CgAt.new (cs : List Cg) (w : World) (T : TypeId) (z : Nat × Nat) : CgAt (w.alloc (.cells (cs.flatMap cgL).toArray T z)) (some ⟨w.heap.size, 0, none⟩) cs := fun _ => by
  refine ⟨w.heap.size, 0, rfl, fun j x hx => ?_⟩
  have h := flat_get cs j x hx
  have e : ∀ q, (w.alloc (.cells (cs.flatMap cgL).toArray T z)).cell? ⟨w.heap.size, q, none⟩ = (cs.flatMap cgL)[q]? := fun q => by
    rw [cell_of_row _ _ _ _ _ _ (heap_alloc_new w (.cells (cs.flatMap cgL).toArray T z))]
    simp
  simp only [Nat.zero_add, e]
  exact h
def cgA1 : Cg := ⟨[97], [49], false⟩
def cgB1 : Cg := ⟨[98], [], false⟩
def cgC1 : Cg := ⟨[97], [], false⟩
def cgD1 : Cg := ⟨[98], [50], false⟩
def lfs1 : List Lf := [⟨[97], 1, [49]⟩, ⟨[98], 2, []⟩]
def ct1 : Ct := ⟨[[], [], [1, 2, 1, 1, 1, 2], [97, 0, 0, 49, 0, 0], [98, 0, 0, 0, 0], [], [], [], []], [], false, 0, false⟩
theorem root1 : rootB lfs1 = [1, 2, 1, 1, 1, 2] := by
  have e : plI lfs1 = [1, 2] := srtI_up (l := [1, 2]) (by simp)
  have e2 : uB (lfs1.length : Int) ++ uBs [1, 2] = [1, 2, 1, 1, 1, 2] := by kernel_rfl
  rw [rootB, e, e2]
theorem sure1 : openR (newC 9) 2 4 = some [] := by kernel_rfl
theorem sure2 : setI 2 4 [] (newC 9) [cgA1, cgB1] = (0, lfs1, ct1) := by
  have e : setI 2 4 [] (newC 9) [cgA1, cgB1] = (0, lfs1, (newC 9).laid ([(3, [97, 0, 0, 49, 0, 0]), (4, [98, 0, 0, 0, 0])] ++ [(2, rootB lfs1)])) := by kernel_rfl
  have e2 : (newC 9).laid ([(3, [97, 0, 0, 49, 0, 0]), (4, [98, 0, 0, 0, 0])] ++ [(2, [1, 2, 1, 1, 1, 2])]) = ct1 := by kernel_rfl
  rw [e, root1, e2]
theorem sure3 : setI 2 4 lfs1 ct1 [cgC1, cgD1] = (10, lfs1, ct1) := by kernel_rfl
theorem sure4 : openR ct1 2 4 = some lfs1 := by kernel_rfl
theorem sure5 : (frL lfs1 4).length = 1 := by kernel_rfl
theorem sure6 : valK [97] lfs1 = [49] ∧ (getK Lf.k [97] lfs1).isSome = true := ⟨by kernel_rfl, by kernel_rfl⟩
end Go.Proofs.YtmekplaonlpfkaaGreatDoor
/- sure: the chapter's example. -/
namespace Go.Proofs.YtmekplaonlpfkaaGreatDoor
open Go.RowKit Go.Maps Go.Sort

attribute [local go_sem ↓] Go.wp_at_zero Go.wp_at_succ

/-- A shelf within sure, and the area's block, which stays. -/
structure SuI (w w2 W : World) (a : Nat) (A : Nat → Prop) (sh p : Nat) (L : List Lf) (c : Ct) : Prop where
  sh_ : ShU A W sh p 2 4 9 L c
  below : Below w.heap.size w W
  size : w2.heap.size ≤ W.heap.size
  area : W.heap[a]? = w2.heap[a]?
  lt : a < w2.heap.size
theorem SuI.next {w w2 W W' : World} {a : Nat} {A : Nat → Prop} {sh p : Nat} {L : List Lf} {c : Ct} (h : SuI w w2 W a A sh p L c) (hb : Below W.heap.size W W') : SuI w w2 W' a A sh p L c :=
  ⟨h.sh_.below hb, Below.transS h.below hb, Nat.le_trans h.size hb.size, (hb.block a (Nat.lt_of_lt_of_le h.lt h.size)).trans h.area, h.lt⟩
set_option maxRecDepth 100000 in
set_option maxHeartbeats 3200000 in
theorem sure_any (w : World) (hg : Glob w) : Calls Tryz.prog 8 #[] w fun e w' => e = .returned (.bool true) ∧ Below w.heap.size w w' := by
  have HG : Hid (Glob w) := hg
  have hpos := hg.pos
  have hnew := newU 9 (by omega) (by omega) w
  clear hg
  go_enter Tryz.func8, Tryz.ntmps8
  go_wp2_with fail
  refine hnew.mono ?_
  rintro e w1 ⟨p, rfl, hS1, hb1⟩
  obtain ⟨w2, hw2⟩ : ∃ w2, w1.alloc (.cells #[.int .i64 2, .int .i64 4] 35) = w2 := ⟨_, rfl⟩
  have hb2 : Below w1.heap.size w1 w2 := by rw [← hw2]; exact (Below.refl _ w1).alloc (Nat.le_refl _) _
  have hz2 : w2.heap.size = w1.heap.size + 1 := by rw [← hw2]; simp
  have hz1 := hb1.size
  have hsa : w1.heap.size < w2.heap.size := by omega
  have ka0 : w2.cell? ⟨w1.heap.size, 0, none⟩ = some (.int .i64 2) := by rw [← hw2]; simp
  have ka1 : w2.cell? ⟨w1.heap.size, 1, none⟩ = some (.int .i64 4) := by rw [← hw2]; simp
  obtain ⟨A, hA⟩ : ∃ A : Nat → Prop, A = fun k => w.heap.size ≤ k ∧ k ≠ w1.heap.size := ⟨_, rfl⟩
  have HA : Hid (∀ W : World, w2.heap.size ≤ W.heap.size → ∀ k, W.heap.size ≤ k → A k) := fun W hW k hk => by rw [hA]; exact ⟨by omega, by omega⟩
  have HAB : Hid (∀ W W' : World, w2.heap.size ≤ W.heap.size → Fr A W W' → Below w.heap.size W W') := fun W W' hW h => h.below (by omega) fun k hk => by rw [hA] at hk; exact hk.1
  have HAK : Hid (∀ W W' : World, w2.heap.size ≤ W.heap.size → Fr A W W' → W'.heap[w1.heap.size]? = W.heap[w1.heap.size]?) := fun W W' hW h => h.block _ (by omega) fun hk => by rw [hA] at hk; exact hk.2 rfl
  have hS2 : StU A w2 p 9 (newC 9) := (hS1.mono (A' := A) fun k hk h => by rw [hA]; exact ⟨h, by omega⟩).below hb2
  have hop := openU_some A p 2 4 9 (newC 9) [] w2 hS2 (HA.out w2 (Nat.le_refl _)) (by omega) (by omega) sure1
  have HB2 : Hid (Below w.heap.size w w2) := Below.transS hb1 hb2
  clear hnew hS1 hb1 hS2 hb2 hA hz2
  go_wp2_with fail
  clear hw2
  refine hop.mono ?_
  rintro e w3 ⟨sh, rfl, hS3, hb3⟩
  have HI3 : Hid (SuI w w2 w3 w1.heap.size A sh p [] (newC 9)) := ⟨hS3, Below.transS HB2.out hb3, hb3.size, hb3.block _ hsa, hsa⟩
  clear hop hS3 hb3
  obtain ⟨w4, hw4⟩ : ∃ w4, w3.alloc (.cells #[.string ⟨#[97]⟩, .string ⟨#[49]⟩, .bool false, .string ⟨#[98]⟩, .string ⟨#[]⟩, .bool false] 70) = w4 := ⟨_, rfl⟩
  have hb4 : Below w3.heap.size w3 w4 := by rw [← hw4]; exact (Below.refl _ w3).alloc (Nat.le_refl _) _
  have hc4 : CgAt w4 (some ⟨w3.heap.size, 0, none⟩) [cgA1, cgB1] := by rw [← hw4]; exact CgAt.new [cgA1, cgB1] w3 _ _
  have HI4 : Hid (SuI w w2 w4 w1.heap.size A sh p [] (newC 9)) := HI3.out.next hb4
  have hs4 := setU A sh p 2 4 9 [] (newC 9) (some ⟨w3.heap.size, 0, none⟩) 2 [cgA1, cgB1] w4 HI4.out.sh_ (HA.out _ HI4.out.size) hc4 (by unfold COk; decide)
  rw [sure2] at hs4
  dsimp only at hs4
  have e0 : errV 0 = .nilIface := rfl
  rw [e0] at hs4
  clear hb4 hc4 e0 HI3
  go_wp2_with fail
  clear hw4
  refine hs4.mono ?_
  rintro e w5 ⟨rfl, hS5, hF5⟩
  have HI5 : Hid (SuI w w2 w5 w1.heap.size A sh p lfs1 ct1) := ⟨hS5, HI4.out.below.trans (HAB.out _ _ HI4.out.size hF5), Nat.le_trans HI4.out.size hF5.size, (HAK.out _ _ HI4.out.size hF5).trans HI4.out.area, hsa⟩
  clear hs4 hS5 hF5 HI4
  have hf5 := freeU A sh p 2 4 9 lfs1 ct1 w5 HI5.out.sh_
  rw [sure5] at hf5
  go_wp2_with fail
  refine hf5.mono ?_
  rintro e w6 ⟨rfl, hb6⟩
  have HI6 : Hid (SuI w w2 w6 w1.heap.size A sh p lfs1 ct1) := HI5.out.next hb6
  clear hf5 hb6 HI5
  obtain ⟨w7, hw7⟩ : ∃ w7, w6.alloc (.cells #[.string ⟨#[97]⟩, .string ⟨#[]⟩, .bool false, .string ⟨#[98]⟩, .string ⟨#[50]⟩, .bool false] 70) = w7 := ⟨_, rfl⟩
  have hb7 : Below w6.heap.size w6 w7 := by rw [← hw7]; exact (Below.refl _ w6).alloc (Nat.le_refl _) _
  have hc7 : CgAt w7 (some ⟨w6.heap.size, 0, none⟩) [cgC1, cgD1] := by rw [← hw7]; exact CgAt.new [cgC1, cgD1] w6 _ _
  have HI7 : Hid (SuI w w2 w7 w1.heap.size A sh p lfs1 ct1) := HI6.out.next hb7
  have hs7 := setU A sh p 2 4 9 lfs1 ct1 (some ⟨w6.heap.size, 0, none⟩) 2 [cgC1, cgD1] w7 HI7.out.sh_ (HA.out _ HI7.out.size) hc7 (by unfold COk; decide)
  rw [sure3] at hs7
  dsimp only at hs7
  rw [errV_ne (by decide)] at hs7
  clear hb7 hc7 HI6
  go_wp2_with fail
  clear hw7
  refine hs7.mono ?_
  rintro e w8 ⟨rfl, hS8, hF8⟩
  have HI8 : Hid (SuI w w2 w8 w1.heap.size A sh p lfs1 ct1) := ⟨hS8, HI7.out.below.trans (HAB.out _ _ HI7.out.size hF8), Nat.le_trans HI7.out.size hF8.size, (HAK.out _ _ HI7.out.size hF8).trans HI7.out.area, hsa⟩
  clear hs7 hS8 hF8 HI7
  have k80 : w8.cell? ⟨w1.heap.size, 0, none⟩ = some (.int .i64 2) := by rw [World.cell?_of_block (a := ⟨w1.heap.size, 0, none⟩) HI8.out.area]; exact ka0
  have k81 : w8.cell? ⟨w1.heap.size, 1, none⟩ = some (.int .i64 4) := by rw [World.cell?_of_block (a := ⟨w1.heap.size, 1, none⟩) HI8.out.area]; exact ka1
  have ho8 := openU_some A p 2 4 9 ct1 lfs1 w8 HI8.out.sh_.store (HA.out _ HI8.out.size) (by omega) (by omega) sure4
  clear ka0 ka1
  go_wp2_with fail
  refine ho8.mono ?_
  rintro e w9 ⟨t, rfl, hS9, hb9⟩
  have HI9 : Hid (SuI w w2 w9 w1.heap.size A t p lfs1 ct1) := ⟨hS9, Below.transS HI8.out.below hb9, Nat.le_trans HI8.out.size hb9.size, (hb9.block _ (Nat.lt_of_lt_of_le hsa HI8.out.size)).trans HI8.out.area, hsa⟩
  clear ho8 hS9 hb9 HI8 k80 k81
  have hg9 := getU A t p 2 4 9 lfs1 ct1 [97] w9 HI9.out.sh_ (by decide)
  rw [sure6.1, sure6.2] at hg9
  go_wp2_with fail
  refine hg9.mono ?_
  rintro e w10 ⟨rfl, hb10⟩
  have HI10 : Hid (SuI w w2 w10 w1.heap.size A t p lfs1 ct1) := HI9.out.next hb10
  have hn10 := num_hit 10 w10 (HG.out.below HI10.out.below hpos)
  clear hg9 hb10 HI9
  go_wp2_with fail
  refine hn10.mono ?_
  rintro e w11 ⟨rfl, hb11⟩
  have HI11 : Hid (SuI w w2 w11 w1.heap.size A t p lfs1 ct1) := HI10.out.next hb11
  have hk11 := keysN A t p 2 4 9 lfs1 ct1 w11 HI11.out.sh_
  have e2 : lfs1.length = 2 := rfl
  rw [e2] at hk11
  have heq : (binOp .eql 9 (encStr [49]) (.string ⟨#[49]⟩)).run Tryz.prog w11 = .ok (.bool true) w11 := eq_str [49] [49] w11
  clear hn10 hb11 HI10 e2
  go_wp2_with fail
  refine hk11.mono ?_
  rintro e w12 ⟨ad, cap, rfl, hb12⟩
  have HE : Hid (Below w.heap.size w w12) := Below.transS HI11.out.below hb12
  clear hk11 heq HI11 hb12
  go_wp2
  go_ret
  exact ⟨rfl, HE.out⟩
end Go.Proofs.YtmekplaonlpfkaaGreatDoor
/- Rows of changes of one's own; changes of one key. -/
namespace Go.Proofs.YtmekplaonlpfkaaGreatDoor
open Go.RowKit Go.Maps Go.Sort

/-- A value that owns changes, made since w0; nothing that was there in w0 has changed. -/
structure CgOw (w0 w : World) (v : Value) (C : List Cg) : Prop where
  own : w.ownsRow w0.heap.size 70 3 v C.length (flatC C)
  below : Below w0.heap.size w0 w
theorem CgOw.nil (w : World) : CgOw w w (.slice none 0 0) [] := ⟨World.ownsRow_nil _ _ _ _, Below.refl _ _⟩
theorem CgOw.keep {w0 w w' : World} {v : Value} {C : List Cg} (h : CgOw w0 w v C) (hb : Below w.heap.size w w') : CgOw w0 w' v C :=
  ⟨owns_row_keep h.own fun k e => hb.block k (h.own.lt k e).2, Below.transS h.below hb⟩
theorem CgOw.sl {w0 w : World} {v : Value} {C : List Cg} (h : CgOw w0 w v C) : ∃ ad cap, v = .slice ad C.length cap ∧ CgAt w ad C ∧ (∀ a, ad = some a → w0.heap.size ≤ a.block ∧ a.block < w.heap.size) := by
  rcases h.own.2 with ⟨rfl, e⟩ | ⟨g, cap, cur, rfl, hbs, hg, _⟩
  · exact ⟨none, 0, by rw [e], (fun hn => by omega), fun a e => by cases e⟩
  · refine ⟨_, cap, rfl, fun _ => ⟨g, 0, rfl, fun j x hx => ?_⟩, fun a e => by cases e; exact ⟨hbs, lt_of_block hg⟩⟩
    have hf := flat_get C j x hx
    have hc := h.own.cells (g := g) rfl
    simp only [Addr.add_lit] at hc
    exact ⟨hc _ _ hf.1, by rw [Nat.add_assoc]; exact hc _ _ hf.2.1, by rw [Nat.add_assoc]; exact hc _ _ hf.2.2⟩
theorem infoCg : (Tryz.prog.info? 70).map (fun i => (i.zero, i.size, i.bytes)) = some (some (.agg #[.string ⟨#[]⟩, .string ⟨#[]⟩, .bool false]), 3, 40) := by kernel_rfl
theorem CgOw.append {w0 w : World} {v : Value} {C : List Cg} {r : Nat} {x : Cg} (h : CgOw w0 w v C) (hr : w.heap[r]? = some (.cells #[encStr x.k, encStr x.v, .bool x.g] 70 (0, 0))) (hn : C.length ≤ 100000) (ty : TypeId) :
    ∃ v' w1, (Builtin.append_ #[52, 52] ty #[v, .slice (some ⟨r, 0, none⟩) 1 1]).run Tryz.prog w = .ok v' w1 ∧ CgOw w0 w1 v' (C ++ [x]) := by
  obtain ⟨i0, hi0, hz0, hz1, hz2⟩ := info_parts infoCg
  obtain ⟨v', w1, h1, h2, h3, _, _⟩ := run_append_own_at (P := Tryz.prog) w w0.heap.size 52 ty 70 i0 (.agg #[.string ⟨#[]⟩, .string ⟨#[]⟩, .bool false]) 3 40 Tryz.underlying52 hi0 hz0 hz1 hz2 rfl (by decide) v C.length (flatC C) h.own ⟨r, 0, none⟩ 1 1 (flatC [x]) (by simp [flatC, cgL])
    (fun j u hj => by
      rw [Addr.add_lit, Nat.zero_add, cell_of_row _ _ j _ _ _ hr]
      simpa [flatC, cgL] using hj)
    (by simp [flatC, cgL, encStr, Value.oneCell']) (by unfold maxLen; omega) (by omega) h.below.size
  refine ⟨v', w1, h1, ?_, h.below.grown h3 h.below.size (fun k e => (h.own.lt k e).1)⟩
  rw [flatC_append]
  simpa using h2
theorem wpList_append_Cg {ops : Array Oper} {rest : List Oper} {o : Oper} {a : Act} {w : World} {Q : Exit → Act → World → Prop} (hgd : o.guard = none) (s x : Operand) (ho : o.op = .call { callee := .builtin .append, args := #[s, x], argTypes := #[52, 52] })
    (w0 : World) (v : Value) (C : List Cg) (r : Nat) (y : Cg) (hs : a.eval s = v) (hx : a.eval x = .slice (some ⟨r, 0, none⟩) 1 1) (h : CgOw w0 w v C) (hr : w.heap[r]? = some (.cells #[encStr y.k, encStr y.v, .bool y.g] 70 (0, 0))) (hn : C.length ≤ 100000)
    (hk : ∀ v' w1, CgOw w0 w1 v' (C ++ [y]) → wpList Tryz.prog ops Q rest (a.put o.dst v') w1) : wpList Tryz.prog ops Q (o :: rest) a w := by
  obtain ⟨v', w1, hrun, h2⟩ := h.append hr hn o.type
  refine wpList_plain hgd fun K hK => ?_
  unfold Oper.wp execOp
  simp only [ho, resolve, invoke, builtin, Sem.run_bind, Sem.run_pure, Result.andThen_ok, List.map_toArray, List.map_cons, List.map_nil, hs, hx, hrun]
  exact hK _ _ (hk v' w1 h2)

/-- Of changes of one key the last counts. -/
theorem lastL_one {ys : List Cg} {x : Cg} (h : ∀ y ∈ ys, y.k = x.k) : lastL (ys ++ [x]) = [x] := by
  have e : delK Cg.k x.k (lastL ys) = [] := by
    unfold delK
    rw [List.filter_eq_nil_iff]
    intro y hy
    simp [h y (lastL_mem hy)]
  rw [lastL_snoc, putK, e]
  rfl
section
variable {k v : List UInt8} {ys : List Cg} {c : Ct}
theorem last0 : setI 0 3 [] c [] = (0, [], c) := by
  have e : todoL [] [] = [] := rfl
  unfold setI
  rw [e]
  rfl
theorem last1 (h : ∀ y ∈ ys, y.k = k) (hk : k.length ≤ 50) (hv : v.length ≤ 50) : (setI 0 3 [] c (ys ++ [⟨k, v, false⟩])).1 = 0 ∧ (setI 0 3 [] c (ys ++ [⟨k, v, false⟩])).2.1 = [⟨k, 1, v⟩] := by
  have e1 : todoL [] (ys ++ [⟨k, v, false⟩]) = [⟨k, v, false⟩] := by unfold todoL; rw [lastL_one h]; simp [sameC, getK]
  have h1 := encB_le k
  have h2 := encB_le v
  have e2 : layL [⟨k, v, false⟩] = some [leafB k v] := by
    simp only [layL, Bool.false_eq_true, if_false, Option.map_some]
    rw [if_neg (by unfold leafB; simp only [List.length_append]; omega)]
  have e3 : frN [] 3 = [1, 2] := rfl
  have e4 : behL [⟨k, v, false⟩] [1, 2] [] = [⟨k, 1, v⟩] := by simp [behL, putK, delK, insK]
  unfold setI
  rw [e1, e2, e3, e4]
  simp
theorem last2 (h : ∀ y ∈ ys, y.k = k) : setI 0 3 [⟨k, 1, v⟩] c (ys ++ [⟨k, v, false⟩]) = (0, [⟨k, 1, v⟩], c) := by
  have e1 : todoL [⟨k, 1, v⟩] (ys ++ [⟨k, v, false⟩]) = [] := by unfold todoL; rw [lastL_one h]; simp [sameC, getK]
  unfold setI
  rw [e1]
  simp [layL]
theorem last3 : (setI 0 3 [⟨k, 1, v⟩] c [⟨k, [], true⟩]).1 = 0 ∧ (setI 0 3 [⟨k, 1, v⟩] c [⟨k, [], true⟩]).2.1 = [] := by
  have e0 : lastL [⟨k, [], true⟩] = [⟨k, [], true⟩] := rfl
  have e1 : todoL [⟨k, 1, v⟩] [⟨k, [], true⟩] = [⟨k, [], true⟩] := by unfold todoL; rw [e0]; simp [sameC, getK]
  have e4 : ∀ f, behL [⟨k, [], true⟩] f [⟨k, 1, v⟩] = [] := fun f => by simp [behL, delK]
  unfold setI
  rw [e1]
  simp [layL, e4]
theorem last4 : valK k [⟨k, 1, v⟩] = v ∧ (getK Lf.k k [⟨k, 1, v⟩]).isSome = true := by simp [valK, getK]
theorem last5 : (frL [⟨k, 1, v⟩] 3).length = 1 := rfl
end
/-- Values that came in. -/
def VsAt (W : World) (ad : Option Addr) (len : Nat) (Z : Nat → List UInt8) : Prop := 0 < len → ∃ b off, ad = some ⟨b, off, none⟩ ∧ ∀ j, j < len → W.cell? ⟨b, off + j, none⟩ = some (encStr (Z j))
/-- Changes of one key. -/
def csOf (k : List UInt8) (Z : Nat → List UInt8) (i : Nat) : List Cg := (List.range i).map fun j => ⟨k, Z j, false⟩
theorem csOf_succ (k : List UInt8) (Z : Nat → List UInt8) (i : Nat) : csOf k Z (i + 1) = csOf k Z i ++ [⟨k, Z i, false⟩] := by simp [csOf, List.range_succ]
theorem csOf_length (k : List UInt8) (Z : Nat → List UInt8) (i : Nat) : (csOf k Z i).length = i := by simp [csOf]
theorem csOf_k {k : List UInt8} {Z : Nat → List UInt8} {i : Nat} : ∀ y ∈ csOf k Z i, y.k = k := fun y hy => by
  obtain ⟨j, _, rfl⟩ := List.mem_map.1 hy; rfl
theorem csOf_ok {k : List UInt8} {Z : Nat → List UInt8} {i : Nat} (hi : i ≤ 10) (hk : k.length ≤ 50) (hZ : ∀ j, j < i → (Z j).length ≤ 50) : COk (csOf k Z i) := by
  refine ⟨by rw [csOf_length]; omega, fun x hx => ?_⟩
  obtain ⟨j, hj, rfl⟩ := List.mem_map.1 hx
  have := hZ j (List.mem_range.1 hj)
  exact ⟨by show k.length ≤ _; omega, by show (Z j).length ≤ _; omega⟩
end Go.Proofs.YtmekplaonlpfkaaGreatDoor
/- From the rows' hypothesis on the library's variable to its cell; strings that came in. -/
namespace Go.Proofs.YtmekplaonlpfkaaGreatDoor
open Go.ChangeShapes Go.WideShapes Go.RowKit Go.ChangeAt

theorem laidOut : laidOutB Tryz.prog = true := by kernel_rfl
theorem tsize : Tryz.prog.types.size = 273 := by kernel_rfl
theorem own : ownKnob Tryz.prog.godebug = none := by kernel_rfl
theorem et : Tryz.prog.globalNamed "errors.errorType" = some 0 := by kernel_rfl
/-- The name under which the row lists the handle's own type. -/
def handleName : String := match (Rows.laid_errors_errorType (H := Unit)) with
  | .iface s _ => s
  | _ => ""
theorem rt : (Tryz.prog.cutTypes.find? (·.1 == handleName)).map (·.2) = some 179 := by kernel_rfl
theorem oneRow : ((List.range 273).filter fun t => Tryz.prog.rowNamed t [101, 114, 114, 111, 114]) = [26] := by kernel_rfl

/-- What the condition gives a walk: the variable's one cell. -/
theorem glob_of_laid {W : World} (h : laidMetH Tryz.prog [("errors.errorType", Rows.laid_errors_errorType)] W) : Glob W := by
  have h' : laidMet Tryz.prog [] W ∧ handlesMet Tryz.prog [("errors.errorType", Rows.laid_errors_errorType)] W := h
  obtain ⟨name, u, ty, e1, e2, e3, e4, e5⟩ := h'.2 _ (List.mem_singleton.2 rfl)
  have en : name = [101, 114, 114, 111, 114] := (Option.some.inj e1).symm
  subst en
  obtain rfl := Option.some.inj (rt.symm.trans e2)
  have hm : ty ∈ (List.range 273).filter fun t => Tryz.prog.rowNamed t [101, 114, 114, 111, 114] := List.mem_filter.2 ⟨List.mem_range.2 (by rw [← tsize]; exact e3), e4⟩
  rw [oneRow] at hm
  obtain rfl := List.mem_singleton.1 hm
  have hh : typeHandle Tryz.prog 26 = .pointer (some ⟨2, 26, none⟩) := by kernel_rfl
  rw [hh] at e5
  have := World.var?_cell et e5 0
  unfold Glob
  simpa using this

/-- Strings that came in: how they lie. -/
theorem strs_in {H : Type} {enc : TypeId × Value → H} {W : World} {base fuel : Nat} {a : Option Addr} {len cap : Nat} {x : DataW H × List MemPlace} {held : Bool}
    (hf : DataW.trod enc Tryz.prog W base (fun _ => true) held fuel 46 (Value.slice a len cap).cells.toList = some x) :
    ∃ Z : Nat → List UInt8, len ≤ maxLen ∧ (∀ j, j < len → (Z j).length ≤ maxLen) ∧ VsAt W a len Z := by
  rcases Go.Deep.open_strs Tryz.underlying46 Tryz.underlying9 (by kernel_rfl) hf with ⟨hcs, hx⟩ | ⟨ad, l, c, m, B, hcs, _, hl, hm, hmm, hx, hcell⟩
  · simp [Value.cells] at hcs
    obtain ⟨rfl, rfl, rfl⟩ := hcs
    exact ⟨fun _ => [], by omega, (fun j hj => by omega), fun h => by omega⟩
  · simp [Value.cells] at hcs
    obtain ⟨rfl, rfl, rfl⟩ := hcs
    have hlm : len ≤ m := by rw [hmm]; split <;> omega
    refine ⟨fun j => (B j).data.toList, by omega, fun j hj => (hcell j (by omega)).2, fun hn => ?_⟩
    obtain ⟨b, off, spot⟩ := ad
    have hc := (hcell 0 (by omega)).1
    have hspot : spot = none := by simpa [Addr.add] using World.cell?_spot hc
    subst hspot
    refine ⟨b, off, rfl, fun j hj => ?_⟩
    have := (hcell j (by omega)).1
    rw [Addr.add_lit] at this
    exact this
end Go.Proofs.YtmekplaonlpfkaaGreatDoor
/- The document's Set, as a function: the same leaves as the program's. -/
namespace Go.Proofs.YtmekplaonlpfkaaGreatDoor
open Go.RowKit Go.Maps Go.Sort

def foldK (m cs : List Cg) : List Cg := cs.foldl (fun m c => putK Cg.k c m) m
theorem mem_foldK : ∀ (r m : List Cg) (x : Cg), x ∈ foldK m r ↔ x ∈ foldK [] r ∨ (x ∈ m ∧ ∀ d ∈ r, d.k ≠ x.k)
  | [], m, x => by simp [foldK]
  | c :: r, m, x => by
    have e1 : foldK m (c :: r) = foldK (putK Cg.k c m) r := rfl
    have e2 : foldK [] (c :: r) = foldK (putK Cg.k c []) r := rfl
    rw [e1, e2, mem_foldK r (putK Cg.k c m) x, mem_foldK r (putK Cg.k c []) x, mem_putK, mem_putK]
    constructor
    · rintro (h | ⟨rfl | ⟨h1, h2⟩, h3⟩)
      · exact .inl (.inl h)
      · exact .inl (.inr ⟨.inl rfl, h3⟩)
      · refine .inr ⟨h1, fun d hd => ?_⟩
        rcases List.mem_cons.1 hd with rfl | hd
        · exact fun e => h2 e.symm
        · exact h3 d hd
    · rintro ((h | ⟨rfl | ⟨h1, h2⟩, h3⟩) | ⟨h1, h2⟩)
      · exact .inl h
      · exact .inr ⟨.inl rfl, h3⟩
      · cases h1
      · exact .inr ⟨.inr ⟨h1, fun e => h2 c (List.mem_cons_self ..) e.symm⟩, fun d hd => h2 d (List.mem_cons_of_mem _ hd)⟩
theorem mem_lastL_cons {c : Cg} {r : List Cg} {x : Cg} : x ∈ lastL (c :: r) ↔ x ∈ lastL r ∨ (x = c ∧ ∀ d ∈ r, d.k ≠ c.k) := by
  have e : lastL (c :: r) = foldK (putK Cg.k c []) r := rfl
  have e2 : lastL r = foldK [] r := rfl
  rw [e, e2, mem_foldK, mem_putK]
  constructor
  · rintro (h | ⟨rfl | ⟨h1, _⟩, h3⟩)
    · exact .inl h
    · exact .inr ⟨rfl, h3⟩
    · cases h1
  · rintro (h | ⟨rfl, h3⟩)
    · exact .inl h
    · exact .inr ⟨.inl rfl, h3⟩
/-- Is a change the last one of its key? -/
def lastB' (c : Cg) (r : List Cg) : Bool := r.all fun d => !(d.k == c.k)
theorem lastB'_iff {c : Cg} {r : List Cg} : lastB' c r = true ↔ ∀ d ∈ r, d.k ≠ c.k := by simp [lastB']
/-- The document's first loop. -/
def pickL (L : List Lf) : List Cg → List Cg → List Cg
  | acc, [] => acc
  | acc, c :: r => pickL L (if lastB' c r = true ∧ sameC L c = false then insK Cg.k c acc else acc) r
theorem pickL_mem (L : List Lf) : ∀ (r acc : List Cg), Rise Cg.k acc → (∀ y ∈ acc, ∀ d ∈ r, d.k ≠ y.k) → Rise Cg.k (pickL L acc r) ∧ ∀ x, x ∈ pickL L acc r ↔ x ∈ acc ∨ (x ∈ lastL r ∧ sameC L x = false)
  | [], acc, h, _ => ⟨h, fun x => by simp [pickL, lastL]⟩
  | c :: r, acc, h, hd => by
    rw [pickL]
    by_cases hc : lastB' c r = true ∧ sameC L c = false
    · rw [if_pos hc]
      have h1 := lastB'_iff.1 hc.1
      have h2 : Rise Cg.k (insK Cg.k c acc) := Rise.ins Cg.k h fun y hy => fun e => hd y hy c (List.mem_cons_self ..) e.symm
      obtain ⟨h3, h4⟩ := pickL_mem L r _ h2 (fun y hy d hdr => by
        rcases (mem_insK Cg.k).1 hy with rfl | hy
        · exact h1 d hdr
        · exact hd y hy d (List.mem_cons_of_mem _ hdr))
      refine ⟨h3, fun x => ?_⟩
      rw [h4, mem_insK, mem_lastL_cons]
      constructor
      · rintro ((rfl | h) | ⟨h5, h6⟩)
        · exact .inr ⟨.inr ⟨rfl, h1⟩, hc.2⟩
        · exact .inl h
        · exact .inr ⟨.inl h5, h6⟩
      · rintro (h | ⟨h5 | ⟨rfl, _⟩, h6⟩)
        · exact .inl (.inr h)
        · exact .inr ⟨h5, h6⟩
        · exact .inl (.inl rfl)
    · rw [if_neg hc]
      obtain ⟨h3, h4⟩ := pickL_mem L r acc h (fun y hy d hdr => hd y hy d (List.mem_cons_of_mem _ hdr))
      refine ⟨h3, fun x => ?_⟩
      rw [h4, mem_lastL_cons]
      constructor
      · rintro (h | ⟨h5, h6⟩)
        · exact .inl h
        · exact .inr ⟨.inl h5, h6⟩
      · rintro (h | ⟨h5 | ⟨rfl, h7⟩, h6⟩)
        · exact .inl h
        · exact .inr ⟨h5, h6⟩
        · exact absurd ⟨lastB'_iff.2 h7, h6⟩ hc
theorem pickL_todo (L : List Lf) (cs : List Cg) : pickL L [] cs = todoL L cs := by
  obtain ⟨h1, h2⟩ := pickL_mem L cs [] List.Pairwise.nil (fun y hy => by cases hy)
  refine Rise.ext Cg.k h1 (todoL_rise L cs) fun x => ?_
  rw [h2]
  unfold todoL
  rw [List.mem_filter]
  simp
/-- What the document's Set answers: the leaves, how many are laid, whether something changes, the error. -/
def setD (n : Nat) (L : List Lf) (cs : List Cg) : List Lf × Nat × Bool × Int :=
  match layL (todoL L cs) with
  | none => (L, 0, false, 2)
  | some ls => if n - 1 - L.length < ls.length then (L, 0, false, 10) else (behL (todoL L cs) (frN L n) L, ls.length, decide (0 < (todoL L cs).length), 0)
theorem behL_nil (f : List Nat) (L : List Lf) : behL [] f L = L := rfl
/-- Free places from q on. -/
def frF (L : List Lf) (n q : Nat) : List Nat := (List.range' q (n - q)).filter fun i => !heldB L i
theorem frF_one (L : List Lf) (n : Nat) : frF L n 1 = frN L n := rfl
theorem frF_held {L : List Lf} {n q : Nat} (h : heldB L q = true) : frF L n q = frF L n (q + 1) := by
  unfold frF
  by_cases hq : q < n
  · have e : n - q = (n - (q + 1)) + 1 := by omega
    rw [e, List.range'_succ, List.filter_cons, h]
    rfl
  · have e1 : n - q = 0 := by omega
    have e2 : n - (q + 1) = 0 := by omega
    rw [e1, e2]; rfl
theorem frF_free {L : List Lf} {n q : Nat} (h : heldB L q = false) (hq : q < n) : frF L n q = q :: frF L n (q + 1) := by
  unfold frF
  have e : n - q = (n - (q + 1)) + 1 := by omega
  rw [e, List.range'_succ, List.filter_cons, h]
  rfl
theorem frF_out {L : List Lf} {n q : Nat} (h : n ≤ q) : frF L n q = [] := by
  unfold frF
  have e1 : n - q = 0 := by omega
  rw [e1]; rfl
theorem delK_delK {α : Type} (key : α → List UInt8) (k : List UInt8) (l : List α) : delK key k (delK key k l) = delK key k l := by
  unfold delK
  rw [List.filter_filter]
  congr 1
  funext y
  simp
theorem behL_gone {c : Cg} {r : List Cg} {f : List Nat} {M : List Lf} (h : c.g = true) : behL (c :: r) f M = behL r f (delK Lf.k c.k M) := by
  rw [behL, if_pos h]
theorem behL_put {c : Cg} {r : List Cg} {q : Nat} {f : List Nat} {M : List Lf} (h : c.g = false) : behL (c :: r) (q :: f) M = behL r f (insK Lf.k ⟨c.k, q, c.v⟩ (delK Lf.k c.k M)) := by
  have hg : ¬ c.g = true := by simp [h]
  rw [behL, if_neg hg]
  unfold putK
  rw [delK_delK]
  rfl
theorem behL_rise : ∀ (C : List Cg) (f : List Nat) (M : List Lf), Rise Lf.k M → Rise Lf.k (behL C f M)
  | [], _, _, h => h
  | c :: r, f, M, h => by
    rw [behL]
    split
    · exact behL_rise r _ _ (h.del Lf.k _)
    · exact behL_rise r _ _ (Rise.put Lf.k (h.del Lf.k _))
theorem behL_len : ∀ (C : List Cg) (f : List Nat) (M : List Lf), (behL C f M).length ≤ M.length + C.length
  | [], _, _ => by simp [behL]
  | c :: r, f, M => by
    rw [behL]
    have hd : (delK Lf.k c.k M).length ≤ M.length := List.length_filter_le _ _
    split
    · have := behL_len r f (delK Lf.k c.k M)
      simp only [List.length_cons]; omega
    · have := behL_len r f.tail (putK Lf.k ⟨c.k, f.headD 0, c.v⟩ (delK Lf.k c.k M))
      have h2 := putK_le Lf.k (⟨c.k, f.headD 0, c.v⟩ : Lf) (delK Lf.k c.k M)
      simp only [List.length_cons]; omega
end Go.Proofs.YtmekplaonlpfkaaGreatDoor
/- The document's leaves: Find, used, without. -/
namespace Go.Proofs.YtmekplaonlpfkaaGreatDoor
open Go.RowKit Go.Maps Go.Sort

attribute [local go_sem ↓] Go.wp_at_zero Go.wp_at_succ

def lrL (x : Lf) : List Value := [encStr x.k, encStr x.v, .int .i64 (x.p : Int)]
def flatR (L : List Lf) : List Value := L.flatMap lrL
/-- The document's leaves lie at ad. -/
def LrAt (w : World) (ad : Option Addr) (L : List Lf) : Prop := 0 < L.length → ∃ b off, ad = some ⟨b, off, none⟩ ∧ ∀ j x, L[j]? = some x →
  w.cell? ⟨b, off + j * 3, none⟩ = some (encStr x.k) ∧ w.cell? ⟨b, off + j * 3 + 1, none⟩ = some (encStr x.v) ∧ w.cell? ⟨b, off + j * 3 + 2, none⟩ = some (.int .i64 (x.p : Int))
theorem LrAt.lt {w : World} {ad : Option Addr} {L : List Lf} (h : LrAt w ad L) {a : Addr} (e : ad = some a) (hn : 0 < L.length) : a.block < w.heap.size := by
  obtain ⟨b, off, rfl, hc⟩ := h hn
  cases e
  have := (hc 0 _ (List.getElem?_eq_getElem hn)).1
  exact World.block_lt_of_cell? w _ this
theorem LrAt.keep {w w' : World} {ad : Option Addr} {L : List Lf} (h : LrAt w ad L) (hk : ∀ a, ad = some a → 0 < L.length → w'.heap[a.block]? = w.heap[a.block]?) : LrAt w' ad L := fun hn => by
  obtain ⟨b, off, rfl, hc⟩ := h hn
  refine ⟨b, off, rfl, fun j x hx => ?_⟩
  have hb := hk ⟨b, off, none⟩ rfl hn
  obtain ⟨h1, h2, h3⟩ := hc j x hx
  exact ⟨by rw [World.cell?_of_block (a := ⟨b, off + j * 3, none⟩) hb]; exact h1, by rw [World.cell?_of_block (a := ⟨b, off + j * 3 + 1, none⟩) hb]; exact h2, by rw [World.cell?_of_block (a := ⟨b, off + j * 3 + 2, none⟩) hb]; exact h3⟩
theorem LrAt.below {w w' : World} {ad : Option Addr} {L : List Lf} (h : LrAt w ad L) (hb : Below w.heap.size w w') : LrAt w' ad L := h.keep fun _ e hn => hb.block _ (h.lt e hn)
/-- Where a key first is, from i on. -/
def findF (k : List UInt8) : Int → List Lf → Int
  | _, [] => -1
  | i, x :: r => if x.k = k then i else findF k (i + 1) r
theorem eq_str_ne {a b : List UInt8} (h : a ≠ b) (w : World) : (binOp .eql 9 (encStr a) (encStr b)).run Tryz.prog w = .ok (.bool false) w := by
  rw [eq_str]
  have : (a == b) = false := by simpa using h
  rw [this]
theorem neq_str_ne {a b : List UInt8} (h : a ≠ b) (w : World) : (binOp .neq 9 (encStr a) (encStr b)).run Tryz.prog w = .ok (.bool true) w := by
  show (binOp .neq 9 (.string ⟨a.toArray⟩) (.string ⟨b.toArray⟩)).run Tryz.prog w = _
  rw [binOp_string_neq]
  have e1 : ∀ l : List UInt8, (⟨l.toArray⟩ : ByteArray).toList = l := fun l => by rw [ByteArray.toList_eq]
  rw [e1, e1]
  have : (a == b) = false := by simpa using h
  rw [this]
  rfl
theorem neq_str_eq (a : List UInt8) (w : World) : (binOp .neq 9 (encStr a) (encStr a)).run Tryz.prog w = .ok (.bool false) w := by
  show (binOp .neq 9 (.string ⟨a.toArray⟩) (.string ⟨a.toArray⟩)).run Tryz.prog w = _
  rw [binOp_string_neq]
  simp
theorem eq_str_eq (a : List UInt8) (w : World) : (binOp .eql 9 (encStr a) (encStr a)).run Tryz.prog w = .ok (.bool true) w := by
  rw [eq_str]; simp
set_option maxRecDepth 100000 in
set_option maxHeartbeats 800000 in
theorem find_any (ad : Option Addr) (cap : Nat) (L : List Lf) (k : List UInt8) (w : World) (h : LrAt w ad L) (hl : L.length ≤ 1000000) :
    Calls Tryz.prog 42 #[.slice ad L.length cap, encStr k] w fun e w' => e = .returned (.int .i64 (findF k 0 L)) ∧ w' = w := by
  have HL : Hid (LrAt w ad L) := h
  clear h
  obtain ⟨R, hR⟩ : ∃ R, findF k 0 L = R := ⟨_, rfl⟩
  rw [hR]
  have HR : Hid (findF k 0 L = R) := hR
  clear hR
  go_enter Tryz.func42, Tryz.ntmps42
  go_wp2
  go_loopw [5] (fun iv wr => ∃ i : Nat, i ≤ L.length ∧ iv = .int .i64 i ∧ findF k (i : Int) (L.drop i) = R ∧ wr = w) (fun iv _ => L.length - (intOf iv).toNat)
  case atStart => exact ⟨0, Nat.zero_le _, rfl, HR.out, rfl⟩
  case round =>
    obtain ⟨i, hi, rfl, hr, rfl⟩ := hrel
    by_cases hlt : i < L.length
    · have hlt' : (i : Int) < L.length := by omega
      have hx : L[i]? = some L[i] := List.getElem?_eq_getElem hlt
      have hdr : L.drop i = L[i] :: L.drop (i + 1) := List.drop_eq_getElem_cons hlt
      obtain ⟨bb, off, rfl, hc⟩ := HL.out (by omega)
      have hci := (hc i _ hx).1
      rw [hdr, findF] at hr
      clear hc hx hdr
      generalize L[i] = x at *
      by_cases hk : x.k = k
      · rw [if_pos hk] at hr
        rw [hk] at hci
        have HE : Hid ((i : Int) = R) := hr
        clear hr hk
        go_wp2
        go_ret
        exact ⟨by rw [← HE.out]; rfl, rfl⟩
      · rw [if_neg hk] at hr
        have hkb : (x.k == k) = false := by simpa using hk
        have HE : Hid (findF k ((i : Int) + 1) (L.drop (i + 1)) = R) := hr
        clear hr
        generalize x.k = xk at *
        go_wp2
        refine ⟨⟨i + 1, by omega, by go_num, by have := HE.out; simpa using this, by trivial⟩, by simp [intOf]; omega⟩
    · obtain rfl : i = L.length := by omega
      have hlt' : ¬ ((L.length : Int) < L.length) := by omega
      rw [List.drop_length] at hr
      have HE : Hid (-1 = R) := hr
      clear hr
      go_wp2
      go_ret
      exact ⟨by rw [← HE.out]; rfl, rfl⟩
set_option maxRecDepth 100000 in
set_option maxHeartbeats 800000 in
theorem used_any (ad : Option Addr) (cap : Nat) (L : List Lf) (q : Nat) (w : World) (h : LrAt w ad L) (hl : L.length ≤ 1000000) :
    Calls Tryz.prog 53 #[.slice ad L.length cap, .int .i64 (q : Int)] w fun e w' => e = .returned (.bool (heldB L q)) ∧ w' = w := by
  have HL : Hid (LrAt w ad L) := h
  clear h
  obtain ⟨R, hR⟩ : ∃ R, heldB L q = R := ⟨_, rfl⟩
  rw [hR]
  have HR : Hid (heldB L q = R) := hR
  clear hR
  go_enter Tryz.func53, Tryz.ntmps53
  go_wp2
  go_loopw [5] (fun iv wr => ∃ i : Nat, i ≤ L.length ∧ iv = .int .i64 i ∧ heldB (L.drop i) q = R ∧ wr = w) (fun iv _ => L.length - (intOf iv).toNat)
  case atStart => exact ⟨0, Nat.zero_le _, rfl, HR.out, rfl⟩
  case round =>
    obtain ⟨i, hi, rfl, hr, rfl⟩ := hrel
    by_cases hlt : i < L.length
    · have hlt' : (i : Int) < L.length := by omega
      have hx : L[i]? = some L[i] := List.getElem?_eq_getElem hlt
      have hdr : L.drop i = L[i] :: L.drop (i + 1) := List.drop_eq_getElem_cons hlt
      obtain ⟨bb, off, rfl, hc⟩ := HL.out (by omega)
      have hci := (hc i _ hx).2.2
      rw [hdr, heldB, List.any_cons] at hr
      clear hc hx hdr
      generalize L[i] = x at *
      by_cases hk : x.p = q
      · have h0 : true = R := by rw [← hr]; simp [hk]
        have HE : Hid (true = R) := h0
        clear h0
        rw [hk] at hci
        clear hr hk
        go_wp2
        go_ret
        exact ⟨by rw [← HE.out]; rfl, rfl⟩
      · have h0 : heldB (L.drop (i + 1)) q = R := by
          rw [← hr]
          have : (x.p == q) = false := by simpa using hk
          rw [this, Bool.false_or]
          rfl
        have HE : Hid (heldB (L.drop (i + 1)) q = R) := h0
        clear h0
        have hki : ¬ ((x.p : Int) = (q : Int)) := by omega
        clear hr
        generalize x.p = xp at *
        go_wp2
        refine ⟨⟨i + 1, by omega, by go_num, HE.out, by trivial⟩, by simp [intOf]; omega⟩
    · obtain rfl : i = L.length := by omega
      have hlt' : ¬ ((L.length : Int) < L.length) := by omega
      rw [List.drop_length] at hr
      have HE : Hid (false = R) := hr
      clear hr
      go_wp2
      go_ret
      exact ⟨by rw [← HE.out]; rfl, rfl⟩
end Go.Proofs.YtmekplaonlpfkaaGreatDoor
/- The document's leaves: rows of one's own, without. -/
namespace Go.Proofs.YtmekplaonlpfkaaGreatDoor
open Go.RowKit Go.Maps Go.Sort

attribute [local go_sem ↓] Go.wp_at_zero Go.wp_at_succ

theorem flatR_append (l m : List Lf) : flatR (l ++ m) = flatR l ++ flatR m := List.flatMap_append
theorem flatR_length : ∀ l : List Lf, (flatR l).length = l.length * 3
  | [] => rfl
  | x :: r => by
    have := flatR_length r
    simp only [flatR, List.flatMap_cons, List.length_append, List.length_cons] at *
    rw [this]
    simp [lrL]; omega
theorem flatR_get : ∀ (L : List Lf) (j : Nat) (x : Lf), L[j]? = some x → (flatR L)[j * 3]? = some (encStr x.k) ∧ (flatR L)[j * 3 + 1]? = some (encStr x.v) ∧ (flatR L)[j * 3 + 2]? = some (.int .i64 (x.p : Int))
  | [], j, x, h => by cases j <;> cases h
  | y :: r, 0, x, h => by cases h; exact ⟨rfl, rfl, rfl⟩
  | y :: r, j + 1, x, h => by
    have ih := flatR_get r j x h
    have e : ∀ q, (flatR (y :: r))[(j + 1) * 3 + q]? = (flatR r)[j * 3 + q]? := fun q => by
      unfold flatR
      rw [List.flatMap_cons, List.getElem?_append_right (by simp [lrL]; omega)]
      congr 1
      simp [lrL]; omega
    exact ⟨(e 0).trans ih.1, (e 1).trans ih.2.1, (e 2).trans ih.2.2⟩
theorem flatR_at {L : List Lf} {j : Nat} {u : Value} (h : (flatR L)[j]? = some u) : ∃ x, L[j / 3]? = some x ∧ ((j % 3 = 0 ∧ u = encStr x.k) ∨ (j % 3 = 1 ∧ u = encStr x.v) ∨ (j % 3 = 2 ∧ u = .int .i64 (x.p : Int))) := by
  have hj : j < (flatR L).length := (List.getElem?_eq_some_iff.1 h).1
  rw [flatR_length] at hj
  have hx : L[j / 3]? = some L[j / 3] := List.getElem?_eq_getElem (by omega)
  refine ⟨_, hx, ?_⟩
  have hg := flatR_get L (j / 3) _ hx
  have e3 : j = j / 3 * 3 + j % 3 := by omega
  have hm : j % 3 = 0 ∨ j % 3 = 1 ∨ j % 3 = 2 := by omega
  rcases hm with hm | hm | hm
  · refine .inl ⟨hm, ?_⟩
    rw [hm] at e3; rw [e3, Nat.add_zero, hg.1] at h
    exact (Option.some.inj h).symm
  · refine .inr (.inl ⟨hm, ?_⟩)
    rw [hm] at e3; rw [e3, hg.2.1] at h
    exact (Option.some.inj h).symm
  · refine .inr (.inr ⟨hm, ?_⟩)
    rw [hm] at e3; rw [e3, hg.2.2] at h
    exact (Option.some.inj h).symm
/-- A value that owns leaves, made since w0. -/
structure LrOw (w0 w : World) (v : Value) (L : List Lf) : Prop where
  own : w.ownsRow w0.heap.size 60 3 v L.length (flatR L)
  below : Below w0.heap.size w0 w
theorem LrOw.nil' {w0 w : World} (h : Below w0.heap.size w0 w) : LrOw w0 w (.slice none 0 0) [] := ⟨World.ownsRow_nil _ _ _ _, h⟩
theorem LrOw.keep {w0 w w' : World} {v : Value} {L : List Lf} (h : LrOw w0 w v L) (hb : Below w.heap.size w w') : LrOw w0 w' v L :=
  ⟨owns_row_keep h.own fun k e => hb.block k (h.own.lt k e).2, Below.transS h.below hb⟩
theorem LrOw.mono {w w0 w1 : World} {v : Value} {L : List Lf} (h : LrOw w0 w1 v L) (hb : Below w.heap.size w w0) : LrOw w w1 v L := by
  refine ⟨⟨h.own.1, ?_⟩, hb.trans (h.below.mono hb.size)⟩
  rcases h.own.2 with hn | ⟨g, cap, cur, e, hbs, rest⟩
  · exact .inl hn
  · exact .inr ⟨g, cap, cur, e, Nat.le_trans hb.size hbs, rest⟩
theorem LrOw.sl {w0 w : World} {v : Value} {L : List Lf} (h : LrOw w0 w v L) : ∃ ad cap, v = .slice ad L.length cap ∧ L.length ≤ cap ∧ LrAt w ad L ∧ (∀ a, ad = some a → w0.heap.size ≤ a.block ∧ a.block < w.heap.size) := by
  rcases h.own.2 with ⟨rfl, e⟩ | ⟨g, cap, cur, rfl, hbs, hg, hcap, _⟩
  · exact ⟨none, 0, by rw [e], by omega, (fun hn => by omega), fun a e => by cases e⟩
  · refine ⟨_, cap, rfl, hcap, fun _ => ⟨g, 0, rfl, fun j x hx => ?_⟩, fun a e => by cases e; exact ⟨hbs, lt_of_block hg⟩⟩
    have hf := flatR_get L j x hx
    have hc := h.own.cells (g := g) rfl
    simp only [Addr.add_lit] at hc
    exact ⟨hc _ _ hf.1, by rw [Nat.add_assoc]; exact hc _ _ hf.2.1, by rw [Nat.add_assoc]; exact hc _ _ hf.2.2⟩
theorem infoLr : (Tryz.prog.info? 60).map (fun i => (i.zero, i.size, i.bytes)) = some (some (.agg #[.string ⟨#[]⟩, .string ⟨#[]⟩, .int .i64 0]), 3, 40) := by kernel_rfl
theorem run_append_Lr {w0 w : World} {v : Value} {L ys : List Lf} {ad : Option Addr} {c : Nat} (h : LrOw w0 w v L) (hs : LrAt w ad ys) (hnil : ad = none → ys = []) (hn : L.length + ys.length ≤ 100000) (ty : TypeId) :
    ∃ v' w1, (Builtin.append_ #[37, 37] ty #[v, .slice ad ys.length c]).run Tryz.prog w = .ok v' w1 ∧ LrOw w0 w1 v' (L ++ ys) ∧ (∀ k, k < w.heap.size → v.ownBlock ≠ some k → w1.heap[k]? = w.heap[k]?) := by
  obtain ⟨i0, hi0, hz0, hz1, hz2⟩ := info_parts infoLr
  cases ad with
  | none =>
    obtain rfl := hnil rfl
    refine ⟨v, w, ?_, by simpa using h, fun _ _ _ => rfl⟩
    rcases h.own.2 with ⟨rfl, hl⟩ | ⟨g, cap, cur, rfl, hbs, hg, hcap, _⟩
    · simp [Builtin.append_, run_underlying Tryz.underlying37, sizeOf, typeInfo, hi0, Builtin.lenOf, Builtin.firstCells]
    · have := run_append_room_src (P := Tryz.prog) w 37 37 ty 60 i0 Tryz.underlying37 hi0 g 0 L.length cap (.slice none 0 c) 0 [] (Src.ofNil w Tryz.underlying37 c) (by omega) (fun j hj => by simp at hj) (fun j hj => by simp at hj)
      simpa [World.setCells] using this
  | some a =>
    obtain ⟨v', w1, h1, h2, h3, _, _⟩ := run_append_own_at (P := Tryz.prog) w w0.heap.size 37 ty 60 i0 (.agg #[.string ⟨#[]⟩, .string ⟨#[]⟩, .int .i64 0]) 3 40 Tryz.underlying37 hi0 hz0 hz1 hz2 rfl (by decide) v L.length (flatR L) h.own a ys.length c (flatR ys) (flatR_length ys)
      (fun j u hj => by
        obtain ⟨x, hx, hu⟩ := flatR_at hj
        have hp : 0 < ys.length := by have := (List.getElem?_eq_some_iff.1 hx).1; omega
        obtain ⟨b, off, e, hc⟩ := hs hp
        cases e
        rw [Addr.add_lit]
        obtain ⟨c0, c1, c2⟩ := hc _ _ hx
        rcases hu with ⟨hm, rfl⟩ | ⟨hm, rfl⟩ | ⟨hm, rfl⟩
        · have : off + j / 3 * 3 = off + j := by omega
          rw [this] at c0; exact c0
        · have : off + j / 3 * 3 + 1 = off + j := by omega
          rw [this] at c1; exact c1
        · have : off + j / 3 * 3 + 2 = off + j := by omega
          rw [this] at c2; exact c2)
      (fun u hu => by
        obtain ⟨x, _, hx⟩ := List.mem_flatMap.1 hu
        simp [lrL] at hx
        rcases hx with rfl | rfl | rfl <;> rfl) (by unfold maxLen; omega) (by omega) h.below.size
    refine ⟨v', w1, h1, ⟨by rw [flatR_append, List.length_append]; exact h2, h.below.grown h3 h.below.size (fun k e => (h.own.lt k e).1)⟩, fun k hk hne => h3.block k hk (fun e => hne e.symm)⟩
theorem wpList_append_Lr {ops : Array Oper} {rest : List Oper} {o : Oper} {a : Act} {w : World} {Q : Exit → Act → World → Prop} (hgd : o.guard = none) (s x : Operand) (ho : o.op = .call { callee := .builtin .append, args := #[s, x], argTypes := #[37, 37] })
    (w0 : World) (v : Value) (L ys : List Lf) (ad : Option Addr) (c : Nat) (hs : a.eval s = v) (hx : a.eval x = .slice ad ys.length c) (h : LrOw w0 w v L) (hr : LrAt w ad ys) (hnil : ad = none → ys = []) (hn : L.length + ys.length ≤ 100000)
    (hk : ∀ v' w1, LrOw w0 w1 v' (L ++ ys) → wpList Tryz.prog ops Q rest (a.put o.dst v') w1) : wpList Tryz.prog ops Q (o :: rest) a w := by
  obtain ⟨v', w1, hrun, h2, _⟩ := run_append_Lr (c := c) h hr hnil hn o.type
  refine wpList_plain hgd fun K hK => ?_
  unfold Oper.wp execOp
  simp only [ho, resolve, invoke, builtin, Sem.run_bind, Sem.run_pure, Result.andThen_ok, List.map_toArray, List.map_cons, List.map_nil, hs, hx, hrun]
  exact hK _ _ (hk v' w1 h2)
theorem LrAt.one (x : Lf) (w : World) : LrAt (w.alloc (.cells #[encStr x.k, encStr x.v, .int .i64 (x.p : Int)] 60)) (some ⟨w.heap.size, 0, none⟩) [x] := fun _ => by
  refine ⟨w.heap.size, 0, rfl, fun j y hy => ?_⟩
  have hj : j = 0 := by have := (List.getElem?_eq_some_iff.1 hy).1; simp at this; omega
  subst hj
  cases hy
  exact ⟨by simp, by simp, by simp⟩
set_option maxRecDepth 100000 in
set_option maxHeartbeats 1600000 in
theorem without_any (ad : Option Addr) (cap : Nat) (L : List Lf) (k : List UInt8) (w : World) (h : LrAt w ad L) (hl : L.length ≤ 1000) :
    Calls Tryz.prog 52 #[.slice ad L.length cap, encStr k] w fun e w' => ∃ v, e = .returned v ∧ LrOw w w' v (delK Lf.k k L) := by
  have HL : Hid (LrAt w ad L) := h
  clear h
  have HI0 : Hid (LrOw w w (.slice none 0 0) (delK Lf.k k (L.take 0))) := LrOw.nil' (Below.refl _ _)
  go_enter Tryz.func52, Tryz.ntmps52
  go_wp2
  go_loopw [5, 6] (fun ov iv wr => ∃ i : Nat, i ≤ L.length ∧ iv = .int .i64 i ∧ LrOw w wr ov (delK Lf.k k (L.take i))) (fun _ iv _ => L.length - (intOf iv).toNat)
  case atStart => exact ⟨0, Nat.zero_le _, rfl, HI0.out⟩
  case round =>
    clear HI0
    obtain ⟨i, hi, rfl, hO⟩ := hrel
    have HO : Hid (LrOw w wr u5 (delK Lf.k k (L.take i))) := hO
    clear hO
    by_cases hlt : i < L.length
    · have hlt' : (i : Int) < L.length := by omega
      have hx : L[i]? = some L[i] := List.getElem?_eq_getElem hlt
      have htk : L.take (i + 1) = L.take i ++ [L[i]] := (List.take_append_getElem hlt).symm
      obtain ⟨bb, off, rfl, hc⟩ := (HL.out.below HO.out.below) (by omega)
      have c0 := (hc i _ hx).1
      have c1 := (hc i _ hx).2.1
      have c2 := (hc i _ hx).2.2
      have hle : (delK Lf.k k (L.take i)).length ≤ 1000 := by
        have h1 : (delK Lf.k k (L.take i)).length ≤ (L.take i).length := List.length_filter_le _ _
        have h2 : (L.take i).length ≤ L.length := by rw [List.length_take]; omega
        omega
      clear hc hx
      generalize L[i] = x at *
      by_cases hk : x.k = k
      · have h0 : delK Lf.k k (L.take (i + 1)) = delK Lf.k k (L.take i) := by rw [htk]; simp [delK, hk]
        have HN : Hid (LrOw w wr u5 (delK Lf.k k (L.take (i + 1)))) := by rw [h0]; exact HO.out
        rw [hk] at c0
        have hne := neq_str_eq k wr
        clear h0 htk hk
        go_wp2
        exact ⟨⟨i + 1, by omega, by go_num, HN.out⟩, by simp [intOf]; omega⟩
      · have h0 : delK Lf.k k (L.take (i + 1)) = delK Lf.k k (L.take i) ++ [x] := by rw [htk]; simp [delK, hk]
        have hkb : (x.k == k) = false := by simpa using hk
        obtain ⟨wa, hwa⟩ : ∃ wa, wr.alloc (.cells #[encStr x.k, encStr x.v, .int .i64 (x.p : Int)] 60) = wa := ⟨_, rfl⟩
        have hOw : LrOw w wa u5 (delK Lf.k k (L.take i)) := by rw [← hwa]; exact HO.out.keep ((Below.refl _ wr).alloc (Nat.le_refl _) _)
        have hone : LrAt wa (some ⟨wr.heap.size, 0, none⟩) [x] := by rw [← hwa]; exact LrAt.one x wr
        have HN : Hid (∀ v' w1, LrOw w w1 v' (delK Lf.k k (L.take i) ++ [x]) → LrOw w w1 v' (delK Lf.k k (L.take (i + 1)))) := fun v' w1 h1 => by rw [h0]; exact h1
        have hle1 : (delK Lf.k k (L.take i)).length + [x].length ≤ 100000 := by simp; omega
        clear h0 htk hle
        generalize delK Lf.k k (L.take i) = D at *
        obtain ⟨xk, hxk⟩ : ∃ xk, x.k = xk := ⟨_, rfl⟩
        obtain ⟨xv, hxv⟩ : ∃ xv, x.v = xv := ⟨_, rfl⟩
        obtain ⟨xp, hxp⟩ : ∃ xp, x.p = xp := ⟨_, rfl⟩
        rw [hxk] at c0 hkb hwa
        rw [hxv] at c1 hwa
        rw [hxp] at c2 hwa
        clear hk hxk hxv hxp
        go_wp2_with (first | (at_builtin; refine wpList_append_Lr rfl _ _ rfl w _ D [x] (some ⟨wr.heap.size, 0, none⟩) 1 rfl rfl hOw hone (fun e => by cases e) hle1 ?_; intro v4 w4 hO4) | fail)
        have HN4 : Hid (LrOw w w4 v4 (delK Lf.k k (L.take (i + 1)))) := HN.out v4 w4 hO4
        clear hOw hone hle1 hwa hO4
        go_wp2
        exact ⟨⟨i + 1, by omega, by go_num, HN4.out⟩, by simp [intOf]; omega⟩
    · obtain rfl : i = L.length := by omega
      have hlt' : ¬ ((L.length : Int) < L.length) := by omega
      have HE : Hid (LrOw w wr u5 (delK Lf.k k L)) := by have := HO.out; rw [List.take_length] at this; exact this
      go_wp2
      go_ret
      exact ⟨_, rfl, HE.out⟩
end Go.Proofs.YtmekplaonlpfkaaGreatDoor
