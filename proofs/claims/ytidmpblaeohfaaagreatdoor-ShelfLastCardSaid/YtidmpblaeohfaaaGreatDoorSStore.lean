/- A store by what its pages hold. -/
import Derived.Test.YtidmpblaeohfaaaGreatDoorPSync
import Derived.Test.YtidmpblaeohfaaaGreatDoorPArm
namespace Go.Proofs.YtidmpblaeohfaaaGreatDoor
open Go.RowKit

/-- What a store's pages hold, and its loose writes. -/
structure Ct where
  safe : List (List Int)
  loose : List (Int × List Int)
  armed : Bool
  steps : Int
  down : Bool
def St.ct (S : St) : Ct := ⟨S.safe.map Bs.l, S.loose.map fun x => (x.1, x.2.l), S.armed, S.steps, S.down⟩
def Ct.put (c : Ct) (pg : Int) (l : List Int) : Ct := { c with loose := c.loose ++ [(pg, l)] }
def Ct.step (c : Ct) : Ct := if c.armed = false then c else if 0 < c.steps then { c with steps := c.steps - 1 } else { c with down := true }
def Ct.stepE (c : Ct) : Int := if c.armed = false then 0 else if 0 < c.steps then 0 else 13
def setC (K : Nat → Bool) : Nat → List (Int × List Int) → List (List Int) → List (List Int)
  | _, [], s => s
  | i, x :: r, s => setC K (i + 1) r (if K i = true then s.set x.1.toNat x.2 else s)
def Ct.settled (c : Ct) (K : Nat → Bool) : Ct := { c with safe := setC K 0 c.loose c.safe, loose := [] }
def Ct.sync (c : Ct) : Ct := if c.stepE = 0 then c.step.settled allK else c.step
def Ct.started (c : Ct) (K : Nat → Bool) : Ct := { c.settled K with armed := false, down := false }
def Ct.last (c : Ct) (pg : Int) : List Int := match c.loose.reverse.find? (fun x => x.1 == pg) with
  | some x => x.2
  | none => (c.safe[pg.toNat]?).getD []
theorem ct_put (S : St) (pg : Int) (y : Bs) : (S.put pg y).ct = S.ct.put pg y.l := by simp [St.ct, St.put, Ct.put]
theorem ct_step (S : St) : (stepS S).ct = S.ct.step := by
  by_cases h1 : S.armed = false
  · simp [stepS, Ct.step, St.ct, h1]
  · by_cases h2 : 0 < S.steps
    · simp [stepS, Ct.step, St.ct, h1, h2]
    · simp [stepS, Ct.step, St.ct, h1, h2]
theorem ct_stepE (S : St) : stepE S = S.ct.stepE := rfl
theorem ct_set (K : Nat → Bool) : ∀ (L : List (Int × Bs)) (i : Nat) (s : List Bs), (setF K i L s).map Bs.l = setC K i (L.map fun x => (x.1, x.2.l)) (s.map Bs.l)
  | [], _, _ => rfl
  | x :: r, i, s => by
    simp only [setF, List.map_cons, setC]
    rw [ct_set K r]
    split
    · rw [List.map_set]
    · rfl
theorem ct_settled (S : St) (K : Nat → Bool) : (S.settled K).ct = S.ct.settled K := by simp [St.ct, St.settled, Ct.settled, ct_set]
theorem ct_sync (S : St) : (syncS S).ct = S.ct.sync := by
  unfold syncS Ct.sync
  rw [ct_stepE]
  split
  · rw [ct_settled, ct_step]
  · rw [ct_step]
theorem ct_started (S : St) (K : Nat → Bool) : (S.started K).ct = S.ct.started K := by
  have := ct_settled S K
  simp only [St.ct, St.started, Ct.started, Ct.mk.injEq] at this ⊢
  simp only [Ct.settled, Ct.mk.injEq] at this
  simp [Ct.settled, this]
theorem ct_last (S : St) (pg : Int) : (lastB S pg).l = S.ct.last pg := by
  unfold lastB Ct.last
  simp only [St.ct]
  rw [← List.map_reverse, List.find?_map]
  have : ((fun x : Int × List Int => x.1 == pg) ∘ fun x : Int × Bs => (x.1, x.2.l)) = fun x : Int × Bs => x.1 == pg := rfl
  rw [this]
  cases S.loose.reverse.find? (fun x => x.1 == pg) with
  | some x => rfl
  | none =>
    simp only [Option.map_none, List.getElem?_map]
    cases S.safe[pg.toNat]? <;> rfl
/-- A store in memory that holds c; all its blocks are of G. -/
def CtAt (w : World) (G : Nat → Prop) (p : Nat) (c : Ct) : Prop := ∃ S, StAt w G p S ∧ S.ct = c
theorem CtAt.below {w w' : World} {G : Nat → Prop} {p : Nat} {c : Ct} (h : CtAt w G p c) (hb : Below w.heap.size w w') : CtAt w' G p c := by
  obtain ⟨S, h1, h2⟩ := h
  exact ⟨S, h1.below hb, h2⟩
theorem CtAt.keep {w w' : World} {G : Nat → Prop} {p : Nat} {c : Ct} (h : CtAt w G p c) (hs : w.heap.size ≤ w'.heap.size) (hk : ∀ k, k < w.heap.size → G k → w'.heap[k]? = w.heap[k]?) : CtAt w' G p c := by
  obtain ⟨S, h1, h2⟩ := h
  exact ⟨S, h1.keep hs hk, h2⟩
theorem CtAt.mono {w : World} {G G' : Nat → Prop} {p : Nat} {c : Ct} (h : CtAt w G p c) (hg : ∀ k, G k → G' k) : CtAt w G' p c := by
  obtain ⟨S, h1, h2⟩ := h
  exact ⟨S, h1.mono hg, h2⟩
theorem CtAt.small {w : World} {G : Nat → Prop} {p : Nat} {c : Ct} (h : CtAt w G p c) : 0 < c.safe.length ∧ c.safe.length ≤ 4096 := by
  obtain ⟨S, ⟨q, lo, F, h0, _⟩, rfl⟩ := h
  exact ⟨by simpa [St.ct] using h0.pos, by simpa [St.ct] using h0.small⟩
/-- A store that goes on: new blocks are its own, too; all but its own are kept. -/
def StG (G : Nat → Prop) (p : Nat) (w w' : World) (c : Ct) : Prop := ∃ G' : Nat → Prop, CtAt w' G' p c ∧ (∀ k, G' k → G k ∨ (w.heap.size ≤ k ∧ k < w'.heap.size)) ∧ Fr G w w'
theorem StG.refl {G : Nat → Prop} {p : Nat} {w : World} {c : Ct} (h : CtAt w G p c) : StG G p w w c := ⟨G, h, fun _ h => .inl h, Fr.refl _ _⟩
theorem StG.ofBelow {G : Nat → Prop} {p : Nat} {w w' : World} {c : Ct} (h : CtAt w G p c) (hb : Below w.heap.size w w') : StG G p w w' c := ⟨G, h.below hb, fun _ h => .inl h, Fr.ofBelow hb⟩
/-- Pages, steps and loose writes are within bounds. -/
structure Ct.Ok (c : Ct) (n : Nat) : Prop where
  len : c.safe.length = n
  steps : 0 ≤ c.steps ∧ c.steps < 9223372036854775808
  up : c.down = false
  few : c.loose.length ≤ 100000
theorem write_ct (G : Nat → Prop) (p : Nat) (c : Ct) (n : Nat) (pg : Int) (ad : Option Addr) (cap : Nat) (l : List Int) (w : World) (h : CtAt w G p c) (ho : c.Ok n) (hp : 0 ≤ pg ∧ pg < n) (hb : SlAt w ad l.length (fn l)) (hn : ad = none → l.length = 0 ∧ cap = 0) (hy : ∀ y, y ∈ l → 0 ≤ y ∧ y ≤ 255) (hl : l.length ≤ 4096) :
    Calls Tryz.prog 10 #[.pointer (some ⟨p, 0, none⟩), .int .i64 pg, .slice ad l.length cap] w fun e w' => e = .returned (errV c.stepE) ∧ StG G p w w' (c.put pg l).step := by
  obtain ⟨S, hS, rfl⟩ := h
  have h1 : S.safe.length = n := by have := ho.len; simpa [St.ct] using this
  refine (write_st G p S pg ad cap l w hS ho.steps (by omega) ho.up (by have := ho.few; simp [St.ct] at this; omega) hb hn hy hl).mono ?_
  rintro e w' ⟨rfl, y, rfl, h2, h3⟩
  exact ⟨rfl, _, ⟨_, h2, by rw [ct_step, ct_put]⟩, fun k hk => hk, h3⟩
theorem sync_ct (G : Nat → Prop) (p : Nat) (c : Ct) (n : Nat) (w : World) (h : CtAt w G p c) (ho : c.Ok n) :
    Calls Tryz.prog 82 #[.pointer (some ⟨p, 0, none⟩)] w fun e w' => e = .returned (errV c.stepE) ∧ StG G p w w' c.sync := by
  obtain ⟨S, hS, rfl⟩ := h
  refine (sync_st G p S w hS ho.steps ho.up).mono ?_
  rintro e w' ⟨rfl, h2, h3⟩
  exact ⟨rfl, _, ⟨_, h2, ct_sync S⟩, fun k hk => .inl hk, h3⟩
theorem read_ct (G : Nat → Prop) (p : Nat) (c : Ct) (n : Nat) (pg : Int) (w : World) (h : CtAt w G p c) (ho : c.Ok n) (hp : 0 ≤ pg ∧ pg < n) :
    Calls Tryz.prog 23 #[.pointer (some ⟨p, 0, none⟩), .int .i64 pg] w (RdR w (c.last pg)) := by
  obtain ⟨S, hS, rfl⟩ := h
  have h1 : S.safe.length = n := by have := ho.len; simpa [St.ct] using this
  have := read_st G p S pg w hS (by omega) ho.up
  rwa [ct_last] at this
def newC (n : Nat) : Ct := ⟨List.replicate n [], [], false, 0, false⟩
theorem new_ct (n : Nat) (h1 : 1 ≤ n) (h2 : n ≤ 4096) (w : World) : Calls Tryz.prog 9 #[.int .i64 (n : Int)] w fun e w' => ∃ p, e = .returned (.tuple #[.pointer (some ⟨p, 0, none⟩), .nilIface]) ∧ StG (fun _ => False) p w w' (newC n) ∧ Below w.heap.size w w' := by
  refine (new_st n h1 h2 w).mono ?_
  rintro e w' ⟨rfl, h3, h4⟩
  refine ⟨_, rfl, ⟨_, ⟨_, h3, ?_⟩, fun k hk => hk, Fr.ofBelow h4⟩, h4⟩
  simp [St.ct, newS, newC, nilBs]
theorem pages_ct (G : Nat → Prop) (p : Nat) (c : Ct) (n : Nat) (w : World) (h : CtAt w G p c) (ho : c.safe.length = n) :
    Calls Tryz.prog 34 #[.pointer (some ⟨p, 0, none⟩)] w fun e w' => e = .returned (.int .i64 (n : Int)) ∧ w' = w := by
  obtain ⟨S, hS, rfl⟩ := h
  have := pages_st G p S w hS
  have e : S.safe.length = n := by simpa [St.ct] using ho
  rwa [e] at this
/-- Some writes, one behind the other, till one fails. -/
def Ct.wrs : Ct → List (Int × List Int) → Int × Ct
  | c, [] => (0, c)
  | c, x :: r => if c.stepE = 0 then (c.put x.1 x.2).step.wrs r else (c.stepE, (c.put x.1 x.2).step)
/-- The root, and a Sync. -/
def Ct.root (c : Ct) (fr : Int) (root : List Int) : Int × Ct := if c.stepE = 0 then ((c.put fr root).step.stepE, (c.put fr root).step.sync) else (c.stepE, (c.put fr root).step)
/-- What a Set does to the store: the leaves, and a Sync if there is one; the root, and a Sync. -/
def Ct.lay (c : Ct) (ws : List (Int × List Int)) (fr : Int) (root : List Int) : Int × Ct :=
  if (c.wrs ws).1 = 0 then
    if ws = [] then (c.wrs ws).2.root fr root
    else if (c.wrs ws).2.stepE = 0 then (c.wrs ws).2.sync.root fr root else ((c.wrs ws).2.stepE, (c.wrs ws).2.sync)
  else c.wrs ws
theorem setC_length (K : Nat → Bool) : ∀ (L : List (Int × List Int)) (i : Nat) (s : List (List Int)), (setC K i L s).length = s.length
  | [], _, _ => rfl
  | x :: r, i, s => by
    simp only [setC]
    rw [setC_length K r]
    split <;> simp
/-- A step that goes well keeps bounds. -/
theorem Ct.Ok.step {c : Ct} {n : Nat} (h : c.Ok n) (he : c.stepE = 0) : c.step.Ok n := by
  unfold Ct.stepE at he
  unfold Ct.step
  split
  · exact h
  · rename_i h1
    rw [if_neg h1] at he
    split
    · rename_i h2
      have := h.steps
      exact ⟨h.len, by simp only; omega, h.up, h.few⟩
    · rename_i h2; rw [if_neg h2] at he; cases he
theorem Ct.Ok.put {c : Ct} {n : Nat} (h : c.Ok n) (pg : Int) (l : List Int) (hf : c.loose.length < 100000) : (c.put pg l).Ok n := ⟨h.len, h.steps, h.up, by simp [Ct.put]; omega⟩
theorem Ct.stepE_put (c : Ct) (pg : Int) (l : List Int) : (c.put pg l).stepE = c.stepE := rfl
theorem Ct.Ok.sync {c : Ct} {n : Nat} (h : c.Ok n) (he : c.stepE = 0) : c.sync.Ok n := by
  unfold Ct.sync
  rw [if_pos he]
  have h1 := h.step he
  exact ⟨by simp [Ct.settled, setC_length, h1.len], h1.steps, h1.up, by simp [Ct.settled]⟩
theorem Ct.step_loose (c : Ct) : c.step.loose = c.loose := by
  by_cases h1 : c.armed = false
  · simp [Ct.step, h1]
  · by_cases h2 : 0 < c.steps <;> simp [Ct.step, h1, h2]
end Go.Proofs.YtidmpblaeohfaaaGreatDoor
