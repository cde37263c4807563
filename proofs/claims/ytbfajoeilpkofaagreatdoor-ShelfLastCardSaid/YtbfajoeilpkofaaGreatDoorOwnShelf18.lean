/- A store by what its pages hold. -/
import Derived.Test.YtbfajoeilpkofaaGreatDoorOwnShelf17
import Derived.Deep.AppendSrc
import Derived.Maps.AppendAt
import Derived.Deep.AppendLies
import Derived.Test.YtbfajoeilpkofaaGreatDoorOwnShelf10
import Derived.Test.YtbfajoeilpkofaaGreatDoorOwnShelf12
namespace Go.Proofs.YtbfajoeilpkofaaGreatDoor
open Go.RowKit

/-- What a store's pages hold, and its loose writes. -/
structure Ct where
  safe : List (List Int)
  loose : List (Int × List Int)
  armed : Bool
  steps : Int
  down : Bool
def St.ct (S : St) : Ct := ⟨S.safe.map Bs.l, S.loose.map fun x => (x.1, x.2.l), S.armed, S.steps, S.down⟩
def Ct.put (c : Ct) (pg : Int) (l : List Int) : Ct := { c with loose := c.loose ++ [(pg, l)] }
def Ct.step (c : Ct) : Ct := if c.armed = false then c else if 0 < c.steps then { c with steps := c.steps - 1 } else { c with down := true }
def Ct.stepE (c : Ct) : Int := if c.armed = false then 0 else if 0 < c.steps then 0 else 13
def setC (K : Nat → Bool) : Nat → List (Int × List Int) → List (List Int) → List (List Int)
  | _, [], s => s
  | i, x :: r, s => setC K (i + 1) r (if K i = true then s.set x.1.toNat x.2 else s)
def Ct.settled (c : Ct) (K : Nat → Bool) : Ct := { c with safe := setC K 0 c.loose c.safe, loose := [] }
def Ct.sync (c : Ct) : Ct := if c.stepE = 0 then c.step.settled allK else c.step
def Ct.started (c : Ct) (K : Nat → Bool) : Ct := { c.settled K with armed := false, down := false }
def Ct.last (c : Ct) (pg : Int) : List Int := match c.loose.reverse.find? (fun x => x.1 == pg) with
  | some x => x.2
  | none => (c.safe[pg.toNat]?).getD []
theorem ct_put (S : St) (pg : Int) (y : Bs) : (S.put pg y).ct = S.ct.put pg y.l := by simp [St.ct, St.put, Ct.put]
theorem ct_step (S : St) : (stepS S).ct = S.ct.step := by
  by_cases h1 : S.armed = false
  · simp [stepS, Ct.step, St.ct, h1]
  · by_cases h2 : 0 < S.steps
    · simp [stepS, Ct.step, St.ct, h1, h2]
    · simp [stepS, Ct.step, St.ct, h1, h2]
theorem ct_stepE (S : St) : stepE S = S.ct.stepE := rfl
theorem ct_set (K : Nat → Bool) : ∀ (L : List (Int × Bs)) (i : Nat) (s : List Bs), (setF K i L s).map Bs.l = setC K i (L.map fun x => (x.1, x.2.l)) (s.map Bs.l)
  | [], _, _ => rfl
  | x :: r, i, s => by
    simp only [setF, List.map_cons, setC]
    rw [ct_set K r]
    split
    · rw [List.map_set]
    · rfl
theorem ct_settled (S : St) (K : Nat → Bool) : (S.settled K).ct = S.ct.settled K := by simp [St.ct, St.settled, Ct.settled, ct_set]
theorem ct_sync (S : St) : (syncS S).ct = S.ct.sync := by
  unfold syncS Ct.sync
  rw [ct_stepE]
  split
  · rw [ct_settled, ct_step]
  · rw [ct_step]
theorem ct_started (S : St) (K : Nat → Bool) : (S.started K).ct = S.ct.started K := by
  have := ct_settled S K
  simp only [St.ct, St.started, Ct.started, Ct.mk.injEq] at this ⊢
  simp only [Ct.settled, Ct.mk.injEq] at this
  simp [Ct.settled, this]
theorem ct_last (S : St) (pg : Int) : (lastB S pg).l = S.ct.last pg := by
  unfold lastB Ct.last
  simp only [St.ct]
  rw [← List.map_reverse, List.find?_map]
  have : ((fun x : Int × List Int => x.1 == pg) ∘ fun x : Int × Bs => (x.1, x.2.l)) = fun x : Int × Bs => x.1 == pg := rfl
  rw [this]
  cases S.loose.reverse.find? (fun x => x.1 == pg) with
  | some x => rfl
  | none =>
    simp only [Option.map_none, List.getElem?_map]
    cases S.safe[pg.toNat]? <;> rfl
/-- A store in memory that holds c; all its blocks are of G. -/
def CtAt (w : World) (G : Nat → Prop) (p : Nat) (c : Ct) : Prop := ∃ S, StAt w G p S ∧ S.ct = c
theorem CtAt.below {w w' : World} {G : Nat → Prop} {p : Nat} {c : Ct} (h : CtAt w G p c) (hb : Below w.heap.size w w') : CtAt w' G p c := by
  obtain ⟨S, h1, h2⟩ := h
  exact ⟨S, h1.below hb, h2⟩
theorem CtAt.keep {w w' : World} {G : Nat → Prop} {p : Nat} {c : Ct} (h : CtAt w G p c) (hs : w.heap.size ≤ w'.heap.size) (hk : ∀ k, k < w.heap.size → G k → w'.heap[k]? = w.heap[k]?) : CtAt w' G p c := by
  obtain ⟨S, h1, h2⟩ := h
  exact ⟨S, h1.keep hs hk, h2⟩
theorem CtAt.mono {w : World} {G G' : Nat → Prop} {p : Nat} {c : Ct} (h : CtAt w G p c) (hg : ∀ k, G k → G' k) : CtAt w G' p c := by
  obtain ⟨S, h1, h2⟩ := h
  exact ⟨S, h1.mono hg, h2⟩
theorem CtAt.small {w : World} {G : Nat → Prop} {p : Nat} {c : Ct} (h : CtAt w G p c) : 0 < c.safe.length ∧ c.safe.length ≤ 4096 := by
  obtain ⟨S, ⟨q, lo, F, h0, _⟩, rfl⟩ := h
  exact ⟨by simpa [St.ct] using h0.pos, by simpa [St.ct] using h0.small⟩
/-- A store that goes on: new blocks are its own, too; all but its own are kept. -/
def StG (G : Nat → Prop) (p : Nat) (w w' : World) (c : Ct) : Prop := ∃ G' : Nat → Prop, CtAt w' G' p c ∧ (∀ k, G' k → G k ∨ (w.heap.size ≤ k ∧ k < w'.heap.size)) ∧ Fr G w w'
theorem StG.refl {G : Nat → Prop} {p : Nat} {w : World} {c : Ct} (h : CtAt w G p c) : StG G p w w c := ⟨G, h, fun _ h => .inl h, Fr.refl _ _⟩
theorem StG.ofBelow {G : Nat → Prop} {p : Nat} {w w' : World} {c : Ct} (h : CtAt w G p c) (hb : Below w.heap.size w w') : StG G p w w' c := ⟨G, h.below hb, fun _ h => .inl h, Fr.ofBelow hb⟩
/-- Pages, steps and loose writes are within bounds. -/
structure Ct.Ok (c : Ct) (n : Nat) : Prop where
  len : c.safe.length = n
  steps : 0 ≤ c.steps ∧ c.steps < 9223372036854775808
  up : c.down = false
  few : c.loose.length ≤ 100000
theorem write_ct (G : Nat → Prop) (p : Nat) (c : Ct) (n : Nat) (pg : Int) (ad : Option Addr) (cap : Nat) (l : List Int) (w : World) (h : CtAt w G p c) (ho : c.Ok n) (hp : 0 ≤ pg ∧ pg < n) (hb : SlAt w ad l.length (fn l)) (hn : ad = none → l.length = 0 ∧ cap = 0) (hy : ∀ y, y ∈ l → 0 ≤ y ∧ y ≤ 255) (hl : l.length ≤ 4096) :
    Calls Tryz.prog 10 #[.pointer (some ⟨p, 0, none⟩), .int .i64 pg, .slice ad l.length cap] w fun e w' => e = .returned (errV c.stepE) ∧ StG G p w w' (c.put pg l).step := by
  obtain ⟨S, hS, rfl⟩ := h
  have h1 : S.safe.length = n := by have := ho.len; simpa [St.ct] using this
  refine (write_st G p S pg ad cap l w hS ho.steps (by omega) ho.up (by have := ho.few; simp [St.ct] at this; omega) hb hn hy hl).mono ?_
  rintro e w' ⟨rfl, y, rfl, h2, h3⟩
  exact ⟨rfl, _, ⟨_, h2, by rw [ct_step, ct_put]⟩, fun k hk => hk, h3⟩
theorem sync_ct (G : Nat → Prop) (p : Nat) (c : Ct) (n : Nat) (w : World) (h : CtAt w G p c) (ho : c.Ok n) :
    Calls Tryz.prog 82 #[.pointer (some ⟨p, 0, none⟩)] w fun e w' => e = .returned (errV c.stepE) ∧ StG G p w w' c.sync := by
  obtain ⟨S, hS, rfl⟩ := h
  refine (sync_st G p S w hS ho.steps ho.up).mono ?_
  rintro e w' ⟨rfl, h2, h3⟩
  exact ⟨rfl, _, ⟨_, h2, ct_sync S⟩, fun k hk => .inl hk, h3⟩
theorem read_ct (G : Nat → Prop) (p : Nat) (c : Ct) (n : Nat) (pg : Int) (w : World) (h : CtAt w G p c) (ho : c.Ok n) (hp : 0 ≤ pg ∧ pg < n) :
    Calls Tryz.prog 23 #[.pointer (some ⟨p, 0, none⟩), .int .i64 pg] w (RdR w (c.last pg)) := by
  obtain ⟨S, hS, rfl⟩ := h
  have h1 : S.safe.length = n := by have := ho.len; simpa [St.ct] using this
  have := read_st G p S pg w hS (by omega) ho.up
  rwa [ct_last] at this
def newC (n : Nat) : Ct := ⟨List.replicate n [], [], false, 0, false⟩
theorem new_ct (n : Nat) (h1 : 1 ≤ n) (h2 : n ≤ 4096) (w : World) : Calls Tryz.prog 9 #[.int .i64 (n : Int)] w fun e w' => ∃ p, e = .returned (.tuple #[.pointer (some ⟨p, 0, none⟩), .nilIface]) ∧ StG (fun _ => False) p w w' (newC n) ∧ Below w.heap.size w w' := by
  refine (new_st n h1 h2 w).mono ?_
  rintro e w' ⟨rfl, h3, h4⟩
  refine ⟨_, rfl, ⟨_, ⟨_, h3, ?_⟩, fun k hk => hk, Fr.ofBelow h4⟩, h4⟩
  simp [St.ct, newS, newC, nilBs]
theorem pages_ct (G : Nat → Prop) (p : Nat) (c : Ct) (n : Nat) (w : World) (h : CtAt w G p c) (ho : c.safe.length = n) :
    Calls Tryz.prog 34 #[.pointer (some ⟨p, 0, none⟩)] w fun e w' => e = .returned (.int .i64 (n : Int)) ∧ w' = w := by
  obtain ⟨S, hS, rfl⟩ := h
  have := pages_st G p S w hS
  have e : S.safe.length = n := by simpa [St.ct] using ho
  rwa [e] at this
/-- Some writes, one behind the other, till one fails. -/
def Ct.wrs : Ct → List (Int × List Int) → Int × Ct
  | c, [] => (0, c)
  | c, x :: r => if c.stepE = 0 then (c.put x.1 x.2).step.wrs r else (c.stepE, (c.put x.1 x.2).step)
/-- The root, and a Sync. -/
def Ct.root (c : Ct) (fr : Int) (root : List Int) : Int × Ct := if c.stepE = 0 then ((c.put fr root).step.stepE, (c.put fr root).step.sync) else (c.stepE, (c.put fr root).step)
/-- What a Set does to the store: the leaves, and a Sync if there is one; the root, and a Sync. -/
def Ct.lay (c : Ct) (ws : List (Int × List Int)) (fr : Int) (root : List Int) : Int × Ct :=
  if (c.wrs ws).1 = 0 then
    if ws = [] then (c.wrs ws).2.root fr root
    else if (c.wrs ws).2.stepE = 0 then (c.wrs ws).2.sync.root fr root else ((c.wrs ws).2.stepE, (c.wrs ws).2.sync)
  else c.wrs ws
theorem setC_length (K : Nat → Bool) : ∀ (L : List (Int × List Int)) (i : Nat) (s : List (List Int)), (setC K i L s).length = s.length
  | [], _, _ => rfl
  | x :: r, i, s => by
    simp only [setC]
    rw [setC_length K r]
    split <;> simp
/-- A step that goes well keeps bounds. -/
theorem Ct.Ok.step {c : Ct} {n : Nat} (h : c.Ok n) (he : c.stepE = 0) : c.step.Ok n := by
  unfold Ct.stepE at he
  unfold Ct.step
  split
  · exact h
  · rename_i h1
    rw [if_neg h1] at he
    split
    · rename_i h2
      have := h.steps
      exact ⟨h.len, by simp only; omega, h.up, h.few⟩
    · rename_i h2; rw [if_neg h2] at he; cases he
theorem Ct.Ok.put {c : Ct} {n : Nat} (h : c.Ok n) (pg : Int) (l : List Int) (hf : c.loose.length < 100000) : (c.put pg l).Ok n := ⟨h.len, h.steps, h.up, by simp [Ct.put]; omega⟩
theorem Ct.stepE_put (c : Ct) (pg : Int) (l : List Int) : (c.put pg l).stepE = c.stepE := rfl
theorem Ct.Ok.sync {c : Ct} {n : Nat} (h : c.Ok n) (he : c.stepE = 0) : c.sync.Ok n := by
  unfold Ct.sync
  rw [if_pos he]
  have h1 := h.step he
  exact ⟨by simp [Ct.settled, setC_length, h1.len], h1.steps, h1.up, by simp [Ct.settled]⟩
theorem Ct.step_loose (c : Ct) : c.step.loose = c.loose := by
  by_cases h1 : c.armed = false
  · simp [Ct.step, h1]
  · by_cases h2 : 0 < c.steps <;> simp [Ct.step, h1, h2]
end Go.Proofs.YtbfajoeilpkofaaGreatDoor
/- Rows of ints of one's own: append. (CIow0, beside pages' texts.) -/
namespace Go.Proofs.YtbfajoeilpkofaaGreatDoor
open Go.RowKit

theorem infoInt : (Tryz.prog.info? 3).map (fun i => (i.zero, i.size, i.bytes)) = some (some (.int .i64 0), 1, 8) := by kernel_rfl
def iC (L : List Int) : List Value := L.map (Value.int .i64)
/-- What is appended: ints that lie somewhere, or nothing. -/
def ISrc (w : World) (u : Value) (ys : List Int) : Prop :=
  ∃ ad c, u = .slice ad ys.length c ∧ ((ad = none ∧ ys = []) ∨ ∃ a, ad = some a ∧ ∀ j v, (iC ys)[j]? = some v → w.cell? (a.add j) = some v)
theorem one_isrc {w : World} {r : Nat} {y : Int} (hr : w.heap[r]? = some (.cells #[.int .i64 y] 3 (0, 0))) : ISrc w (.slice (some ⟨r, 0, none⟩) 1 1) [y] :=
  ⟨_, _, rfl, .inr ⟨_, rfl, fun j v hv => by rw [Addr.add_lit, Nat.zero_add, cell_of_row _ _ j _ _ _ hr]; simpa [iC] using hv⟩⟩
/-- A value that owns ints, made since w0; nothing that was there in w0 has changed. -/
structure IOw (w0 w : World) (v : Value) (L : List Int) : Prop where
  own : w.ownsRow w0.heap.size 3 1 v L.length (iC L)
  below : Below w0.heap.size w0 w
theorem IOw.nil (w : World) : IOw w w (.slice none 0 0) [] := ⟨World.ownsRow_nil _ _ _ _, Below.refl _ _⟩
theorem IOw.nil' {w0 w : World} (h : Below w0.heap.size w0 w) : IOw w0 w (.slice none 0 0) [] := ⟨World.ownsRow_nil _ _ _ _, h⟩
theorem IOw.keep {w0 w w' : World} {v : Value} {L : List Int} (h : IOw w0 w v L) (hb : Below w.heap.size w w') : IOw w0 w' v L := by
  refine ⟨⟨h.own.1, ?_⟩, h.below.trans (hb.mono h.below.size)⟩
  rcases h.own.2 with hn | ⟨g, cap, cur, e, hbs, hg, rest⟩
  · exact .inl hn
  · exact .inr ⟨g, cap, cur, e, hbs, by rw [hb.block _ (lt_of_block hg)]; exact hg, rest⟩
theorem IOw.mono {w w0 w1 : World} {v : Value} {L : List Int} (h : IOw w0 w1 v L) (hb : Below w.heap.size w w0) : IOw w w1 v L := by
  refine ⟨⟨h.own.1, ?_⟩, hb.trans (h.below.mono hb.size)⟩
  rcases h.own.2 with hn | ⟨g, cap, cur, e, hbs, rest⟩
  · exact .inl hn
  · exact .inr ⟨g, cap, cur, e, Nat.le_trans hb.size hbs, rest⟩
theorem IOw.form {w0 w : World} {v : Value} {L : List Int} (h : IOw w0 w v L) : (v = .slice none 0 0 ∧ L = []) ∨ ∃ g cap, v = .slice (some ⟨g, 0, none⟩) L.length cap ∧ L.length ≤ cap ∧ cap ≤ maxLen ∧ w0.heap.size ≤ g ∧ g < w.heap.size ∧ ∀ j x, L[j]? = some x → w.cell? ⟨g, 0 + j, none⟩ = some (.int .i64 x) := by
  rcases h.own.2 with ⟨rfl, e⟩ | ⟨g, cap, cur, rfl, hbs, hg, hc, hm, _⟩
  · exact .inl ⟨rfl, List.eq_nil_of_length_eq_zero e⟩
  · refine .inr ⟨g, cap, rfl, hc, hm, hbs, lt_of_block hg, fun j x hj => ?_⟩
    have := h.own.cells (g := g) rfl j (.int .i64 x) (by simp [iC, hj])
    rwa [Addr.add_lit] at this
theorem IOw.sl {w0 w : World} {v : Value} {L : List Int} (h : IOw w0 w v L) : ∃ ad cap, v = .slice ad L.length cap ∧ IsL w ad L ∧ L.length ≤ cap := by
  rcases h.form with ⟨rfl, rfl⟩ | ⟨g, c, rfl, hc1, _, _, _, hc⟩
  · exact ⟨none, 0, rfl, (fun h => by cases h), Nat.le_refl _⟩
  · exact ⟨_, c, rfl, (fun _ => ⟨g, 0, rfl, hc⟩), hc1⟩
theorem run_append_I (w w0 : World) (ty : TypeId) (v u : Value) (L ys : List Int) (hown : IOw w0 w v L) (hu : ISrc w u ys) (hlen : L.length + ys.length ≤ 1000000) :
    ∃ v' w1, (Builtin.append_ #[63, 63] ty #[v, u]).run Tryz.prog w = .ok v' w1 ∧ IOw w0 w1 v' (L ++ ys) ∧ (∀ k, k < w.heap.size → v.ownBlock ≠ some k → w1.heap[k]? = w.heap[k]?) := by
  obtain ⟨i0, hi0, hz0, hz1, hz2⟩ := info_parts infoInt
  obtain ⟨ad, c, rfl, ⟨rfl, rfl⟩ | ⟨a, rfl, hc⟩⟩ := hu
  · refine ⟨v, w, ?_, by simpa using hown, fun _ _ _ => rfl⟩
    rcases hown.own.2 with ⟨rfl, hl⟩ | ⟨g, cap, cur, rfl, hbs, hg, hcap, _⟩
    · simp [Builtin.append_, run_underlying Tryz.underlying63, sizeOf, typeInfo, hi0, Builtin.lenOf, Builtin.firstCells]
    · have := run_append_room_src (P := Tryz.prog) w 63 63 ty 3 i0 Tryz.underlying63 hi0 g 0 L.length cap (.slice none 0 c) 0 [] (Src.ofNil w Tryz.underlying63 c) (by omega) (fun j hj => by simp at hj) (fun j hj => by simp at hj)
      simpa [World.setCells] using this
  · obtain ⟨v', w1, hr, h2, h3, _, h5⟩ := run_append_own_at (P := Tryz.prog) w w0.heap.size 63 ty 3 i0 (.int .i64 0) 1 8 Tryz.underlying63 hi0 hz0 hz1 hz2 rfl (by decide) v L.length (iC L) hown.own a ys.length c (iC ys) (by simp [iC]) hc
      (fun u hu => by obtain ⟨y, _, rfl⟩ := List.mem_map.1 hu; rfl) (by simp only [maxLen]; omega) (by omega) hown.below.size
    refine ⟨v', w1, hr, ⟨by simpa [iC] using h2, hown.below.trans ⟨h3.os, h3.tape, h3.output, h3.size, fun k hk => h3.block k (by have := hown.below.size; omega) (fun e => ?_)⟩⟩, fun k hk hne => h3.block k hk (fun e => hne e.symm)⟩
    have := (hown.own.lt k e.symm).1
    omega
theorem wpList_append_I {ops : Array Oper} {rest : List Oper} {o : Oper} {a : Act} {w : World} {Q : Exit → Act → World → Prop} (hgd : o.guard = none) (s x : Operand) (ho : o.op = .call { callee := .builtin .append, args := #[s, x], argTypes := #[63, 63] })
    (w0 : World) (v u : Value) (L ys : List Int) (hs : a.eval s = v) (hx : a.eval x = u) (hown : IOw w0 w v L) (hu : ISrc w u ys) (hlen : L.length + ys.length ≤ 1000000)
    (h : ∀ v' w1, IOw w0 w1 v' (L ++ ys) → wpList Tryz.prog ops Q rest (a.put o.dst v') w1) : wpList Tryz.prog ops Q (o :: rest) a w := by
  obtain ⟨v', w1, hr, h2, _⟩ := run_append_I w w0 o.type v u L ys hown hu hlen
  refine wpList_plain hgd fun K hK => ?_
  unfold Oper.wp execOp
  simp only [ho, resolve, invoke, builtin, Sem.run_bind, Sem.run_pure, Result.andThen_ok, List.map_toArray, List.map_cons, List.map_nil, hs, hx, hr]
  exact hK _ _ (h v' w1 h2)
theorem IOw.alloc {w0 w : World} {v : Value} {L : List Int} (h : IOw w0 w v L) (o : Obj) : IOw w0 (w.alloc o) v L := h.keep ((Below.refl _ w).alloc (Nat.le_refl _) _)
end Go.Proofs.YtbfajoeilpkofaaGreatDoor
/- Which places the root page tells: what is read. -/
namespace Go.Proofs.YtbfajoeilpkofaaGreatDoor
open Go.RowKit

attribute [local go_sem ↓] Go.wp_at_zero Go.wp_at_succ

/-- What is left behind i numbers; the number i. -/
def stN (most : Int) : Nat → Option (List Int) → Option (List Int)
  | 0, q => q
  | i + 1, q => ((stN most i q).bind (uintR most)).map Prod.snd
def vlN (most : Int) (i : Nat) (q : Option (List Int)) : Int := (((stN most i q).bind (uintR most)).map Prod.fst).getD 0
def vals (most : Int) (k : Nat) (q : Option (List Int)) : List Int := (List.range k).map fun i => vlN most i q
theorem vals_length (most : Int) (k : Nat) (q : Option (List Int)) : (vals most k q).length = k := by simp [vals]
def riseI : Int → List Int → Bool
  | _, [] => true
  | b, x :: r => if x ≤ b then false else riseI x r
/-- The places that a root page tells. -/
def rootR (last : Int) (b : List Int) : Option (List Int) :=
  if b.length = 0 then some [] else
    if endsR (stN last (((countR last b).map Prod.fst).getD 0).toNat ((countR last b).map Prod.snd)) = true ∧ riseI 0 (vals last (((countR last b).map Prod.fst).getD 0).toNat ((countR last b).map Prod.snd)) = true
    then some (vals last (((countR last b).map Prod.fst).getD 0).toNat ((countR last b).map Prod.snd)) else none
theorem uV_le {n : Nat} {z : Nat → Int} {most : Int} (h : uE n z most = 0) : uV n z most ≤ most := by
  rw [uV, if_pos h]
  unfold uE at h
  split at h
  · simp at h
  · split at h
    · simp at h
    · split at h
      · split at h
        · simp at h
        · rename_i h4; omega
      · rename_i h3; exact absurd h h3
theorem bd_fn {l : List Int} (h : ∀ y, y ∈ l → 0 ≤ y ∧ y ≤ 255) : ∀ j, j < l.length → 0 ≤ fn l j ∧ fn l j ≤ 255 := fn_bd h
theorem uintR_bd {most v : Int} {l r : List Int} (hl : ∀ y, y ∈ l → 0 ≤ y ∧ y ≤ 255) (h : uintR most l = some (v, r)) : 0 ≤ v ∧ v ≤ most ∧ ∀ y, y ∈ r → 0 ≤ y ∧ y ≤ 255 := by
  unfold uintR at h
  split at h
  · rename_i hE
    cases h
    have h1 := uV_bd (n := l.length) (z := fn l) most (bd_fn hl)
    exact ⟨h1.1, uV_le hE, fun y hy => hl y (List.mem_of_mem_drop hy)⟩
  · cases h
theorem countR_bd {most v : Int} {l r : List Int} (h0 : 0 ≤ most) (hl : ∀ y, y ∈ l → 0 ≤ y ∧ y ≤ 255) (h : countR most l = some (v, r)) : 0 ≤ v ∧ v ≤ most ∧ ∀ y, y ∈ r → 0 ≤ y ∧ y ≤ 255 := by
  unfold countR at h
  split at h
  · rename_i hE
    cases h
    have hu := cE_u hE
    have hm : max most 0 = most := by omega
    have h1 := uV_bd (n := l.length) (z := fn l) (max most 0) (bd_fn hl)
    rw [cV, if_pos hE]
    have h2 := uV_le hu
    rw [hm] at h1 h2 ⊢
    exact ⟨h1.1, h2, fun y hy => hl y (List.mem_of_mem_drop hy)⟩
  · cases h
def QBd (q : Option (List Int)) : Prop := ∀ l, q = some l → ∀ y, y ∈ l → 0 ≤ y ∧ y ≤ 255
theorem stN_bd {most : Int} {q : Option (List Int)} (h : QBd q) : ∀ i, QBd (stN most i q)
  | 0 => h
  | i + 1 => fun l hl y hy => by
    have ih := stN_bd (most := most) h i
    unfold stN at hl
    cases hs : stN most i q with
    | none => rw [hs] at hl; cases hl
    | some l0 =>
      rw [hs] at hl
      simp only [Option.bind_some] at hl
      cases hu : uintR most l0 with
      | none => rw [hu] at hl; cases hl
      | some x =>
        rw [hu] at hl
        cases hl
        exact (uintR_bd (ih l0 hs) hu).2.2 y hy
theorem vlN_bd {most : Int} {q : Option (List Int)} (h0 : 0 ≤ most) (h : QBd q) (i : Nat) : 0 ≤ vlN most i q ∧ vlN most i q ≤ most := by
  unfold vlN
  have hb := stN_bd (most := most) h i
  cases hs : stN most i q with
  | none => simpa using h0
  | some l0 =>
    simp only [Option.bind_some]
    cases hu : uintR most l0 with
    | none => simpa using h0
    | some x => have := uintR_bd (hb l0 hs) hu; simpa using ⟨this.1, this.2.1⟩
theorem CtAt.last_le {w : World} {G : Nat → Prop} {p : Nat} {c : Ct} (h : CtAt w G p c) (pg : Int) : (c.last pg).length ≤ 4096 := by
  obtain ⟨S, ⟨q, lo, F, h0, _⟩, rfl⟩ := h
  rw [← ct_last]
  exact (lastB_in h0).1.len
set_option maxRecDepth 100000 in
set_option maxHeartbeats 800000 in
theorem rise_any (ad : Option Addr) (cap : Nat) (ps : List Int) (w : World) (h : IsL w ad ps) (hl : ps.length ≤ 1000000) :
    Calls Tryz.prog 63 #[.slice ad ps.length cap] w fun e w' => e = .returned (.bool (riseI 0 ps)) ∧ w' = w := by
  have HL : Hid (IsL w ad ps) := h
  clear h
  obtain ⟨R, hR⟩ : ∃ R, riseI 0 ps = R := ⟨_, rfl⟩
  rw [hR]
  have HR : Hid (riseI 0 ps = R) := hR
  clear hR
  go_enter Tryz.func63, Tryz.ntmps63
  go_wp2
  go_loopw [3, 8] (fun bv iv wr => ∃ (i : Nat) (b : Int), i ≤ ps.length ∧ iv = .int .i64 i ∧ bv = .int .i64 b ∧ riseI b (ps.drop i) = R ∧ wr = w) (fun _ iv _ => ps.length - (intOf iv).toNat)
  case atStart => exact ⟨0, 0, Nat.zero_le _, rfl, rfl, HR.out, rfl⟩
  case round =>
    obtain ⟨i, b, hi, rfl, rfl, hr, rfl⟩ := hrel
    by_cases hlt : i < ps.length
    · have hlt' : (i : Int) < ps.length := by omega
      have hx : ps[i]? = some ps[i] := List.getElem?_eq_getElem hlt
      have hdr : ps.drop i = ps[i] :: ps.drop (i + 1) := List.drop_eq_getElem_cons hlt
      obtain ⟨bb, off, rfl, hc⟩ := HL.out (by omega)
      have hcx := hc i _ hx
      rw [hdr, riseI] at hr
      clear hc hx hdr
      generalize ps[i] = x at *
      by_cases hle : x ≤ b
      · rw [if_pos hle] at hr
        have HE : Hid (false = R) := hr
        clear hr
        go_wp2
        go_ret
        exact ⟨by rw [← HE.out]; rfl, rfl⟩
      · rw [if_neg hle] at hr
        have HE : Hid (riseI x (ps.drop (i + 1)) = R) := hr
        clear hr
        go_wp2
        refine ⟨⟨i + 1, x, by omega, by go_num, rfl, HE.out, by trivial⟩, by simp [intOf]; omega⟩
    · obtain rfl : i = ps.length := by omega
      have hlt' : ¬ ((ps.length : Int) < ps.length) := by omega
      rw [List.drop_length] at hr
      have HE : Hid (true = R) := hr
      clear hr
      go_wp2
      go_ret
      exact ⟨by rw [← HE.out]; rfl, rfl⟩
end Go.Proofs.YtbfajoeilpkofaaGreatDoor
