/- A store in memory: its pages, its loose writes. -/
import Derived.Test.YtmekplaonlpfkaaGreatDoorOwnShelfApart01
import Derived.Laws.OwnMore
import Derived.Lib.SliceRun
namespace Go.Proofs.YtmekplaonlpfkaaGreatDoor
open Go.RowKit

attribute [local go_sem ↓] Go.wp_at_zero Go.wp_at_succ

/-- Bytes as a slice holds them: where, how much room, which. -/
structure Bs where
  ad : Option Addr
  cap : Nat
  l : List Int
def Bs.v (x : Bs) : Value := .slice x.ad x.l.length x.cap
theorem Bs.v_one (x : Bs) : x.v.oneCell' = true := rfl
/-- The bytes lie there. -/
structure BsAt (w : World) (x : Bs) : Prop where
  lies : SlAt w x.ad x.l.length (fn x.l)
  nil : x.ad = none → x.l.length = 0 ∧ x.cap = 0
  len : x.l.length ≤ 4096
  bd : ∀ y, y ∈ x.l → 0 ≤ y ∧ y ≤ 255
def Bs.In (x : Bs) (F : Nat → Prop) : Prop := ∀ a, x.ad = some a → F a.block
theorem BsAt.keep {w w' : World} {x : Bs} {F : Nat → Prop} (h : BsAt w x) (hx : x.In F) (hk : ∀ k, F k → w'.heap[k]? = w.heap[k]?) : BsAt w' x :=
  ⟨h.lies.block fun b _ _ e => hk b (hx _ e), h.nil, h.len, h.bd⟩
def nilBs : Bs := ⟨none, 0, []⟩
theorem nilBs_at (w : World) : BsAt w nilBs := ⟨SlAt.zero _ _, fun _ => ⟨rfl, rfl⟩, by simp [nilBs], fun y h => by cases h⟩
theorem nilBs_in (F : Nat → Prop) : nilBs.In F := fun a h => by cases h

/-- A store's state: the safe pages, the loose writes. -/
structure St where
  safe : List Bs
  loose : List (Int × Bs)
  armed : Bool
  steps : Int
  down : Bool
/-- Loose writes as cells. -/
def flatW : List (Int × Bs) → List Value
  | [] => []
  | x :: r => .int .i64 x.1 :: x.2.v :: flatW r
theorem flatW_length : ∀ L : List (Int × Bs), (flatW L).length = L.length * 2
  | [] => rfl
  | _ :: r => by simp [flatW, flatW_length r]; omega
theorem flatW_append : ∀ (L : List (Int × Bs)) (M : List (Int × Bs)), flatW (L ++ M) = flatW L ++ flatW M
  | [], _ => rfl
  | _ :: r, M => by simp [flatW, flatW_append r M]
theorem flatW_at0 : ∀ (L : List (Int × Bs)) (i : Nat) (x : Int × Bs), L[i]? = some x → (flatW L)[i * 2]? = some (.int .i64 x.1)
  | [], i, _, h => by simp at h
  | y :: r, 0, x, h => by simp at h; subst h; simp [flatW]
  | y :: r, i + 1, x, h => by
    have := flatW_at0 r i x (by simpa using h)
    rw [show (i + 1) * 2 = i * 2 + 2 from by omega]
    simpa [flatW] using this
theorem flatW_at1 : ∀ (L : List (Int × Bs)) (i : Nat) (x : Int × Bs), L[i]? = some x → (flatW L)[i * 2 + 1]? = some x.2.v
  | [], i, _, h => by simp at h
  | y :: r, 0, x, h => by simp at h; subst h; simp [flatW]
  | y :: r, i + 1, x, h => by
    have := flatW_at1 r i x (by simpa using h)
    rw [show (i + 1) * 2 + 1 = i * 2 + 1 + 2 from by omega]
    simpa [flatW] using this
theorem flatW_one : ∀ L : List (Int × Bs), ∀ u ∈ flatW L, u.oneCell' = true
  | [], u, h => by cases h
  | x :: r, u, h => by
    simp only [flatW, List.mem_cons] at h
    rcases h with rfl | rfl | h
    · rfl
    · rfl
    · exact flatW_one r u h

/-- A store's five cells. -/
def stC (q : Nat) (lo : Value) (S : St) : Array Value := #[.slice (some ⟨q, 0, none⟩) S.safe.length S.safe.length, lo, .bool S.armed, .int .i64 S.steps, .bool S.down]
/-- Block p is a store: its safe pages in block q, its loose writes in the row lo, bytes in blocks of F. -/
structure St0 (w : World) (p q : Nat) (lo : Value) (F : Nat → Prop) (S : St) : Prop where
  cells : w.heap[p]? = some (.cells (stC q lo S) 75 (0, 0))
  safe : w.heap[q]? = some (.cells (S.safe.map Bs.v).toArray 29 (0, 0))
  loose : w.ownsRow 0 79 2 lo S.loose.length (flatW S.loose)
  ps : ∀ x ∈ S.safe, BsAt w x ∧ x.In F
  ls : ∀ x ∈ S.loose, BsAt w x.2 ∧ x.2.In F ∧ 0 ≤ x.1 ∧ x.1 < S.safe.length
  npq : p ≠ q
  nF : ¬ F p ∧ ¬ F q
  nlo : ∀ k, lo.ownBlock = some k → k ≠ p ∧ k ≠ q ∧ ¬ F k
  ltF : ∀ k, F k → k < w.heap.size
  small : S.safe.length ≤ 4096
  few : S.loose.length ≤ 1000000
  pos : 0 < S.safe.length
/-- A block of the store. -/
def Mine (p q : Nat) (lo : Value) (F : Nat → Prop) (k : Nat) : Prop := k = p ∨ k = q ∨ lo.ownBlock = some k ∨ F k
section
variable {w w' : World} {p q : Nat} {lo : Value} {F : Nat → Prop} {S : St}
theorem St0.ltlo (h : St0 w p q lo F S) {k : Nat} (hk : lo.ownBlock = some k) : k < w.heap.size := (h.loose.lt k hk).2
theorem St0.lt (h : St0 w p q lo F S) {k : Nat} (hk : Mine p q lo F k) : k < w.heap.size := by
  rcases hk with rfl | rfl | hk | hk
  · exact lt_of_block h.cells
  · exact lt_of_block h.safe
  · exact h.ltlo hk
  · exact h.ltF k hk
theorem owns_row_keep {B n size : Nat} {e : TypeId} {v : Value} {xs : List Value} (h : w.ownsRow B e size v n xs) (hk : ∀ k, v.ownBlock = some k → w'.heap[k]? = w.heap[k]?) : w'.ownsRow B e size v n xs := by
  refine ⟨h.1, ?_⟩
  rcases h.2 with hnil | ⟨k, cap, cur, e, hb, hg, rest⟩
  · exact .inl hnil
  · exact .inr ⟨k, cap, cur, e, hb, by rw [hk k (by rw [e]; rfl)]; exact hg, rest⟩
theorem St0.keep (h : St0 w p q lo F S) (hs : w.heap.size ≤ w'.heap.size) (hk : ∀ k, Mine p q lo F k → w'.heap[k]? = w.heap[k]?) : St0 w' p q lo F S := by
  have hF : ∀ k, F k → w'.heap[k]? = w.heap[k]? := fun k hf => hk k (.inr (.inr (.inr hf)))
  exact ⟨by rw [hk p (.inl rfl)]; exact h.cells, by rw [hk q (.inr (.inl rfl))]; exact h.safe, owns_row_keep h.loose fun k e => hk k (.inr (.inr (.inl e))),
    fun x hx => ⟨(h.ps x hx).1.keep (h.ps x hx).2 hF, (h.ps x hx).2⟩, fun x hx => ⟨(h.ls x hx).1.keep (h.ls x hx).2.1 hF, (h.ls x hx).2⟩, h.npq, h.nF, h.nlo, fun k hf => Nat.lt_of_lt_of_le (h.ltF k hf) hs, h.small, h.few, h.pos⟩
theorem St0.below (h : St0 w p q lo F S) (hb : Below w.heap.size w w') : St0 w' p q lo F S := h.keep hb.size fun k hk => hb.block k (h.lt hk)
theorem St0.c0 (h : St0 w p q lo F S) : w.cell? ⟨p, 0, none⟩ = some (.slice (some ⟨q, 0, none⟩) S.safe.length S.safe.length) := by rw [cell_of_row w p 0 _ _ _ h.cells]; rfl
theorem St0.c1 (h : St0 w p q lo F S) : w.cell? ⟨p, 1, none⟩ = some lo := by rw [cell_of_row w p 1 _ _ _ h.cells]; rfl
theorem St0.c2 (h : St0 w p q lo F S) : w.cell? ⟨p, 2, none⟩ = some (.bool S.armed) := by rw [cell_of_row w p 2 _ _ _ h.cells]; rfl
theorem St0.c3 (h : St0 w p q lo F S) : w.cell? ⟨p, 3, none⟩ = some (.int .i64 S.steps) := by rw [cell_of_row w p 3 _ _ _ h.cells]; rfl
theorem St0.c4 (h : St0 w p q lo F S) : w.cell? ⟨p, 4, none⟩ = some (.bool S.down) := by rw [cell_of_row w p 4 _ _ _ h.cells]; rfl
theorem St0.fz (h : St0 w p q lo F S) (o : Nat) : w.frozen? ⟨p, o, none⟩ = false := frozen_of_row w p o _ _ h.cells
theorem St0.lform (h : St0 w p q lo F S) : ∃ ad cap, lo = .slice ad S.loose.length cap := by
  rcases h.loose.2 with ⟨rfl, e⟩ | ⟨g, cap, cur, rfl, _⟩
  · exact ⟨none, 0, by rw [e]⟩
  · exact ⟨_, cap, rfl⟩
end
/-- A store in memory; all its blocks are of G. -/
def StAt (w : World) (G : Nat → Prop) (p : Nat) (S : St) : Prop := ∃ q lo F, St0 w p q lo F S ∧ (∀ k, Mine p q lo F k → G k)
theorem StAt.keep {w w' : World} {G : Nat → Prop} {p : Nat} {S : St} (h : StAt w G p S) (hs : w.heap.size ≤ w'.heap.size) (hk : ∀ k, k < w.heap.size → G k → w'.heap[k]? = w.heap[k]?) : StAt w' G p S := by
  obtain ⟨q, lo, F, h0, hG⟩ := h
  exact ⟨q, lo, F, h0.keep hs fun k hm => hk k (h0.lt hm) (hG k hm), hG⟩
theorem StAt.below {w w' : World} {G : Nat → Prop} {p : Nat} {S : St} (h : StAt w G p S) (hb : Below w.heap.size w w') : StAt w' G p S := h.keep hb.size fun k hk _ => hb.block k hk

set_option maxHeartbeats 400000 in
theorem pages_any (p q : Nat) (lo : Value) (F : Nat → Prop) (S : St) (w : World) (h : St0 w p q lo F S) :
    Calls Tryz.prog 34 #[.pointer (some ⟨p, 0, none⟩)] w fun e w' => e = .returned (.int .i64 S.safe.length) ∧ w' = w := by
  have h0 := h.c0
  clear h
  go_enter Tryz.func34, Tryz.ntmps34
  go_wp2
  go_ret
  exact ⟨rfl, rfl⟩
set_option maxHeartbeats 400000 in
theorem loose_any (p q : Nat) (lo : Value) (F : Nat → Prop) (S : St) (w : World) (h : St0 w p q lo F S) :
    Calls Tryz.prog 22 #[.pointer (some ⟨p, 0, none⟩)] w fun e w' => e = .returned (.int .i64 S.loose.length) ∧ w' = w := by
  have h1 := h.c1
  obtain ⟨ad, cap, rfl⟩ := h.lform
  clear h
  go_enter Tryz.func22, Tryz.ntmps22
  go_wp2
  go_ret
  exact ⟨rfl, rfl⟩
set_option maxHeartbeats 400000 in
theorem has_any (p q : Nat) (lo : Value) (F : Nat → Prop) (S : St) (pg : Int) (w : World) (h : St0 w p q lo F S) :
    Calls Tryz.prog 30 #[.pointer (some ⟨p, 0, none⟩), .int .i64 pg] w fun e w' => e = .returned (.bool (decide (0 ≤ pg ∧ pg < S.safe.length))) ∧ w' = w := by
  have hp := pages_any p q lo F S w h
  clear h
  by_cases h1 : 0 ≤ pg
  · have e1 : decide (0 ≤ pg ∧ pg < S.safe.length) = decide (pg < S.safe.length) := by simp [h1]
    rw [e1]
    go_enter Tryz.func30, Tryz.ntmps30
    go_wp2_with fail
    refine hp.mono ?_
    rintro e w1 ⟨rfl, rfl⟩
    go_wp2
    go_ret
    exact ⟨rfl, rfl⟩
  · have e1 : decide (0 ≤ pg ∧ pg < S.safe.length) = false := by simp [h1]
    rw [e1]
    go_enter Tryz.func30, Tryz.ntmps30
    go_wp2
    go_ret
    exact ⟨rfl, rfl⟩
end Go.Proofs.YtmekplaonlpfkaaGreatDoor
/- slices.Clone of bytes; a step; a new store. -/
namespace Go.Proofs.YtmekplaonlpfkaaGreatDoor
open Go.RowKit

attribute [local go_sem ↓] Go.wp_at_zero Go.wp_at_succ

theorem eqB_nil (w : World) : (binOp .eql 29 (.slice none 0 0) (.slice none 0 0)).run Tryz.prog w = .ok (.bool true) w := by kernel_rfl
theorem eqB_some (a : Addr) (n cap : Nat) (w : World) : (binOp .eql 29 (.slice (some a) n cap) (.slice none 0 0)).run Tryz.prog w = .ok (.bool false) w := by kernel_rfl
theorem sliceB_none (w : World) : (Instr.buildSlice 29 0 #[]).run Tryz.prog w = .ok (.slice (some ⟨w.heap.size, 0, none⟩) 0 0) (w.alloc (.cells #[] 5)) := by kernel_rfl
theorem wpList_append_run {ops : Array Oper} {rest : List Oper} {o : Oper} {a : Act} {w : World} {Q : Exit → Act → World → Prop} (hgd : o.guard = none) (s x : Operand) (t : TypeId) (ho : o.op = .call { callee := .builtin .append, args := #[s, x], argTypes := #[t, t] }) {v u v' : Value} {w' : World} (hs : a.eval s = v) (hx : a.eval x = u)
    (hr : (Builtin.append_ #[t, t] o.type #[v, u]).run Tryz.prog w = .ok v' w') (h : wpList Tryz.prog ops Q rest (a.put o.dst v') w') : wpList Tryz.prog ops Q (o :: rest) a w := by
  refine wpList_plain hgd fun K hK => ?_
  unfold Oper.wp execOp
  simp only [ho, resolve, invoke, builtin, Sem.run_bind, Sem.run_pure, Result.andThen_ok, List.map_toArray, List.map_cons, List.map_nil, hs, hx, hr]
  exact hK _ _ h
/-- What is made new: a slice of bytes of its own. -/
def ClR (w : World) (l : List Int) (e : Ending) (w' : World) : Prop := ∃ ad cap, e = .returned (.slice ad l.length cap) ∧ Ow w w' (.slice ad l.length cap) l
set_option maxRecDepth 100000 in
set_option maxHeartbeats 800000 in
theorem clone_nil (w : World) : Calls Tryz.prog 31 #[.slice none 0 0] w fun e w' => e = .returned (.slice none 0 0) ∧ w' = w := by
  have k0 := eqB_nil
  go_enter Tryz.func31, Tryz.ntmps31
  go_wp2
  go_ret
  exact ⟨rfl, rfl⟩
set_option maxRecDepth 100000 in
set_option maxHeartbeats 800000 in
theorem clone_any (ad : Option Addr) (cap : Nat) (l : List Int) (w : World) (h : SlAt w ad l.length (fn l)) (hn : ad = none → l.length = 0 ∧ cap = 0) (hb : ∀ y, y ∈ l → 0 ≤ y ∧ y ≤ 255) (hl : l.length ≤ 140737488355328) :
    Calls Tryz.prog 31 #[.slice ad l.length cap] w (ClR w l) := by
  have hs := h.src hn
  cases ad with
  | none =>
    obtain ⟨e1, rfl⟩ := hn rfl
    obtain rfl : l = [] := List.eq_nil_of_length_eq_zero e1
    refine (clone_nil w).mono ?_
    rintro e w' ⟨rfl, rfl⟩
    exact ⟨none, 0, rfl, Ow.nil _⟩
  | some a =>
    have how : Ow w (w.alloc (.cells #[] 5)) (.slice (some ⟨w.heap.size, 0, none⟩) 0 0) [] :=
      ⟨⟨rfl, .inr ⟨w.heap.size, 0, #[], rfl, Nat.le_refl _, heap_alloc_new w _, Nat.le_refl _, Nat.zero_le _, rfl, rfl⟩⟩, (Below.refl _ w).alloc (Nat.le_refl _) _, fun _ h => by cases h⟩
    have hs' : BSrc (w.alloc (.cells #[] 5)) (.slice (some a) l.length cap) l := by
      obtain ⟨ad', c', e, hd⟩ := hs
      cases e
      refine ⟨_, _, rfl, ?_⟩
      rcases hd with ⟨e, _⟩ | ⟨a', e, hc⟩
      · cases e
      · cases e
        refine .inr ⟨_, rfl, fun j v hv => ?_⟩
        have := hc j v hv
        rw [World.cell?_alloc_lt _ _ _ (World.block_lt_of_cell? w _ this)]
        exact this
    obtain ⟨v', w1, hrun, how'⟩ := run_append_B _ w 29 _ _ [] l how hs' hb (by simpa using hl)
    rw [List.nil_append] at how'
    obtain ⟨ad', cp', rfl⟩ := how'.form
    have HE : Hid (ClR w l (.returned (.slice ad' l.length cp')) w1) := ⟨ad', cp', rfl, how'⟩
    have k0 := eqB_some
    have k1 := sliceB_none w
    clear how how' hs hs' h hn
    go_enter Tryz.func31, Tryz.ntmps31
    go_wp2_with (first | (at_builtin; refine wpList_append_run rfl _ _ _ rfl rfl rfl hrun ?_) | fail)
    go_ret
    exact HE.out
theorem ow_bs {w w' : World} {ad : Option Addr} {cap : Nat} {l : List Int} (h : Ow w w' (.slice ad l.length cap) l) (hl : l.length ≤ 4096) : BsAt w' ⟨ad, cap, l⟩ ∧ (⟨ad, cap, l⟩ : Bs).In (fun k => w.heap.size ≤ k ∧ k < w'.heap.size) := by
  have hf := h.fresh
  refine ⟨⟨hf.2.1, hf.2.2.1, hl, h.bd⟩, fun a e => ?_⟩
  simp only at e
  subst e
  exact h.own.lt a.block rfl

/-- A step: what the store is, and which error it answers. -/
def stepS (S : St) : St := if S.armed = false then S else if 0 < S.steps then { S with steps := S.steps - 1 } else { S with down := true }
def stepE (S : St) : Int := if S.armed = false then 0 else if 0 < S.steps then 0 else 13
/-- The store's own cells turn. -/
theorem St0.turn {w : World} {p q : Nat} {lo : Value} {F : Nat → Prop} {S : St} (h : St0 w p q lo F S) (o : Nat) (u : Value) (S' : St) (lo' : Value) (hst : (stC q lo S).setIfInBounds o u = stC q lo' S') (hsa : S'.safe = S.safe) (hlo : S'.loose = S.loose) (hl : lo' = lo) : St0 (w.setCell ⟨p, o, none⟩ u) p q lo' F S' := by
  subst hl
  have hk : ∀ k, k ≠ p → (w.setCell ⟨p, o, none⟩ u).heap[k]? = w.heap[k]? := fun k hk => Below.heap_setCell _ _ _ _ hk
  have hF : ∀ k, F k → (w.setCell ⟨p, o, none⟩ u).heap[k]? = w.heap[k]? := fun k hf => hk k (fun e => h.nF.1 (e ▸ hf))
  refine ⟨?_, ?_, ?_, ?_, ?_, h.npq, h.nF, h.nlo, fun k hf => by simpa [World.setCell] using h.ltF k hf, by rw [hsa]; exact h.small, by rw [hlo]; exact h.few, by rw [hsa]; exact h.pos⟩
  · rw [heap_setCell_same w p o _ _ u h.cells, hst]
  · rw [hk q (Ne.symm h.npq), hsa]; exact h.safe
  · rw [hlo]; exact owns_row_keep h.loose fun k e => hk k (h.nlo k e).1
  · rw [hsa]; exact fun x hx => ⟨(h.ps x hx).1.keep (h.ps x hx).2 hF, (h.ps x hx).2⟩
  · rw [hlo, hsa]; exact fun x hx => ⟨(h.ls x hx).1.keep (h.ls x hx).2.1 hF, (h.ls x hx).2⟩
/-- What a step leaves. -/
def StepR (p q : Nat) (lo : Value) (F : Nat → Prop) (S : St) (w : World) (e : Ending) (w' : World) : Prop := e = .returned (errV (stepE S)) ∧ St0 w' p q lo F (stepS S) ∧ Frm [p] w w' ∧ w'.heap.size = w.heap.size
set_option maxHeartbeats 800000 in
theorem step_any (p q : Nat) (lo : Value) (F : Nat → Prop) (S : St) (w : World) (h : St0 w p q lo F S) (hs : 0 ≤ S.steps ∧ S.steps < 9223372036854775808) :
    Calls Tryz.prog 32 #[.pointer (some ⟨p, 0, none⟩)] w (StepR p q lo F S w) := by
  have h2 := h.c2
  have h3 := h.c3
  have h4 := h.c4
  have f3 := h.fz 3
  have f4 := h.fz 4
  by_cases h1 : S.armed = false
  · have HE : Hid (StepR p q lo F S w (.returned .nilIface) w) := ⟨by simp [stepE, h1, errV], by simp only [stepS, if_pos h1]; exact h, Frm.refl _ _, rfl⟩
    rw [h1] at h2
    clear h
    go_enter Tryz.func32, Tryz.ntmps32
    go_wp2
    go_ret
    exact HE.out
  · have h1' : S.armed = true := by simpa using h1
    by_cases hp : 0 < S.steps
    · have HE : Hid (StepR p q lo F S w (.returned .nilIface) (w.setCell ⟨p, 3, none⟩ (.int .i64 (S.steps - 1)))) :=
        ⟨by simp [stepE, h1, hp, errV], by simp only [stepS, if_neg h1, if_pos hp]; exact h.turn 3 _ _ _ rfl rfl rfl rfl, (Frm.refl _ _).setCell _ _ (by simp), by simp [World.setCell]⟩
      rw [h1'] at h2
      have hwr : IntKind.i64.wrap (S.steps - 1) = S.steps - 1 := by rw [IntKind.wrap_i64]; omega
      clear h
      generalize S.steps = n at *
      go_enter Tryz.func32, Tryz.ntmps32
      go_wp2
      go_ret
      exact HE.out
    · have HE : Hid (StepR p q lo F S w (.returned (.iface 72 (.int .i64 13))) (w.setCell ⟨p, 4, none⟩ (.bool true))) :=
        ⟨by simp [stepE, h1, hp, errV], by simp only [stepS, if_neg h1, if_neg hp]; exact h.turn 4 _ _ _ rfl rfl rfl rfl, (Frm.refl _ _).setCell _ _ (by simp), by simp [World.setCell]⟩
      rw [h1'] at h2
      obtain ⟨n, hn, e0⟩ : ∃ n, S.steps = n ∧ n = 0 := ⟨_, rfl, by omega⟩
      rw [hn, e0] at h3
      clear h hn hp hs
      go_enter Tryz.func32, Tryz.ntmps32
      go_wp2
      go_ret
      exact HE.out
end Go.Proofs.YtmekplaonlpfkaaGreatDoor
/- A write. -/
namespace Go.Proofs.YtmekplaonlpfkaaGreatDoor
open Go.RowKit

attribute [local go_sem ↓] Go.wp_at_zero Go.wp_at_succ

/-- All blocks that were there, but those of M, are as they were; the streams too. -/
structure Fr (M : Nat → Prop) (w w' : World) : Prop where
  os : w'.os = w.os
  tape : w'.tape = w.tape
  output : w'.output = w.output
  size : w.heap.size ≤ w'.heap.size
  block : ∀ k, k < w.heap.size → ¬ M k → w'.heap[k]? = w.heap[k]?
section
variable {M M' : Nat → Prop} {a b c : World}
theorem Fr.refl (M : Nat → Prop) (w : World) : Fr M w w := ⟨rfl, rfl, rfl, Nat.le_refl _, fun _ _ _ => rfl⟩
theorem Fr.trans (h : Fr M a b) (k : Fr M' b c) (hm : ∀ i, i < a.heap.size → M' i → M i) : Fr M a c :=
  ⟨k.os.trans h.os, k.tape.trans h.tape, k.output.trans h.output, Nat.le_trans h.size k.size, fun i hi hn => (k.block i (Nat.lt_of_lt_of_le hi h.size) (fun e => hn (hm i hi e))).trans (h.block i hi hn)⟩
theorem Fr.mono (h : Fr M a b) (hm : ∀ i, i < a.heap.size → M i → M' i) : Fr M' a b := ⟨h.os, h.tape, h.output, h.size, fun i hi hn => h.block i hi fun e => hn (hm i hi e)⟩
theorem Fr.ofFrm {T : List Nat} (h : Frm T a b) : Fr (· ∈ T) a b := ⟨h.os, h.tape, h.output, h.size, h.block⟩
theorem Fr.ofBelow (h : Below a.heap.size a b) : Fr M a b := ⟨h.os, h.tape, h.output, h.size, fun k hk _ => h.block k hk⟩
theorem Fr.below {B : Nat} (h : Fr M a b) (hB : B ≤ a.heap.size) (hm : ∀ k, M k → B ≤ k) : Below B a b := ⟨h.os, h.tape, h.output, h.size, fun k hk => h.block k (by omega) (fun e => by have := hm k e; omega)⟩
theorem Fr.setCell (h : Fr M a b) (p : Addr) (u : Value) (hp : M p.block) : Fr M a (b.setCell p u) :=
  ⟨h.os, h.tape, h.output, by simpa [World.setCell] using h.size, fun k hk hn => by rw [Below.heap_setCell _ _ _ _ (fun e => hn (by rw [e]; exact hp))]; exact h.block k hk hn⟩
theorem Fr.drew (h : Fr M a b) : Fr M a b.drew := ⟨h.os, h.tape, h.output, h.size, h.block⟩
end

/-- The page is b, loose. -/
def St.put (S : St) (pg : Int) (y : Bs) : St := { S with loose := S.loose ++ [(pg, y)] }
theorem Tryz.infoW : (Tryz.prog.info? 79).map (fun i => (i.zero, i.size, i.bytes)) = some (some (.agg #[.int .i64 0, .slice none 0 0]), 2, 32) := by kernel_rfl
theorem sliceW_one (x y : Value) (w : World) : (Instr.buildSlice 73 1 #[(0, .agg #[x, y])]).run Tryz.prog w = .ok (.slice (some ⟨w.heap.size, 0, none⟩) 1 1) (w.alloc (.cells #[x, y] 79)) := by
  kernel_rfl
section
variable {ops : Array Oper} {o : Oper} {a : Act} {w : World} {K : Act → World → Prop} {Q : Exit → Act → World → Prop} {E : Prop}
theorem step_sliceW (hgd : o.guard = none) (x : Operand) (ho : o.op = .buildSlice 73 1 #[(0, x)]) (u v : Value) (hx : a.eval x = .agg #[u, v])
    (h : K (a.put o.dst (.slice (some ⟨w.heap.size, 0, none⟩) 1 1)) (w.alloc (.cells #[u, v] 79))) : if Region.wanted o (yielded ops a.tmps) = true then Oper.wp Tryz.prog o a w K Q else E := by
  have hw : Region.wanted o (yielded ops a.tmps) = true := by simp [Region.wanted, hgd]
  rw [if_pos hw]
  unfold Oper.wp execOp
  simp only [ho, List.map_toArray, List.map_cons, List.map_nil, hx, Sem.run_bind, sliceW_one u v, Result.andThen]
  exact h
theorem step_append (hgd : o.guard = none) (s x : Operand) (t : TypeId) (ho : o.op = .call { callee := .builtin .append, args := #[s, x], argTypes := #[t, t] }) {v u v' : Value} {w' : World} (hs : a.eval s = v) (hx : a.eval x = u)
    (hr : (Builtin.append_ #[t, t] o.type #[v, u]).run Tryz.prog w = .ok v' w') (h : K (a.put o.dst v') w') : if Region.wanted o (yielded ops a.tmps) = true then Oper.wp Tryz.prog o a w K Q else E := by
  have hw : Region.wanted o (yielded ops a.tmps) = true := by simp [Region.wanted, hgd]
  rw [if_pos hw]
  unfold Oper.wp execOp
  simp only [ho, resolve, invoke, builtin, Sem.run_bind, Sem.run_pure, Result.andThen_ok, List.map_toArray, List.map_cons, List.map_nil, hs, hx, hr]
  exact h
end
theorem Ow.ofDrew {w w1 : World} {v : Value} {l : List Int} (h : Ow w.drew w1 v l) : Ow w w1 v l := ⟨h.own, ⟨h.below.os, h.below.tape, h.below.output, h.below.size, h.below.block⟩, h.bd⟩
/-- One more loose write: what it leaves. -/
theorem put_end {w w1 w3 : World} {p q : Nat} {lo : Value} {F : Nat → Prop} {S : St} {pg : Int} {ad : Option Addr} {cap : Nat} {l : List Int} {v' : Value} {o : Obj} (h : St0 w p q lo F S) (how : Ow w w1 (.slice ad l.length cap) l) (hl : l.length ≤ 4096) (hp : 0 ≤ pg ∧ pg < S.safe.length) (hfew : S.loose.length < 1000000)
    (hown : w3.ownsRow 0 79 2 v' (S.loose.length + 1) (flatW S.loose ++ [.int .i64 pg, .slice ad l.length cap])) (hgrow : (w1.alloc o).grownBy w3 lo.ownBlock) (hloc : v'.ownBlock = lo.ownBlock ∨ v'.ownBlock = some (w1.alloc o).heap.size) :
    ∃ F', St0 (w3.setCell ⟨p, 1, none⟩ v') p q v' F' (S.put pg ⟨ad, cap, l⟩) ∧ Fr (Mine p q lo F) w (w3.setCell ⟨p, 1, none⟩ v') ∧ ∀ k, Mine p q v' F' k → Mine p q lo F k ∨ (w.heap.size ≤ k ∧ k < (w3.setCell ⟨p, 1, none⟩ v').heap.size) := by
  obtain ⟨hb, hin⟩ := ow_bs how hl
  have hB := how.below
  have s1 := hB.size
  have s2 : (w1.alloc o).heap.size = w1.heap.size + 1 := by simp
  have s3 := hgrow.size
  have lp := h.lt (k := p) (.inl rfl)
  have lq := h.lt (k := q) (.inr (.inl rfl))
  have e12 : ∀ k, k < w1.heap.size → (w1.alloc o).heap[k]? = w1.heap[k]? := fun k hk => by rw [Below.heap_alloc _ _ _ (by simpa using hk)]
  have k3 : ∀ k, k < w1.heap.size → lo.ownBlock ≠ some k → w3.heap[k]? = w1.heap[k]? := fun k hk hn => by rw [hgrow.block k (by omega) (fun e => hn e.symm)]; exact e12 k hk
  have nlp : lo.ownBlock ≠ some p := fun e => (h.nlo p e).1 rfl
  have nlq : lo.ownBlock ≠ some q := fun e => (h.nlo q e).2.1 rfl
  have k4 : ∀ k, k < w1.heap.size → lo.ownBlock ≠ some k → k ≠ p → (w3.setCell ⟨p, 1, none⟩ v').heap[k]? = w1.heap[k]? := fun k hk hn hkp => by rw [Below.heap_setCell _ _ _ _ hkp]; exact k3 k hk hn
  have k5 : ∀ k, k < w.heap.size → lo.ownBlock ≠ some k → k ≠ p → (w3.setCell ⟨p, 1, none⟩ v').heap[k]? = w.heap[k]? := fun k hk hn hkp => by rw [k4 k (by omega) hn hkp]; exact hB.block k hk
  have hF : ∀ k, F k → (w3.setCell ⟨p, 1, none⟩ v').heap[k]? = w.heap[k]? := fun k hf => k5 k (h.ltF k hf) (fun e => (h.nlo k e).2.2 hf) (fun e => h.nF.1 (e ▸ hf))
  have sz : (w3.setCell ⟨p, 1, none⟩ v').heap.size = w3.heap.size := by simp [World.setCell]
  have hvb : ∀ k, v'.ownBlock = some k → lo.ownBlock = some k ∨ w1.heap.size + 1 = k := fun k e => by
    rcases hloc with h1 | h1
    · left; rw [← h1]; exact e
    · right; rw [h1, s2] at e; exact Option.some.inj e
  refine ⟨fun k => F k ∨ (w.heap.size ≤ k ∧ k < w1.heap.size), ⟨?_, ?_, ?_, ?_, ?_, h.npq, ⟨fun e => e.elim h.nF.1 (by omega), fun e => e.elim h.nF.2 (by omega)⟩, ?_, ?_, h.small, by simp [St.put]; omega, h.pos⟩, ⟨?_, ?_, ?_, by omega, ?_⟩, ?_⟩
  · have c3 : w3.heap[p]? = some (.cells (stC q lo S) 75 (0, 0)) := by rw [k3 p (by omega) nlp, hB.block p lp]; exact h.cells
    rw [heap_setCell_same w3 p 1 _ _ v' c3]
    rfl
  · show _ = some (Obj.cells (S.safe.map Bs.v).toArray _ _)
    rw [k5 q lq nlq (Ne.symm h.npq)]; exact h.safe
  · have : flatW (S.put pg ⟨ad, cap, l⟩).loose = flatW S.loose ++ [.int .i64 pg, .slice ad l.length cap] := by simp [St.put, flatW_append, flatW, Bs.v]
    rw [this]
    have hlen : (S.put pg ⟨ad, cap, l⟩).loose.length = S.loose.length + 1 := by simp [St.put]
    rw [hlen]
    refine owns_row_keep hown fun k e => Below.heap_setCell _ _ _ _ (fun ek => ?_)
    have ek : k = p := ek
    subst ek
    rcases hvb k e with h1 | h1
    · exact nlp h1
    · omega
  · intro x hx
    exact ⟨(h.ps x hx).1.keep (h.ps x hx).2 hF, fun a e => .inl ((h.ps x hx).2 a e)⟩
  · intro x hx
    have hx : x ∈ S.loose ++ [(pg, ⟨ad, cap, l⟩)] := hx
    rcases List.mem_append.1 hx with hx | hx
    · have := h.ls x hx
      exact ⟨this.1.keep this.2.1 hF, fun a e => .inl (this.2.1 a e), this.2.2⟩
    · have : x = (pg, ⟨ad, cap, l⟩) := by simpa using hx
      subst this
      refine ⟨hb.keep hin fun k hk => ?_, fun a e => .inr (hin a e), hp⟩
      exact k4 k hk.2 (fun e => by have := h.ltlo e; omega) (by omega)
  · intro k e
    rcases hvb k e with h1 | h1
    · exact ⟨(h.nlo k h1).1, (h.nlo k h1).2.1, fun e => e.elim (h.nlo k h1).2.2 (by have := h.ltlo h1; omega)⟩
    · exact ⟨by omega, by omega, fun e => e.elim (fun hf => by have := h.ltF k hf; omega) (by omega)⟩
  · intro k e
    rw [sz]
    rcases e with hf | hk
    · have := h.ltF k hf; omega
    · omega
  · exact hgrow.os.trans hB.os
  · exact hgrow.tape.trans hB.tape
  · exact hgrow.output.trans hB.output
  · exact fun k hk hn => k5 k hk (fun e => hn (.inr (.inr (.inl e)))) (fun e => hn (.inl e))
  · intro k hk
    rw [sz]
    rcases hk with hk | hk | hk | hk | hk
    · exact .inl (.inl hk)
    · exact .inl (.inr (.inl hk))
    · have := (hown.lt k hk).2
      rcases hvb k hk with h1 | h1
      · exact .inl (.inr (.inr (.inl h1)))
      · right; omega
    · exact .inl (.inr (.inr (.inr hk)))
    · right; omega
end Go.Proofs.YtmekplaonlpfkaaGreatDoor
/- The loose writes are done, and forgotten. -/
namespace Go.Proofs.YtmekplaonlpfkaaGreatDoor
open Go.RowKit

attribute [local go_sem ↓] Go.wp_at_zero Go.wp_at_succ

/-- The loose writes of which K tells are done in their order. -/
def setF (K : Nat → Bool) : Nat → List (Int × Bs) → List Bs → List Bs
  | _, [], s => s
  | i, x :: r, s => setF K (i + 1) r (if K i = true then s.set x.1.toNat x.2 else s)
theorem setF_snoc (K : Nat → Bool) (x : Int × Bs) : ∀ (L : List (Int × Bs)) (i : Nat) (s : List Bs), setF K i (L ++ [x]) s = (if K (i + L.length) = true then (setF K i L s).set x.1.toNat x.2 else setF K i L s)
  | [], i, s => by simp [setF]
  | y :: r, i, s => by
    have := setF_snoc K x r (i + 1) (if K i = true then s.set y.1.toNat y.2 else s)
    simp only [List.cons_append, setF, this, List.length_cons]
    rw [show i + 1 + r.length = i + (r.length + 1) from by omega]
theorem setF_length (K : Nat → Bool) : ∀ (L : List (Int × Bs)) (i : Nat) (s : List Bs), (setF K i L s).length = s.length
  | [], _, _ => rfl
  | y :: r, i, s => by
    rw [setF, setF_length K r]
    split <;> simp
theorem setF_mem (K : Nat → Bool) : ∀ (L : List (Int × Bs)) (i : Nat) (s : List Bs) (x : Bs), x ∈ setF K i L s → x ∈ s ∨ ∃ pg, (pg, x) ∈ L
  | [], _, _, _, h => .inl h
  | y :: r, i, s, x, h => by
    rcases setF_mem K r _ _ x h with h1 | ⟨pg, h1⟩
    · split at h1
      · rcases List.mem_or_eq_of_mem_set h1 with h2 | h2
        · exact .inl h2
        · exact .inr ⟨y.1, by rw [h2]; simp⟩
      · exact .inl h1
    · exact .inr ⟨pg, by simp [h1]⟩
def St.settled (S : St) (K : Nat → Bool) : St := { S with safe := setF K 0 S.loose S.safe, loose := [] }
theorem setCells_at (g : Nat) : ∀ (vs : List Value) (off : Nat) (w : World) (pre post : List Value) (t : TypeId), w.heap[g]? = some (.cells (pre ++ post).toArray t (0, 0)) → pre.length = off → vs.length ≤ post.length →
    (w.setCells g off vs).heap[g]? = some (.cells (pre ++ vs ++ post.drop vs.length).toArray t (0, 0))
  | [], _, w, pre, post, t, h, _, _ => by simpa [World.setCells] using h
  | v :: r, off, w, pre, p :: post, t, h, hp, hl => by
    rw [World.setCells]
    have h1 : (w.setCell ⟨g, off, none⟩ v).heap[g]? = some (.cells ((pre ++ [v]) ++ post).toArray t (0, 0)) := by
      rw [heap_setCell_same w g off _ t v h]
      congr 2
      apply Array.toList_inj.1
      simp [← hp]
    have := setCells_at g r (off + 1) _ (pre ++ [v]) post t h1 (by simp [hp]) (by simpa using hl)
    simpa using this
  | v :: r, off, w, pre, [], t, h, hp, hl => by simp at hl
theorem setCells_frm (g : Nat) : ∀ (vs : List Value) (off : Nat) (w : World), Frm [g] w (w.setCells g off vs)
  | [], _, w => Frm.refl _ w
  | v :: r, off, w => ((Frm.refl [g] w).setCell ⟨g, off, none⟩ v (by simp)).trans (setCells_frm g r (off + 1) _)


theorem setCells_size (g : Nat) : ∀ (vs : List Value) (off : Nat) (w : World), (w.setCells g off vs).heap.size = w.heap.size
  | [], _, w => rfl
  | v :: r, off, w => by rw [World.setCells, setCells_size g r]; simp [World.setCell]
theorem zeroCells_size (z : Array Value) (n : Nat) : (Builtin.zeroCells z n).size = n * z.size := by simp [Builtin.zeroCells]
theorem zeroW (w : World) : (zeroValue 79).run Tryz.prog w = .ok (.agg #[.int .i64 0, .slice none 0 0]) w := by kernel_rfl
/-- 'clear' of the loose writes. -/
theorem run_clearW (w : World) (lo : Value) (n : Nat) (xs : List Value) (h : w.ownsRow 0 79 2 lo n xs) (ty : TypeId) :
    ∃ w', (Builtin.clear_ #[73] ty #[lo]).run Tryz.prog w = .ok (.tuple #[]) w' ∧ (∀ k, lo.ownBlock ≠ some k → w'.heap[k]? = w.heap[k]?) ∧ w'.os = w.os ∧ w'.tape = w.tape ∧ w'.output = w.output ∧ w'.heap.size = w.heap.size ∧
      ((lo = .slice none 0 0) ∨ ∃ g cap, lo = .slice (some ⟨g, 0, none⟩) n cap ∧ w'.ownsRow 0 79 2 (.slice (some ⟨g, 0, none⟩) 0 cap) 0 []) := by
  rcases h.2 with ⟨rfl, rfl⟩ | ⟨g, cap, cur, rfl, hb, hg, hcap, hmax, hsz, htk⟩
  · exact ⟨w, by simp [Builtin.clear_, run_underlying Tryz.underlying73], fun _ _ => rfl, rfl, rfl, rfl, rfl, .inl rfl⟩
  · cases n with
    | zero =>
      refine ⟨w, by simp [Builtin.clear_, run_underlying Tryz.underlying73], fun _ _ => rfl, rfl, rfl, rfl, rfl, .inr ⟨g, cap, rfl, rfl, .inr ⟨g, cap, cur, rfl, hb, hg, by omega, hmax, hsz, by simp⟩⟩⟩
    | succ n =>
      have hlen : (Builtin.zeroCells #[.int .i64 0, .slice none 0 0] (n + 1)).toList.length = (n + 1) * 2 := by simp [Builtin.zeroCells]
      have hle : (n + 1) * 2 ≤ cur.size := by rw [hsz]; omega
      have hst := run_storeCells_cells (P := Tryz.prog) g 0 (Builtin.zeroCells #[.int .i64 0, .slice none 0 0] (n + 1)).toList 0 w ?_ ?_ ?_
      · have hF := setCells_frm g (Builtin.zeroCells #[.int .i64 0, .slice none 0 0] (n + 1)).toList 0 w
        have hsame := setCells_size g (Builtin.zeroCells #[.int .i64 0, .slice none 0 0] (n + 1)).toList 0 w
        have hnew := setCells_at g (Builtin.zeroCells #[.int .i64 0, .slice none 0 0] (n + 1)).toList 0 w [] cur.toList 79 (by simpa using hg) rfl (by rw [hlen]; simpa using hle)
        refine ⟨_, ?_, fun k hk => ?_, hF.os, hF.tape, hF.output, hsame, .inr ⟨g, cap, rfl, rfl, .inr ⟨g, cap, _, rfl, hb, hnew, by omega, hmax, ?_, by simp⟩⟩⟩
        · simp only [Nat.add_zero] at hst
          simp [Builtin.clear_, run_underlying Tryz.underlying73, Value.cells, hst]
        · by_cases hlt : k < w.heap.size
          · exact hF.block k hlt (by simp; intro e; exact hk (by rw [e]; rfl))
          · rw [Array.getElem?_eq_none (by omega), Array.getElem?_eq_none (by omega)]
        · simp only [List.nil_append, List.size_toArray, List.length_append, List.length_drop, hlen, Array.length_toList]
          omega
      · intro j hj
        rw [hlen] at hj
        rw [show 0 + 0 + j = j from by omega, cell_of_row w g j _ _ _ hg]
        simp; omega
      · intro j _
        exact frozen_of_row w g _ _ _ hg
      · intro v hv
        simp only [Builtin.zeroCells, Array.toList_map, List.mem_map] at hv
        obtain ⟨a, _, rfl⟩ := hv
        have : a % 2 < 2 := Nat.mod_lt _ (by omega)
        rcases (show a % 2 = 0 ∨ a % 2 = 1 by omega) with e | e <;> simp [e] <;> rfl
/-- The loose writes, forgotten. -/
def cut0 : Value → Value
  | .slice a _ c => .slice a 0 c
  | v => v
/-- What is left when the loose writes were done. -/
def SetR (p q : Nat) (lo : Value) (F : Nat → Prop) (S : St) (K : Nat → Bool) (w : World) (e : Ending) (w' : World) : Prop :=
  e = .returned (.tuple #[]) ∧ St0 w' p q (cut0 lo) F (S.settled K) ∧ Fr (Mine p q lo F) w w'
theorem cut0_own (lo : Value) : (cut0 lo).ownBlock = lo.ownBlock := by
  cases lo with
  | slice a n c => cases a <;> rfl
  | _ => rfl
theorem cut0_mine {p q : Nat} {lo : Value} {F : Nat → Prop} {k : Nat} : Mine p q (cut0 lo) F k ↔ Mine p q lo F k := by unfold Mine; rw [cut0_own]
theorem settle_end {w w1 w2 : World} {p q : Nat} {lo : Value} {F : Nat → Prop} {S : St} {K : Nat → Bool} (h : St0 w p q lo F S) (hq : w1.heap[q]? = some (.cells ((setF K 0 S.loose S.safe).map Bs.v).toArray 29 (0, 0))) (hF : Frm [q] w w1)
    (hk : ∀ k, lo.ownBlock ≠ some k → w2.heap[k]? = w1.heap[k]?) (hos : w2.os = w1.os ∧ w2.tape = w1.tape ∧ w2.output = w1.output ∧ w2.heap.size = w1.heap.size)
    (hcl : (lo = .slice none 0 0) ∨ ∃ g cap, lo = .slice (some ⟨g, 0, none⟩) S.loose.length cap ∧ w2.ownsRow 0 79 2 (.slice (some ⟨g, 0, none⟩) 0 cap) 0 []) : SetR p q lo F S K w (.returned (.tuple #[])) (w2.setCell ⟨p, 1, none⟩ (cut0 lo)) := by
  have lp := h.lt (k := p) (.inl rfl)
  have s1 := hF.size
  have nlp : lo.ownBlock ≠ some p := fun e => (h.nlo p e).1 rfl
  have nlq : lo.ownBlock ≠ some q := fun e => (h.nlo q e).2.1 rfl
  have sz : (w2.setCell ⟨p, 1, none⟩ (cut0 lo)).heap.size = w1.heap.size := by simp [World.setCell, hos.2.2.2]
  have k2 : ∀ k, k < w.heap.size → lo.ownBlock ≠ some k → k ≠ p → k ≠ q → (w2.setCell ⟨p, 1, none⟩ (cut0 lo)).heap[k]? = w.heap[k]? := fun k hlt h1 h2 h3 => by
    rw [Below.heap_setCell _ _ _ _ h2, hk k h1]; exact hF.block k hlt (by simpa using h3)
  have hFk : ∀ k, F k → (w2.setCell ⟨p, 1, none⟩ (cut0 lo)).heap[k]? = w.heap[k]? := fun k hf => k2 k (h.ltF k hf) (fun e => (h.nlo k e).2.2 hf) (fun e => h.nF.1 (e ▸ hf)) (fun e => h.nF.2 (e ▸ hf))
  refine ⟨rfl, ⟨?_, ?_, ?_, ?_, ?_, h.npq, h.nF, fun k e => h.nlo k (by rw [← cut0_own]; exact e), fun k hf => by have := h.ltF k hf; omega, ?_, by simp [St.settled], ?_⟩, ⟨?_, ?_, ?_, by omega, ?_⟩⟩
  · have c2 : w2.heap[p]? = some (.cells (stC q lo S) 75 (0, 0)) := by
      rw [hk p nlp, hF.block p lp (by simpa using h.npq)]; exact h.cells
    rw [heap_setCell_same w2 p 1 _ _ (cut0 lo) c2]
    simp [stC, St.settled, setF_length]
  · rw [Below.heap_setCell _ _ _ _ (Ne.symm h.npq), hk q nlq]; exact hq
  · rcases hcl with rfl | ⟨g, cap, rfl, ho⟩
    · exact World.ownsRow_nil _ _ _ _
    · exact owns_row_keep ho fun k e => Below.heap_setCell _ _ _ _ (fun ek => by
        have ek : k = p := ek
        have : g = k := by rw [cut0_own] at e; simpa [Value.ownBlock] using e
        exact nlp (by rw [← ek, ← this]; rfl))
  · intro x hx
    rcases setF_mem K _ _ _ x hx with h1 | ⟨pg, h1⟩
    · exact ⟨(h.ps x h1).1.keep (h.ps x h1).2 hFk, (h.ps x h1).2⟩
    · exact ⟨(h.ls _ h1).1.keep (h.ls _ h1).2.1 hFk, (h.ls _ h1).2.1⟩
  · intro x hx; cases hx
  · show (setF K 0 S.loose S.safe).length ≤ 4096
    rw [setF_length]; exact h.small
  · show 0 < (setF K 0 S.loose S.safe).length
    rw [setF_length]; exact h.pos
  · exact hos.1.trans hF.os
  · exact hos.2.1.trans hF.tape
  · exact hos.2.2.1.trans hF.output
  · exact fun k hlt hn => k2 k hlt (fun e => hn (.inr (.inr (.inl e)))) (fun e => hn (.inl e)) (fun e => hn (.inr (.inl e)))
end Go.Proofs.YtmekplaonlpfkaaGreatDoor
/- settle, walked. -/
namespace Go.Proofs.YtmekplaonlpfkaaGreatDoor
open Go.RowKit

attribute [local go_sem ↓] Go.wp_at_zero Go.wp_at_succ

theorem szW : (Tryz.prog.info? 79).map (·.size) = some 2 := by kernel_rfl
theorem getL {L : List (Int × Bs)} {i : Nat} (h : i < L.length) : L[i]? = some L[i] := List.getElem?_eq_getElem h
/-- What the closure answers, wherever some blocks are as they were. -/
def Tells (kf : Nat) (cs : Array Value) (K : Nat → Bool) (T : List Nat) (n : Nat) (w : World) : Prop :=
  ∀ W i, i < n → (∀ k, k ∈ T → W.heap[k]? = w.heap[k]?) → Calls Tryz.prog kf (#[.int .i64 (i : Int)] ++ cs) W fun e W' => e = .returned (.bool (K i)) ∧ W' = W
/-- Behind i rounds. -/
structure SetI (q : Nat) (S : St) (K : Nat → Bool) (w wr : World) (i : Nat) : Prop where
  at_ : wr.heap[q]? = some (.cells ((setF K 0 (S.loose.take i) S.safe).map Bs.v).toArray 29 (0, 0))
  frm : Frm [q] w wr
theorem SetI.step {q : Nat} {S : St} {K : Nat → Bool} {w wr : World} {i : Nat} (h : SetI q S K w wr i) (hi : i < S.loose.length) (hK : K i = false) (o : Obj) : SetI q S K w (wr.alloc o) (i + 1) := by
  refine ⟨?_, h.frm.alloc o⟩
  rw [Below.heap_alloc _ _ _ (lt_of_block h.at_), h.at_, List.take_add_one, getL hi]
  simp only [Option.toList_some]
  rw [setF_snoc]
  have : K (0 + (S.loose.take i).length) = false := by simp [Nat.min_eq_left (Nat.le_of_lt hi), hK]
  rw [this]; rfl
theorem SetI.set {q : Nat} {S : St} {K : Nat → Bool} {w wr : World} {i : Nat} (h : SetI q S K w wr i) (hi : i < S.loose.length) (hK : K i = true) (o : Obj) (pg : Nat) (hp : S.loose[i].1 = (pg : Int)) : SetI q S K w ((wr.alloc o).setCell ⟨q, pg, none⟩ S.loose[i].2.v).drew (i + 1) := by
  have hlt := lt_of_block h.at_
  refine ⟨?_, ((h.frm.alloc o).setCell _ _ (by simp)).drew⟩
  have h0 : (wr.alloc o).heap[q]? = some (.cells ((setF K 0 (S.loose.take i) S.safe).map Bs.v).toArray 29 (0, 0)) := by
    rw [Below.heap_alloc _ _ _ hlt]; exact h.at_
  show ((wr.alloc o).setCell ⟨q, pg, none⟩ S.loose[i].2.v).heap[q]? = _
  rw [heap_setCell_same _ q pg _ _ _ h0, List.take_add_one, getL hi]
  simp only [Option.toList_some]
  rw [setF_snoc]
  have : K (0 + (S.loose.take i).length) = true := by simp [Nat.min_eq_left (Nat.le_of_lt hi), hK]
  rw [if_pos this, hp]
  congr 2
  apply Array.toList_inj.1
  simp [List.map_set]
set_option maxRecDepth 100000 in
set_option maxHeartbeats 1600000 in
theorem settle_any (p q : Nat) (lo : Value) (F : Nat → Prop) (S : St) (kf : Nat) (cs : Array Value) (K : Nat → Bool) (T : List Nat) (w : World) (h : St0 w p q lo F S) (eK : ∀ args w, (callFunc kf args).run Tryz.prog w = .ok (.enter kf args) w)
    (hK : Tells kf cs K T S.loose.length w) (hT : ∀ k, k ∈ T → k < w.heap.size ∧ k ≠ q) :
    Calls Tryz.prog 57 #[.pointer (some ⟨p, 0, none⟩), .func (.func kf) #[] cs] w (SetR p q lo F S K w) := by
  have h1 := h.c1
  obtain ⟨ad, cap, rfl⟩ := h.lform
  have H0 : Hid (St0 w p q (.slice ad S.loose.length cap) F S) := h
  have HI0 : SetI q S K w w 0 := ⟨by simpa [setF] using h.safe, Frm.refl _ _⟩
  have hfew := h.few
  have HT : Hid (∀ k, k ∈ T → k < w.heap.size ∧ k ≠ q) := hT
  have HK : Hid (Tells kf cs K T S.loose.length w) := hK
  clear h hK hT
  go_enter Tryz.func57, Tryz.ntmps57
  go_wp2
  go_loopw [4, 5, 11] (fun nv wv iv wr => ∃ i : Nat, i ≤ S.loose.length ∧ iv = .int .i64 i ∧ SetI q S K w wr i) (fun _ _ iv _ => S.loose.length + 1 - (intOf iv).toNat)
  case atStart => exact ⟨0, by omega, rfl, HI0⟩
  case round =>
    clear HI0
    obtain ⟨i, hi, rfl, hI⟩ := hrel
    by_cases hlt : i < S.loose.length
    · obtain ⟨g, rfl⟩ : ∃ g, ad = some ⟨g, 0, none⟩ := by
        rcases H0.out.loose.2 with ⟨_, e⟩ | ⟨g, c, cur, e, _⟩
        · omega
        · cases e; exact ⟨g, rfl⟩
      have hgq : g ≠ q ∧ g < w.heap.size ∧ g ≠ p := ⟨(H0.out.nlo g rfl).2.1, H0.out.ltlo rfl, (H0.out.nlo g rfl).1⟩
      have hlt' : (i : Int) < S.loose.length := by omega
      obtain ⟨x, hx⟩ : ∃ x, S.loose[i] = x := ⟨_, rfl⟩
      have hxm : x ∈ S.loose := hx ▸ List.getElem_mem hlt
      obtain ⟨pg, hpg⟩ : ∃ pg : Nat, x.1 = (pg : Int) := ⟨x.1.toNat, by have := (H0.out.ls x hxm).2.2; omega⟩
      have hpl : pg < S.safe.length := by have := (H0.out.ls x hxm).2.2; omega
      have hcell : ∀ j u, (flatW S.loose)[j]? = some u → wr.cell? ⟨g, j, none⟩ = some u := fun j u hu => by
        have h0 := H0.out.loose.cells (g := g) rfl j u hu
        rw [Addr.add_lit, Nat.zero_add] at h0
        rw [World.cell?_of_block (a := ⟨g, j, none⟩) (hI.frm.block g hgq.2.1 (by simpa using hgq.1))]; exact h0
      have d0 := hcell _ _ (flatW_at0 S.loose i x (by rw [getL hlt, hx]))
      have d1 := hcell _ _ (flatW_at1 S.loose i x (by rw [getL hlt, hx]))
      rw [hpg] at d0
      have hpq : wr.heap[p]? = w.heap[p]? := hI.frm.block p (H0.out.lt (.inl rfl)) (by simpa using H0.out.npq)
      have lp : p < wr.heap.size := Nat.lt_of_lt_of_le (H0.out.lt (.inl rfl)) hI.frm.size
      have e0 : (wr.alloc (.cells #[.int .i64 pg, x.2.v] 79)).cell? ⟨p, 0, none⟩ = some (.slice (some ⟨q, 0, none⟩) S.safe.length S.safe.length) := by
        rw [World.cell?_alloc_lt _ _ _ lp, World.cell?_of_block (a := ⟨p, 0, none⟩) hpq]; exact H0.out.c0
      have hcall := HK.out (wr.alloc (.cells #[.int .i64 pg, x.2.v] 79)) i hlt (fun k hk => by
        have := HT.out k hk
        rw [Below.heap_alloc _ _ _ (Nat.lt_of_lt_of_le this.1 hI.frm.size)]; exact hI.frm.block k this.1 (by simpa using this.2))
      have hq0 : (wr.alloc (.cells #[.int .i64 pg, x.2.v] 79)).heap[q]? = some (.cells ((setF K 0 (S.loose.take i) S.safe).map Bs.v).toArray 29 (0, 0)) := by rw [Below.heap_alloc _ _ _ (lt_of_block hI.at_)]; exact hI.at_
      have hbx := heap_alloc_new wr (.cells #[.int .i64 pg, x.2.v] 79)
      have b0 : (wr.alloc (.cells #[.int .i64 pg, x.2.v] 79)).cell? ⟨wr.heap.size, 0, none⟩ = some (.int .i64 pg) := by rw [cell_of_row _ _ 0 _ _ _ hbx]; rfl
      have b1 : (wr.alloc (.cells #[.int .i64 pg, x.2.v] 79)).cell? ⟨wr.heap.size, 1, none⟩ = some x.2.v := by rw [cell_of_row _ _ 1 _ _ _ hbx]; rfl
      have qc0 : ((wr.alloc (.cells #[.int .i64 pg, x.2.v] 79)).cell? ⟨q, pg, none⟩).isSome = true := by
        rw [cell_of_row _ _ pg _ _ _ hq0]; simp [setF_length, hpl]
      obtain ⟨qu, qc⟩ := Option.isSome_iff_exists.1 qc0
      have qf : (wr.alloc (.cells #[.int .i64 pg, x.2.v] 79)).frozen? ⟨q, pg, none⟩ = false := frozen_of_row _ _ pg _ _ hq0
      have hpl' : (pg : Int) < S.safe.length := by omega
      have hne : ¬ p = q ∧ ¬ wr.heap.size = q := ⟨H0.out.npq, by have := H0.out.lt (k := q) (.inr (.inl rfl)); have := hI.frm.size; omega⟩
      have hv : ∃ a n c, x.2.v = .slice a n c := ⟨_, _, _, rfl⟩
      have HS := fun hk => hI.set hlt hk (.cells #[.int .i64 pg, x.2.v] 79) pg (by rw [hx]; exact hpg)
      have HN := fun hk => hI.step hlt hk (.cells #[.int .i64 pg, x.2.v] 79)
      rw [hx] at HS
      clear hI hcell hpq hq0 hbx hgq hx hxm hpg qc0
      generalize x.2.v = xv at *
      obtain ⟨xa, xn, xc, rfl⟩ := hv
      cases hk : K i with
      | true =>
        rw [hk] at hcall
        have HS' : Hid (SetI q S K w ((wr.alloc (.cells #[.int .i64 pg, .slice xa xn xc] 79)).setCell ⟨q, pg, none⟩ (.slice xa xn xc)).drew (i + 1)) := HS hk
        clear HS HN
        go_wp2_with fail
        refine hcall.mono ?_
        rintro e w1 ⟨rfl, hw1⟩
        rw [hw1]
        clear hcall hw1 w1
        go_wp2_with fail
        refine wp_region_noPanic ?_
        refine wp_region_held_drew (S := fun w' => w'.cell? ⟨p, 0, none⟩ = some (.slice (some ⟨q, 0, none⟩) S.safe.length S.safe.length) ∧ w'.cell? ⟨wr.heap.size, 0, none⟩ = some (.int .i64 pg) ∧ w'.cell? ⟨wr.heap.size, 1, none⟩ = some (.slice xa xn xc)) (by kernel_rfl) ⟨e0, b0, b1⟩ (fun hHeld => ?_)
        refine wpAnyH_take (i := 0) (oi := { dst := some 19, op := Go.Op.move (Go.Operand.tmp 0), type := 24, pos := "pages.go:146", after := #[], guard := none }) (v := ?_) rfl (by kernel_rfl) (by kernel_rfl) (by kernel_rfl) (fun _ _ _ h => h) (Or.inl ⟨by rfl, ?_⟩) (by assumption) ?_
        rotate_left
        · intro wz hSw; (try dsimp only at hSw); go_simp; (try with_reducible rfl)
        try simp only [Act.put, List.setIfInBounds_toArray, List.set_cons_zero, List.set_cons_succ]
        refine wpAnyH_take (i := 1) (oi := { dst := some 20, op := Go.Op.nilCheck (Go.Operand.tmp 19), type := 0, pos := "pages.go:146", after := #[{ on := 0, ground := Go.Ground.data }], guard := none }) (v := ?_) rfl (by kernel_rfl) (by kernel_rfl) (by kernel_rfl) (fun _ _ _ h => h) (Or.inl ⟨by rfl, ?_⟩) (by assumption) ?_
        rotate_left
        · intro wz hSw; (try dsimp only at hSw); go_simp; (try with_reducible rfl)
        try simp only [Act.put, List.setIfInBounds_toArray, List.set_cons_zero, List.set_cons_succ]
        refine wpAnyH_take (i := 2) (oi := { dst := some 21, op := Go.Op.fieldAddr 75 (Go.Operand.tmp 20) 0, type := 0, pos := "pages.go:146", after := #[{ on := 1, ground := Go.Ground.data }], guard := none }) (v := ?_) rfl (by kernel_rfl) (by kernel_rfl) (by kernel_rfl) (fun _ _ _ h => h) (Or.inl ⟨by rfl, ?_⟩) (by assumption) ?_
        rotate_left
        · intro wz hSw; (try dsimp only at hSw); go_simp; (try with_reducible rfl)
        try simp only [Act.put, List.setIfInBounds_toArray, List.set_cons_zero, List.set_cons_succ]
        refine wpAnyH_take (i := 3) (oi := { dst := some 22, op := Go.Op.load 22 (Go.Operand.tmp 21), type := 22, pos := "pages.go:146", after := #[{ on := 2, ground := Go.Ground.data }], guard := none }) (v := ?_) rfl (by kernel_rfl) (by kernel_rfl) (by kernel_rfl) (fun _ _ _ h => h) (Or.inl ⟨by rfl, ?_⟩) (by assumption) ?_
        rotate_left
        · intro wz hSw; (try dsimp only at hSw); go_simp; (try with_reducible rfl)
        try simp only [Act.put, List.setIfInBounds_toArray, List.set_cons_zero, List.set_cons_succ]
        refine wpAnyH_take (i := 4) (oi := { dst := some 23, op := Go.Op.fieldAddr 79 (Go.Operand.tmp 5) 0, type := 0, pos := "pages.go:146", after := #[], guard := none }) (v := ?_) rfl (by kernel_rfl) (by kernel_rfl) (by kernel_rfl) (fun _ _ _ h => h) (Or.inl ⟨by rfl, ?_⟩) (by assumption) ?_
        rotate_left
        · intro wz hSw; (try dsimp only at hSw); go_simp; (try with_reducible rfl)
        try simp only [Act.put, List.setIfInBounds_toArray, List.set_cons_zero, List.set_cons_succ]
        refine wpAnyH_take (i := 5) (oi := { dst := some 24, op := Go.Op.load 3 (Go.Operand.tmp 23), type := 3, pos := "pages.go:146", after := #[{ on := 4, ground := Go.Ground.data }], guard := none }) (v := ?_) rfl (by kernel_rfl) (by kernel_rfl) (by kernel_rfl) (fun _ _ _ h => h) (Or.inl ⟨by rfl, ?_⟩) (by assumption) ?_
        rotate_left
        · intro wz hSw; (try dsimp only at hSw); go_simp; (try with_reducible rfl)
        try simp only [Act.put, List.setIfInBounds_toArray, List.set_cons_zero, List.set_cons_succ]
        refine wpAnyH_take (i := 6) (oi := { dst := some 25, op := Go.Op.fieldAddr 79 (Go.Operand.tmp 5) 1, type := 0, pos := "pages.go:146", after := #[], guard := none }) (v := ?_) rfl (by kernel_rfl) (by kernel_rfl) (by kernel_rfl) (fun _ _ _ h => h) (Or.inl ⟨by rfl, ?_⟩) (by assumption) ?_
        rotate_left
        · intro wz hSw; (try dsimp only at hSw); go_simp; (try with_reducible rfl)
        try simp only [Act.put, List.setIfInBounds_toArray, List.set_cons_zero, List.set_cons_succ]
        refine wpAnyH_take (i := 7) (oi := { dst := some 26, op := Go.Op.load 29 (Go.Operand.tmp 25), type := 29, pos := "pages.go:146", after := #[{ on := 6, ground := Go.Ground.data }], guard := none }) (v := ?_) rfl (by kernel_rfl) (by kernel_rfl) (by kernel_rfl) (fun _ _ _ h => h) (Or.inl ⟨by rfl, ?_⟩) (by assumption) ?_
        rotate_left
        · intro wz hSw; (try dsimp only at hSw); go_simp; (try with_reducible rfl)
        try simp only [Act.put, List.setIfInBounds_toArray, List.set_cons_zero, List.set_cons_succ]
        refine wpAnyH_take (i := 8) (oi := { dst := some 27, op := Go.Op.indexAddr 22 (Go.Operand.tmp 22) (Go.Operand.tmp 24), type := 0, pos := "pages.go:146", after := #[{ on := 3, ground := Go.Ground.data }, { on := 5, ground := Go.Ground.data }, { on := 0, ground := Go.Ground.phase }, { on := 1, ground := Go.Ground.phase }, { on := 2, ground := Go.Ground.phase }, { on := 3, ground := Go.Ground.phase }, { on := 4, ground := Go.Ground.phase }, { on := 5, ground := Go.Ground.phase }, { on := 6, ground := Go.Ground.phase }, { on := 7, ground := Go.Ground.phase }], guard := none }) (v := ?_) rfl (by kernel_rfl) (by kernel_rfl) (by kernel_rfl) (fun _ _ _ h => h) (Or.inl ⟨by rfl, ?_⟩) (by assumption) ?_
        rotate_left
        · intro wz hSw; (try dsimp only at hSw); go_simp; (try with_reducible rfl)
        try simp only [Act.put, List.setIfInBounds_toArray, List.set_cons_zero, List.set_cons_succ]
        refine wpAnyH_ready (rs := [9]) (by kernel_rfl) (by simp) ?_
        refine (AllReadyH.cons (o := { dst := none, op := Go.Op.store 29 (Go.Operand.tmp 27) (Go.Operand.tmp 26), type := 0, pos := "pages.go:146", after := #[{ on := 8, ground := Go.Ground.data }, { on := 7, ground := Go.Ground.data }, { on := 0, ground := Go.Ground.phase }, { on := 1, ground := Go.Ground.phase }, { on := 2, ground := Go.Ground.phase }, { on := 3, ground := Go.Ground.phase }, { on := 4, ground := Go.Ground.phase }, { on := 5, ground := Go.Ground.phase }, { on := 6, ground := Go.Ground.phase }, { on := 7, ground := Go.Ground.phase }], guard := none }) rfl (fun K hK => ?_) AllReadyH.nil)
        go_simp
        refine hK.out _ _ ?_ (fun _ => ?_)
        · exact ⟨(World.cell?_setCell_other _ _ _ _ (fun e => hne.1 (by cases e; rfl))).trans e0, (World.cell?_setCell_other _ _ _ _ (fun e => hne.2 (congrArg Addr.block e).symm)).trans b0, (World.cell?_setCell_other _ _ _ _ (fun e => hne.2 (congrArg Addr.block e).symm)).trans b1⟩
        clear hK K
        try simp only [Act.put, List.setIfInBounds_toArray, List.set_cons_zero, List.set_cons_succ]
        refine wpAnyH_done (by kernel_rfl) (NoPanic.normal ?_) _
        try simp only [Act.put, List.setIfInBounds_toArray, List.set_cons_zero, List.set_cons_succ]
        go_wp2_with fail
        go_roundw
        case rel => exact ⟨i + 1, by omega, by go_num, HS'.out⟩
        case measure => simp [intOf]; omega
      | false =>
        rw [hk] at hcall
        have HS' := HN hk
        clear HS HN
        go_wp2_with fail
        refine hcall.mono ?_
        rintro e w1 ⟨rfl, hw1⟩
        rw [hw1]
        clear hcall hw1 w1
        go_wp2_with fail
        go_roundw
        case rel => exact ⟨i + 1, by omega, by go_num, HS'⟩
        case measure => simp [intOf]; omega
    · obtain rfl : i = S.loose.length := by omega
      have hnn : ¬ ((S.loose.length : Int) < S.loose.length) := by omega
      have hfr := hI.frm
      have hat : wr.heap[q]? = some (.cells ((setF K 0 S.loose S.safe).map Bs.v).toArray 29 (0, 0)) := by have := hI.at_; rwa [List.take_length] at this
      have hloW : wr.ownsRow 0 79 2 (.slice ad S.loose.length cap) S.loose.length (flatW S.loose) := owns_row_keep H0.out.loose fun k e => hfr.block k (H0.out.ltlo e) (by simpa using (H0.out.nlo k e).2.1)
      obtain ⟨w2, hrun, hk2, ho1, ho2, ho3, ho4, hcl⟩ := run_clearW wr _ _ _ hloW 0
      have HE : Hid (SetR p q (.slice ad S.loose.length cap) F S K w (.returned (.tuple #[])) (w2.setCell ⟨p, 1, none⟩ (cut0 (.slice ad S.loose.length cap)))) := settle_end H0.out hat hfr hk2 ⟨ho1, ho2, ho3, ho4⟩ hcl
      have lp := H0.out.lt (k := p) (.inl rfl)
      have hpr : wr.heap[p]? = some (.cells (stC q (.slice ad S.loose.length cap) S) 75 (0, 0)) := by rw [hfr.block p lp (by simpa using H0.out.npq)]; exact H0.out.cells
      have hp2 : w2.heap[p]? = some (.cells (stC q (.slice ad S.loose.length cap) S) 75 (0, 0)) := by rw [hk2 p (fun e => (H0.out.nlo p e).1 rfl)]; exact hpr
      have r1 : wr.cell? ⟨p, 1, none⟩ = some (.slice ad S.loose.length cap) := by rw [cell_of_row _ p 1 _ _ _ hpr]; rfl
      have r2 : w2.cell? ⟨p, 1, none⟩ = some (.slice ad S.loose.length cap) := by rw [cell_of_row _ p 1 _ _ _ hp2]; rfl
      have f2 : w2.frozen? ⟨p, 1, none⟩ = false := frozen_of_row _ p 1 _ _ hp2
      clear hI hfr hat hloW hk2 ho1 ho2 ho3 ho4 hcl hpr hp2
      go_wp2_with fail
      go_end0
      exact HE.out
end Go.Proofs.YtmekplaonlpfkaaGreatDoor
