/- slices.Clone of bytes; a step; a new store. -/
import Derived.Test.YtidmpblaeohfaaaGreatDoorPStore
import Derived.Laws.OwnMore
namespace Go.Proofs.YtidmpblaeohfaaaGreatDoor
open Go.RowKit

attribute [local go_sem ↓] Go.wp_at_zero Go.wp_at_succ

theorem eqB_nil (w : World) : (binOp .eql 29 (.slice none 0 0) (.slice none 0 0)).run Tryz.prog w = .ok (.bool true) w := by kernel_rfl
theorem eqB_some (a : Addr) (n cap : Nat) (w : World) : (binOp .eql 29 (.slice (some a) n cap) (.slice none 0 0)).run Tryz.prog w = .ok (.bool false) w := by kernel_rfl
theorem sliceB_none (w : World) : (Instr.buildSlice 29 0 #[]).run Tryz.prog w = .ok (.slice (some ⟨w.heap.size, 0, none⟩) 0 0) (w.alloc (.cells #[] 5)) := by kernel_rfl
theorem wpList_append_run {ops : Array Oper} {rest : List Oper} {o : Oper} {a : Act} {w : World} {Q : Exit → Act → World → Prop} (hgd : o.guard = none) (s x : Operand) (t : TypeId) (ho : o.op = .call { callee := .builtin .append, args := #[s, x], argTypes := #[t, t] }) {v u v' : Value} {w' : World} (hs : a.eval s = v) (hx : a.eval x = u)
    (hr : (Builtin.append_ #[t, t] o.type #[v, u]).run Tryz.prog w = .ok v' w') (h : wpList Tryz.prog ops Q rest (a.put o.dst v') w') : wpList Tryz.prog ops Q (o :: rest) a w := by
  refine wpList_plain hgd fun K hK => ?_
  unfold Oper.wp execOp
  simp only [ho, resolve, invoke, builtin, Sem.run_bind, Sem.run_pure, Result.andThen_ok, List.map_toArray, List.map_cons, List.map_nil, hs, hx, hr]
  exact hK _ _ h
/-- What is made new: a slice of bytes of its own. -/
def ClR (w : World) (l : List Int) (e : Ending) (w' : World) : Prop := ∃ ad cap, e = .returned (.slice ad l.length cap) ∧ Ow w w' (.slice ad l.length cap) l
set_option maxRecDepth 100000 in
set_option maxHeartbeats 800000 in
theorem clone_nil (w : World) : Calls Tryz.prog 31 #[.slice none 0 0] w fun e w' => e = .returned (.slice none 0 0) ∧ w' = w := by
  have k0 := eqB_nil
  go_enter Tryz.func31, Tryz.ntmps31
  go_wp2
  go_ret
  exact ⟨rfl, rfl⟩
set_option maxRecDepth 100000 in
set_option maxHeartbeats 800000 in
theorem clone_any (ad : Option Addr) (cap : Nat) (l : List Int) (w : World) (h : SlAt w ad l.length (fn l)) (hn : ad = none → l.length = 0 ∧ cap = 0) (hb : ∀ y, y ∈ l → 0 ≤ y ∧ y ≤ 255) (hl : l.length ≤ 140737488355328) :
    Calls Tryz.prog 31 #[.slice ad l.length cap] w (ClR w l) := by
  have hs := h.src hn
  cases ad with
  | none =>
    obtain ⟨e1, rfl⟩ := hn rfl
    obtain rfl : l = [] := List.eq_nil_of_length_eq_zero e1
    refine (clone_nil w).mono ?_
    rintro e w' ⟨rfl, rfl⟩
    exact ⟨none, 0, rfl, Ow.nil _⟩
  | some a =>
    have how : Ow w (w.alloc (.cells #[] 5)) (.slice (some ⟨w.heap.size, 0, none⟩) 0 0) [] :=
      ⟨⟨rfl, .inr ⟨w.heap.size, 0, #[], rfl, Nat.le_refl _, heap_alloc_new w _, Nat.le_refl _, Nat.zero_le _, rfl, rfl⟩⟩, (Below.refl _ w).alloc (Nat.le_refl _) _, fun _ h => by cases h⟩
    have hs' : BSrc (w.alloc (.cells #[] 5)) (.slice (some a) l.length cap) l := by
      obtain ⟨ad', c', e, hd⟩ := hs
      cases e
      refine ⟨_, _, rfl, ?_⟩
      rcases hd with ⟨e, _⟩ | ⟨a', e, hc⟩
      · cases e
      · cases e
        refine .inr ⟨_, rfl, fun j v hv => ?_⟩
        have := hc j v hv
        rw [World.cell?_alloc_lt _ _ _ (World.block_lt_of_cell? w _ this)]
        exact this
    obtain ⟨v', w1, hrun, how'⟩ := run_append_B _ w 29 _ _ [] l how hs' hb (by simpa using hl)
    rw [List.nil_append] at how'
    obtain ⟨ad', cp', rfl⟩ := how'.form
    have HE : Hid (ClR w l (.returned (.slice ad' l.length cp')) w1) := ⟨ad', cp', rfl, how'⟩
    have k0 := eqB_some
    have k1 := sliceB_none w
    clear how how' hs hs' h hn
    go_enter Tryz.func31, Tryz.ntmps31
    go_wp2_with (first | (at_builtin; refine wpList_append_run rfl _ _ _ rfl rfl rfl hrun ?_) | fail)
    go_ret
    exact HE.out
theorem ow_bs {w w' : World} {ad : Option Addr} {cap : Nat} {l : List Int} (h : Ow w w' (.slice ad l.length cap) l) (hl : l.length ≤ 4096) : BsAt w' ⟨ad, cap, l⟩ ∧ (⟨ad, cap, l⟩ : Bs).In (fun k => w.heap.size ≤ k ∧ k < w'.heap.size) := by
  have hf := h.fresh
  refine ⟨⟨hf.2.1, hf.2.2.1, hl, h.bd⟩, fun a e => ?_⟩
  simp only at e
  subst e
  exact h.own.lt a.block rfl

/-- A step: what the store is, and which error it answers. -/
def stepS (S : St) : St := if S.armed = false then S else if 0 < S.steps then { S with steps := S.steps - 1 } else { S with down := true }
def stepE (S : St) : Int := if S.armed = false then 0 else if 0 < S.steps then 0 else 13
/-- The store's own cells turn. -/
theorem St0.turn {w : World} {p q : Nat} {lo : Value} {F : Nat → Prop} {S : St} (h : St0 w p q lo F S) (o : Nat) (u : Value) (S' : St) (lo' : Value) (hst : (stC q lo S).setIfInBounds o u = stC q lo' S') (hsa : S'.safe = S.safe) (hlo : S'.loose = S.loose) (hl : lo' = lo) : St0 (w.setCell ⟨p, o, none⟩ u) p q lo' F S' := by
  subst hl
  have hk : ∀ k, k ≠ p → (w.setCell ⟨p, o, none⟩ u).heap[k]? = w.heap[k]? := fun k hk => Below.heap_setCell _ _ _ _ hk
  have hF : ∀ k, F k → (w.setCell ⟨p, o, none⟩ u).heap[k]? = w.heap[k]? := fun k hf => hk k (fun e => h.nF.1 (e ▸ hf))
  refine ⟨?_, ?_, ?_, ?_, ?_, h.npq, h.nF, h.nlo, fun k hf => by simpa [World.setCell] using h.ltF k hf, by rw [hsa]; exact h.small, by rw [hlo]; exact h.few, by rw [hsa]; exact h.pos⟩
  · rw [heap_setCell_same w p o _ _ u h.cells, hst]
  · rw [hk q (Ne.symm h.npq), hsa]; exact h.safe
  · rw [hlo]; exact owns_row_keep h.loose fun k e => hk k (h.nlo k e).1
  · rw [hsa]; exact fun x hx => ⟨(h.ps x hx).1.keep (h.ps x hx).2 hF, (h.ps x hx).2⟩
  · rw [hlo, hsa]; exact fun x hx => ⟨(h.ls x hx).1.keep (h.ls x hx).2.1 hF, (h.ls x hx).2⟩
/-- What a step leaves. -/
def StepR (p q : Nat) (lo : Value) (F : Nat → Prop) (S : St) (w : World) (e : Ending) (w' : World) : Prop := e = .returned (errV (stepE S)) ∧ St0 w' p q lo F (stepS S) ∧ Frm [p] w w' ∧ w'.heap.size = w.heap.size
set_option maxHeartbeats 800000 in
theorem step_any (p q : Nat) (lo : Value) (F : Nat → Prop) (S : St) (w : World) (h : St0 w p q lo F S) (hs : 0 ≤ S.steps ∧ S.steps < 9223372036854775808) :
    Calls Tryz.prog 32 #[.pointer (some ⟨p, 0, none⟩)] w (StepR p q lo F S w) := by
  have h2 := h.c2
  have h3 := h.c3
  have h4 := h.c4
  have f3 := h.fz 3
  have f4 := h.fz 4
  by_cases h1 : S.armed = false
  · have HE : Hid (StepR p q lo F S w (.returned .nilIface) w) := ⟨by simp [stepE, h1, errV], by simp only [stepS, if_pos h1]; exact h, Frm.refl _ _, rfl⟩
    rw [h1] at h2
    clear h
    go_enter Tryz.func32, Tryz.ntmps32
    go_wp2
    go_ret
    exact HE.out
  · have h1' : S.armed = true := by simpa using h1
    by_cases hp : 0 < S.steps
    · have HE : Hid (StepR p q lo F S w (.returned .nilIface) (w.setCell ⟨p, 3, none⟩ (.int .i64 (S.steps - 1)))) :=
        ⟨by simp [stepE, h1, hp, errV], by simp only [stepS, if_neg h1, if_pos hp]; exact h.turn 3 _ _ _ rfl rfl rfl rfl, (Frm.refl _ _).setCell _ _ (by simp), by simp [World.setCell]⟩
      rw [h1'] at h2
      have hwr : IntKind.i64.wrap (S.steps - 1) = S.steps - 1 := by rw [IntKind.wrap_i64]; omega
      clear h
      generalize S.steps = n at *
      go_enter Tryz.func32, Tryz.ntmps32
      go_wp2
      go_ret
      exact HE.out
    · have HE : Hid (StepR p q lo F S w (.returned (.iface 72 (.int .i64 13))) (w.setCell ⟨p, 4, none⟩ (.bool true))) :=
        ⟨by simp [stepE, h1, hp, errV], by simp only [stepS, if_neg h1, if_neg hp]; exact h.turn 4 _ _ _ rfl rfl rfl rfl, (Frm.refl _ _).setCell _ _ (by simp), by simp [World.setCell]⟩
      rw [h1'] at h2
      obtain ⟨n, hn, e0⟩ : ∃ n, S.steps = n ∧ n = 0 := ⟨_, rfl, by omega⟩
      rw [hn, e0] at h3
      clear h hn hp hs
      go_enter Tryz.func32, Tryz.ntmps32
      go_wp2
      go_ret
      exact HE.out
end Go.Proofs.YtidmpblaeohfaaaGreatDoor
