/- slices.Clone of a list of sums; the book's Clone. -/
import Derived.Test.YtlddjniofijnnaaDoorOLaid
import Derived.Maps.RangeWalk
import Derived.Maps.Ext
namespace Go.Proofs.YtlddjniofijnnaaDoor
open Go.RowKit

attribute [local go_sem ↓] Go.wp_at_zero Go.wp_at_succ

theorem RowAt.base {w : World} {B C : Nat} {v : Value} {q : Nat} (h : RowAt w B v q) (hc : C ≤ B) : RowAt w C v q := by
  obtain ⟨n, xs, hn, ho, h1⟩ := h
  refine ⟨n, xs, hn, ⟨ho.1, ?_⟩, h1⟩
  rcases ho.2 with hnil | ⟨k, cap, cur, e, hb, rest⟩
  · exact .inl hnil
  · exact .inr ⟨k, cap, cur, e, by omega, rest⟩
theorem eq_nil (w : World) : (binOp .eql 47 (.slice none 0 0) (.slice none 0 0)).run Tryd.prog w = .ok (.bool true) w := by kernel_rfl
theorem eq_some (b n cap : Nat) (w : World) : (binOp .eql 47 (.slice (some ⟨b, 0, none⟩) n cap) (.slice none 0 0)).run Tryd.prog w = .ok (.bool false) w := by kernel_rfl
theorem slice_none (w : World) : (Instr.buildSlice 47 0 #[]).run Tryd.prog w = .ok (.slice (some ⟨w.heap.size, 0, none⟩) 0 0) (w.alloc (.cells #[] 32)) := by kernel_rfl

theorem wpList_append_run {ops : Array Oper} {rest : List Oper} {o : Oper} {a : Act} {w : World} {Q : Exit → Act → World → Prop} (hgd : o.guard = none) (s x : Operand) (t : TypeId) (ho : o.op = .call { callee := .builtin .append, args := #[s, x], argTypes := #[t, t] }) {v u v' : Value} {w' : World} (hs : a.eval s = v) (hx : a.eval x = u)
    (hr : (Builtin.append_ #[t, t] o.type #[v, u]).run Tryd.prog w = .ok v' w') (h : wpList Tryd.prog ops Q rest (a.put o.dst v') w') : wpList Tryd.prog ops Q (o :: rest) a w := by
  refine wpList_plain hgd fun K hK => ?_
  unfold Oper.wp execOp
  simp only [ho, resolve, invoke, builtin, Sem.run_bind, Sem.run_pure, Result.andThen_ok, List.map_toArray, List.map_cons, List.map_nil, hs, hx, hr]
  exact hK _ _ h
set_option maxRecDepth 100000 in
set_option maxHeartbeats 800000 in
theorem hclone_nil (w : World) : Calls Tryd.prog 19 #[.slice none 0 0] w fun e w' => e = .returned (.slice none 0 0) ∧ w' = w := by
  have k0 := eq_nil
  go_enter Tryd.func19, Tryd.ntmps19
  go_wp2
  go_ret
  exact ⟨rfl, rfl⟩
set_option maxRecDepth 100000 in
set_option maxHeartbeats 1600000 in
theorem hclone_any (v : Value) (B q : Nat) (w : World) (h : RowAt w B v q) (hq : q ≤ 100000) :
    Calls Tryd.prog 19 #[v] w fun e w' => ∃ v', e = .returned v' ∧ RowAt w' w.heap.size v' q ∧ Below w.heap.size w w' ∧ ∃ a n c, v' = .slice a n c := by
  obtain ⟨n, xs, hn, ho, hone⟩ := h
  rcases ho.2 with ⟨rfl, rfl⟩ | ⟨g, cap, cur, rfl, hb, hg, hnc, hcm, hcs, htk⟩
  · refine (hclone_nil w).mono ?_
    rintro e w' ⟨rfl, rfl⟩
    exact ⟨_, rfl, ⟨0, [], by omega, World.ownsRow_nil _ _ _ _, fun _ h => by cases h⟩, Below.refl _ _, _, _, _, rfl⟩
  · obtain ⟨i0, hi0, hz0, hz1, hz2⟩ := info_parts infoH
    have hown : (w.alloc (.cells #[] 32)).ownsRow w.heap.size 32 32 (.slice (some ⟨w.heap.size, 0, none⟩) 0 0) 0 [] :=
      ⟨rfl, .inr ⟨w.heap.size, 0, #[], rfl, Nat.le_refl _, heap_alloc_new w _, Nat.le_refl _, Nat.zero_le _, rfl, rfl⟩⟩
    have hcells : ∀ j u, xs[j]? = some u → (w.alloc (.cells #[] 32)).cell? ((⟨g, 0, none⟩ : Addr).add j) = some u := by
      intro j u hj
      have h1 := ho.cells (g := g) rfl j u hj
      rw [Addr.add_lit] at h1 ⊢
      rw [World.cell?_alloc_lt _ _ ⟨g, 0 + j, none⟩ (lt_of_block hg)]
      exact h1
    obtain ⟨v', w4, hrunA, hown', hgrow, -, -⟩ := run_append_own_at (P := Tryd.prog) (w.alloc (.cells #[] 32)) w.heap.size 47 47 32 i0 (.agg (hv nz)) 32 32 Tryd.underlying47 hi0 hz0 hz1 hz2 (hv_size nz) (by omega) _ 0 [] hown ⟨g, 0, none⟩ n cap xs ho.1 hcells hone (by simp [maxLen]; omega) (by omega) (by simp)
    rw [Nat.zero_add, List.nil_append] at hown'
    have hbE : Below w.heap.size w w4 := ((Below.refl _ w).alloc (Nat.le_refl _) _).trans ⟨hgrow.os, hgrow.tape, hgrow.output, hgrow.size, fun k hk => hgrow.block k (by simp; omega) (by simp [Value.ownBlock]; omega)⟩
    have hsv : ∃ a n c, v' = .slice a n c := by
      rcases hown'.2 with ⟨e, -⟩ | ⟨q, cap, cur, e, -⟩
      · exact ⟨_, _, _, e⟩
      · exact ⟨_, _, _, e⟩
    have HE : Hid (RowAt w4 w.heap.size v' q ∧ Below w.heap.size w w4 ∧ ∃ a n c, v' = .slice a n c) := ⟨⟨n, xs, hn, hown', hone⟩, hbE, hsv⟩
    have k1 := slice_none w
    have k0 := eq_some
    clear hown' hgrow hown hcells ho hb hg hnc hcm hcs htk hbE hsv hi0 hz0 hz1 hz2 hone
    go_enter Tryd.func19, Tryd.ntmps19
    go_wp2_with (first | (at_builtin; refine wpList_append_run rfl _ _ _ rfl rfl rfl hrunA ?_) | fail)
    go_ret
    exact ⟨_, rfl, HE.out⟩
end Go.Proofs.YtlddjniofijnnaaDoor
