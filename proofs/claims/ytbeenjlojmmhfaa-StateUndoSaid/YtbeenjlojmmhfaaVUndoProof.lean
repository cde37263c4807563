/- StateUndo: for every input the law answers true and its arguments read as they did. -/
import Derived.Test.YtbeenjlojmmhfaaVGivU
namespace Go.Proofs.Ytbeenjlojmmhfaa
open Go.ChangeShapes Go.WideShapes Go.RowKit Go.ChangeAt

set_option maxRecDepth 100000 in
theorem stateUndo_lifted (os : Os) (started : os.Started) (H : Type) (enc : TypeId × Value → H) :
    ReturnsInHanded {} Try.checked os 3 .any (Rows.stateUndoSpec.pre6 enc Try.prog Try.f3 Rows.stateUndoRow.domain false) (Rows.stateUndoSpec.post enc Try.prog Try.f3 false true false false) := by
  refine returnsInHanded_of_change_sized (C := Try.checked) own started (by kernel_rfl) Try.func3
    (ChangeSpec.witness6 (enc := enc) (C := Try.checked) false ⟨#[], #[.agg #[.int .i64 0, .int .i64 0, .int .i64 0, .slice none 0 0, .slice none 0 0], .agg (pyv Go.Proofs.Ytbeenjlojmmhfaa.p0), .agg #[.int .i64 0, .int .i64 0]], []⟩ 8 (by kernel_rfl) (by kernel_rfl) (by kernel_rfl) (by kernel_rfl)) ?_
  intro W base args ds gs before hval0 hW _ hsz0 _
  have hval : ∀ (j : Nat) t v, Try.f3.params[j]? = some t → args[j]? = some v → Value.okWide Try.prog W .any base t v := hval0
  have hsz : (DataW.weightsEach Try.prog (Try.f3.params.toList ++ Rows.stateUndoSpec.plain.varTypes Try.prog) (ds ++ gs)).all (· ≤ reachBytes) = true := hsz0
  have hW' := hW
  obtain ⟨p, q, hA0, hV0, rfl, hfz, hnd⟩ := hW
  have hA : DataW.TrodAll enc Try.prog W 0 (fun _ => true) true Try.f3.params.toList args.toList ds p := hA0
  have hV : DataW.TrodVars enc Try.prog W (fun _ => true) [] gs q := hV0
  rw [Try.params3] at hA hval hsz
  obtain ⟨v0, vs0, d0, ds0, m0, q0, hargs, rfl, rfl, h0, r0⟩ := trodAll_cons hA
  obtain ⟨v1, vs1, d1, ds1, m1, q1, rfl, rfl, rfl, h1, r1⟩ := trodAll_cons r0
  obtain ⟨v2, vs2, d2, ds2, m2, q2, rfl, rfl, rfl, h2, r2⟩ := trodAll_cons r1
  obtain ⟨rfl, rfl, rfl⟩ := trodAll_nil r2
  obtain rfl : args = #[v0, v1, v2] := by cases args; simp_all
  obtain ⟨rfl, rfl⟩ := trodVars_none hV
  have k0 := h0
  have lt0 : ∀ x ∈ m0, x.block < W.heap.size := by obtain ⟨m, hm⟩ := k0; exact DataW.trod_lt m _ _ _ hm
  obtain ⟨cs0, rfl⟩ : ∃ cs, v0 = .agg cs := by
    have := hval 0 26 v0 rfl rfl
    simp only [Value.okWide, Try.underlying26] at this
    obtain ⟨cs, h1, _⟩ := this
    exact ⟨cs, h1⟩
  have k1 := h1
  have lt1 : ∀ x ∈ m1, x.block < W.heap.size := by obtain ⟨m, hm⟩ := k1; exact DataW.trod_lt m _ _ _ hm
  obtain ⟨cs1, rfl⟩ : ∃ cs, v1 = .agg cs := by
    have := hval 1 30 v1 rfl rfl
    simp only [Value.okWide, Try.underlying30] at this
    obtain ⟨cs, h1, _⟩ := this
    exact ⟨cs, h1⟩
  have k2 := h2
  have lt2 : ∀ x ∈ m2, x.block < W.heap.size := by obtain ⟨m, hm⟩ := k2; exact DataW.trod_lt m _ _ _ hm
  obtain ⟨cs2, rfl⟩ : ∃ cs, v2 = .agg cs := by
    have := hval 2 22 v2 rfl rfl
    simp only [Value.okWide, Try.underlying22] at this
    obtain ⟨cs, h1, _⟩ := this
    exact ⟨cs, h1⟩
  have wl0 : Light 26 d0 := fun q hq => by
    have h1 : q ≤ reachBytes := of_decide_eq_true (List.all_eq_true.1 hsz _ (DataW.weights_mem_each (j := 0) (t := 26) (d := d0) rfl rfl q hq))
    simp only [reachBytes] at h1
    omega
  obtain ⟨s0, lc0, he0, hS0, _⟩ : ∃ (s : Sv) (p : Pl), cs0.toList = (svv s p).toList ∧ StIn W s p ∧ s.Ib := by
    obtain ⟨fuel, hf⟩ := h0
    exact state_in (fun _ => rfl) hf wl0
  obtain rfl : cs0 = svv s0 lc0 := by rw [← Array.toList_inj, he0]
  obtain ⟨y1, he1, hz1, _⟩ : ∃ b : Py, cs1.toList = pyl b ∧ Zb b.lk ∧ (Ib b.id ∧ Ib b.fr ∧ Ib b.am ∧ Ib b.af) := by
    obtain ⟨fuel, hf⟩ := h1
    exact pay_in hf
  obtain rfl : cs1 = pyv y1 := by rw [← Array.toList_inj, he1]; rfl
  obtain ⟨a2, b2, he2, _, _⟩ : ∃ a b : Int, cs2.toList = [.int .i64 a, .int .i64 b] ∧ Ib a ∧ Ib b := by
    obtain ⟨fuel, hf⟩ := h2
    exact two_in hf
  obtain rfl : cs2 = #[.int .i64 a2, .int .i64 b2] := by rw [← Array.toList_inj, he2]
  refine (undo_any s0 lc0 y1 a2 b2 W hS0 hz1).mono fun e W' ⟨he, bel⟩ => ?_
  subst he
  exact ⟨_, rfl, _, _, _, [], _, [], hW', trodAll_mk1 (shut_bool Try.underlying4 _), (trodAll_cons_mk (Below.trod laidOut (by kernel_rfl) (of_decide_eq_true (by kernel_rfl)) k0 bel lt0) (trodAll_cons_mk (Below.trod laidOut (by kernel_rfl) (of_decide_eq_true (by kernel_rfl)) k1 bel lt1) (trodAll_cons_mk (Below.trod laidOut (by kernel_rfl) (of_decide_eq_true (by kernel_rfl)) k2 bel lt2) trodAll_mk0))), rfl, bel.frame _, fun h => by cases h⟩

/-- The statement. -/
theorem stateUndo_said : Rows.StateUndoSaid :=
  OpenClaim.holds_of_wide 3 Try.f3 rfl rfl rfl rfl rfl rfl rfl ⟨rfl, rfl, rfl, rfl, rfl⟩ rfl rfl rfl rfl rfl (by kernel_rfl) Try.func3 (by kernel_rfl)
    (of_decide_eq_true (by kernel_rfl)) (by unfold Func.isWrapper; rw [if_neg (of_decide_eq_false (by kernel_rfl))]; exact ⟨rfl, rfl⟩)
    (fun os started H enc _ => stateUndo_lifted os started H enc)
#print axioms stateUndo_said
end Go.Proofs.Ytbeenjlojmmhfaa
