/- EncTakes: for every input the law answers true and its arguments read as they did; the row, and the card that ties the library's variable to the program's text. -/
import Derived.Test.YtelpkbdobeofgaaDoorTkGiven
import Derived.Test.YtelpkbdobeofgaaDoorTkWalk
import Derived.Test.YtelpkbdobeofgaaDoorCards
import Derived.Test.YtelpkbdobeofgaaDoorTie
import Derived.SevenTiedAt
namespace Go.Proofs.YtelpkbdobeofgaaDoor
open Go.ChangeShapes Go.WideShapes Go.RowKit Go.ChangeAt

set_option maxRecDepth 100000 in
theorem encTakes_lifted (os : Os) (started : os.Started) (H : Type) (enc : TypeId × Value → H) :
    ReturnsInHanded {} Tryd.checked os 3 .any (fun w args => (Rows.encTakesSpec.pre enc Tryd.prog Tryd.f3 [] false w args ∧ laidMetH Tryd.prog [("errors.errorType", Rows.laid_errors_errorType)] w) ∧ sizedMet enc Tryd.prog Tryd.f3 (OpenSpec.ofChange Rows.encTakesSpec) false w args)
      (Rows.encTakesSpec.post enc Tryd.prog Tryd.f3 false true false false) := by
  refine returnsInHanded_of_change_and (C := Tryd.checked) (X := fun w _ => laidMetH Tryd.prog [("errors.errorType", Rows.laid_errors_errorType)] w) (fun _ _ _ hh h => h.of_heap hh) own started (by kernel_rfl) Tryd.func3
    (ChangeSpec.witness_at (enc := enc) (C := Tryd.checked) (os := os) (X := fun w _ => laidMetH Tryd.prog [("errors.errorType", Rows.laid_errors_errorType)] w) false
      { World.holding Tryd.prog os ⟨#[], #[], []⟩ with heap := (World.holding Tryd.prog os ⟨#[], #[], []⟩).heap.modify 0 fun
          | .cells _ t frozen => .cells #[.iface 106 (.agg #[.pointer (some ⟨1, 50, none⟩)])] t frozen
          | o => o }
      #[.slice none 0 0, .slice none 0 0] 8 rfl (by kernel_rfl) (by kernel_rfl) (by kernel_rfl) (by kernel_rfl) (by kernel_rfl) (laidMetH_of_parts (laidMet_nil _ _) (by kernel_rfl))) ?_
  intro W base args ds gs before hval0 hW _ hsz0 hL _
  have hval : ∀ (j : Nat) t v, Tryd.f3.params[j]? = some t → args[j]? = some v → Value.okWide Tryd.prog W .any base t v := hval0
  have hsz : (DataW.weightsEach Tryd.prog (Tryd.f3.params.toList ++ Rows.encTakesSpec.plain.varTypes Tryd.prog) (ds ++ gs)).all (· ≤ reachBytes) = true := hsz0
  have hW' := hW
  obtain ⟨p, q, hA0, hV0, rfl, hfz, hnd⟩ := hW
  have hA : DataW.TrodAll enc Tryd.prog W 0 (fun _ => true) true Tryd.f3.params.toList args.toList ds p := hA0
  have hV : DataW.TrodVars enc Tryd.prog W (fun _ => true) [] gs q := hV0
  rw [Tryd.params3] at hA hval hsz
  obtain ⟨v0, vs0, d0, ds0, p0, q0, hargs, rfl, rfl, h0, r0⟩ := trodAll_cons hA
  obtain ⟨v1, vs1, d1, ds1, p1, q1, rfl, rfl, rfl, h1, r1⟩ := trodAll_cons r0
  obtain ⟨rfl, rfl, rfl⟩ := trodAll_nil r1
  obtain rfl : args = #[v0, v1] := by cases args; simp_all
  obtain ⟨rfl, rfl⟩ := trodVars_none hV
  have hg := glob_of_laid hL
  obtain ⟨a0, len0, cap0, rfl⟩ := okWide_slice Tryd.underlying22 (hval 0 22 v0 rfl rfl)
  have k0 := h0
  have lt0 : ∀ x ∈ p0, x.block < W.heap.size := by obtain ⟨m, hm⟩ := k0; exact DataW.trod_lt m _ _ _ hm
  obtain ⟨z0, hl0, hs0, hn0, hc0⟩ : ∃ z : Nat → Int, len0 ≤ cap0 ∧ SlAt W a0 len0 z ∧ (a0 = none → len0 = 0 ∧ cap0 = 0) ∧ ((d0 = .nil ∧ cap0 = 0) ∨ ∃ el sp, d0 = .slice el sp ∧ el.length + sp.length = cap0) := by
    obtain ⟨fuel, hf⟩ := h0
    exact bytes_in (fun _ => rfl) hf
  have hm0 : len0 ≤ 140737488351232 := by
    rcases hc0 with ⟨_, h⟩ | ⟨el, sp, h, e⟩
    · omega
    · have := sized_slice hsz (j := 0) (t := 22) (e := 5) rfl (by rw [h]; rfl) Tryd.underlying22
      rw [bytesB] at this
      simp only [reachBytes] at this
      omega
  obtain ⟨a1, len1, cap1, rfl⟩ := okWide_slice Tryd.underlying23 (hval 1 23 v1 rfl rfl)
  have k1 := h1
  have lt1 : ∀ x ∈ p1, x.block < W.heap.size := by obtain ⟨m, hm⟩ := k1; exact DataW.trod_lt m _ _ _ hm
  obtain ⟨kd1, mo1, hl1, hs1, hc1⟩ : ∃ kd mo : Nat → Int, len1 ≤ cap1 ∧ AskAt W a1 len1 kd mo ∧ ((d1 = .nil ∧ cap1 = 0) ∨ ∃ el sp, d1 = .slice el sp ∧ el.length + sp.length = cap1) := by
    obtain ⟨fuel, hf⟩ := h1
    exact asks_in (fun _ => rfl) hf
  have hm1 : len1 ≤ 140737488351232 := by
    rcases hc1 with ⟨_, h⟩ | ⟨el, sp, h, e⟩
    · omega
    · have := sized_slice hsz (j := 1) (t := 23) (e := 30) rfl (by rw [h]; rfl) Tryd.underlying23
      rw [bytesA] at this
      simp only [reachBytes] at this
      omega
  refine (takes_any a0 a1 len0 cap0 len1 cap1 z0 kd1 mo1 W hl0 hm0 hs0 hn0 hg hm1 hs1).mono fun e W' ⟨he, bel⟩ => ?_
  subst he
  exact ⟨_, rfl, _, _, _, [], _, [], hW', trodAll_mk1 (shut_bool Tryd.underlying4 _), (trodAll_cons_mk (Below.trod laidOut (by kernel_rfl) (of_decide_eq_true (by kernel_rfl)) k0 bel lt0) (trodAll_cons_mk (Below.trod laidOut (by kernel_rfl) (of_decide_eq_true (by kernel_rfl)) k1 bel lt1) trodAll_mk0)), rfl, bel.frame _, fun h => by cases h⟩

theorem encTakes_over : Rows.encTakesRow.holds Tryd.pinned (OpenSpec.ofChange Rows.encTakesSpec) :=
  OpenClaim.holds_of_wide 3 Tryd.f3 rfl rfl rfl rfl rfl rfl rfl ⟨rfl, rfl, rfl, rfl, rfl⟩ rfl rfl rfl rfl rfl (by kernel_rfl) Tryd.func3 (by kernel_rfl)
    (of_decide_eq_true (by kernel_rfl)) (by unfold Func.isWrapper; rw [if_neg (of_decide_eq_false (by kernel_rfl))]; exact ⟨rfl, rfl⟩)
    (fun os started H enc _ => encTakes_lifted os started H enc)

/-- The statement. -/
theorem encTakes_card : Rows.EncTakesCardSaid :=
  Claim7.holds_tied_plain_at .later [] [.handle] true Rows.encTakesCard.stood.harness true
    encTakes_over (fun _ h => by cases h) (by kernel_rfl) (fun _ h => by cases h) encTakes_row_tie rfl ⟨rfl, rfl⟩ (by kernel_rfl) rfl
    (fun f fn hf hfn => by
      obtain rfl : f = 3 := Option.some.inj ((show Tryd.prog.funcNamed Rows.encTakesRow.func = some 3 by kernel_rfl).symm.trans hf) |>.symm
      obtain rfl : fn = Tryd.f3 := (Option.some.inj (Tryd.func3.symm.trans hfn)).symm
      exact ⟨by kernel_rfl, fun j t ht => by
        rw [Tryd.params3] at ht
        have ht' : t = 22 ∨ t = 23 := by
          rcases j with _ | _ | j
          · exact .inl (by simpa using ht.symm)
          · exact .inr ((by simpa using ht.symm))
          · simp at ht
        rcases ht' with rfl | rfl
        · exact (show Tryd.prog.wantsStandIn 22 = false by kernel_rfl)
        · exact (show Tryd.prog.wantsStandIn 23 = false by kernel_rfl)⟩)
    (by kernel_rfl)
#print axioms encTakes_card
end Go.Proofs.YtelpkbdobeofgaaDoor
