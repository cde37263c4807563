/- ShelfSafe: for every input the law answers true and its arguments read as they did; the row, and the card that ties the library's variable to the program's text. -/
import Derived.Test.YtmekplaonlpfkaaGreatDoorOwnShelf48
import Derived.Test.YtmekplaonlpfkaaGreatDoorOwnShelf49
import Derived.Test.YtmekplaonlpfkaaGreatDoorCards
import Derived.Test.YtmekplaonlpfkaaGreatDoorTie
import Derived.SevenTiedAt
namespace Go.Proofs.YtmekplaonlpfkaaGreatDoor
open Go.ChangeShapes Go.WideShapes Go.RowKit Go.ChangeAt

set_option maxRecDepth 100000 in
theorem shelfSafe_lifted (os : Os) (started : os.Started) (H : Type) (enc : TypeId × Value → H) :
    ReturnsInHanded {} Tryz.checked os 5 .any (fun w args => (Rows.shelfSafeSpec.pre enc Tryz.prog Tryz.f5 [] false w args ∧ laidMetH Tryz.prog [("errors.errorType", Rows.laid_errors_errorType)] w) ∧ sizedMet enc Tryz.prog Tryz.f5 (OpenSpec.ofChange Rows.shelfSafeSpec) false w args)
      (Rows.shelfSafeSpec.post enc Tryz.prog Tryz.f5 false true false false) := by
  refine returnsInHanded_of_change_and (C := Tryz.checked) (X := fun w _ => laidMetH Tryz.prog [("errors.errorType", Rows.laid_errors_errorType)] w) (fun _ _ _ hh h => h.of_heap hh) own started (by kernel_rfl) Tryz.func5
    (ChangeSpec.witness_at (enc := enc) (C := Tryz.checked) (os := os) (X := fun w _ => laidMetH Tryz.prog [("errors.errorType", Rows.laid_errors_errorType)] w) false
      { World.holding Tryz.prog os ⟨#[], #[], []⟩ with heap := (World.holding Tryz.prog os ⟨#[], #[], []⟩).heap.modify 0 fun
          | .cells _ t frozen => .cells #[.iface 179 (.agg #[.pointer (some ⟨2, 26, none⟩)])] t frozen
          | o => o }
      #[.slice none 0 0, .slice none 0 0, .slice none 0 0] 8 rfl (by kernel_rfl) (by kernel_rfl) (by kernel_rfl) (by kernel_rfl) (by kernel_rfl) (laidMetH_of_parts (laidMet_nil _ _) (by kernel_rfl))) ?_
  intro W base args ds gs before hval0 hW _ hsz0 hL _
  have hval : ∀ (j : Nat) t v, Tryz.f5.params[j]? = some t → args[j]? = some v → Value.okWide Tryz.prog W .any base t v := hval0
  have hsz : (DataW.weightsEach Tryz.prog (Tryz.f5.params.toList ++ Rows.shelfSafeSpec.plain.varTypes Tryz.prog) (ds ++ gs)).all (· ≤ reachBytes) = true := hsz0
  have hW' := hW
  obtain ⟨p, q, hA0, hV0, rfl, hfz, hnd⟩ := hW
  have hA : DataW.TrodAll enc Tryz.prog W 0 (fun _ => true) true Tryz.f5.params.toList args.toList ds p := hA0
  have hV : DataW.TrodVars enc Tryz.prog W (fun _ => true) [] gs q := hV0
  rw [Tryz.params5] at hA hval hsz
  obtain ⟨v0, vs0, d0, ds0, p0, q0, hargs, rfl, rfl, h0, r0⟩ := trodAll_cons hA
  obtain ⟨v1, vs1, d1, ds1, p1, q1, rfl, rfl, rfl, h1, r1⟩ := trodAll_cons r0
  obtain ⟨v2, vs2, d2, ds2, p2, q2, rfl, rfl, rfl, h2, r2⟩ := trodAll_cons r1
  obtain ⟨rfl, rfl, rfl⟩ := trodAll_nil r2
  obtain rfl : args = #[v0, v1, v2] := by cases args; simp_all
  obtain ⟨rfl, rfl⟩ := trodVars_none hV
  have hg := glob_of_laid hL
  have k0 := h0
  have lt0 : ∀ x ∈ p0, x.block < W.heap.size := by obtain ⟨m, hm⟩ := k0; exact DataW.trod_lt m _ _ _ hm
  have wl0 : Light 42 d0 := fun q hq => by
    have h1 : q ≤ reachBytes := of_decide_eq_true (List.all_eq_true.1 hsz _ (DataW.weights_mem_each (j := 0) (t := 42) (d := d0) rfl rfl q hq))
    simp only [reachBytes] at h1
    omega
  obtain ⟨a0, len0, cap0, rfl⟩ := okWide_slice Tryz.underlying42 (hval 0 42 v0 rfl rfl)
  obtain ⟨X0, hl0, hx0⟩ : ∃ X : Nat → List Cg, len0 ≤ maxLen ∧ RwIn W a0 len0 X := by
    obtain ⟨fuel, hf⟩ := h0
    exact chrows_in (fun _ => rfl) hf wl0
  have k1 := h1
  have lt1 : ∀ x ∈ p1, x.block < W.heap.size := by obtain ⟨m, hm⟩ := k1; exact DataW.trod_lt m _ _ _ hm
  have wl1 : Light 63 d1 := fun q hq => by
    have h1 : q ≤ reachBytes := of_decide_eq_true (List.all_eq_true.1 hsz _ (DataW.weights_mem_each (j := 1) (t := 63) (d := d1) rfl rfl q hq))
    simp only [reachBytes] at h1
    omega
  obtain ⟨a1, cap1, ks1, hv1, hk1, hi1, hn1⟩ : ∃ (a : Option Addr) (cap : Nat) (ks : List Int), v1 = .slice a ks.length cap ∧ ks.length * 8 ≤ 140737488355328 ∧ IsL W a ks ∧ (a = none → ks.length = 0 ∧ cap = 0) := by
    obtain ⟨la1, ln1, lc1, rfl⟩ := okWide_slice Tryz.underlying63 (hval 1 63 v1 rfl rfl)
    obtain ⟨fuel, hf⟩ := h1
    obtain ⟨a, cap, ks, h1, h2⟩ := ints_in (fun _ => rfl) hf wl1
    exact ⟨a, cap, ks, by simpa [Value.cells] using h1, h2⟩
  subst hv1
  have k2 := h2
  have lt2 : ∀ x ∈ p2, x.block < W.heap.size := by obtain ⟨m, hm⟩ := k2; exact DataW.trod_lt m _ _ _ hm
  have wl2 : Light 63 d2 := fun q hq => by
    have h1 : q ≤ reachBytes := of_decide_eq_true (List.all_eq_true.1 hsz _ (DataW.weights_mem_each (j := 2) (t := 63) (d := d2) rfl rfl q hq))
    simp only [reachBytes] at h1
    omega
  obtain ⟨a2, cap2, ks2, hv2, hk2, hi2, hn2⟩ : ∃ (a : Option Addr) (cap : Nat) (ks : List Int), v2 = .slice a ks.length cap ∧ ks.length * 8 ≤ 140737488355328 ∧ IsL W a ks ∧ (a = none → ks.length = 0 ∧ cap = 0) := by
    obtain ⟨la2, ln2, lc2, rfl⟩ := okWide_slice Tryz.underlying63 (hval 2 63 v2 rfl rfl)
    obtain ⟨fuel, hf⟩ := h2
    obtain ⟨a, cap, ks, h1, h2⟩ := ints_in (fun _ => rfl) hf wl2
    exact ⟨a, cap, ks, by simpa [Value.cells] using h1, h2⟩
  subst hv2
  refine (shelfSafe_any a0 len0 cap0 X0 a1 cap1 ks1 a2 cap2 ks2 W hg hl0 hx0 hk1 hi1 hn1 hk2 hi2 hn2).mono fun e W' ⟨he, bel⟩ => ?_
  subst he
  exact ⟨_, rfl, _, _, _, [], _, [], hW', trodAll_mk1 (shut_bool Tryz.underlying4 _), (trodAll_cons_mk (Below.trod laidOut (by kernel_rfl) (of_decide_eq_true (by kernel_rfl)) k0 bel lt0) (trodAll_cons_mk (Below.trod laidOut (by kernel_rfl) (of_decide_eq_true (by kernel_rfl)) k1 bel lt1) (trodAll_cons_mk (Below.trod laidOut (by kernel_rfl) (of_decide_eq_true (by kernel_rfl)) k2 bel lt2) trodAll_mk0))), rfl, bel.frame _, fun h => by cases h⟩

theorem shelfSafe_over : Rows.shelfSafeRow.holds Tryz.pinned (OpenSpec.ofChange Rows.shelfSafeSpec) :=
  OpenClaim.holds_of_wide 5 Tryz.f5 rfl rfl rfl rfl rfl rfl rfl ⟨rfl, rfl, rfl, rfl, rfl⟩ rfl rfl rfl rfl rfl (by kernel_rfl) Tryz.func5 (by kernel_rfl)
    (of_decide_eq_true (by kernel_rfl)) (by unfold Func.isWrapper; rw [if_neg (of_decide_eq_false (by kernel_rfl))]; exact ⟨rfl, rfl⟩)
    (fun os started H enc _ => shelfSafe_lifted os started H enc)

/-- The statement. -/
theorem shelfSafe_card : Rows.ShelfSafeCardSaid :=
  Claim7.holds_tied_plain_at .later [] [.handle] true Rows.shelfSafeCard.stood.harness true
    shelfSafe_over (fun _ h => by cases h) (by kernel_rfl) (fun _ h => by cases h) shelfSafe_row_tie rfl ⟨rfl, rfl⟩ (by kernel_rfl) rfl
    (fun f fn hf hfn => by
      obtain rfl : f = 5 := Option.some.inj ((show Tryz.prog.funcNamed Rows.shelfSafeRow.func = some 5 by kernel_rfl).symm.trans hf) |>.symm
      obtain rfl : fn = Tryz.f5 := (Option.some.inj (Tryz.func5.symm.trans hfn)).symm
      exact ⟨by kernel_rfl, fun j t ht => by
        rw [Tryz.params5] at ht
        have ht' : t = 42 ∨ t = 63 ∨ t = 63 := by
          rcases j with _ | _ | _ | j
          · exact .inl (by simpa using ht.symm)
          · exact .inr (.inl (by simpa using ht.symm))
          · exact .inr (.inr ((by simpa using ht.symm)))
          · simp at ht
        rcases ht' with rfl | rfl | rfl
        · exact (show Tryz.prog.wantsStandIn 42 = false by kernel_rfl)
        · exact (show Tryz.prog.wantsStandIn 63 = false by kernel_rfl)
        · exact (show Tryz.prog.wantsStandIn 63 = false by kernel_rfl)⟩)
    (by kernel_rfl)
#print axioms shelfSafe_card
end Go.Proofs.YtmekplaonlpfkaaGreatDoor
