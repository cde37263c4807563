/- BuildFunds: for every input the law answers true and its arguments read as they did; the row, and the card that ties the library's variable to the program's text. -/
import Derived.Test.YtjnepkggdkccaaaGreatDoorOwnShelf35
import Derived.Test.YtjnepkggdkccaaaGreatDoorOwnShelf43
import Derived.Test.YtjnepkggdkccaaaGreatDoorCards
import Derived.Test.YtjnepkggdkccaaaGreatDoorTie
import Derived.SevenTiedAt
namespace Go.Proofs.YtjnepkggdkccaaaGreatDoor
open Go.ChangeShapes Go.WideShapes Go.RowKit Go.ChangeAt

set_option maxRecDepth 100000 in
theorem buildFunds_lifted (os : Os) (started : os.Started) (H : Type) (enc : TypeId × Value → H) :
  ReturnsInHanded {} Tryz.checked os 4 .any (fun w args => (Rows.buildFundsSpec.pre enc Tryz.prog Tryz.f4 [] false w args ∧ laidMetH Tryz.prog [("errors.errorType", Rows.laid_errors_errorType)] w) ∧ sizedMet enc Tryz.prog Tryz.f4 (OpenSpec.ofChange Rows.buildFundsSpec) false w args)
   (Rows.buildFundsSpec.post enc Tryz.prog Tryz.f4 false true false false) := by
 refine returnsInHanded_of_change_and (C := Tryz.checked) (X := fun w _ => laidMetH Tryz.prog [("errors.errorType", Rows.laid_errors_errorType)] w) (fun _ _ _ hh h => h.of_heap hh) own started (by kernel_rfl) Tryz.func4
  (ChangeSpec.witness_at (enc := enc) (C := Tryz.checked) (os := os) (X := fun w _ => laidMetH Tryz.prog [("errors.errorType", Rows.laid_errors_errorType)] w) false
   { World.holding Tryz.prog os ⟨#[], #[], []⟩ with heap := (World.holding Tryz.prog os ⟨#[], #[], []⟩).heap.modify 0 fun
     | .cells _ t frozen => .cells #[.iface 182 (.agg #[.pointer (some ⟨1, 52, none⟩)])] t frozen
     | o => o }
   #[.agg (pmv ⟨nz, 0, 0, 0, 0, 0, 0⟩), .agg #[.int .i64 0, .int .i64 0, .int .i64 0, .slice none 0 0, .slice none 0 0], .agg (txv 0 none 0 0 none 0 0)] 8 rfl (by kernel_rfl) (by kernel_rfl) (by kernel_rfl) (by kernel_rfl) (by kernel_rfl) (laidMetH_of_parts (laidMet_nil _ _) (by kernel_rfl))) ?_
 intro W base args ds gs before hval0 hW _ hsz0 hL _
 have hval : ∀ (j : Nat) t v, Tryz.f4.params[j]? = some t → args[j]? = some v → Value.okWide Tryz.prog W .any base t v := hval0
 have hsz : (DataW.weightsEach Tryz.prog (Tryz.f4.params.toList ++ Rows.buildFundsSpec.plain.varTypes Tryz.prog) (ds ++ gs)).all (· ≤ reachBytes) = true := hsz0
 have hW' := hW
 obtain ⟨p, q, hA0, hV0, rfl, hfz, hnd⟩ := hW
 have hA : DataW.TrodAll enc Tryz.prog W 0 (fun _ => true) true Tryz.f4.params.toList args.toList ds p := hA0
 have hV : DataW.TrodVars enc Tryz.prog W (fun _ => true) [] gs q := hV0
 rw [Tryz.params4] at hA hval hsz
 obtain ⟨v0, vs0, d0, ds0, p0, q0, hargs, rfl, rfl, h0, r0⟩ := trodAll_cons hA
 obtain ⟨v1, vs1, d1, ds1, p1, q1, rfl, rfl, rfl, h1, r1⟩ := trodAll_cons r0
 obtain ⟨v2, vs2, d2, ds2, p2, q2, rfl, rfl, rfl, h2, r2⟩ := trodAll_cons r1
 obtain ⟨rfl, rfl, rfl⟩ := trodAll_nil r2
 obtain rfl : args = #[v0, v1, v2] := by cases args; simp_all
 obtain ⟨rfl, rfl⟩ := trodVars_none hV
 have hg := glob_of_laid hL
 have k0 := h0
 have lt0 : ∀ x ∈ p0, x.block < W.heap.size := by obtain ⟨m, hm⟩ := k0; exact DataW.trod_lt m _ _ _ hm
 obtain ⟨cs0, rfl⟩ : ∃ cs, v0 = .agg cs := by
  have := hval 0 28 v0 rfl rfl
  simp only [Value.okWide, Tryz.underlying28] at this
  obtain ⟨cs, h1, _⟩ := this
  exact ⟨cs, h1⟩
 obtain ⟨P0, he0, hz0, hI0⟩ : ∃ P : Pm, cs0.toList = pml P ∧ Zb P.pt ∧ (Ib P.n ∧ Ib P.am ∧ Ib P.k0 ∧ Ib P.k1 ∧ Ib P.dl ∧ Ib P.fe) := by
  obtain ⟨fuel, hf⟩ := h0
  exact pm_in hf
 obtain rfl : cs0 = pmv P0 := by rw [← Array.toList_inj, he0]; rfl
 have k1 := h1
 have lt1 : ∀ x ∈ p1, x.block < W.heap.size := by obtain ⟨m, hm⟩ := k1; exact DataW.trod_lt m _ _ _ hm
 have wl1 : Light 32 d1 := fun q hq => by
  have h1 : q ≤ reachBytes := of_decide_eq_true (List.all_eq_true.1 hsz _ (DataW.weights_mem_each (j := 1) (t := 32) (d := d1) rfl rfl q hq))
  simp only [reachBytes] at h1
  omega
 obtain ⟨cs1, rfl⟩ : ∃ cs, v1 = .agg cs := by
  have := hval 1 32 v1 rfl rfl
  simp only [Value.okWide, Tryz.underlying32] at this
  obtain ⟨cs, h1, _⟩ := this
  exact ⟨cs, h1⟩
 obtain ⟨s1, lc1, he1, hS1, _⟩ : ∃ (s : Sv) (p : Pl), cs1.toList = (svv s p).toList ∧ StIn W s p ∧ s.Ib := by
  obtain ⟨fuel, hf⟩ := h1
  exact state_in (fun _ => rfl) hf wl1
 obtain rfl : cs1 = svv s1 lc1 := by rw [← Array.toList_inj, he1]
 have k2 := h2
 have lt2 : ∀ x ∈ p2, x.block < W.heap.size := by obtain ⟨m, hm⟩ := k2; exact DataW.trod_lt m _ _ _ hm
 have wl2 : Light 58 d2 := fun q hq => by
  have h1 : q ≤ reachBytes := of_decide_eq_true (List.all_eq_true.1 hsz _ (DataW.weights_mem_each (j := 2) (t := 58) (d := d2) rfl rfl q hq))
  simp only [reachBytes] at h1
  omega
 obtain ⟨cs2, rfl⟩ : ∃ cs, v2 = .agg cs := by
  have := hval 2 58 v2 rfl rfl
  simp only [Value.okWide, Tryz.underlying58] at this
  obtain ⟨cs, h1, _⟩ := this
  exact ⟨cs, h1⟩
 obtain ⟨t2, S2, he2, hT2⟩ : ∃ (t : Tc5) (S : Nat → Option Addr × Nat), cs2.toList = txl t.lk t.ia t.n t.ic t.oa t.m t.oc ∧ TxIn W t S := by
  obtain ⟨fuel, hf⟩ := h2
  exact tx_in (fun _ => rfl) hf wl2
 obtain rfl : cs2 = txv t2.lk t2.ia t2.n t2.ic t2.oa t2.m t2.oc := by rw [← Array.toList_inj, he2]; rfl
 refine (lfundsC_any P0 s1 lc1 t2 S2 W hg hz0 hI0 hS1 ⟨hT2.ti, hT2.ou, hT2.sc, hT2.bn, hT2.bs, hT2.bo⟩).mono fun e W' ⟨he, bel⟩ => ?_
 subst he
 exact ⟨_, rfl, _, _, _, [], _, [], hW', trodAll_mk1 (shut_bool Tryz.underlying4 _), (trodAll_cons_mk (Below.trod laidOut (by kernel_rfl) (of_decide_eq_true (by kernel_rfl)) k0 bel lt0) (trodAll_cons_mk (Below.trod laidOut (by kernel_rfl) (of_decide_eq_true (by kernel_rfl)) k1 bel lt1) (trodAll_cons_mk (Below.trod laidOut (by kernel_rfl) (of_decide_eq_true (by kernel_rfl)) k2 bel lt2) trodAll_mk0))), rfl, bel.frame _, fun h => by cases h⟩

theorem buildFunds_over : Rows.buildFundsRow.holds Tryz.pinned (OpenSpec.ofChange Rows.buildFundsSpec) :=
 OpenClaim.holds_of_wide 4 Tryz.f4 rfl rfl rfl rfl rfl rfl rfl ⟨rfl, rfl, rfl, rfl, rfl⟩ rfl rfl rfl rfl rfl (by kernel_rfl) Tryz.func4 (by kernel_rfl)
  (of_decide_eq_true (by kernel_rfl)) (by unfold Func.isWrapper; rw [if_neg (of_decide_eq_false (by kernel_rfl))]; exact ⟨rfl, rfl⟩)
  (fun os started H enc _ => buildFunds_lifted os started H enc)

/-- The statement. -/
theorem buildFunds_card : Rows.BuildFundsCardSaid :=
 Claim7.holds_tied_plain_at .later [] [.handle] true Rows.buildFundsCard.stood.harness true
  buildFunds_over (fun _ h => by cases h) (by kernel_rfl) (fun _ h => by cases h) buildFunds_row_tie rfl ⟨rfl, rfl⟩ (by kernel_rfl) rfl
  (fun f fn hf hfn => by
   obtain rfl : f = 4 := Option.some.inj ((show Tryz.prog.funcNamed Rows.buildFundsRow.func = some 4 by kernel_rfl).symm.trans hf) |>.symm
   obtain rfl : fn = Tryz.f4 := (Option.some.inj (Tryz.func4.symm.trans hfn)).symm
   exact ⟨by kernel_rfl, fun j t ht => by
    rw [Tryz.params4] at ht
    have ht' : t = 28 ∨ t = 32 ∨ t = 58 := by
     rcases j with _ | _ | _ | j
     ·exact .inl (by simpa using ht.symm)
     ·exact .inr (.inl (by simpa using ht.symm))
     ·exact .inr (.inr ((by simpa using ht.symm)))
     ·simp at ht
    rcases ht' with rfl | rfl | rfl
    ·exact (show Tryz.prog.wantsStandIn 28 = false by kernel_rfl)
    ·exact (show Tryz.prog.wantsStandIn 32 = false by kernel_rfl)
    ·exact (show Tryz.prog.wantsStandIn 58 = false by kernel_rfl)⟩)
  (by kernel_rfl)
#print axioms buildFunds_card
end Go.Proofs.YtjnepkggdkccaaaGreatDoor
