/- TxPoints: for every input up to the row's bulk (1048576 values and letters in all) the law answers true and its arguments read as they did; the row, and the card that ties the three listed variables to the program's text. -/
import Derived.Test.YtanchjfodcjlmaaGreatDoorOwnShelf15
import Derived.Test.YtanchjfodcjlmaaGreatDoorOwnShelf27
import Derived.Test.YtanchjfodcjlmaaGreatDoorCards
import Derived.Test.YtanchjfodcjlmaaGreatDoorTie
import Derived.SevenTiedAt
import Derived.Deep.DeepHandedRow
import Derived.Lib.LaidTab
namespace Go.Proofs.YtanchjfodcjlmaaGreatDoor
open Go.ChangeShapes Go.WideShapes Go.RowKit Go.ChangeAt

/-- A variable's cells laid anew. -/
def relaid (cs : Array Value) : Obj → Obj
 | .cells _ t frozen => .cells cs t frozen
 | o => o
/-- A world in which the listed variables are as they are laid. -/
noncomputable def wit (os : Os) : World :=
 { World.holding Tryz.prog os ⟨#[], #[], []⟩ with heap := (((World.holding Tryz.prog os ⟨#[], #[], []⟩).heap.modify 0 (relaid #[.iface 134 (.agg #[.pointer (some ⟨4, 29, none⟩)])])).modify 2 (relaid #[.int .u32 1779033703, .int .u32 3144134277, .int .u32 1013904242, .int .u32 2773480762, .int .u32 1359893119, .int .u32 2600822924, .int .u32 528734635, .int .u32 1541459225])).modify 3 (relaid #[.int .u8 0, .int .u8 1, .int .u8 2, .int .u8 3, .int .u8 4, .int .u8 5, .int .u8 6, .int .u8 7, .int .u8 8, .int .u8 9, .int .u8 10, .int .u8 11, .int .u8 12, .int .u8 13, .int .u8 14, .int .u8 15, .int .u8 14, .int .u8 10, .int .u8 4, .int .u8 8, .int .u8 9, .int .u8 15, .int .u8 13, .int .u8 6, .int .u8 1, .int .u8 12, .int .u8 0, .int .u8 2, .int .u8 11, .int .u8 7, .int .u8 5, .int .u8 3, .int .u8 11, .int .u8 8, .int .u8 12, .int .u8 0, .int .u8 5, .int .u8 2, .int .u8 15, .int .u8 13, .int .u8 10, .int .u8 14, .int .u8 3, .int .u8 6, .int .u8 7, .int .u8 1, .int .u8 9, .int .u8 4, .int .u8 7, .int .u8 9, .int .u8 3, .int .u8 1, .int .u8 13, .int .u8 12, .int .u8 11, .int .u8 14, .int .u8 2, .int .u8 6, .int .u8 5, .int .u8 10, .int .u8 4, .int .u8 0, .int .u8 15, .int .u8 8, .int .u8 9, .int .u8 0, .int .u8 5, .int .u8 7, .int .u8 2, .int .u8 4, .int .u8 10, .int .u8 15, .int .u8 14, .int .u8 1, .int .u8 11, .int .u8 12, .int .u8 6, .int .u8 8, .int .u8 3, .int .u8 13, .int .u8 2, .int .u8 12, .int .u8 6, .int .u8 10, .int .u8 0, .int .u8 11, .int .u8 8, .int .u8 3, .int .u8 4, .int .u8 13, .int .u8 7, .int .u8 5, .int .u8 15, .int .u8 14, .int .u8 1, .int .u8 9, .int .u8 12, .int .u8 5, .int .u8 1, .int .u8 15, .int .u8 14, .int .u8 13, .int .u8 4, .int .u8 10, .int .u8 0, .int .u8 7, .int .u8 6, .int .u8 3, .int .u8 9, .int .u8 2, .int .u8 8, .int .u8 11, .int .u8 13, .int .u8 11, .int .u8 7, .int .u8 14, .int .u8 12, .int .u8 1, .int .u8 3, .int .u8 9, .int .u8 5, .int .u8 0, .int .u8 15, .int .u8 4, .int .u8 8, .int .u8 6, .int .u8 2, .int .u8 10, .int .u8 6, .int .u8 15, .int .u8 14, .int .u8 9, .int .u8 11, .int .u8 3, .int .u8 0, .int .u8 8, .int .u8 12, .int .u8 2, .int .u8 13, .int .u8 7, .int .u8 1, .int .u8 4, .int .u8 10, .int .u8 5, .int .u8 10, .int .u8 2, .int .u8 8, .int .u8 4, .int .u8 7, .int .u8 6, .int .u8 1, .int .u8 5, .int .u8 15, .int .u8 11, .int .u8 9, .int .u8 14, .int .u8 3, .int .u8 12, .int .u8 13, .int .u8 0]) }

/-- The world in which the witness is read. -/
theorem txPoints_met (os : Os) : laidMetH Tryz.prog Rows.txPointsUptoRow.laid ((wit os).forCall (fun _ _ => 0) ⟨#[], #[.agg (txv 0 none 0 0 none 0 0), .agg (txv 0 none 0 0 none 0 0), .agg (ppv nz 0 nz 0)], []⟩).memory :=
 laidMetH_of_parts (laidMet_of_run' 20 (by kernel_rfl) (by kernel_rfl)) (by kernel_rfl)
theorem txPoints_reads (os : Os) {H : Type} (enc : TypeId × Value → H) : ∃ places, DataW.whole enc Tryz.prog ((wit os).forCall (fun _ _ => 0) ⟨#[], #[.agg (txv 0 none 0 0 none 0 0), .agg (txv 0 none 0 0 none 0 0), .agg (ppv nz 0 nz 0)], []⟩).memory Tryz.f4.params.toList Rows.txPointsSpec.vars false (#[.agg (txv 0 none 0 0 none 0 0), .agg (txv 0 none 0 0 none 0 0), .agg (ppv nz 0 nz 0)] : Array Value).toList 8 = some ([.agg [.lit (.int .i64 0), .nil, .nil], .agg [.lit (.int .i64 0), .nil, .nil], .agg [.agg [.agg [.lit (.int .u8 0), .lit (.int .u8 0), .lit (.int .u8 0), .lit (.int .u8 0), .lit (.int .u8 0), .lit (.int .u8 0), .lit (.int .u8 0), .lit (.int .u8 0), .lit (.int .u8 0), .lit (.int .u8 0), .lit (.int .u8 0), .lit (.int .u8 0), .lit (.int .u8 0), .lit (.int .u8 0), .lit (.int .u8 0), .lit (.int .u8 0), .lit (.int .u8 0), .lit (.int .u8 0), .lit (.int .u8 0), .lit (.int .u8 0), .lit (.int .u8 0), .lit (.int .u8 0), .lit (.int .u8 0), .lit (.int .u8 0), .lit (.int .u8 0), .lit (.int .u8 0), .lit (.int .u8 0), .lit (.int .u8 0), .lit (.int .u8 0), .lit (.int .u8 0), .lit (.int .u8 0), .lit (.int .u8 0)], .lit (.int .i64 0)], .agg [.agg [.lit (.int .u8 0), .lit (.int .u8 0), .lit (.int .u8 0), .lit (.int .u8 0), .lit (.int .u8 0), .lit (.int .u8 0), .lit (.int .u8 0), .lit (.int .u8 0), .lit (.int .u8 0), .lit (.int .u8 0), .lit (.int .u8 0), .lit (.int .u8 0), .lit (.int .u8 0), .lit (.int .u8 0), .lit (.int .u8 0), .lit (.int .u8 0), .lit (.int .u8 0), .lit (.int .u8 0), .lit (.int .u8 0), .lit (.int .u8 0), .lit (.int .u8 0), .lit (.int .u8 0), .lit (.int .u8 0), .lit (.int .u8 0), .lit (.int .u8 0), .lit (.int .u8 0), .lit (.int .u8 0), .lit (.int .u8 0), .lit (.int .u8 0), .lit (.int .u8 0), .lit (.int .u8 0), .lit (.int .u8 0)], .lit (.int .i64 0)]]], [], places) :=
 ⟨[], by kernel_rfl⟩
set_option maxRecDepth 100000 in
theorem txPoints_lifted (os : Os) (started : os.Started) (H : Type) (enc : TypeId × Value → H) (F : Stop.Interp) :
  ReturnsInHanded {} Tryz.checked os 4 .any ((Rows.OpenSpec.upto Rows.txPointsSpec).preRow enc Tryz.prog Tryz.f4 Rows.txPointsUptoRow.domain false Rows.txPointsUptoRow.laid) (((Rows.OpenSpec.upto Rows.txPointsSpec).at F).post enc Tryz.prog Tryz.f4 false true false false) := by
 obtain ⟨places, hx⟩ := txPoints_reads os enc
 refine returnsInHanded_of_row (C := Tryz.checked) (s := Rows.OpenSpec.upto Rows.txPointsSpec) own started (by kernel_rfl) Tryz.func4
  (witness_row_at (enc := enc) (C := Tryz.checked) false (wit os) #[.agg (txv 0 none 0 0 none 0 0), .agg (txv 0 none 0 0 none 0 0), .agg (ppv nz 0 nz 0)] rfl (by kernel_rfl) (by kernel_rfl) (by kernel_rfl)
   (OpenSpec.preRow_of_cond 8 hx (by kernel_rfl) (fun k hk => by cases hk; kernel_rfl) (by kernel_rfl) (txPoints_met os))) ?_
 intro W base args ds gs before hval0 hW _ hcond _ hL _ _
 have hval : ∀ (j : Nat) t v, Tryz.f4.params[j]? = some t → args[j]? = some v → Value.okWide Tryz.prog W .any base t v := hval0
 have hk : Rows.uptoSmall H (ds ++ gs) = true := hcond _ rfl
 have hbk : Rows.uptoBulkAll (ds ++ gs) ≤ 1048576 := of_decide_eq_true hk
 have hW' := hW
 obtain ⟨p, q, hA0, hV0, rfl, hfz, hnd⟩ := hW
 have hA : DataW.TrodAll enc Tryz.prog W 0 (fun _ => true) true Tryz.f4.params.toList args.toList ds p := hA0
 have hV : DataW.TrodVars enc Tryz.prog W (fun _ => true) [] gs q := hV0
 rw [Tryz.params4] at hA hval
 obtain ⟨v0, vs0, d0, ds0, p0, q0, hargs, rfl, rfl, h0, r0⟩ := trodAll_cons hA
 obtain ⟨v1, vs1, d1, ds1, p1, q1, rfl, rfl, rfl, h1, r1⟩ := trodAll_cons r0
 obtain ⟨v2, vs2, d2, ds2, p2, q2, rfl, rfl, rfl, h2, r2⟩ := trodAll_cons r1
 obtain ⟨rfl, rfl, rfl⟩ := trodAll_nil r2
 obtain rfl : args = #[v0, v1, v2] := by cases args; simp_all
 obtain ⟨rfl, rfl⟩ := trodVars_none hV
 have hg := glob_of_laid hL
 have hT := tab_of_laid hL
 have k0 := h0
 have lt0 : ∀ x ∈ p0, x.block < W.heap.size := by obtain ⟨m, hm⟩ := k0; exact DataW.trod_lt m _ _ _ hm
 have wl0 : Light 25 d0 := by
  unfold Light
  refine Nat.le_trans ?_ hbk
  exact bulk_part (by simp)
 obtain ⟨cs0, rfl⟩ : ∃ cs, v0 = .agg cs := by
  have := hval 0 25 v0 rfl rfl
  simp only [Value.okWide, Tryz.underlying25] at this
  obtain ⟨cs, h1, _⟩ := this
  exact ⟨cs, h1⟩
 obtain ⟨t0, S0, he0, hT0⟩ : ∃ (t : Tc5) (S : Nat → Option Addr × Nat), cs0.toList = txl t.lk t.ia t.n t.ic t.oa t.m t.oc ∧ TxIn W t S := by
  obtain ⟨fuel, hf⟩ := h0
  exact tx_in (fun _ => rfl) hf wl0
 obtain rfl : cs0 = txv t0.lk t0.ia t0.n t0.ic t0.oa t0.m t0.oc := by rw [← Array.toList_inj, he0]; rfl
 have k1 := h1
 have lt1 : ∀ x ∈ p1, x.block < W.heap.size := by obtain ⟨m, hm⟩ := k1; exact DataW.trod_lt m _ _ _ hm
 have wl1 : Light 25 d1 := by
  unfold Light
  refine Nat.le_trans ?_ hbk
  exact bulk_part (by simp)
 obtain ⟨cs1, rfl⟩ : ∃ cs, v1 = .agg cs := by
  have := hval 1 25 v1 rfl rfl
  simp only [Value.okWide, Tryz.underlying25] at this
  obtain ⟨cs, h1, _⟩ := this
  exact ⟨cs, h1⟩
 obtain ⟨t1, S1, he1, hT1⟩ : ∃ (t : Tc5) (S : Nat → Option Addr × Nat), cs1.toList = txl t.lk t.ia t.n t.ic t.oa t.m t.oc ∧ TxIn W t S := by
  obtain ⟨fuel, hf⟩ := h1
  exact tx_in (fun _ => rfl) hf wl1
 obtain rfl : cs1 = txv t1.lk t1.ia t1.n t1.ic t1.oa t1.m t1.oc := by rw [← Array.toList_inj, he1]; rfl
 have k2 := h2
 have lt2 : ∀ x ∈ p2, x.block < W.heap.size := by obtain ⟨m, hm⟩ := k2; exact DataW.trod_lt m _ _ _ hm
 have wl2 : Light 46 d2 := by
  unfold Light
  refine Nat.le_trans ?_ hbk
  exact bulk_part (by simp)
 obtain ⟨cs2, rfl⟩ : ∃ cs, v2 = .agg cs := by
  have := hval 2 46 v2 rfl rfl
  simp only [Value.okWide, Tryz.underlying46] at this
  obtain ⟨cs, h1, _⟩ := this
  exact ⟨cs, h1⟩
 obtain ⟨z2, n2, y2, m2, he2, hz2, hy2⟩ : ∃ (z : Nat → Int) (n : Int) (y : Nat → Int) (m : Int), cs2.toList = ppl z n y m ∧ (Hb z ∧ Kp.Ib n) ∧ Hb y ∧ Kp.Ib m := by
  obtain ⟨fuel, hf⟩ := h2
  exact pts2_in hf
 obtain rfl : cs2 = ppv z2 n2 y2 m2 := by rw [← Array.toList_inj, he2]; rfl
 refine (lpoints_any t0 t1 S0 S1 z2 n2 y2 m2 W hg hT hT0 hT1 hz2 hy2).mono fun e W' ⟨he, bel⟩ => ?_
 subst he
 exact ⟨_, rfl, _, _, _, [], _, [], hW', trodAll_mk1 (shut_bool Tryz.underlying4 _), (trodAll_cons_mk (Below.trod laidOut (by kernel_rfl) (of_decide_eq_true (by kernel_rfl)) k0 bel lt0) (trodAll_cons_mk (Below.trod laidOut (by kernel_rfl) (of_decide_eq_true (by kernel_rfl)) k1 bel lt1) (trodAll_cons_mk (Below.trod laidOut (by kernel_rfl) (of_decide_eq_true (by kernel_rfl)) k2 bel lt2) trodAll_mk0))), rfl, bel.frame _, fun h => by cases h⟩

theorem txPoints_over : Rows.txPointsUptoRow.holds Tryz.pinned (Rows.OpenSpec.upto Rows.txPointsSpec) :=
 OpenClaim.holds_of_cond 4 Tryz.f4 rfl rfl rfl rfl rfl rfl rfl ⟨rfl, rfl, rfl, rfl, rfl⟩ rfl rfl rfl rfl rfl (by kernel_rfl) Tryz.func4 (by kernel_rfl)
  (of_decide_eq_true (by kernel_rfl)) (by unfold Func.isWrapper; rw [if_neg (of_decide_eq_false (by kernel_rfl))]; exact ⟨rfl, rfl⟩)
  (fun os started H enc _ F => by rw [OpenClaim.pre_eq_preRow]; exact txPoints_lifted os started H enc F)

/-- The statement. -/
theorem txPoints_card : Rows.TxPointsUptoCardSaid :=
 Claim7.holds_tied_plain_at .later [] [.handle, .data, .data] true Rows.txPointsUptoCard.stood.harness true
  txPoints_over (fun _ h => by cases h) (by kernel_rfl) (fun _ h => by cases h) txPointsUpto_row_tie rfl ⟨rfl, rfl⟩ (by kernel_rfl) rfl
  (fun f fn hf hfn => by
   obtain rfl : f = 4 := Option.some.inj ((show Tryz.prog.funcNamed Rows.txPointsUptoRow.func = some 4 by kernel_rfl).symm.trans hf) |>.symm
   obtain rfl : fn = Tryz.f4 := (Option.some.inj (Tryz.func4.symm.trans hfn)).symm
   exact ⟨by kernel_rfl, fun j t ht => by
    rw [Tryz.params4] at ht
    have ht' : t = 25 ∨ t = 25 ∨ t = 46 := by
     rcases j with _ | _ | _ | j
     ·exact .inl (by simpa using ht.symm)
     ·exact .inr (.inl (by simpa using ht.symm))
     ·exact .inr (.inr ((by simpa using ht.symm)))
     ·simp at ht
    rcases ht' with rfl | rfl | rfl
    ·exact (show Tryz.prog.wantsStandIn 25 = false by kernel_rfl)
    ·exact (show Tryz.prog.wantsStandIn 25 = false by kernel_rfl)
    ·exact (show Tryz.prog.wantsStandIn 46 = false by kernel_rfl)⟩)
  (by kernel_rfl)
#print axioms txPoints_card
end Go.Proofs.YtanchjfodcjlmaaGreatDoor
