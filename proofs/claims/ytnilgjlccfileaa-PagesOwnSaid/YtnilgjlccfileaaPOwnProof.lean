/- PagesOwn: for every input the law answers true and its arguments read as they did. -/
import Derived.Test.YtnilgjlccfileaaPOwnW
import Derived.Test.YtnilgjlccfileaaPGiven
namespace Go.Proofs.Ytnilgjlccfileaa
open Go.ChangeShapes Go.WideShapes Go.RowKit Go.ChangeAt

theorem fn_of (z : Nat → Int) (n : Nat) : ∀ j, j < n → z j = fn ((List.range n).map z) j := fun j hj => by simp [fn, hj]
theorem own_any (ad : Option Addr) (n cap : Nat) (z : Nat → Int) (w : World) (hb : SlAt w ad n z) (hn : ad = none → n = 0 ∧ cap = 0) :
    Calls Try.prog 4 #[.slice ad n cap] w fun e w' => e = .returned (.bool true) ∧ Below w.heap.size w w' := by
  by_cases hl : 4096 < n
  · exact own_long ad n cap w hl
  · have hlen : ((List.range n).map z).length = n := by simp
    have := own_short ad cap ((List.range n).map z) w (by rw [hlen]; exact hb.congr (fn_of z n)) (by rw [hlen]; exact hn) (fun y hy => by
      obtain ⟨j, hj, rfl⟩ := List.mem_map.1 hy
      exact hb.1 j (by simpa using hj)) (by rw [hlen]; omega)
    rw [hlen] at this
    exact this
theorem pagesOwn_contract (H : Type) (enc : TypeId × Value → H) (W : World) (base : Nat) (args : Array Value) (ds gs : List (DataW H)) (before : List MemPlace)
    (hval : ∀ (j : Nat) t v, Try.f4.params[j]? = some t → args[j]? = some v → Value.okWide Try.prog W .any base t v)
    (hW : DataW.Whole enc Try.prog Try.f4.params.toList Rows.pagesOwnSpec.vars false W args.toList ds gs before) :
    Calls Try.prog 4 args W fun e W' => ∃ v, e = .returned v ∧ Rows.pagesOwnSpec.post enc Try.prog Try.f4 false true false false W args v W' := by
  have hW' := hW
  obtain ⟨p, q, hA0, hV0, rfl, hfz, hnd⟩ := hW
  have hA : DataW.TrodAll enc Try.prog W 0 (fun _ => true) true Try.f4.params.toList args.toList ds p := hA0
  have hV : DataW.TrodVars enc Try.prog W (fun _ => true) [] gs q := hV0
  rw [Try.params4] at hA hval
  obtain ⟨v0, vs0, d0, ds0, p0, q0, hargs, rfl, rfl, h0, r0⟩ := trodAll_cons hA
  obtain ⟨rfl, rfl, rfl⟩ := trodAll_nil r0
  obtain rfl : args = #[v0] := by cases args; simp_all
  obtain ⟨rfl, rfl⟩ := trodVars_none hV
  obtain ⟨a0, len0, cap0, rfl⟩ := okWide_slice Try.underlying30 (hval 0 30 v0 rfl rfl)
  have k0 := h0
  have lt0 : ∀ x ∈ p0, x.block < W.heap.size := by obtain ⟨m, hm⟩ := k0; exact DataW.trod_lt m _ _ _ hm
  obtain ⟨fuel, hf⟩ := h0
  obtain ⟨a9, len9, cap9, z0, hcs, hl0, hs0, hn0, _⟩ := bytes_in (fun _ => rfl) hf
  cases hcs
  refine (own_any a0 len0 cap0 z0 W hs0 hn0).mono fun e W' ⟨he, bel⟩ => ?_
  subst he
  exact ⟨_, rfl, _, _, _, [], _, [], hW', trodAll_mk1 (shut_bool Try.underlying4 _), (trodAll_cons_mk (Below.trod laidOut (by kernel_rfl) (of_decide_eq_true (by kernel_rfl)) k0 bel lt0) trodAll_mk0), rfl, bel.frame _, fun h => by cases h⟩

set_option maxRecDepth 100000 in
theorem pagesOwn_lifted (os : Os) (started : os.Started) (H : Type) (enc : TypeId × Value → H) :
    ReturnsInHanded {} Try.checked os 4 .any (Rows.pagesOwnSpec.pre6 enc Try.prog Try.f4 Rows.pagesOwnRow.domain false) (Rows.pagesOwnSpec.post enc Try.prog Try.f4 false true false false) := by
  refine returnsInHanded_of_change (C := Try.checked) own started (by kernel_rfl) Try.func4
    (ChangeSpec.witness6 (enc := enc) (C := Try.checked) false ⟨#[], #[.slice none 0 0], []⟩ 8 (by kernel_rfl) (by kernel_rfl) (by kernel_rfl) (by kernel_rfl)) ?_
  intro W base args ds gs before hval hW _ _
  exact pagesOwn_contract H enc W base args ds gs before hval hW

/-- The statement. -/
theorem pagesOwn_said : Rows.PagesOwnSaid :=
  OpenClaim.holds_of_wide 4 Try.f4 rfl rfl rfl rfl rfl rfl rfl ⟨rfl, rfl, rfl, rfl, rfl⟩ rfl rfl rfl rfl rfl (by kernel_rfl) Try.func4 (by kernel_rfl)
    (of_decide_eq_true (by kernel_rfl)) (by unfold Func.isWrapper; rw [if_neg (of_decide_eq_false (by kernel_rfl))]; exact ⟨rfl, rfl⟩)
    (fun os started H enc _ => pagesOwn_lifted os started H enc)
#print axioms pagesOwn_said
end Go.Proofs.Ytnilgjlccfileaa
