/- TreeNexts: the walk. -/
import Derived.Test.YtlnoabedcnlpoaaDoorJLefts
import Derived.Test.YtlnoabedcnlpoaaDoorJRNext
namespace Go.Proofs.YtlnoabedcnlpoaaDoor
open Go.RowKit

theorem nx_cases {c : Tc} {z : Nat → Int} : ∀ n, (∀ i, i < n → 0 ≤ stp c (z i)) → (∀ i, i < n → stp c (z i) = 0) ∨ ∃ a, a < n ∧ 0 < stp c (z a) ∧ ∀ i, a < i → i < n → stp c (z i) = 0
  | 0, _ => .inl fun i hi => by omega
  | n + 1, h => by
    by_cases h0 : stp c (z n) = 0
    · rcases nx_cases n (fun i hi => h i (by omega)) with h1 | ⟨a, ha, h1, h2⟩
      · refine .inl fun i hi => ?_
        by_cases e : i = n
        · subst e; exact h0
        · exact h1 i (by omega)
      · refine .inr ⟨a, by omega, h1, fun i h3 h4 => ?_⟩
        by_cases e : i = n
        · subst e; exact h0
        · exact h2 i h3 (by omega)
    · exact .inr ⟨n, by omega, by have := h n (by omega); omega, fun i h1 h2 => by omega⟩
/-- Both sides answer alike. -/
theorem nx_both (c : Tc) (z : Nat → Int) (n : Nat) : ∃ (m : Nat) (y : Nat → Int) (er : Int), m ≤ n ∧
    (∀ w e w', NxR c z n w e w' → ∃ ad cap, e = .returned (.tuple #[.slice ad m cap, errV er]) ∧ IsAt w' ad m y) ∧
    (∀ w e w', RNxR c z n w e w' → ∃ ad cap, e = .returned (.tuple #[.slice ad m cap, .int .i64 er]) ∧ IsAt w' ad m y) := by
  by_cases h0 : isE c z n = 0
  · have hO := isE_ok h0
    have hT := chkT_ok hO.1
    rcases nx_cases (c := c) (z := z) n (fun i hi => (stp_bd hT.1 hT.2.1 (hO.2.2 i hi).1.1 (hO.2.2 i hi).1.2).1) with h1 | ⟨a, ha, h1, h2⟩
    · exact ⟨0, z, 30, by omega, fun w e w' h => ⟨none, 0, h.slot h0 h1, IsAt.nil _ _ _⟩, fun w e w' h => ⟨none, 0, h.slot h0 h1, IsAt.nil _ _ _⟩⟩
    · refine ⟨n, nextZ c z a, 0, Nat.le_refl _, fun w e w' h => ?_, fun w e w' h => ?_⟩
      · obtain ⟨g, cap, he, hI⟩ := h.ok h0 a ha h1 h2
        exact ⟨_, cap, he, hI⟩
      · obtain ⟨ad, cap, he, hI⟩ := h.ok h0 a ha h1 h2
        exact ⟨_, cap, he, hI⟩
  · exact ⟨0, z, isE c z n, by omega, fun w e w' h => ⟨none, 0, h.bad h0, IsAt.nil _ _ _⟩, fun w e w' h => ⟨none, 0, h.bad h0, IsAt.nil _ _ _⟩⟩
set_option maxRecDepth 100000 in
set_option maxHeartbeats 1600000 in
theorem nexts_any (c : Tc) (ka : Option Addr) (kc : Nat) (ad : Option Addr) (n cap : Nat) (z : Nat → Int) (w : World) (h : LawIn w c ka ad n z) :
    Calls Tryd.prog 6 #[.agg (tcv c ka kc), .slice ad n cap] w fun e w' => e = .returned (.bool true) ∧ Below w.heap.size w w' := by
  have HH := hidV h
  clear h
  obtain ⟨m, y, er, hmn, hN1, hN2⟩ := nx_both c z n
  have HM := hidV (And.intro hmn (And.intro hN1 hN2))
  clear hmn hN1 hN2
  go_enter Tryd.func6, Tryd.ntmps6
  go_upto_region 1 with (first | (refine wpList_boxN rfl _ _ rfl (tcv c ka kc) rfl ?_; intro v1 N1) | fail)
  have HX : Hid (Below w.heap.size w v1 ∧ (∀ w' : World, Below v1.heap.size v1 w' → w'.rangeAt w.heap.size 0 (tcl c ka kc))) :=
    ⟨N1.below, fun w' hb => tcl_range (heap_below hb N1.blk)⟩
  clear N1
  have ks := (tcBox (HX.out.2 v1 (Below.refl _ _))).ks
  by_cases q1 : (100 : Int) < c.kn
  · go_wp2_with fail
    refine (sure_any v1).mono ?_
    rintro e v2 ⟨rfl, hb⟩
    have HE := hidV (Below.transS HX.out.1 hb)
    clear hb
    go_wp2
    go_ret
    exact ⟨rfl, HE.out⟩
  by_cases q2 : (100 : Int) < n
  · go_wp2_with fail
    refine (sure_any v1).mono ?_
    rintro e v2 ⟨rfl, hb⟩
    have HE := hidV (Below.transS HX.out.1 hb)
    clear hb
    go_wp2
    go_ret
    exact ⟨rfl, HE.out⟩
  have HN : Hid (c.kn ≤ 100 ∧ n ≤ 100) := ⟨by omega, by omega⟩
  have HI := hidV (TcIn.mk (HH.out.keys.below HX.out.1) (by have := HN.out; omega) HH.out.st)
  have HU := hidV (src_of (sc := cap) (HH.out.path.below HX.out.1))
  go_upto_region 5 with (first | (at_builtin; refine wpList_append_I underI rfl _ _ rfl v1 _ _ [] (keysL z n) rfl rfl (IOw.nil v1) HU.out (by rw [keysL_length]; have := HN.out; simp; omega) ?_; intro v' v2 hO2 hk2; have HO2 := hidV hO2; clear hO2 hk2) | fail)
  obtain ⟨ma, mc, rfl, hA2⟩ := iow_is HO2.out
  rw [List.nil_append, keysL_length] at hA2 ⊢
  have HA2 : Hid (IsAt v2 ma n z) := hA2.same (fun k hk => by simp [fi, List.getD_eq_getElem?_getD, keysL_at hk])
  have HB2 := hidV HO2.out.below
  clear q1 q2 ks hA2 HO2 HU
  have HR2 := hidV (HX.out.2 v2 HB2.out)
  go_wp2_with (first | (refine wpList_loadR (by rfl) _ rfl w.heap.size rfl c ka kc HR2.out ?_) | fail)
  refine (giveTree_any c ka kc v2 (HI.out.below HB2.out)).mono ?_
  rintro e v3 ⟨⟨ka', kc', rfl, hI3⟩, hb3⟩
  have HB3 := hidV (Below.transS HB2.out hb3)
  have HA3 := hidV (HA2.out.below hb3)
  have HI3 := hidV hI3
  clear hb3 hI3 HR2
  go_wp2_with fail
  refine (next_any c ka' kc' ma n mc z v3 HA3.out (by have := HN.out; omega) HI3.out).mono ?_
  intro e v4 hE
  obtain ⟨qa, qc, rfl, hQ⟩ := HM.out.2.1 _ _ _ hE
  have HB4 := hidV (Below.transS HB3.out hE.below)
  have HA4 := hidV (HA3.out.below hE.below)
  have HQ4 := hidV hQ
  clear hE hQ
  have HR4 := hidV (HX.out.2 v4 HB4.out)
  go_wp2_with (first | (refine wpList_loadR (by rfl) _ rfl w.heap.size rfl c ka kc HR4.out ?_) | fail)
  refine (rnext_any c ka kc ad n cap z v4 (HH.out.path.below (Below.transS HX.out.1 HB4.out)) (by have := HN.out; omega) (HI.out.below HB4.out)).mono ?_
  intro e v5 hE
  obtain ⟨ra, rc, rfl, hR5⟩ := HM.out.2.2 _ _ _ hE
  have HB5 := hidV (Below.transS HB4.out hE.below)
  have HA5 := hidV (HA4.out.below hE.below)
  have HQ5 := hidV (HQ4.out.below hE.below)
  have HS5 := hidV hR5
  clear hE hR5 HR4
  go_wp2_with fail
  refine (ints_same qa ra m qc rc y v5 HQ5.out HS5.out (by have := HN.out; have := HM.out.1; omega)).mono ?_
  rintro e v6 ⟨rfl, hb6⟩
  have HB6 := hidV (Below.transS HB5.out hb6)
  have HA6 := hidV (HA5.out.below hb6)
  have HG6 := hidV (HH.out.glob.below (Below.transS HX.out.1 (Below.transS HB5.out hb6)) HH.out.glob.pos)
  clear hb6
  go_wp2_with fail
  refine (num_any er v6 HG6.out).mono ?_
  rintro e v7 ⟨rfl, hb7⟩
  have HA7 := hidV (HA6.out.below hb7)
  have HP7 := hidV (HH.out.path.below (Below.transS HX.out.1 (Below.transS HB6.out hb7)))
  have HB7 := hidV (Below.transS HX.out.1 (Below.transS HB6.out hb7))
  clear hb7
  go_wp2_with fail
  refine (ints_same ma ad n mc cap z v7 HA7.out HP7.out (by have := HN.out; omega)).mono ?_
  rintro e v8 ⟨rfl, hb8⟩
  have HB8 := hidV (Below.transS HB7.out hb8)
  clear hb8
  go_wp2_with fail
  refine (sure_any v8).mono ?_
  rintro e v9 ⟨rfl, hb9⟩
  have HE := hidV (Below.transS HB8.out hb9)
  clear hb9
  go_wp2
  go_ret
  exact ⟨by simp, HE.out⟩
theorem nexts_card (c : Tc) (ka : Option Addr) (kc : Nat) (ad : Option Addr) (n cap : Nat) (z : Nat → Int) (w : World) (hg : Glob w) (h1 : IsAt w ka c.kn c.kz) (h2 : c.kn ≤ 140737488355328) (h3 : Ib c.st) (h4 : IsAt w ad n z) (h5 : n ≤ 140737488355328) :
    Calls Tryd.prog 6 #[.agg (tcv c ka kc), .slice ad n cap] w fun e w' => e = .returned (.bool true) ∧ Below w.heap.size w w' := nexts_any c ka kc ad n cap z w ⟨hg, h1, h2, h3, h4, h5⟩
end Go.Proofs.YtlnoabedcnlpoaaDoor
