/- What is read is laid by the same bytes: payments, holds. -/
import Derived.Test.YtnjkgpgbipcgcaaDoorOwnShelf40
import Derived.Test.YtnjkgpgbipcgcaaDoorOwnShelf47
import Derived.Test.YtnjkgpgbipcgcaaDoorOwnShelf15
namespace Go.Proofs.YtnjkgpgbipcgcaaDoor
open Go.RowKit

theorem u64_pos {v : Int} (h : 0 ≤ v) (h2 : v ≤ 9223372036854775807) : u64 v = v := by
  have := u64_nat v.toNat (by omega)
  rw [show ((v.toNat : Nat) : Int) = v from by omega] at this
  exact this
theorem numM_laid {M : Int} {q : Option (List Int)} {r : List Int} (hb : ByQ q) (h : (numM M q).2 = some r) : q = some (uB (numM M q).1 ++ r) ∧ ByQ (some r) ∧ 0 ≤ (numM M q).1 ∧ (numM M q).1 ≤ M := by
  obtain ⟨l, rfl, e⟩ := tk_some h
  have h1 := uintR_laid (hb l rfl) e
  have h2 := uintR_bd (hb l rfl) e
  refine ⟨?_, ?_, h2⟩
  · conv => lhs; rw [h1]
    rfl
  · rw [h1] at hb; exact byq_right hb
theorem cntS_laid {M : Int} {q : Option (List Int)} {r : List Int} (hM : 0 ≤ M) (hb : ByQ q) (h : (cntS M q).2 = some r) : q = some (uB (cntS M q).1 ++ r) ∧ ByQ (some r) ∧ 0 ≤ (cntS M q).1 ∧ (cntS M q).1 ≤ M := by
  obtain ⟨l, rfl, e⟩ := tk_some h
  have e' := countR_u e
  have h1 := uintR_laid (hb l rfl) e'
  have h2 := uintR_bd (hb l rfl) e'
  refine ⟨?_, ?_, h2.1, ?_⟩
  · conv => lhs; rw [h1]
    rfl
  · rw [h1] at hb; exact byq_right hb
  · have h3 : (cntS M (some l)).1 ≤ max M 0 := h2.2
    omega
theorem hshS_laid {q : Option (List Int)} {r : List Int} (hb : ByQ q) (h : (hshS q).2 = some r) : q = some (hB (hshS q).1 ++ r) ∧ ByQ (some r) := by
  obtain ⟨l, rfl, e⟩ := tk_some h
  have h1 := hashR_laid e
  refine ⟨?_, ?_⟩
  · conv => lhs; rw [h1]
    rfl
  · rw [h1] at hb; exact byq_right hb
/-- With numbers up to any bound: a payment, keys. -/
def pyM (M : Int) (q : Option (List Int)) : Py × Option (List Int) :=
  (⟨(numM M q).1, (numM M (numM M q).2).1, (numM M (numM M (numM M q).2).2).1, (numM M (numM M (numM M (numM M q).2).2).2).1, (hshS (numM M (numM M (numM M (numM M q).2).2).2).2).1⟩, (hshS (numM M (numM M (numM M (numM M q).2).2).2).2).2)
theorem pyS_M (q : Option (List Int)) : pyS q = pyM 9223372036854775807 q := rfl
def stM (M : Int) (q : Option (List Int)) : Nat → Option (List Int)
  | 0 => q
  | j + 1 => (numM M (stM M q j)).2
theorem stN_M (q : Option (List Int)) : ∀ j, stN q j = stM 9223372036854775807 q j
  | 0 => rfl
  | j + 1 => by rw [stN, stM, stN_M q j]; rfl
theorem pyM_laid {M : Int} (hM : M ≤ 9223372036854775807) {q : Option (List Int)} {r : List Int} (hb : ByQ q) (h : (pyM M q).2 = some r) : q = some (laidP (pyM M q).1 ++ r) ∧ ByQ (some r) := by
  unfold pyM at h ⊢
  dsimp only at h ⊢
  have e1 : ∃ y, (numM M (numM M (numM M (numM M q).2).2).2).2 = some y := by
    cases e : (numM M (numM M (numM M (numM M q).2).2).2).2 with
    | none => rw [e] at h; cases h
    | some y => exact ⟨y, rfl⟩
  obtain ⟨y4, e4⟩ := e1
  have e1 : ∃ y, (numM M (numM M (numM M q).2).2).2 = some y := by
    cases e : (numM M (numM M (numM M q).2).2).2 with
    | none => rw [e] at e4; cases e4
    | some y => exact ⟨y, rfl⟩
  obtain ⟨y3, e3⟩ := e1
  have e1 : ∃ y, (numM M (numM M q).2).2 = some y := by
    cases e : (numM M (numM M q).2).2 with
    | none => rw [e] at e3; cases e3
    | some y => exact ⟨y, rfl⟩
  obtain ⟨y2, e2⟩ := e1
  have e1 : ∃ y, (numM M q).2 = some y := by
    cases e : (numM M q).2 with
    | none => rw [e] at e2; cases e2
    | some y => exact ⟨y, rfl⟩
  obtain ⟨y1, e1⟩ := e1
  obtain ⟨a1, b1, c1⟩ := numM_laid hb e1
  rw [e1] at h e4 e3 e2 ⊢
  obtain ⟨a2, b2, c2⟩ := numM_laid b1 e2
  rw [e2] at h e4 e3 ⊢
  obtain ⟨a3, b3, c3⟩ := numM_laid b2 e3
  rw [e3] at h e4 ⊢
  obtain ⟨a4, b4, c4⟩ := numM_laid b3 e4
  rw [e4] at h ⊢
  obtain ⟨a5, b5⟩ := hshS_laid b4 h
  refine ⟨?_, b5⟩
  refine a1.trans ?_
  rw [Option.some.injEq] at a2 a3 a4 a5 ⊢
  conv => lhs; rw [a2, a3, a4, a5]
  simp only [laidP, laidK, z4, Nat.reduceEqDiff, if_true, if_false, Nat.one_ne_zero, List.nil_append, List.append_assoc]
  rw [u64_pos c1.1 (by omega), u64_pos c2.1 (by omega), u64_pos c3.1 (by omega), u64_pos c4.1 (by omega)]
theorem stM_laid {M : Int} (hM : M ≤ 9223372036854775807) {q : Option (List Int)} (hb : ByQ q) : ∀ (n : Nat) {r : List Int}, stM M q n = some r → q = some (laidK (fun j => (numM M (stM M q j)).1) n ++ r) ∧ ByQ (some r)
  | 0, r, h => by
    have h' : q = some r := h
    subst h'
    exact ⟨rfl, hb⟩
  | n + 1, r, h => by
    have h' : (numM M (stM M q n)).2 = some r := h
    obtain ⟨y, e⟩ : ∃ y, stM M q n = some y := by
      cases e : stM M q n with
      | none => rw [e] at h'; cases h'
      | some y => exact ⟨y, rfl⟩
    obtain ⟨h1, h2⟩ := stM_laid hM hb n e
    have hb' : ByQ (stM M q n) := by rw [e]; exact h2
    obtain ⟨a1, b1, c1⟩ := numM_laid hb' h'
    refine ⟨?_, b1⟩
    conv => lhs; rw [h1]
    rw [e, Option.some.injEq] at a1
    rw [laidK, u64_pos c1.1 (by omega), e]
    conv => lhs; rw [a1]
    rw [List.append_assoc]
theorem none_up {f : Nat → Option (List Int)} (hf : ∀ i, f i = none → f (i + 1) = none) : ∀ (n i : Nat), i ≤ n → f n ≠ none → f i ≠ none
  | 0, i, hi, h => by obtain rfl : i = 0 := (by omega); exact h
  | n + 1, i, hi, h => by
    by_cases e : i = n + 1
    · rw [e]; exact h
    · exact none_up hf n i (by omega) (fun h0 => h (hf n h0))
theorem stM_dead {M : Int} {q : Option (List Int)} (i : Nat) (h : stM M q i = none) : stM M q (i + 1) = none := by rw [stM, h]; rfl
theorem stP_dead {q : Option (List Int)} (i : Nat) (h : stP q i = none) : stP q (i + 1) = none := by rw [stP, h]; rfl
theorem hdS_dead : (hdS none).2 = none := rfl
theorem stH_dead {q : Option (List Int)} (i : Nat) (h : stH q i = none) : stH q (i + 1) = none := by rw [stH, h]; rfl
/-- A hold with m keys, numbers up to M. -/
def hdM (M : Int) (q : Option (List Int)) (m : Nat) : Hd × Option (List Int) :=
  (⟨(numM M q).1, (numM M (numM M q).2).1, m, fun j => (numM M (stM M (cntS 16 (numM M (numM M q).2).2).2 j)).1⟩, stM M (cntS 16 (numM M (numM M q).2).2).2 m)
theorem hdS_M (q : Option (List Int)) : hdS q = hdM 9223372036854775807 q (cntS 16 (numM 9223372036854775807 (numM 9223372036854775807 q).2).2).1.toNat := by
  unfold hdS hdM
  simp only [stN_M]
  rfl
theorem hdM_laid {M : Int} (hM : M ≤ 9223372036854775807) {q : Option (List Int)} {m : Nat} {r : List Int} (hb : ByQ q) (hm : m = (cntS 16 (numM M (numM M q).2).2).1.toNat) (h : (hdM M q m).2 = some r) : q = some (laidH (hdM M q m).1 ++ r) ∧ ByQ (some r) := by
  unfold hdM at h ⊢
  dsimp only at h ⊢
  have e0 : ∃ y, (cntS 16 (numM M (numM M q).2).2).2 = some y := by
    cases e : (cntS 16 (numM M (numM M q).2).2).2 with
    | none => rw [e] at h; exact absurd rfl (none_up (fun i => stM_dead i) m 0 (by omega) (by rw [h]; exact fun h0 => by cases h0))
    | some y => exact ⟨y, rfl⟩
  obtain ⟨y3, e3⟩ := e0
  have e0 : ∃ y, (numM M (numM M q).2).2 = some y := by
    cases e : (numM M (numM M q).2).2 with
    | none => rw [e] at e3; cases e3
    | some y => exact ⟨y, rfl⟩
  obtain ⟨y2, e2⟩ := e0
  have e0 : ∃ y, (numM M q).2 = some y := by
    cases e : (numM M q).2 with
    | none => rw [e] at e2; cases e2
    | some y => exact ⟨y, rfl⟩
  obtain ⟨y1, e1⟩ := e0
  obtain ⟨a1, b1, c1⟩ := numM_laid hb e1
  rw [e1] at h hm e3 e2 ⊢
  obtain ⟨a2, b2, c2⟩ := numM_laid b1 e2
  rw [e2] at h hm e3 ⊢
  obtain ⟨a3, b3, c3⟩ := cntS_laid (by decide) b2 e3
  rw [e3] at h ⊢
  obtain ⟨a4, b4⟩ := stM_laid hM b3 m h
  refine ⟨?_, b4⟩
  have hm' : ((m : Nat) : Int) = (cntS 16 (some y2)).1 := by omega
  refine a1.trans ?_
  rw [Option.some.injEq] at a2 a3 a4 ⊢
  have a4' := a4
  generalize hK : laidK (fun j => (numM M (stM M (some y3) j)).1) m = LK at a4' ⊢
  conv => lhs; rw [a2, a3, a4']
  simp only [laidH, laidK, z3, Nat.reduceEqDiff, if_true, if_false, Nat.one_ne_zero, List.nil_append, List.append_assoc]
  rw [u64_pos c1.1 (by omega), u64_pos c2.1 (by omega), u64_pos (v := (m : Int)) (by omega) (by omega), hm', hK]
end Go.Proofs.YtnjkgpgbipcgcaaDoor
/- A state that is read is laid by the same bytes. -/
namespace Go.Proofs.YtnjkgpgbipcgcaaDoor
open Go.RowKit

/-- Pieces one behind the other. -/
def rwL (f : Nat → List Int) : Nat → List Int
  | 0 => []
  | i + 1 => rwL f i ++ f i
theorem laidPs_row (X : Nat → Py) : ∀ n, laidPs X n = rwL (fun i => laidP (X i)) n
  | 0 => rfl
  | n + 1 => by rw [laidPs, rwL, laidPs_row X n]
theorem laidHs_row (X : Nat → Hd) : ∀ n, laidHs X n = rwL (fun i => laidH (X i)) n
  | 0 => rfl
  | n + 1 => by rw [laidHs, rwL, laidHs_row X n]
theorem some_of {q : Option (List Int)} (h : q ≠ none) : ∃ r, q = some r := by
  cases q with
  | none => exact absurd rfl h
  | some r => exact ⟨r, rfl⟩
theorem rows_laid {X : Type} {g : Option (List Int) → X × Option (List Int)} {lay : X → List Int} (hg0 : (g none).2 = none) (hg : ∀ q r, ByQ q → (g q).2 = some r → q = some (lay (g q).1 ++ r) ∧ ByQ (some r)) {st : Nat → Option (List Int)} (hst : ∀ i, st (i + 1) = (g (st i)).2) (hb : ByQ (st 0)) :
    ∀ (n : Nat) (r : List Int), st n = some r → st 0 = some (rwL (fun i => lay (g (st i)).1) n ++ r) ∧ ByQ (some r)
  | 0, r, h => ⟨h, h ▸ hb⟩
  | n + 1, r, h => by
    rw [hst] at h
    obtain ⟨y, e⟩ := some_of (q := st n) (fun h0 => by rw [h0, hg0] at h; cases h)
    obtain ⟨h1, h2⟩ := rows_laid hg0 hg hst hb n y e
    obtain ⟨h3, h4⟩ := hg (st n) r (by rw [e]; exact h2) h
    refine ⟨?_, h4⟩
    rw [h1, rwL, List.append_assoc]
    rw [e, Option.some.injEq] at h3
    rw [e]
    conv => lhs; rw [h3]
theorem state_laid {M : Int} (hM : M ≤ 9223372036854775807) {l : List Int} (hb : ByQ (some l)) (x1 x2 x3 x4 x5 : Int × Option (List Int)) (h1 : x1 = numM M (some l)) (h2 : x2 = numM M x1.2) (h3 : x3 = numM M x2.2) (h4 : x4 = cntS 8 x3.2)
    (gP : Option (List Int) → Py × Option (List Int)) (gH : Option (List Int) → Hd × Option (List Int)) (stp sth : Nat → Option (List Int)) (hp0 : stp 0 = x4.2) (hps : ∀ i, stp (i + 1) = (gP (stp i)).2) (hpd : (gP none).2 = none) (hpl : ∀ q r, ByQ q → (gP q).2 = some r → q = some (laidP (gP q).1 ++ r) ∧ ByQ (some r))
    (pn hn : Nat) (hpn : pn = x4.1.toNat) (h5 : x5 = cntS 8 (stp pn)) (hh0 : sth 0 = x5.2) (hhs : ∀ i, sth (i + 1) = (gH (sth i)).2) (hhd : (gH none).2 = none) (hhl : ∀ q r, ByQ q → (gH q).2 = some r → q = some (laidH (gH q).1 ++ r) ∧ ByQ (some r)) (hhn : hn = x5.1.toNat) (hend : sth hn = some []) :
    laidS ⟨x1.1, x2.1, x3.1, pn, fun i => (gP (stp i)).1, hn, fun j => (gH (sth j)).1⟩ = l := by
  have n5 : x5.2 ≠ none := by rw [← hh0]; exact none_up (fun i h => by rw [hhs, h]; exact hhd) hn 0 (by omega) (by rw [hend]; exact fun h => by cases h)
  have n4 : stp pn ≠ none := fun h => n5 (by rw [h5, h]; rfl)
  have n40 : x4.2 ≠ none := by rw [← hp0]; exact none_up (fun i h => by rw [hps, h]; exact hpd) pn 0 (by omega) n4
  have n3 : x3.2 ≠ none := fun h => n40 (by rw [h4, h]; rfl)
  have n2 : x2.2 ≠ none := fun h => n3 (by rw [h3, h]; rfl)
  have n1 : x1.2 ≠ none := fun h => n2 (by rw [h2, h]; rfl)
  obtain ⟨y1, e1⟩ := some_of n1
  obtain ⟨y2, e2⟩ := some_of n2
  obtain ⟨y3, e3⟩ := some_of n3
  obtain ⟨y4, e4⟩ := some_of n40
  obtain ⟨y5, e5⟩ := some_of n4
  obtain ⟨y6, e6⟩ := some_of n5
  obtain ⟨a1, b1, c1⟩ := numM_laid (M := M) hb (by rw [← h1]; exact e1)
  rw [← h1] at a1 c1
  rw [e1] at h2
  obtain ⟨a2, b2, c2⟩ := numM_laid (M := M) b1 (by rw [← h2]; exact e2)
  rw [← h2] at a2 c2
  rw [e2] at h3
  obtain ⟨a3, b3, c3⟩ := numM_laid (M := M) b2 (by rw [← h3]; exact e3)
  rw [← h3] at a3 c3
  rw [e3] at h4
  obtain ⟨a4, b4, c4⟩ := cntS_laid (M := 8) (by decide) b3 (by rw [← h4]; exact e4)
  rw [← h4] at a4 c4
  obtain ⟨a5, b5⟩ := rows_laid hpd hpl hps (by rw [hp0, e4]; exact b4) pn y5 e5
  rw [e5] at h5
  obtain ⟨a6, b6, c6⟩ := cntS_laid (M := 8) (by decide) b5 (by rw [← h5]; exact e6)
  rw [← h5] at a6 c6
  obtain ⟨a7, _⟩ := rows_laid hhd hhl hhs (by rw [hh0, e6]; exact b6) hn [] hend
  rw [hp0, e4] at a5
  rw [hh0, e6] at a7
  rw [Option.some.injEq] at a1 a2 a3 a4 a5 a6 a7
  simp only [laidS, laidA, laidK, z2, if_true, Nat.one_ne_zero, if_false, List.nil_append, laidPs_row, laidHs_row]
  rw [u64_pos c1.1 (by omega), u64_pos c2.1 (by omega), u64_pos c3.1 (by omega), u64_pos (v := (pn : Int)) (by omega) (by omega), u64_pos (v := (hn : Int)) (by omega) (by omega), show (pn : Int) = x4.1 from by omega, show (hn : Int) = x5.1 from by omega]
  rw [a1, a2, a3, a4, a5, a6, a7]
  simp only [List.append_assoc, List.append_nil]
theorem hdS_laid (q : Option (List Int)) (r : List Int) (hb : ByQ q) (h : (hdS q).2 = some r) : q = some (laidH (hdS q).1 ++ r) ∧ ByQ (some r) := by
  rw [hdS_M] at h ⊢
  exact hdM_laid (by decide) hb rfl h
theorem decS_laid {l : List Int} (hb : ByQ (some l)) (h : decQ l = some []) : laidS (decS l) = l :=
  state_laid (M := 9223372036854775807) (by decide) hb (d1 l) (d2 l) (d3 l) (d4 l) (d5 l) rfl rfl rfl rfl pyS hdS (stP (d4 l).2) (stH (d5 l).2) rfl (fun _ => rfl) rfl (fun q r hq hr => by rw [pyS_M] at hr ⊢; exact pyM_laid (by decide) hq hr) (d4 l).1.toNat (d5 l).1.toNat rfl rfl rfl (fun _ => rfl) rfl hdS_laid rfl h
/-- Holds that say the same. -/
def HA (a b : Hd) : Prop := a.id = b.id ∧ a.am = b.am ∧ a.n = b.n ∧ ∀ j, j < a.n → a.z j = b.z j
theorem lastP_congr {X Y : Nat → Py} {n : Nat} (h : ∀ j, j < n → X j = Y j) {j : Nat} (hj : j < n) : lastP X j = lastP Y j := by
  unfold lastP
  split
  · rfl
  · rw [h (j - 1) (by omega)]
theorem PsOk_congr {X Y : Nat → Py} {n : Nat} (h : ∀ j, j < n → X j = Y j) (hx : PsOk X n) : PsOk Y n := fun j hj => by
  have := hx j hj
  rw [lastP_congr h hj, h j hj] at this
  exact this
theorem KOk_congr {z y : Nat → Int} {n : Nat} (h : ∀ j, j < n → z j = y j) (hx : KOk z n) : KOk y n := fun j hj => by
  have h1 := hx j hj
  have e : lastK z j = lastK y j := by
    unfold lastK
    split
    · rfl
    · rw [h (j - 1) (by omega)]
  rw [e, h j hj] at h1
  exact h1
theorem HsOk_congr {X Y : Nat → Hd} {n : Nat} (h : ∀ j, j < n → HA (X j) (Y j)) (hx : HsOk X n) : HsOk Y n := fun j hj => by
  obtain ⟨h1, h2, h3, h4, h5⟩ := hx j hj
  obtain ⟨a, b, c, d⟩ := h j hj
  have e : lastH X j = lastH Y j := by
    unfold lastH
    split
    · rfl
    · rw [(h (j - 1) (by omega)).1]
  rw [e, a] at h1
  rw [a] at h2
  rw [b] at h3
  exact ⟨h1, h2, h3, c ▸ KOk_congr d h4, by rw [← c]; exact h5⟩
theorem sumP_congr {X Y : Nat → Py} : ∀ n, (∀ j, j < n → X j = Y j) → sumP X n = sumP Y n
  | 0, _ => rfl
  | n + 1, h => by rw [sumP, sumP, sumP_congr n (fun j hj => h j (by omega)), h n (by omega)]
theorem sumH_congr {X Y : Nat → Hd} : ∀ n, (∀ j, j < n → HA (X j) (Y j)) → sumH X n = sumH Y n
  | 0, _ => rfl
  | n + 1, h => by rw [sumH, sumH, sumH_congr n (fun j hj => h j (by omega)), (h n (by omega)).2.1]
theorem SOk_congr {s t : Sv} (h1 : s.nu = t.nu) (h2 : s.a = t.a) (h3 : s.b = t.b) (h4 : s.pn = t.pn) (h5 : ∀ j, j < s.pn → s.P j = t.P j) (h6 : s.hn = t.hn) (h7 : ∀ j, j < s.hn → HA (s.H j) (t.H j)) (h : SOk s) : SOk t := by
  obtain ⟨⟨a, b, c⟩, ⟨d, e, f⟩, g⟩ := h
  refine ⟨⟨h1 ▸ a, h2 ▸ b, h3 ▸ c⟩, ⟨by omega, h4 ▸ PsOk_congr h5 e, h6 ▸ HsOk_congr h7 f⟩, ?_⟩
  unfold tot at g ⊢
  rw [sumP_congr s.pn h5, sumH_congr s.hn h7, h4, h6, h2, h3] at g
  exact g
theorem laid_ok {l : List Int} (hb : ByQ (some l)) (h : decE l = 0) : laidS (decT l) = l := by
  unfold decE at h
  split at h
  · rename_i h1
    unfold decT
    rw [if_pos h1, decS_laid hb h1.1]
  · cases h
end Go.Proofs.YtnjkgpgbipcgcaaDoor
/- What a state is laid as is read back; what is read back is the state. -/
namespace Go.Proofs.YtnjkgpgbipcgcaaDoor
open Go.RowKit

theorem u_any {n : Nat} {z : Nat → Int} {m most : Int} (h0 : 0 ≤ m) (h1 : m ≤ 18446744073709551615) (hm : m ≤ most) (hp : Pre n z (uB m)) : uE n z most = 0 ∧ uV n z most = m ∧ uN n z most = (uB m).length := by
  obtain ⟨hE, hV, hN⟩ := u_back h0 h1 hp
  have hE2 : uE n z most = 0 := by
    rw [uV, if_pos hE] at hV
    unfold uE at hE ⊢
    split at hE
    · simp at hE
    · rename_i h2
      rw [if_neg h2]
      split at hE
      · simp at hE
      · rename_i h3
        rw [if_neg h3]
        split at hE
        · rename_i h4
          rw [if_pos h4, hV, if_neg (by omega)]
        · rename_i h4; exact absurd hE h4
  refine ⟨hE2, ?_, ?_⟩
  · rw [uV, if_pos hE] at hV; rw [uV, if_pos hE2, hV]
  · rw [uN, if_pos hE] at hN; rw [uN, if_pos hE2, hN]
theorem Pre.app (l t : List Int) : Pre (l ++ t).length (fn (l ++ t)) l := ⟨by simp, fun j hj => fn_append_left l t j hj⟩
theorem uintR_bk {m most : Int} (h0 : 0 ≤ m) (h1 : m ≤ 18446744073709551615) (hm : m ≤ most) (t : List Int) : uintR most (uB m ++ t) = some (m, t) := by
  obtain ⟨hE, hV, hN⟩ := u_any h0 h1 hm (Pre.app (uB m) t)
  unfold uintR
  rw [if_pos hE, hV, hN, List.drop_left]
theorem countR_bk {m most : Int} (h0 : 0 ≤ m) (h1 : m ≤ 18446744073709551615) (hm : m ≤ most) (t : List Int) (ht : m ≤ t.length) : countR most (uB m ++ t) = some (m, t) := by
  have hmx : max most 0 = most := by omega
  obtain ⟨hE, hV, hN⟩ := u_any (most := most) h0 h1 hm (Pre.app (uB m) t)
  have hE2 : cE (uB m ++ t).length (fn (uB m ++ t)) most = 0 := by
    unfold cE
    rw [hmx, if_pos hE, hN, hV, if_neg (by simp only [List.length_append]; omega)]
  unfold countR
  rw [if_pos hE2, cV, if_pos hE2, cN, if_pos hE2, hmx, hV, hN, List.drop_left]
theorem numS_bk {v : Int} (h0 : 0 ≤ v) (h1 : v ≤ 9223372036854775807) (t : List Int) : numS (some (uB (u64 v) ++ t)) = (v, some t) := by
  rw [u64_pos h0 h1]
  have := uintR_bk (most := 9223372036854775807) h0 (by omega) h1 t
  unfold numS
  simp only [tk, this]
theorem cntS_bk {m : Nat} {most : Int} (hm : (m : Int) ≤ most) (hm2 : (m : Int) ≤ 9223372036854775807) (t : List Int) (ht : m ≤ t.length) : cntS most (some (uB (u64 (m : Int)) ++ t)) = ((m : Int), some t) := by
  rw [u64_pos (by omega) hm2]
  have := countR_bk (m := (m : Int)) (most := most) (by omega) (by omega) hm t (by omega)
  unfold cntS
  simp only [tk, this]
theorem hshS_bk (z : Nat → Int) (t : List Int) : (hshS (some (hB z ++ t))).2 = some t := by
  have hl : (hB z).length = 32 := by simp [hB]
  unfold hshS
  simp only [tk, hashR]
  rw [if_neg (by simp only [List.length_append, hl]; omega)]
  show some (List.drop 32 (hB z ++ t)) = some t
  rw [← hl, List.drop_left]
theorem pyS_bk {y : Py} (h1 : 0 ≤ y.id) (k1 : y.id ≤ 9223372036854775807) (h2 : 0 ≤ y.fr) (k2 : y.fr ≤ 9223372036854775807) (h3 : 0 ≤ y.am) (k3 : y.am ≤ 9223372036854775807) (h4 : 0 ≤ y.af) (k4 : y.af ≤ 9223372036854775807) (t : List Int) : (pyS (some (laidP y ++ t))).2 = some t := by
  have e : laidP y ++ t = uB (u64 y.id) ++ (uB (u64 y.fr) ++ (uB (u64 y.am) ++ (uB (u64 y.af) ++ (hB y.lk ++ t)))) := by
    simp only [laidP, laidK, z4, Nat.reduceEqDiff, if_true, if_false, Nat.one_ne_zero, List.nil_append, List.append_assoc]
  rw [e]
  show (hshS (numS (numS (numS (numS _).2).2).2).2).2 = some t
  rw [numS_bk h1 k1, numS_bk h2 k2, numS_bk h3 k3, numS_bk h4 k4, hshS_bk]
theorem stN_bk (z : Nat → Int) : ∀ (n : Nat) (t : List Int), (∀ j, j < n → 0 ≤ z j ∧ z j ≤ 9223372036854775807) → stN (some (laidK z n ++ t)) n = some t
  | 0, t, _ => rfl
  | n + 1, t, h => by
    rw [stN, laidK, List.append_assoc, stN_bk z n _ (fun j hj => h j (by omega)), numS_bk (h n (by omega)).1 (h n (by omega)).2]
theorem uB_pos (n : Int) : 1 ≤ (uB n).length := by simp [uB]
theorem laidK_low (z : Nat → Int) : ∀ n, n ≤ (laidK z n).length
  | 0 => by simp
  | n + 1 => by
    have h1 := laidK_low z n
    have h2 := uB_pos (u64 (z n))
    simp only [laidK, List.length_append]
    omega
theorem rwL_low {f : Nat → List Int} (hf : ∀ i, 1 ≤ (f i).length) : ∀ n, n ≤ (rwL f n).length
  | 0 => by simp
  | n + 1 => by
    have h1 := rwL_low hf n
    have h2 := hf n
    simp only [rwL, List.length_append]
    omega
theorem laidP_pos (y : Py) : 1 ≤ (laidP y).length := by
  have := laidK_low (z4 y) 4
  simp only [laidP, List.length_append]
  omega
theorem laidH_pos (y : Hd) : 1 ≤ (laidH y).length := by
  have := laidK_low (z3 y) 3
  simp only [laidH, List.length_append]
  omega
theorem hdS_bk {y : Hd} (h1 : 0 ≤ y.id) (k1 : y.id ≤ 9223372036854775807) (h2 : 0 ≤ y.am) (k2 : y.am ≤ 9223372036854775807) (hn : y.n ≤ 16) (hz : ∀ j, j < y.n → 0 ≤ y.z j ∧ y.z j ≤ 9223372036854775807) (t : List Int) : (hdS (some (laidH y ++ t))).2 = some t := by
  have e : laidH y ++ t = uB (u64 y.id) ++ (uB (u64 y.am) ++ (uB (u64 (y.n : Int)) ++ (laidK y.z y.n ++ t))) := by
    simp only [laidH, laidK, z3, Nat.reduceEqDiff, if_true, if_false, Nat.one_ne_zero, List.nil_append, List.append_assoc]
  rw [e]
  have hl := laidK_low y.z y.n
  show stN (cntS 16 (numS (numS _).2).2).2 (cntS 16 (numS (numS _).2).2).1.toNat = some t
  rw [numS_bk h1 k1, numS_bk h2 k2, cntS_bk (by omega) (by omega) _ (by simp only [List.length_append]; omega)]
  exact stN_bk y.z y.n t hz
theorem rows_bk {X : Type} {g : Option (List Int) → X × Option (List Int)} {lay : Nat → List Int} {st : Option (List Int) → Nat → Option (List Int)} (h0 : ∀ q, st q 0 = q) (hs : ∀ q i, st q (i + 1) = (g (st q i)).2) : ∀ (n : Nat) (t : List Int), (∀ i r, i < n → (g (some (lay i ++ r))).2 = some r) → st (some (rwL lay n ++ t)) n = some t
  | 0, t, _ => by rw [h0]; rfl
  | n + 1, t, h => by rw [hs, rwL, List.append_assoc, rows_bk h0 hs n _ (fun i r hi => h i r (by omega)), h n t (by omega)]
theorem ps_pos {X : Nat → Py} {n : Nat} (h : PsOk X n) : ∀ j, j < n → 0 ≤ (X j).id
  | 0, hj => by have := (h 0 hj).1; simp [lastP] at this; omega
  | j + 1, hj => by have h1 := (h (j + 1) hj).1; rw [lastP_succ] at h1; have := ps_pos h j (by omega); omega
theorem hs_pos {X : Nat → Hd} {n : Nat} (h : HsOk X n) : ∀ j, j < n → 0 ≤ (X j).id
  | 0, hj => by have := (h 0 hj).1; simp [lastH] at this; omega
  | j + 1, hj => by have h1 := (h (j + 1) hj).1; rw [lastH_succ] at h1; have := hs_pos h j (by omega); omega
theorem ks_pos {z : Nat → Int} {n : Nat} (h : KOk z n) : ∀ j, j < n → (j : Int) ≤ z j
  | 0, hj => by have := (h 0 hj).1; simp [lastK] at this; omega
  | j + 1, hj => by have h1 := (h (j + 1) hj).1; rw [lastK_succ] at h1; have := ks_pos h j (by omega); omega
theorem ks_le {z : Nat → Int} {n : Nat} (h : KOk z n) : n ≤ 16 := by
  cases n with
  | zero => omega
  | succ n => have h1 := ks_pos h n (by omega); have h2 := (h n (by omega)).2; omega
theorem laidS_flat (s : Sv) : laidS s = uB (u64 s.nu) ++ (uB (u64 s.a) ++ (uB (u64 s.b) ++ (uB (u64 (s.pn : Int)) ++ (rwL (fun i => laidP (s.P i)) s.pn ++ (uB (u64 (s.hn : Int)) ++ (rwL (fun i => laidH (s.H i)) s.hn ++ [])))))) := by
  simp only [laidS, laidA, laidK, z2, if_true, Nat.one_ne_zero, if_false, List.nil_append, laidPs_row, laidHs_row, List.append_assoc, List.append_nil]
theorem decQ_ok {s : Sv} (h : SOk s) : decQ (laidS s) = some [] := by
  obtain ⟨⟨a, b, c⟩, ⟨d, e, f⟩, _⟩ := h
  have lp := rwL_low (f := fun i => laidP (s.P i)) (fun i => laidP_pos _) s.pn
  have lh := rwL_low (f := fun i => laidH (s.H i)) (fun i => laidH_pos _) s.hn
  have e1 : d1 (laidS s) = (s.nu, some (uB (u64 s.a) ++ (uB (u64 s.b) ++ (uB (u64 (s.pn : Int)) ++ (rwL (fun i => laidP (s.P i)) s.pn ++ (uB (u64 (s.hn : Int)) ++ (rwL (fun i => laidH (s.H i)) s.hn ++ []))))))) := by unfold d1; rw [laidS_flat]; exact numS_bk a.1 (by omega) _
  have e2 : d2 (laidS s) = (s.a, some (uB (u64 s.b) ++ (uB (u64 (s.pn : Int)) ++ (rwL (fun i => laidP (s.P i)) s.pn ++ (uB (u64 (s.hn : Int)) ++ (rwL (fun i => laidH (s.H i)) s.hn ++ [])))))) := by unfold d2; rw [e1]; exact numS_bk b.1 (by omega) _
  have e3 : d3 (laidS s) = (s.b, some (uB (u64 (s.pn : Int)) ++ (rwL (fun i => laidP (s.P i)) s.pn ++ (uB (u64 (s.hn : Int)) ++ (rwL (fun i => laidH (s.H i)) s.hn ++ []))))) := by unfold d3; rw [e2]; exact numS_bk c.1 (by omega) _
  have e4 : d4 (laidS s) = ((s.pn : Int), some (rwL (fun i => laidP (s.P i)) s.pn ++ (uB (u64 (s.hn : Int)) ++ (rwL (fun i => laidH (s.H i)) s.hn ++ [])))) := by unfold d4; rw [e3]; exact cntS_bk (by omega) (by omega) _ (by simp only [List.length_append]; omega)
  have ep : stP (d4 (laidS s)).2 (d4 (laidS s)).1.toNat = some (uB (u64 (s.hn : Int)) ++ (rwL (fun i => laidH (s.H i)) s.hn ++ [])) := by
    rw [e4]
    exact rows_bk (g := pyS) (st := stP) (fun _ => rfl) (fun _ _ => rfl) s.pn _ (fun i r hi => by
      obtain ⟨_, h1, h2, h3, h4, _⟩ := e i hi
      have h0 := ps_pos e i hi
      exact pyS_bk h0 (by omega) (by omega) (by omega) (by omega) (by omega) (by omega) (by omega) r)
  have e5 : d5 (laidS s) = ((s.hn : Int), some (rwL (fun i => laidH (s.H i)) s.hn ++ [])) := by unfold d5; rw [ep]; exact cntS_bk (by omega) (by omega) _ (by simp only [List.length_append]; omega)
  unfold decQ
  rw [e5]
  exact rows_bk (g := hdS) (st := stH) (fun _ => rfl) (fun _ _ => rfl) s.hn _ (fun i r hi => by
    obtain ⟨_, h1, h2, h3, h4⟩ := f i hi
    have h0 := hs_pos f i hi
    exact hdS_bk h0 (by omega) (by omega) (by omega) (ks_le h3) (fun j hj => by have := ks_pos h3 j hj; have := (h3 j hj).2; omega) r)
/-- What is laid alike is alike. -/
theorem uB_inj {a b : Int} {r t : List Int} (ha : 0 ≤ a ∧ a ≤ 18446744073709551615) (hb : 0 ≤ b ∧ b ≤ 18446744073709551615) (h : uB a ++ r = uB b ++ t) : a = b ∧ r = t := by
  have h1 := uintR_bk (most := 18446744073709551615) ha.1 ha.2 ha.2 r
  have h2 := uintR_bk (most := 18446744073709551615) hb.1 hb.2 hb.2 t
  rw [h, h2] at h1
  cases h1
  exact ⟨rfl, rfl⟩
theorem u64_inj {a b : Int} (ha : Ib a) (hb : Ib b) (h : u64 a = u64 b) : a = b := by
  unfold u64 at h
  simp [IntKind.wrap, IntKind.bits, IntKind.signed] at h
  obtain ⟨h1, h2⟩ := ha
  obtain ⟨h3, h4⟩ := hb
  omega
theorem num_inj {a b : Int} {r t : List Int} (ha : Ib a) (hb : Ib b) (h : uB (u64 a) ++ r = uB (u64 b) ++ t) : a = b ∧ r = t := by
  obtain ⟨h1, h2⟩ := uB_inj (u64_bd a) (u64_bd b) h
  exact ⟨u64_inj ha hb h1, h2⟩
theorem laidK_inj {z y : Nat → Int} : ∀ (n : Nat) (r t : List Int), (∀ j, j < n → Ib (z j) ∧ Ib (y j)) → laidK z n ++ r = laidK y n ++ t → (∀ j, j < n → z j = y j) ∧ r = t
  | 0, r, t, _, h => ⟨fun j hj => by omega, h⟩
  | n + 1, r, t, hb, h => by
    rw [laidK, laidK, List.append_assoc, List.append_assoc] at h
    obtain ⟨h1, h2⟩ := laidK_inj n _ _ (fun j hj => hb j (by omega)) h
    obtain ⟨h3, h4⟩ := num_inj (hb n (by omega)).1 (hb n (by omega)).2 h2
    refine ⟨fun j hj => ?_, h4⟩
    by_cases e : j = n
    · rw [e]; exact h3
    · exact h1 j (by omega)
theorem hB_inj {z y : Nat → Int} {r t : List Int} (h : hB z ++ r = hB y ++ t) : (∀ j, j < 32 → z j = y j) ∧ r = t := by
  obtain ⟨h1, h2⟩ := List.append_inj h (by simp [hB])
  refine ⟨fun j hj => ?_, h2⟩
  have := congrArg (fun l => l[j]?) h1
  simpa [hB, hj] using this
/-- Payments that say the same. -/
def PA (a b : Py) : Prop := a.id = b.id ∧ a.fr = b.fr ∧ a.am = b.am ∧ a.af = b.af ∧ ∀ j, j < 32 → a.lk j = b.lk j
def Py.Ib (a : Py) : Prop := Go.Proofs.YtnjkgpgbipcgcaaDoor.Ib a.id ∧ Go.Proofs.YtnjkgpgbipcgcaaDoor.Ib a.fr ∧ Go.Proofs.YtnjkgpgbipcgcaaDoor.Ib a.am ∧ Go.Proofs.YtnjkgpgbipcgcaaDoor.Ib a.af
def Hd.Ib (a : Hd) : Prop := Go.Proofs.YtnjkgpgbipcgcaaDoor.Ib a.id ∧ Go.Proofs.YtnjkgpgbipcgcaaDoor.Ib a.am ∧ a.n ≤ 9223372036854775807 ∧ ∀ j, j < a.n → Go.Proofs.YtnjkgpgbipcgcaaDoor.Ib (a.z j)
theorem laidP_inj {x y : Py} {r t : List Int} (hx : x.Ib) (hy : y.Ib) (h : laidP x ++ r = laidP y ++ t) : PA x y ∧ r = t := by
  simp only [laidP, laidK, z4, Nat.reduceEqDiff, if_true, if_false, Nat.one_ne_zero, List.nil_append, List.append_assoc] at h
  obtain ⟨a1, a2, a3, a4⟩ := hx
  obtain ⟨b1, b2, b3, b4⟩ := hy
  obtain ⟨c1, h⟩ := num_inj a1 b1 h
  obtain ⟨c2, h⟩ := num_inj a2 b2 h
  obtain ⟨c3, h⟩ := num_inj a3 b3 h
  obtain ⟨c4, h⟩ := num_inj a4 b4 h
  obtain ⟨c5, h⟩ := hB_inj h
  exact ⟨⟨c1, c2, c3, c4, c5⟩, h⟩
theorem ib_nat {n : Nat} (h : n ≤ 9223372036854775807) : Ib (n : Int) := ⟨by omega, by omega⟩
theorem laidH_inj {x y : Hd} {r t : List Int} (hx : x.Ib) (hy : y.Ib) (h : laidH x ++ r = laidH y ++ t) : HA x y ∧ r = t := by
  simp only [laidH, laidK, z3, Nat.reduceEqDiff, if_true, if_false, Nat.one_ne_zero, List.nil_append, List.append_assoc] at h
  obtain ⟨a1, a2, a3, a4⟩ := hx
  obtain ⟨b1, b2, b3, b4⟩ := hy
  obtain ⟨c1, h⟩ := num_inj a1 b1 h
  obtain ⟨c2, h⟩ := num_inj a2 b2 h
  obtain ⟨c3, h⟩ := num_inj (ib_nat a3) (ib_nat b3) h
  have c3' : x.n = y.n := by omega
  rw [← c3'] at h b4
  obtain ⟨c4, h⟩ := laidK_inj x.n _ _ (fun j hj => ⟨a4 j hj, b4 j hj⟩) h
  exact ⟨⟨c1, c2, c3', c4⟩, h⟩
theorem rwL_inj {f g : Nat → List Int} {R : Nat → Prop} : ∀ (n : Nat) (r t : List Int), (∀ i r t, i < n → f i ++ r = g i ++ t → R i ∧ r = t) → rwL f n ++ r = rwL g n ++ t → (∀ i, i < n → R i) ∧ r = t
  | 0, r, t, _, h => ⟨fun j hj => by omega, h⟩
  | n + 1, r, t, hb, h => by
    rw [rwL, rwL, List.append_assoc, List.append_assoc] at h
    obtain ⟨h1, h2⟩ := rwL_inj n _ _ (fun i r t hi => hb i r t (by omega)) h
    obtain ⟨h3, h4⟩ := hb n _ _ (by omega) h2
    refine ⟨fun j hj => ?_, h4⟩
    by_cases e : j = n
    · rw [e]; exact h3
    · exact h1 j (by omega)
/-- All of a state's numbers are ints. -/
structure Sv.Ints (s : Sv) : Prop where
  nu : Ib s.nu
  a : Ib s.a
  b : Ib s.b
  pn : s.pn ≤ 9223372036854775807
  hn : s.hn ≤ 9223372036854775807
  py : ∀ i, i < s.pn → (s.P i).Ib
  hd : ∀ i, i < s.hn → (s.H i).Ib
theorem laidS_inj {s t : Sv} (hs : s.Ints) (ht : t.Ints) (h : laidS s = laidS t) : s.nu = t.nu ∧ s.a = t.a ∧ s.b = t.b ∧ s.pn = t.pn ∧ (∀ j, j < s.pn → PA (s.P j) (t.P j)) ∧ s.hn = t.hn ∧ ∀ j, j < s.hn → HA (s.H j) (t.H j) := by
  rw [laidS_flat, laidS_flat] at h
  obtain ⟨c1, h⟩ := num_inj hs.nu ht.nu h
  obtain ⟨c2, h⟩ := num_inj hs.a ht.a h
  obtain ⟨c3, h⟩ := num_inj hs.b ht.b h
  obtain ⟨c4, h⟩ := num_inj (ib_nat hs.pn) (ib_nat ht.pn) h
  have c4' : s.pn = t.pn := by omega
  have hp := ht.py
  rw [← c4'] at h hp
  obtain ⟨c5, h⟩ := rwL_inj s.pn _ _ (fun i r t hi h => laidP_inj (hs.py i hi) (hp i hi) h) h
  obtain ⟨c6, h⟩ := num_inj (ib_nat hs.hn) (ib_nat ht.hn) h
  have c6' : s.hn = t.hn := by omega
  have hh := ht.hd
  rw [← c6'] at h hh
  obtain ⟨c7, h⟩ := rwL_inj s.hn _ _ (fun i r t hi h => laidH_inj (hs.hd i hi) (hh i hi) h) h
  exact ⟨c1, c2, c3, c4', c5, c6', c7⟩
theorem hq_congr {z y : Nat → Int} (h : ∀ j, j < 32 → z j = y j) : hq z nz = hq y nz := by
  unfold hq
  have : ub z = ub y := by
    unfold ub
    apply List.map_congr_left
    intro j hj
    rw [h j (List.mem_range.1 hj)]
  rw [this]
theorem SOk_alike {s t : Sv} (h1 : s.nu = t.nu) (h2 : s.a = t.a) (h3 : s.b = t.b) (h4 : s.pn = t.pn) (h5 : ∀ j, j < s.pn → PA (s.P j) (t.P j)) (h6 : s.hn = t.hn) (h7 : ∀ j, j < s.hn → HA (s.H j) (t.H j)) (h : SOk s) : SOk t := by
  refine SOk_congr (s := { s with P := fun i => { t.P i with lk := (t.P i).lk } }) h1 h2 h3 h4 (fun j hj => rfl) h6 h7 ?_
  obtain ⟨a, ⟨d, e, f⟩, g⟩ := h
  refine ⟨a, ⟨d, fun j hj => ?_, f⟩, ?_⟩
  · obtain ⟨k1, k2, k3, k4, k5⟩ := h5 j hj
    obtain ⟨l1, l2, l3, l4, l5, l6⟩ := e j hj
    have el : lastP (fun i => { t.P i with lk := (t.P i).lk }) j = lastP s.P j := by
      unfold lastP
      split
      · rfl
      · exact (h5 (j - 1) (by have : j < s.pn := hj; omega)).1.symm
    refine ⟨?_, ?_, ?_, ?_, ?_, ?_⟩
    · rw [el]; show _ < (t.P j).id; rw [← k1]; exact l1
    · show (t.P j).id ≤ _; rw [← k1]; exact l2
    · show (t.P j).fr = 0 ∨ (t.P j).fr = 1; rw [← k2]; exact l3
    · show 10 ≤ (t.P j).am ∧ (t.P j).am ≤ _; rw [← k3]; exact l4
    · show 0 ≤ (t.P j).af ∧ (t.P j).af ≤ _; rw [← k4]; exact l5
    · show hq (t.P j).lk nz = false; rw [← hq_congr k5]; exact l6
  · have es : sumP (fun i => { t.P i with lk := (t.P i).lk }) s.pn = sumP s.P s.pn := by
      have : ∀ n, n ≤ s.pn → sumP (fun i => { t.P i with lk := (t.P i).lk }) n = sumP s.P n := by
        intro n
        induction n with
        | zero => intro _; rfl
        | succ n ih => intro hn; rw [sumP, sumP, ih (by omega), (h5 n (by omega)).2.2.1]
      exact this s.pn (Nat.le_refl _)
    unfold tot at g ⊢
    dsimp only
    rw [es]
    exact g
theorem byq_drop {l : List Int} (k : Nat) (h : ByQ (some l)) : ByQ (some (l.drop k)) := by
  rintro l' hl j hj
  cases hl
  rw [fn_drop]
  rw [List.length_drop] at hj
  exact h l rfl (j + k) (by omega)
theorem byq_none : ByQ none := fun l h => by cases h
theorem byq_num {q : Option (List Int)} (h : ByQ q) : ByQ (numS q).2 := by
  cases q with
  | none => exact byq_none
  | some l =>
    unfold numS
    simp only [tk, uintR]
    by_cases hE : uE l.length (fn l) 9223372036854775807 = 0
    · rw [if_pos hE]; exact byq_drop _ h
    · rw [if_neg hE]; exact byq_none
theorem byq_cnt {M : Int} {q : Option (List Int)} (h : ByQ q) : ByQ (cntS M q).2 := by
  cases q with
  | none => exact byq_none
  | some l =>
    unfold cntS
    simp only [tk, countR]
    by_cases hE : cE l.length (fn l) M = 0
    · rw [if_pos hE]; exact byq_drop _ h
    · rw [if_neg hE]; exact byq_none
theorem byq_hsh {q : Option (List Int)} (h : ByQ q) : ByQ (hshS q).2 := by
  cases q with
  | none => exact byq_none
  | some l =>
    unfold hshS
    simp only [tk, hashR]
    by_cases hE : l.length < 32
    · rw [if_pos hE]; exact byq_none
    · rw [if_neg hE]; exact byq_drop _ h
theorem byq_stN {q : Option (List Int)} (h : ByQ q) : ∀ n, ByQ (stN q n)
  | 0 => h
  | n + 1 => byq_num (byq_stN h n)
theorem byq_py {q : Option (List Int)} (h : ByQ q) : ByQ (pyS q).2 := byq_hsh (byq_num (byq_num (byq_num (byq_num h))))
theorem byq_hd {q : Option (List Int)} (h : ByQ q) : ByQ (hdS q).2 := byq_stN (byq_cnt (byq_num (byq_num h))) _
theorem byq_stP {q : Option (List Int)} (h : ByQ q) : ∀ n, ByQ (stP q n)
  | 0 => h
  | n + 1 => byq_py (byq_stP h n)
theorem byq_stH {q : Option (List Int)} (h : ByQ q) : ∀ n, ByQ (stH q n)
  | 0 => h
  | n + 1 => byq_hd (byq_stH h n)
theorem ib_num {q : Option (List Int)} (h : ByQ q) : Ib (numS q).1 := ⟨by have := numS_bd h; omega, (numS_bd h).2⟩
theorem decS_ints {l : List Int} (hb : ByQ (some l)) : (decS l).Ints := by
  have b1 : ByQ (d1 l).2 := byq_num hb
  have b2 : ByQ (d2 l).2 := byq_num b1
  have b3 : ByQ (d3 l).2 := byq_num b2
  have b4 : ByQ (d4 l).2 := byq_cnt b3
  have b5 : ByQ (d5 l).2 := byq_cnt (byq_stP b4 _)
  have hp := decS_pn l
  have hh := decS_hn l
  refine ⟨ib_num hb, ib_num b1, ib_num b2, by omega, by omega, fun i _ => ?_, fun i _ => ?_⟩
  · have c := byq_stP b4 i
    exact ⟨ib_num c, ib_num (byq_num c), ib_num (byq_num (byq_num c)), ib_num (byq_num (byq_num (byq_num c)))⟩
  · have c := byq_stH b5 i
    refine ⟨ib_num c, ib_num (byq_num c), ?_, fun j _ => ib_num (byq_stN (byq_cnt (byq_num (byq_num c))) j)⟩
    have : ((decS l).H i).n ≤ 16 := hdS_n _
    omega
theorem back_ok {s : Sv} (hi : s.Ints) (hb : ByQ (some (laidS s))) : decOk (laidS s) ↔ SOk s := by
  have key : decQ (laidS s) = some [] → (SOk (decS (laidS s)) ↔ SOk s) := fun hq => by
    obtain ⟨c1, c2, c3, c4, c5, c6, c7⟩ := laidS_inj (decS_ints hb) hi (decS_laid hb hq)
    refine ⟨SOk_alike c1 c2 c3 c4 c5 c6 c7, SOk_alike c1.symm c2.symm c3.symm c4.symm (fun j hj => ?_) c6.symm (fun j hj => ?_)⟩
    · obtain ⟨a, b, c, d, e⟩ := c5 j (by omega)
      exact ⟨a.symm, b.symm, c.symm, d.symm, fun k hk => (e k hk).symm⟩
    · obtain ⟨a, b, c, d⟩ := c7 j (by omega)
      exact ⟨a.symm, b.symm, c.symm, fun k hk => (d k (by omega)).symm⟩
  exact ⟨fun h => (key h.1).1 h.2, fun h => ⟨decQ_ok h, (key (decQ_ok h)).2 h⟩⟩
end Go.Proofs.YtnjkgpgbipcgcaaDoor
