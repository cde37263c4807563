/- StateUndo: what is there and back. -/
import Derived.Test.YtbeenjlojmmhfaaVFail
namespace Go.Proofs.Ytbeenjlojmmhfaa

theorem ps_srt {P : Nat → Py} {n : Nat} (h : PsOk P n) : Srt (fun j => (P j).id) n := by
  intro a b hab hb
  dsimp only
  induction b with
  | zero => omega
  | succ b ih =>
    have h1 := (h (b + 1) hb).1
    rw [lastP_succ] at h1
    by_cases e : a = b
    · subst e; exact h1
    · have := ih (by omega) (by omega)
      omega
theorem ps_ins {P : Nat → Py} {n i : Nat} {y : Py} (h : PsOk P n) (hy : PsOk (fun _ => y) 1) (hF : FndR (fun j => (P j).id) n y.id i false) : PsOk (insY P i y) (n + 1) := by
  have hs := ps_srt h
  have hlo := hF.lo hs
  have hhi := hF.hi hs
  have hle := hF.le
  have hno : ¬ (i < n ∧ (P i).id = y.id) := of_decide_eq_false hF.hit.symm
  have hy0 := hy 0 (by omega)
  have hym : -1 < y.id := hy0.1
  intro j hj
  by_cases h1 : j < i
  · have e1 : insY P i y j = P j := by simp [insY, h1]
    have e2 : lastP (insY P i y) j = lastP P j := by
      unfold lastP
      split
      · rfl
      · simp [insY, show j - 1 < i by omega]
    rw [e1, e2]
    exact h j (by omega)
  · by_cases h2 : j = i
    · subst h2
      have e1 : insY P j y j = y := by simp [insY]
      rw [e1]
      refine ⟨?_, hy0.2⟩
      unfold lastP
      split
      · exact hym
      · rw [show insY P j y (j - 1) = P (j - 1) by simp [insY, show j - 1 < j by omega]]
        exact hlo (j - 1) (by omega)
    · have e1 : insY P i y j = P (j - 1) := by simp [insY, h1, h2]
      rw [e1]
      have hj1 := h (j - 1) (by omega)
      refine ⟨?_, hj1.2⟩
      unfold lastP
      rw [if_neg (by omega)]
      by_cases h3 : j - 1 = i
      · rw [h3, show insY P i y i = y by simp [insY]]
        have := hhi i (by omega) (by omega)
        (try dsimp only at this)
        have : (P i).id ≠ y.id := fun e => hno ⟨by omega, e⟩
        omega
      · rw [show insY P i y (j - 1) = P (j - 1 - 1) by simp [insY, show ¬ j - 1 < i by omega, h3]]
        have := hs (j - 1 - 1) (j - 1) (by omega) (by omega)
        exact this
theorem sumP_congr {P Q : Nat → Py} : ∀ n, (∀ j, j < n → P j = Q j) → sumP P n = sumP Q n
  | 0, _ => rfl
  | n + 1, h => by rw [sumP, sumP, sumP_congr n (fun j hj => h j (by omega)), h n (by omega)]
theorem sumP_ins (P : Nat → Py) (i : Nat) (y : Py) : ∀ m, sumP (insY P i y) (i + m + 1) = sumP P (i + m) + y.am
  | 0 => by
    show sumP (insY P i y) i + (insY P i y i).am = sumP P i + y.am
    rw [sumP_congr i (Q := P) (fun j hj => by simp [insY, hj]), show insY P i y i = y by simp [insY]]
  | m + 1 => by
    show sumP (insY P i y) (i + m + 1) + (insY P i y (i + m + 1)).am = sumP P (i + m) + (P (i + m)).am + y.am
    rw [sumP_ins P i y m, show insY P i y (i + m + 1) = P (i + m) by simp [insY, show ¬ i + m + 1 < i by omega, show ¬ i + m + 1 = i by omega]]
    omega
/-- A state with a payment more may be. -/
theorem add_rgt {s : Sv} {y : Py} {i : Nat} {th : Bool} (hF : FndR (fun j => (s.P j).id) s.pn y.id i th) (he : addE s y th = 0) (hu : s.nu ≤ 549755813888) : Rgt (addY (asideS s y.fr y.am) i y) ∧ (y.fr = 0 ∨ y.fr = 1) := by
  obtain ⟨hr, hf, hn, hcan, rfl, h8, hh⟩ := asideE_ok he
  have hy : PsOk (fun _ => y) 1 := of_decide_eq_true hcan
  have hps := ps_ins hr.1.2.1.2.1 hy hF
  obtain ⟨g1, g2, g3⟩ := hr.1.1
  have h2 := hr.1.2
  obtain ⟨m, hm⟩ : ∃ m, s.pn = i + m := ⟨s.pn - i, by have := hF.le; omega⟩
  have hsum : sumP (insY s.P i y) (s.pn + 1) = sumP s.P s.pn + y.am := by rw [hm]; exact sumP_ins s.P i y m
  have ha : 10 ≤ y.am ∧ y.am ≤ 1125899906842624 := (hy 0 (by omega)).2.2.2.1
  have ht := h2.2
  unfold tot at ht
  unfold has at hh
  refine ⟨?_, hf⟩
  rcases hf with hf | hf
  · rw [if_pos hf] at hh
    have e : addY (asideS s y.fr y.am) i y = addY (giv s (-y.am) 0) i y := by rw [asideS, if_pos hf]
    rw [e]
    refine ⟨⟨⟨?_, ?_, ?_⟩, ⟨?_, hps, h2.1.2.2⟩, ?_⟩, ?_⟩
    · show 0 ≤ s.nu + 1 ∧ s.nu + 1 ≤ _; omega
    · show 0 ≤ s.a + -y.am ∧ s.a + -y.am ≤ _; omega
    · show 0 ≤ s.b + 0 ∧ s.b + 0 ≤ _; omega
    · show s.pn + 1 + s.hn ≤ 8; omega
    · show s.a + -y.am + (s.b + 0) + sumP (insY s.P i y) (s.pn + 1) + sumH s.H s.hn ≤ _; omega
    · show s.nu + 1 < _; omega
  · rw [if_neg (by omega)] at hh
    have e : addY (asideS s y.fr y.am) i y = addY (giv s 0 (-y.am)) i y := by rw [asideS, if_neg (by omega)]
    rw [e]
    refine ⟨⟨⟨?_, ?_, ?_⟩, ⟨?_, hps, h2.1.2.2⟩, ?_⟩, ?_⟩
    · show 0 ≤ s.nu + 1 ∧ s.nu + 1 ≤ _; omega
    · show 0 ≤ s.a + 0 ∧ s.a + 0 ≤ _; omega
    · show 0 ≤ s.b + -y.am ∧ s.b + -y.am ≤ _; omega
    · show s.pn + 1 + s.hn ≤ 8; omega
    · show s.a + 0 + (s.b + -y.am) + sumP (insY s.P i y) (s.pn + 1) + sumH s.H s.hn ≤ _; omega
    · show s.nu + 1 < _; omega
/-- It is found there again. -/
theorem fnd_ins {P : Nat → Py} {n i k : Nat} {y : Py} {b : Bool} (h : PsOk (insY P i y) (n + 1)) (hi : i ≤ n) (hF : FndR (fun j => (insY P i y j).id) (n + 1) y.id k b) : k = i ∧ b = true := by
  have hs := ps_srt h
  have ei : (insY P i y i).id = y.id := by simp [insY]
  have hk : k = i := by
    rcases Nat.lt_trichotomy k i with h1 | h1 | h1
    · have h2 := hF.hi hs k (by omega) (by omega)
      have h3 := hs k i h1 (by omega)
      (try dsimp only at h2 h3)
      omega
    · exact h1
    · have h2 := hF.lo hs i h1
      (try dsimp only at h2)
      omega
  subst hk
  exact ⟨rfl, by rw [hF.hit]; exact decide_eq_true ⟨by omega, ei⟩⟩
/-- Laid and given back. -/
theorem bak_add {s : Sv} {y : Py} {i : Nat} (hf : y.fr = 0 ∨ y.fr = 1) : (bakY (addY (asideS s y.fr y.am) i y) i).a = s.a ∧ (bakY (addY (asideS s y.fr y.am) i y) i).b = s.b ∧ (bakY (addY (asideS s y.fr y.am) i y) i).pn = s.pn := by
  have eP : (addY (asideS s y.fr y.am) i y).P i = y := by simp [addY, insY]
  have epn := (asideS_rows s y.fr y.am).1
  unfold bakY
  rw [eP]
  rcases hf with hf | hf
  · rw [if_pos hf]
    refine ⟨?_, ?_, ?_⟩
    · show (asideS s y.fr y.am).a + y.am = s.a
      rw [asideS, if_pos hf]; show s.a + -y.am + y.am = s.a; omega
    · show (asideS s y.fr y.am).b = s.b
      rw [asideS, if_pos hf]; show s.b + 0 = s.b; omega
    · show (asideS s y.fr y.am).pn + 1 - 1 = s.pn
      rw [epn]; omega
  · rw [if_neg (by omega)]
    refine ⟨?_, ?_, ?_⟩
    · show (asideS s y.fr y.am).a = s.a
      rw [asideS, if_neg (by omega)]; show s.a + 0 = s.a; omega
    · show (asideS s y.fr y.am).b + y.am = s.b
      rw [asideS, if_neg (by omega)]; show s.b + -y.am + y.am = s.b; omega
    · show (asideS s y.fr y.am).pn + 1 - 1 = s.pn
      rw [epn]; omega
theorem givU_ok {s : Sv} (h : Rgt s) (hu : s.nu ≤ 549755813888) {x : Int} (hx : 0 ≤ s.a + x) (hy : 0 ≤ s.b - x) : Rgt (giv s x (-x)) := by
  obtain ⟨g1, g2, g3⟩ := h.1.1
  have h2 := h.1.2
  have p1 := (sumP_bd s.P s.pn h2.1.2.1).1
  have p2 := (sumH_bd s.H s.hn h2.1.2.2).1
  have ht := h2.2
  unfold tot at ht
  refine ⟨⟨⟨?_, ?_, ?_⟩, h2.1, ?_⟩, ?_⟩
  · show 0 ≤ s.nu + 1 ∧ s.nu + 1 ≤ _; omega
  · show 0 ≤ s.a + x ∧ s.a + x ≤ _; omega
  · show 0 ≤ s.b + -x ∧ s.b + -x ≤ _; omega
  · show s.a + x + (s.b + -x) + sumP s.P s.pn + sumH s.H s.hn ≤ _; omega
  · show s.nu + 1 < _; omega
/-- There and back. -/
theorem move_back {s : Sv} {f n : Int} (hu : s.nu ≤ 549755813888) (h : (moveF s f n).2 = 0) : (moveF (moveF s f n).1 (1 - f) n).2 = 0 ∧ (moveF (moveF s f n).1 (1 - f) n).1.a = s.a ∧ (moveF (moveF s f n).1 (1 - f) n).1.b = s.b ∧ (f = 0 ∨ f = 1) := by
  by_cases hr : Rgt s
  · by_cases hf : Side f
    · by_cases hn : n < 1
      · simp [moveF, hr, hf, hn] at h
      · by_cases hh : has s f < n
        · simp [moveF, hr, hf, hn, hh] at h
        · have e : (moveF s f n).1 = if f = 0 then giv s (-n) n else giv s n (-n) := by simp [moveF, hr, hf, hn, hh]
          have hb := hr.1.1.2
          rw [e]
          unfold has at hh
          rcases hf with rfl | rfl
          · simp only [if_true] at hh ⊢
            have hr2 : Rgt (giv s (-n) n) := by
              have := givU_ok hr hu (x := -n) (by omega) (by omega)
              rwa [Int.neg_neg] at this
            have hh2 : ¬ has (giv s (-n) n) 1 < n := by simp only [has, show ¬ ((1 : Int) = 0) by omega, if_false]; show ¬ s.b + n < n; omega
            have e2 : moveF (giv s (-n) n) (1 - 0) n = (giv (giv s (-n) n) n (-n), 0) := by simp [moveF, hr2, Side, hn, hh2]
            rw [e2]
            exact ⟨rfl, by show s.a + -n + n = s.a; omega, by show s.b + n + -n = s.b; omega, by simp⟩
          · simp only [show ¬ ((1 : Int) = 0) by omega, if_false] at hh ⊢
            have hr2 : Rgt (giv s n (-n)) := givU_ok hr hu (by omega) (by omega)
            have hh2 : ¬ has (giv s n (-n)) 0 < n := by simp only [has, if_true]; show ¬ s.a + n < n; omega
            have e2 : moveF (giv s n (-n)) (1 - 1) n = (giv (giv s n (-n)) (-n) n, 0) := by simp [moveF, hr2, Side, hn, hh2]
            rw [e2]
            exact ⟨rfl, by show s.a + n + -n = s.a; omega, by show s.b + -n + n = s.b; omega, by simp⟩
    · simp [moveF, hr, hf] at h
  · simp [moveF, hr] at h
theorem moveF_smallU {s : Sv} (h : s.Small) (f n : Int) : (moveF s f n).1.Small := by
  unfold moveF
  split
  · exact sv0_small
  · split
    · exact sv0_small
    · split
      · exact sv0_small
      · split
        · exact sv0_small
        · show (if f = 0 then giv s (-n) n else giv s n (-n)).Small
          split
          · exact ⟨h.n, h.k⟩
          · exact ⟨h.n, h.k⟩
theorem addY_small {s : Sv} {y : Py} {i : Nat} (h : Rgt (addY (asideS s y.fr y.am) i y)) (hs : s.Small) : (addY (asideS s y.fr y.am) i y).Small := by
  have h8 := h.1.2.1.1
  refine ⟨by omega, fun j hj => ?_⟩
  obtain ⟨_, _, e3, e4⟩ := asideS_rows s y.fr y.am
  have hj' : j < s.hn := by rw [← e3]; exact hj
  show ((asideS s y.fr y.am).H j).n ≤ 300
  rw [e4]
  exact hs.k j hj'
end Go.Proofs.Ytbeenjlojmmhfaa
