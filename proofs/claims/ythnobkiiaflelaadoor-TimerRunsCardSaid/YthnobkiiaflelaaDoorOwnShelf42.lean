/- sort.partialInsertionSort_func, whatever the less lays. -/
import Derived.Test.YthnobkiiaflelaaDoorOwnShelf40
namespace Go.Proofs.YthnobkiiaflelaaDoor
open Go.RowKit Go.Maps Go.Sort

attribute [local go_sem ↓] Go.wp_at_zero Go.wp_at_succ

/-- None from a on, up to b, is ahead of the one before a. -/
def LowR (a b : Nat) (d : Nat → Ev) : Prop := 0 < a → ∀ k, a ≤ k → k < b → ltE (d k) (d (a - 1)) = false
theorem LowR.perm {a b : Nat} {d d' : Nat → Ev} (h : LowR a b d) (hp : PermR a b d d') : LowR a b d' := fun h0 => by
  have e : d' (a - 1) = d (a - 1) := hp.out _ (by omega)
  rw [e]
  exact hp.all (p := fun x => ltE x (d (a - 1)) = false) (h h0)
theorem sort_next {a i : Nat} {d : Nat → Ev} (h : SortR a i d) (ha : a < i) (hl : ltE (d i) (d (i - 1)) = false) : SortR a (i + 1) d := fun p q h1 h2 h3 => by
  by_cases e : q = i
  · subst e
    by_cases e2 : p = q - 1
    · rw [e2]; exact hl
    · exact ltE_tr (h p (q - 1) h1 (by omega) (by omega)) hl
  · exact h p q h1 h2 (by omega)
/-- What it answers. -/
structure PiR {g : Nat} {lb : Array Value} {sf : Nat} {sb : Array Value} {n : Nat} (S : SrC g lb sf sb n) (a b : Nat) (d : Nat → Ev) (w : World) (e : Ending) (w' : World) : Prop where
  mk :: (out : ∃ (r : Bool) (d' : Nat → Ev), e = .returned (.bool r) ∧ S.at_ w' d' ∧ PermR a b d d' ∧ (r = true → SortR a b d') ∧ Fr (fun k => k = S.blk) w w')
set_option maxRecDepth 100000 in
set_option maxHeartbeats 6400000 in
theorem partial_any {g : Nat} {lb : Array Value} {sf : Nat} {sb : Array Value} {n : Nat} (S : SrC g lb sf sb n) (a b : Nat) (d : Nat → Ev) (w : World) (h : S.at_ w d) (hab : a + 1 ≤ b) (hb : b ≤ n) (hlow : LowR a b d) :
    Calls Tryd.prog 57 #[lsV g lb sf sb, .int .i64 (a : Int), .int .i64 (b : Int)] w (PiR S a b d w) := by
  have hfew := S.few
  have heg := S.eg
  have H0 : Hid (SrI S w (w.alloc (.cells #[.func (.func g) #[] lb, .func (.func sf) #[] sb] 101)) w.heap.size d) := SrI.start h
  have HLOW : Hid (LowR a b d) := hlow
  clear h hlow
  unfold lsV
  go_enter Tryd.func57, Tryd.ntmps57
  go_wp2_with fail
  go_loopw [7, 8, 9, 10] (fun vi vs _ _ wr => ∃ (i s : Nat) (dk : Nat → Ev), vi = .int .i64 i ∧ vs = .int .i64 s ∧ a < i ∧ i ≤ b ∧ s ≤ 5 ∧ SrI S w wr w.heap.size dk ∧ PermR a b d dk ∧ SortR a i dk) (fun _ vs _ _ _ => 5 - (intOf vs).toNat)
  case atStart => exact ⟨a + 1, 0, d, by go_num, rfl, by omega, by omega, by omega, H0.out, PermR.refl _ _ _, sort_short d (Nat.le_refl _)⟩
  case round =>
    clear H0
    obtain ⟨i, s, dk, rfl, rfl, hai, hib, hs5, hI, hP, hS⟩ := hrel
    by_cases hs : s < 5
    · have hs' : (s : Int) < 5 := by omega
      have HW : Hid (SrI S w wr w.heap.size dk ∧ PermR a b d dk ∧ SortR a i dk) := ⟨hI, hP, hS⟩
      clear hI hP hS
      go_upto_block 2 with fail
      go_cut [7] (fun v wd => ∃ i2 : Nat, v = .int .i64 i2 ∧ (a < i2 ∧ i2 ≤ b) ∧ SrI S w wd w.heap.size dk ∧ SortR a i2 dk)
      case first =>
        go_wp2_with fail
        go_loopw [7] (fun v wr => ∃ i2 : Nat, v = .int .i64 i2 ∧ (a < i2 ∧ i2 ≤ b) ∧ SrI S w wr w.heap.size dk ∧ SortR a i2 dk) (fun v _ => b - (intOf v).toNat)
        case atStart => exact ⟨i, rfl, ⟨hai, hib⟩, HW.out.1, HW.out.2.2⟩
        case round =>
          clear HW
          obtain ⟨i2, rfl, hr2, hI, hS⟩ := hrel
          have c0 := hI.c0
          by_cases hlt : i2 < b
          · have hlt' : (i2 : Int) < b := by omega
            have hl := S.less wr dk i2 (i2 - 1) hI.row (by omega) (by omega)
            rw [show (((i2 - 1 : Nat) : Int)) = (i2 : Int) - 1 by omega] at hl
            have HX : Hid (SrI S w wr w.heap.size dk ∧ SortR a i2 dk) := ⟨hI, hS⟩
            clear hI hS
            cases hlv : ltE (dk i2) (dk (i2 - 1)) with
            | false =>
              rw [hlv] at hl
              go_wp2_with fail
              refine hl.mono ?_
              rintro e wl ⟨rfl, hbl⟩
              have HN : Hid (SrI S w wl w.heap.size dk ∧ SortR a (i2 + 1) dk) := ⟨HX.out.1.less hbl, sort_next HX.out.2 hr2.1 hlv⟩
              clear hl hbl HX hlv c0
              go_wp2
              exact ⟨⟨i2 + 1, by go_num, ⟨by omega, by omega⟩, HN.out.1, HN.out.2⟩, by simp [intOf]; omega⟩
            | true =>
              rw [hlv] at hl
              go_wp2_with fail
              refine hl.mono ?_
              rintro e wl ⟨rfl, hbl⟩
              have HN : Hid (SrI S w wl w.heap.size dk ∧ SortR a i2 dk) := ⟨HX.out.1.less hbl, HX.out.2⟩
              clear hl hbl HX hlv c0
              go_wp2_with fail
              go_meet
              exact ⟨i2, rfl, hr2, HN.out.1, HN.out.2⟩
          · have hlt' : ¬ ((i2 : Int) < b) := by omega
            have HX : Hid (SrI S w wr w.heap.size dk ∧ SortR a i2 dk) := ⟨hI, hS⟩
            clear hI hS c0
            go_wp2_with fail
            go_meet
            exact ⟨i2, rfl, hr2, HX.out.1, HX.out.2⟩
      case rest =>
      obtain ⟨i2, rfl, hr2, hI, hS⟩ := hcut
      have HP : Hid (PermR a b d dk) := HW.out.2.1
      clear HW
      by_cases hbe : i2 = b
      · subst hbe
        have HE : Hid (PiR S a i2 d w (.returned (.bool true)) wc) := ⟨true, dk, rfl, hI.row, HP.out, fun _ => hS, hI.fr⟩
        clear hI hS
        go_wp2
        go_ret
        exact HE.out
      · have hbe' : ((i2 : Int) == (b : Int)) = false := by simpa using (by omega : ¬ (i2 : Int) = b)
        have hbe2 : ¬ ((i2 : Int) = (b : Int)) := by omega
        have hbl : (b : Int) - (a : Int) = ((b - a : Nat) : Int) := by omega
        obtain ⟨l, hl⟩ : ∃ l : Nat, b - a = l := ⟨_, rfl⟩
        rw [hl] at hbl
        clear hl
        by_cases h50 : (l : Int) < 50
        · have HE : Hid (PiR S a b d w (.returned (.bool false)) wc) := ⟨false, dk, rfl, hI.row, HP.out, (fun h => by cases h), hI.fr⟩
          clear hI hS
          go_wp2
          go_ret
          exact HE.out
        · have c1 := hI.c1
          obtain ⟨w2, hs2, ha2, hf2⟩ := S.swap wc dk i2 (i2 - 1) hI.row (by omega) (by omega)
          rw [show (((i2 - 1 : Nat) : Int)) = (i2 : Int) - 1 by omega] at hs2
          have hsrt : InsH a (i2 - 1) (i2 - 1) (swapA dk i2 (i2 - 1)) := fun p q h1 h2 h3 h4 => by
            rw [swapA_o dk (by omega) (by omega), swapA_o dk (by omega) (by omega)]
            exact hS p q h1 h2 (by omega)
          have H2 : Hid (SrI S w w2 w.heap.size (swapA dk i2 (i2 - 1)) ∧ PermR a b d (swapA dk i2 (i2 - 1)) ∧ InsH a (i2 - 1) (i2 - 1) (swapA dk i2 (i2 - 1))) := ⟨hI.swap ha2 hf2, HP.out.trans (PermR.swap dk ⟨by omega, by omega⟩ ⟨by omega, by omega⟩), hsrt⟩
          clear hI hS ha2 hf2 hsrt HP
          generalize swapA dk i2 (i2 - 1) = d2 at *
          have hz : (i2 : Int) - (a : Int) = ((i2 - a : Nat) : Int) := by omega
          obtain ⟨z, hzz⟩ : ∃ z : Nat, i2 - a = z := ⟨_, rfl⟩
          have hz2 : (b : Int) - (i2 : Int) = ((b - i2 : Nat) : Int) := by omega
          obtain ⟨y, hyy⟩ : ∃ y : Nat, b - i2 = y := ⟨_, rfl⟩
          rw [hzz] at hz
          rw [hyy] at hz2
          have HZ : Hid (i2 - a = z ∧ b - i2 = y) := ⟨hzz, hyy⟩
          clear hzz hyy
          go_upto_if 47 with fail
          go_cut [9] (fun _ wd => ∃ d3 : Nat → Ev, SrI S w wd w.heap.size d3 ∧ PermR a b d d3 ∧ SortR a i2 d3)
          case first =>
            by_cases hz1 : 2 ≤ z
            · have hz1' : (2 : Int) ≤ z := by omega
              have hzl : a + 2 ≤ i2 := by have := HZ.out.1; omega
              go_wp2_with fail
              go_loopw [9] (fun v wr => ∃ (j : Nat) (d3 : Nat → Ev), v = .int .i64 j ∧ (a ≤ j ∧ j ≤ i2 - 1) ∧ SrI S w wr w.heap.size d3 ∧ PermR a b d d3 ∧ InsH a (i2 - 1) j d3) (fun v _ => (intOf v).toNat)
              case atStart => exact ⟨i2 - 1, d2, by congr 1; omega, ⟨by omega, Nat.le_refl _⟩, H2.out.1, H2.out.2.1, H2.out.2.2⟩
              case round =>
                clear H2
                obtain ⟨j, d3, rfl, hrj, hI, hP, hS⟩ := hrel
                have c0 := hI.c0
                have HX : Hid (SrI S w wr w.heap.size d3 ∧ PermR a b d d3 ∧ InsH a (i2 - 1) j d3) := ⟨hI, hP, hS⟩
                have HST : Hid ((j ≤ a ∨ ltE (d3 j) (d3 (j - 1)) = false) → SortR a i2 d3) := fun hh => by
                  have := hS.stop hrj.2 hh
                  rwa [show i2 - 1 + 1 = i2 by omega] at this
                clear hI hP hS
                by_cases hj1 : 1 ≤ j
                · have hj1' : (1 : Int) ≤ j := by omega
                  have hl := S.less wr d3 j (j - 1) HX.out.1.row (by omega) (by omega)
                  rw [show (((j - 1 : Nat) : Int)) = (j : Int) - 1 by omega] at hl
                  go_wp2_with fail
                  refine hl.mono ?_
                  rintro e wl ⟨rfl, hbl⟩
                  have hIl := HX.out.1.less hbl
                  have c1 := hIl.c1
                  cases hlv : ltE (d3 j) (d3 (j - 1)) with
                  | false =>
                    have HN : Hid (SrI S w wl w.heap.size d3 ∧ PermR a b d d3 ∧ SortR a i2 d3) := ⟨hIl, HX.out.2.1, HST.out (.inr hlv)⟩
                    clear hl hbl HX HST hlv c0 hIl c1
                    go_wp2_with fail
                    go_meet
                    exact ⟨d3, HN.out⟩
                  | true =>
                    have haj : a < j := by
                      rcases Nat.lt_or_ge a j with h | h
                      · exact h
                      · have e : j = a := by omega
                        have := (HLOW.out.perm HX.out.2.1) (by omega) a (Nat.le_refl _) (by omega)
                        rw [e, this] at hlv
                        cases hlv
                    obtain ⟨w3, hs3, ha3, hf3⟩ := S.swap wl d3 j (j - 1) hIl.row (by omega) (by omega)
                    rw [show (((j - 1 : Nat) : Int)) = (j : Int) - 1 by omega] at hs3
                    have HN : Hid (SrI S w w3 w.heap.size (swapA d3 j (j - 1)) ∧ PermR a b d (swapA d3 j (j - 1)) ∧ InsH a (i2 - 1) (j - 1) (swapA d3 j (j - 1))) := ⟨hIl.swap ha3 hf3, HX.out.2.1.trans (PermR.swap d3 ⟨by omega, by omega⟩ ⟨by omega, by omega⟩), HX.out.2.2.step hrj.2 haj hlv⟩
                    clear hl hbl HX HST hlv c0 hIl ha3 hf3
                    go_wp2
                    exact ⟨⟨j - 1, _, by congr 1; omega, ⟨by omega, by omega⟩, HN.out.1, HN.out.2.1, HN.out.2.2⟩, by simp [intOf]; omega⟩
                · have hj1' : ¬ ((1 : Int) ≤ j) := by omega
                  have HN : Hid (SrI S w wr w.heap.size d3 ∧ PermR a b d d3 ∧ SortR a i2 d3) := ⟨HX.out.1, HX.out.2.1, HST.out (.inl (by omega))⟩
                  clear HX HST c0
                  go_wp2_with fail
                  go_meet
                  exact ⟨d3, HN.out⟩
            · have hz1' : ¬ ((2 : Int) ≤ z) := by omega
              have HN : Hid (SrI S w w2 w.heap.size d2 ∧ PermR a b d d2 ∧ SortR a i2 d2) := ⟨H2.out.1, H2.out.2.1, sort_short d2 (by have := HZ.out.1; omega)⟩
              clear H2
              go_wp2_with fail
              go_meet
              exact ⟨d2, HN.out⟩
          case rest =>
          obtain ⟨d3, hI3, hP3, hS3⟩ := hcut
          have H3 : Hid (SrI S w wc w.heap.size d3 ∧ PermR a b d d3 ∧ SortR a i2 d3) := ⟨hI3, hP3, hS3⟩
          clear hI3 hP3 hS3 H2 hs2 c1
          by_cases hy1 : 2 ≤ y
          · have hy1' : (2 : Int) ≤ y := by omega
            have hyl : i2 + 2 ≤ b := by have := HZ.out.2; omega
            go_wp2_with fail
            go_loopw [10] (fun v wr => ∃ (j : Nat) (d4 : Nat → Ev), v = .int .i64 j ∧ (i2 < j ∧ j ≤ b) ∧ SrI S w wr w.heap.size d4 ∧ PermR a b d d4 ∧ SortR a i2 d4) (fun v _ => b - (intOf v).toNat)
            case atStart => exact ⟨i2 + 1, d3, by go_num, ⟨by omega, by omega⟩, H3.out.1, H3.out.2.1, H3.out.2.2⟩
            case round =>
              clear H3
              obtain ⟨j, d4, rfl, hrj, hI, hP, hS⟩ := hrel
              have c0 := hI.c0
              have HX : Hid (SrI S w wr w.heap.size d4 ∧ PermR a b d d4 ∧ SortR a i2 d4) := ⟨hI, hP, hS⟩
              clear hI hP hS
              by_cases hjb : j < b
              · have hjb' : (j : Int) < b := by omega
                have hl := S.less wr d4 j (j - 1) HX.out.1.row (by omega) (by omega)
                rw [show (((j - 1 : Nat) : Int)) = (j : Int) - 1 by omega] at hl
                go_wp2_with fail
                refine hl.mono ?_
                rintro e wl ⟨rfl, hbl⟩
                have hIl := HX.out.1.less hbl
                have c1 := hIl.c1
                cases hlv : ltE (d4 j) (d4 (j - 1)) with
                | false =>
                  have HN : Hid (SrI S w wl w.heap.size d4 ∧ PermR a b d d4 ∧ SortR a i2 d4) := ⟨hIl, HX.out.2⟩
                  clear hl hbl HX hlv c0 hIl c1
                  go_wp2
                  go_roundw
                  case rel => exact ⟨i2, s + 1, d4, rfl, by go_num, hr2.1, hr2.2, by omega, HN.out.1, HN.out.2.1, HN.out.2.2⟩
                  case measure => simp [intOf]; omega
                | true =>
                  obtain ⟨w3, hs3, ha3, hf3⟩ := S.swap wl d4 j (j - 1) hIl.row (by omega) (by omega)
                  rw [show (((j - 1 : Nat) : Int)) = (j : Int) - 1 by omega] at hs3
                  have HN : Hid (SrI S w w3 w.heap.size (swapA d4 j (j - 1)) ∧ PermR a b d (swapA d4 j (j - 1)) ∧ SortR a i2 (swapA d4 j (j - 1))) := ⟨hIl.swap ha3 hf3, HX.out.2.1.trans (PermR.swap d4 ⟨by omega, by omega⟩ ⟨by omega, by omega⟩), HX.out.2.2.congr (fun k h1 h2 => swapA_o d4 (by omega) (by omega))⟩
                  clear hl hbl HX hlv c0 hIl ha3 hf3
                  go_wp2
                  exact ⟨⟨j + 1, _, by go_num, ⟨by omega, by omega⟩, HN.out.1, HN.out.2.1, HN.out.2.2⟩, by simp [intOf]; omega⟩
              · have hjb' : ¬ ((j : Int) < b) := by omega
                clear c0
                go_wp2
                go_roundw
                case rel => exact ⟨i2, s + 1, d4, rfl, by go_num, hr2.1, hr2.2, by omega, HX.out.1, HX.out.2.1, HX.out.2.2⟩
                case measure => simp [intOf]; omega
          · have hy1' : ¬ ((2 : Int) ≤ y) := by omega
            go_wp2
            go_roundw
            case rel => exact ⟨i2, s + 1, d3, rfl, by go_num, hr2.1, hr2.2, by omega, H3.out.1, H3.out.2.1, H3.out.2.2⟩
            case measure => simp [intOf]; omega
    · have hs' : ¬ ((s : Int) < 5) := by omega
      have HE : Hid (PiR S a b d w (.returned (.bool false)) wr) := ⟨false, dk, rfl, hI.row, hP, (fun h => by cases h), hI.fr⟩
      clear hI hP hS
      go_wp2
      go_ret
      exact HE.out
end Go.Proofs.YthnobkiiaflelaaDoor
