/- sort.partition_func, whatever the less lays (made by tools/mkpart.py). -/
import Derived.Test.YthnobkiiaflelaaDoorOwnShelf40
namespace Go.Proofs.YthnobkiiaflelaaDoor
open Go.RowKit Go.Maps Go.Sort

attribute [local go_sem ↓] Go.wp_at_zero Go.wp_at_succ

/-- All behind a, up to i, are ahead of the one at a. -/
structure PtL (a i : Nat) (d : Nat → Ev) : Prop where
  all : ∀ k, a < k → k < i → ltE (d k) (d a) = true
/-- None behind j, up to b, is. -/
structure PtR (a b j : Nat) (d : Nat → Ev) : Prop where
  all : ∀ k, j < k → k < b → ltE (d k) (d a) = false
theorem PtL.next {a i : Nat} {d : Nat → Ev} (h : PtL a i d) (_ : a < i) (hl : ltE (d i) (d a) = true) : PtL a (i + 1) d := ⟨fun k h1 h2 => by
  by_cases e : k = i
  · rw [e]; exact hl
  · exact h.all k h1 (by omega)⟩
theorem PtR.next {a b j : Nat} {d : Nat → Ev} (h : PtR a b j d) (_ : a < j) (hl : ltE (d j) (d a) = false) : PtR a b (j - 1) d := ⟨fun k h1 h2 => by
  by_cases e : k = j
  · rw [e]; exact hl
  · exact h.all k (by omega) h2⟩
theorem pt_swap {a b i j : Nat} {d : Nat → Ev} (hL : PtL a i d) (hR : PtR a b j d) (ha : a < i) (hij : i < j) (hi : ltE (d i) (d a) = false) (hj : ltE (d j) (d a) = true) : PtL a (i + 1) (swapA d i j) ∧ PtR a b (j - 1) (swapA d i j) := by
  have ea : swapA d i j a = d a := swapA_o d (by omega) (by omega)
  refine ⟨⟨fun k h1 h2 => ?_⟩, ⟨fun k h1 h2 => ?_⟩⟩
  · rw [ea]
    by_cases e : k = i
    · rw [e, swapA_i]; exact hj
    · rw [swapA_o d e (by omega)]; exact hL.all k h1 (by omega)
  · rw [ea]
    by_cases e : k = j
    · rw [e, swapA_j]; exact hi
    · rw [swapA_o d (by omega) e]; exact hR.all k (by omega) h2
/-- What partition leaves. -/
structure PtD (a b m : Nat) (d : Nat → Ev) : Prop where
  rg : a ≤ m ∧ m < b
  left : ∀ k, a ≤ k → k < m → ltE (d k) (d m) = true
  right : ∀ k, m < k → k < b → ltE (d k) (d m) = false
theorem pt_done {a b j : Nat} {d : Nat → Ev} (hL : PtL a (j + 1) d) (hR : PtR a b j d) (ha : a ≤ j) (hb : j < b) : PtD a b j (swapA d j a) := by
  refine ⟨⟨ha, hb⟩, fun k h1 h2 => ?_, fun k h1 h2 => ?_⟩
  · rw [swapA_i]
    by_cases e : k = a
    · rw [e, swapA_j]; exact hL.all j (by omega) (by omega)
    · rw [swapA_o d (by omega) e]; exact hL.all k (by omega) (by omega)
  · rw [swapA_i, swapA_o d (by omega) (by omega)]
    exact hR.all k h1 h2
/-- What partition answers. -/
structure PtO {g : Nat} {lb : Array Value} {sf : Nat} {sb : Array Value} {n : Nat} (S : SrC g lb sf sb n) (a b : Nat) (d : Nat → Ev) (w : World) (e : Ending) (w' : World) : Prop where
  mk :: (out : ∃ (m : Nat) (al : Bool) (d' : Nat → Ev), e = .returned (.tuple #[.int .i64 (m : Int), .bool al]) ∧ S.at_ w' d' ∧ PermR a b d d' ∧ PtD a b m d' ∧ Fr (fun k => k = S.blk) w w')
set_option maxRecDepth 100000 in
set_option maxHeartbeats 6400000 in
theorem partition_any {g : Nat} {lb : Array Value} {sf : Nat} {sb : Array Value} {n : Nat} (S : SrC g lb sf sb n) (a b pv : Nat) (d : Nat → Ev) (w : World) (h : S.at_ w d) (hab : a + 1 < b) (hb : b ≤ n) (hpv : a ≤ pv ∧ pv < b) :
    Calls Tryd.prog 59 #[lsV g lb sf sb, .int .i64 (a : Int), .int .i64 (b : Int), .int .i64 (pv : Int)] w (PtO S a b d w) := by
  have hfew := S.few
  have heg := S.eg
  have hI0 : SrI S w (w.alloc (.cells #[.func (.func g) #[] lb, .func (.func sf) #[] sb] 101)) w.heap.size d := SrI.start h
  have c1 := hI0.c1
  obtain ⟨w1, hs1, ha1, hf1⟩ := S.swap _ d a pv hI0.row (by omega) (by omega)
  obtain ⟨d1, hd1⟩ : ∃ d1, swapA d a pv = d1 := ⟨_, rfl⟩
  rw [hd1] at ha1
  have hP1 : PermR a b d d1 := by rw [← hd1]; exact PermR.swap d ⟨by omega, by omega⟩ hpv
  have HI : Hid (SrI S w w1 w.heap.size d1 ∧ PermR a b d d1 ∧ PtL a (a + 1) d1 ∧ PtR a b (b - 1) d1) := ⟨hI0.swap ha1 hf1, hP1, ⟨fun k _ _ => by omega⟩, ⟨fun k _ _ => by omega⟩⟩
  have hbb : (b : Int) - 1 = ((b - 1 : Nat) : Int) := by omega
  have haa : (a : Int) + 1 = ((a + 1 : Nat) : Int) := by omega
  obtain ⟨i0, hi0⟩ : ∃ i0, a + 1 = i0 := ⟨_, rfl⟩
  obtain ⟨j0, hj0⟩ : ∃ j0, b - 1 = j0 := ⟨_, rfl⟩
  rw [hi0] at HI haa
  rw [hj0] at HI hbb
  have hr0 : a < i0 ∧ i0 ≤ j0 + 1 ∧ j0 < b ∧ a ≤ j0 := by omega
  clear h hI0 ha1 hf1 hP1 hd1 hi0 hj0 hpv
  unfold lsV
  go_enter Tryd.func59, Tryd.ntmps59
  have HL : Hid (PtL a i0 d1) := HI.out.2.2.1
  have HR : Hid (PtR a b j0 d1) := HI.out.2.2.2
  go_upto_block 0 with fail
  go_cut [10] (fun v wd => ∃ i1 : Nat, v = .int .i64 i1 ∧ (i0 ≤ i1 ∧ i1 ≤ j0 + 1) ∧ SrI S w wd w.heap.size d1 ∧ PtL a i1 d1 ∧ (i1 ≤ j0 → ltE (d1 (i1)) (d1 (a)) = false))
  case first =>
    have HW : Hid (SrI S w w1 w.heap.size d1 ∧ PtL a i0 d1) := ⟨HI.out.1, HL.out⟩
    go_wp2_with fail
    go_loopw [10] (fun v wr => ∃ i1 : Nat, v = .int .i64 i1 ∧ (i0 ≤ i1 ∧ i1 ≤ j0 + 1) ∧ SrI S w wr w.heap.size d1 ∧ PtL a i1 d1) (fun v _ => j0 + 1 - (intOf v).toNat)
    case atStart => exact ⟨i0, rfl, ⟨by omega, by omega⟩, HW.out.1, HW.out.2⟩
    case round =>
      clear HW
      obtain ⟨i1, rfl, hrg, hI, hS⟩ := hrel
      have c0 := hI.c0
      by_cases hle : i1 ≤ j0
      · have hle' : (i1 : Int) ≤ (j0 : Int) := by omega
        have hl := S.less wr d1 (i1) (a) hI.row (by omega) (by omega)
        have HX : Hid (SrI S w wr w.heap.size d1 ∧ PtL a i1 d1) := ⟨hI, hS⟩
        clear hI hS
        cases hlv : ltE (d1 (i1)) (d1 (a)) with
        | true =>
          rw [hlv] at hl
          go_wp2_with fail
          refine hl.mono ?_
          rintro e wl ⟨rfl, hbl⟩
          have hS := HX.out.2
          have HN : Hid (SrI S w wl w.heap.size d1 ∧ PtL a (i1 + 1) d1) := ⟨HX.out.1.less hbl, hS.next (by omega) hlv⟩
          clear hl hbl HX hlv c0 hS
          go_wp2
          exact ⟨⟨i1 + 1, by go_num, ⟨by omega, by omega⟩, HN.out.1, HN.out.2⟩, by simp [intOf]; omega⟩
        | false =>
          rw [hlv] at hl
          go_wp2_with fail
          refine hl.mono ?_
          rintro e wl ⟨rfl, hbl⟩
          have HN : Hid (SrI S w wl w.heap.size d1 ∧ PtL a i1 d1 ∧ ltE (d1 (i1)) (d1 (a)) = false) := ⟨HX.out.1.less hbl, HX.out.2, hlv⟩
          clear hl hbl HX hlv c0
          go_wp2_with fail
          go_meet
          exact ⟨i1, rfl, ⟨by omega, by omega⟩, HN.out.1, HN.out.2.1, fun _ => HN.out.2.2⟩
      · have hle' : ¬ ((i1 : Int) ≤ (j0 : Int)) := by omega
        have HX : Hid (SrI S w wr w.heap.size d1 ∧ PtL a i1 d1) := ⟨hI, hS⟩
        clear hI hS c0
        go_wp2_with fail
        go_meet
        exact ⟨i1, rfl, ⟨by omega, by omega⟩, HX.out.1, HX.out.2, fun h => absurd h hle⟩
  case rest =>
  obtain ⟨i1, rfl, hrgi1, hIi1, hSi1, hTi1⟩ := hcut
  have HP : Hid (PermR a b d d1) := HI.out.2.1
  have HL1 : Hid (PtL a i1 d1 ∧ (i1 ≤ j0 → ltE (d1 i1) (d1 a) = false)) := ⟨hSi1, hTi1⟩
  clear HI
  have HI : Hid (SrI S w wc w.heap.size d1) := hIi1
  clear hIi1 hSi1 hTi1 HL
  go_upto_block 2 with fail
  go_cut [11] (fun v wd => ∃ j1 : Nat, v = .int .i64 j1 ∧ (i1 ≤ j1 + 1 ∧ j1 ≤ j0 ∧ a ≤ j1) ∧ SrI S w wd w.heap.size d1 ∧ PtR a b j1 d1 ∧ (i1 ≤ j1 → ltE (d1 (j1)) (d1 (a)) = true))
  case first =>
    have HW : Hid (SrI S w wc w.heap.size d1 ∧ PtR a b j0 d1) := ⟨HI.out, HR.out⟩
    go_wp2_with fail
    go_loopw [11] (fun v wr => ∃ j1 : Nat, v = .int .i64 j1 ∧ (i1 ≤ j1 + 1 ∧ j1 ≤ j0 ∧ a ≤ j1) ∧ SrI S w wr w.heap.size d1 ∧ PtR a b j1 d1) (fun v _ => (intOf v).toNat)
    case atStart => exact ⟨j0, rfl, ⟨by omega, by omega, by omega⟩, HW.out.1, HW.out.2⟩
    case round =>
      clear HW
      obtain ⟨j1, rfl, hrg, hI, hS⟩ := hrel
      have c0 := hI.c0
      by_cases hle : i1 ≤ j1
      · have hle' : (i1 : Int) ≤ (j1 : Int) := by omega
        have hl := S.less wr d1 (j1) (a) hI.row (by omega) (by omega)
        have HX : Hid (SrI S w wr w.heap.size d1 ∧ PtR a b j1 d1) := ⟨hI, hS⟩
        clear hI hS
        cases hlv : ltE (d1 (j1)) (d1 (a)) with
        | false =>
          rw [hlv] at hl
          go_wp2_with fail
          refine hl.mono ?_
          rintro e wl ⟨rfl, hbl⟩
          have hS := HX.out.2
          have HN : Hid (SrI S w wl w.heap.size d1 ∧ PtR a b (j1 - 1) d1) := ⟨HX.out.1.less hbl, hS.next (by omega) hlv⟩
          clear hl hbl HX hlv c0 hS
          go_wp2
          exact ⟨⟨j1 - 1, by congr 1; omega, ⟨by omega, by omega, by omega⟩, HN.out.1, HN.out.2⟩, by simp [intOf]; omega⟩
        | true =>
          rw [hlv] at hl
          go_wp2_with fail
          refine hl.mono ?_
          rintro e wl ⟨rfl, hbl⟩
          have HN : Hid (SrI S w wl w.heap.size d1 ∧ PtR a b j1 d1 ∧ ltE (d1 (j1)) (d1 (a)) = true) := ⟨HX.out.1.less hbl, HX.out.2, hlv⟩
          clear hl hbl HX hlv c0
          go_wp2_with fail
          go_meet
          exact ⟨j1, rfl, ⟨by omega, by omega, by omega⟩, HN.out.1, HN.out.2.1, fun _ => HN.out.2.2⟩
      · have hle' : ¬ ((i1 : Int) ≤ (j1 : Int)) := by omega
        have HX : Hid (SrI S w wr w.heap.size d1 ∧ PtR a b j1 d1) := ⟨hI, hS⟩
        clear hI hS c0
        go_wp2_with fail
        go_meet
        exact ⟨j1, rfl, ⟨by omega, by omega, by omega⟩, HX.out.1, HX.out.2, fun h => absurd h hle⟩
  case rest =>
  obtain ⟨j1, rfl, hrgj1, hIj1, hSj1, hTj1⟩ := hcut
  have HR1 : Hid (PtR a b j1 d1 ∧ (i1 ≤ j1 → ltE (d1 j1) (d1 a) = true)) := ⟨hSj1, hTj1⟩
  have HI1 : Hid (SrI S w wc w.heap.size d1) := hIj1
  have c1 := HI1.out.c1
  clear hIj1 hSj1 hTj1 HI HR hs1
  by_cases hij : j1 < i1
  · have hij' : (j1 : Int) < i1 := by omega
    obtain ⟨w2, hs2, ha2, hf2⟩ := S.swap wc d1 j1 a HI1.out.row (by omega) (by omega)
    have hji : i1 = j1 + 1 := by omega
    have HE : Hid (∃ d', S.at_ w2 d' ∧ PermR a b d d' ∧ PtD a b j1 d' ∧ Fr (fun k => k = S.blk) w w2) := ⟨_, ha2, HP.out.trans (PermR.swap d1 ⟨by omega, by omega⟩ ⟨by omega, by omega⟩), pt_done (by have := HL1.out.1; rwa [hji] at this) HR1.out.1 (by omega) (by omega), (HI1.out.swap ha2 hf2).fr⟩
    clear ha2 hf2 hji
    go_wp2
    go_ret2
    obtain ⟨d', h1, h2, h3, h4⟩ := HE.out
    exact ⟨j1, true, d', rfl, h1, h2, h3, h4⟩
  · have hij' : ¬ ((j1 : Int) < i1) := by omega
    have hlt := HL1.out.2 (by omega)
    have hgt := HR1.out.2 (by omega)
    have hne : i1 < j1 := by
      rcases Nat.lt_or_ge i1 j1 with h | h
      · exact h
      · have : i1 = j1 := by omega
        rw [this, hgt] at hlt
        cases hlt
    obtain ⟨w2, hs2, ha2, hf2⟩ := S.swap wc d1 i1 j1 HI1.out.row (by omega) (by omega)
    have hps := pt_swap HL1.out.1 HR1.out.1 (by omega) hne hlt hgt
    have H2 : Hid (SrI S w w2 w.heap.size (swapA d1 i1 j1) ∧ PermR a b d (swapA d1 i1 j1) ∧ PtL a (i1 + 1) (swapA d1 i1 j1) ∧ PtR a b (j1 - 1) (swapA d1 i1 j1)) := ⟨HI1.out.swap ha2 hf2, HP.out.trans (PermR.swap d1 ⟨by omega, by omega⟩ ⟨by omega, by omega⟩), hps.1, hps.2⟩
    have hrr : a < i1 + 1 ∧ i1 + 1 ≤ j1 - 1 + 1 ∧ j1 - 1 < b ∧ a ≤ j1 - 1 := by omega
    clear ha2 hf2 hps hlt hgt HL1 HR1 HI1 HP
    go_upto_block 4 with fail
    go_cut [10, 11] (fun _ vj wd => ∃ (j : Nat) (dk : Nat → Ev), vj = .int .i64 j ∧ a ≤ j ∧ j < b ∧ SrI S w wd w.heap.size dk ∧ PermR a b d dk ∧ PtL a (j + 1) dk ∧ PtR a b j dk)
    case first =>
      go_wp2_with fail
      go_loopw [10, 11] (fun vi vj wr => ∃ (i j : Nat) (dk : Nat → Ev), vi = .int .i64 i ∧ vj = .int .i64 j ∧ (a < i ∧ i ≤ j + 1 ∧ j < b ∧ a ≤ j) ∧ SrI S w wr w.heap.size dk ∧ PermR a b d dk ∧ PtL a i dk ∧ PtR a b j dk) (fun _ vj _ => (intOf vj).toNat)
      case atStart => exact ⟨i1 + 1, j1 - 1, _, by go_num, by congr 1; omega, hrr, H2.out.1, H2.out.2.1, H2.out.2.2.1, H2.out.2.2.2⟩
      case round =>
        clear H2
        obtain ⟨i, j, dk, rfl, rfl, hrg0, hI, hP, hL, hR⟩ := hrel
        have HI : Hid (SrI S w wr w.heap.size dk ∧ PermR a b d dk ∧ PtL a i dk ∧ PtR a b j dk) := ⟨hI, hP, hL, hR⟩
        clear hI hP hL hR hs2 c1
        have HL : Hid (PtL a i dk) := HI.out.2.2.1
        have HR : Hid (PtR a b j dk) := HI.out.2.2.2
        go_upto_block 6 with fail
        go_cut [10] (fun v wd => ∃ i2 : Nat, v = .int .i64 i2 ∧ (i ≤ i2 ∧ i2 ≤ j + 1) ∧ SrI S w wd w.heap.size dk ∧ PtL a i2 dk ∧ (i2 ≤ j → ltE (dk (i2)) (dk (a)) = false))
        case first =>
          have HW : Hid (SrI S w wr w.heap.size dk ∧ PtL a i dk) := ⟨HI.out.1, HL.out⟩
          go_wp2_with fail
          go_loopw [10] (fun v wr => ∃ i2 : Nat, v = .int .i64 i2 ∧ (i ≤ i2 ∧ i2 ≤ j + 1) ∧ SrI S w wr w.heap.size dk ∧ PtL a i2 dk) (fun v _ => j + 1 - (intOf v).toNat)
          case atStart => exact ⟨i, rfl, ⟨by omega, by omega⟩, HW.out.1, HW.out.2⟩
          case round =>
            clear HW
            obtain ⟨i2, rfl, hrg, hI, hS⟩ := hrel
            have c0 := hI.c0
            by_cases hle : i2 ≤ j
            · have hle' : (i2 : Int) ≤ (j : Int) := by omega
              have hl := S.less wr dk (i2) (a) hI.row (by omega) (by omega)
              have HX : Hid (SrI S w wr w.heap.size dk ∧ PtL a i2 dk) := ⟨hI, hS⟩
              clear hI hS
              cases hlv : ltE (dk (i2)) (dk (a)) with
              | true =>
                rw [hlv] at hl
                go_wp2_with fail
                refine hl.mono ?_
                rintro e wl ⟨rfl, hbl⟩
                have hS := HX.out.2
                have HN : Hid (SrI S w wl w.heap.size dk ∧ PtL a (i2 + 1) dk) := ⟨HX.out.1.less hbl, hS.next (by omega) hlv⟩
                clear hl hbl HX hlv c0 hS
                go_wp2
                exact ⟨⟨i2 + 1, by go_num, ⟨by omega, by omega⟩, HN.out.1, HN.out.2⟩, by simp [intOf]; omega⟩
              | false =>
                rw [hlv] at hl
                go_wp2_with fail
                refine hl.mono ?_
                rintro e wl ⟨rfl, hbl⟩
                have HN : Hid (SrI S w wl w.heap.size dk ∧ PtL a i2 dk ∧ ltE (dk (i2)) (dk (a)) = false) := ⟨HX.out.1.less hbl, HX.out.2, hlv⟩
                clear hl hbl HX hlv c0
                go_wp2_with fail
                go_meet
                exact ⟨i2, rfl, ⟨by omega, by omega⟩, HN.out.1, HN.out.2.1, fun _ => HN.out.2.2⟩
            · have hle' : ¬ ((i2 : Int) ≤ (j : Int)) := by omega
              have HX : Hid (SrI S w wr w.heap.size dk ∧ PtL a i2 dk) := ⟨hI, hS⟩
              clear hI hS c0
              go_wp2_with fail
              go_meet
              exact ⟨i2, rfl, ⟨by omega, by omega⟩, HX.out.1, HX.out.2, fun h => absurd h hle⟩
        case rest =>
        obtain ⟨i2, rfl, hrgi2, hIi2, hSi2, hTi2⟩ := hcut
        have HP : Hid (PermR a b d dk) := HI.out.2.1
        have HL1 : Hid (PtL a i2 dk ∧ (i2 ≤ j → ltE (dk i2) (dk a) = false)) := ⟨hSi2, hTi2⟩
        clear HI
        have HI : Hid (SrI S w wc w.heap.size dk) := hIi2
        clear hIi2 hSi2 hTi2 HL
        go_upto_block 8 with fail
        go_cut [11] (fun v wd => ∃ j2 : Nat, v = .int .i64 j2 ∧ (i2 ≤ j2 + 1 ∧ j2 ≤ j ∧ a ≤ j2) ∧ SrI S w wd w.heap.size dk ∧ PtR a b j2 dk ∧ (i2 ≤ j2 → ltE (dk (j2)) (dk (a)) = true))
        case first =>
          have HW : Hid (SrI S w wc w.heap.size dk ∧ PtR a b j dk) := ⟨HI.out, HR.out⟩
          go_wp2_with fail
          go_loopw [11] (fun v wr => ∃ j2 : Nat, v = .int .i64 j2 ∧ (i2 ≤ j2 + 1 ∧ j2 ≤ j ∧ a ≤ j2) ∧ SrI S w wr w.heap.size dk ∧ PtR a b j2 dk) (fun v _ => (intOf v).toNat)
          case atStart => exact ⟨j, rfl, ⟨by omega, by omega, by omega⟩, HW.out.1, HW.out.2⟩
          case round =>
            clear HW
            obtain ⟨j2, rfl, hrg, hI, hS⟩ := hrel
            have c0 := hI.c0
            by_cases hle : i2 ≤ j2
            · have hle' : (i2 : Int) ≤ (j2 : Int) := by omega
              have hl := S.less wr dk (j2) (a) hI.row (by omega) (by omega)
              have HX : Hid (SrI S w wr w.heap.size dk ∧ PtR a b j2 dk) := ⟨hI, hS⟩
              clear hI hS
              cases hlv : ltE (dk (j2)) (dk (a)) with
              | false =>
                rw [hlv] at hl
                go_wp2_with fail
                refine hl.mono ?_
                rintro e wl ⟨rfl, hbl⟩
                have hS := HX.out.2
                have HN : Hid (SrI S w wl w.heap.size dk ∧ PtR a b (j2 - 1) dk) := ⟨HX.out.1.less hbl, hS.next (by omega) hlv⟩
                clear hl hbl HX hlv c0 hS
                go_wp2
                exact ⟨⟨j2 - 1, by congr 1; omega, ⟨by omega, by omega, by omega⟩, HN.out.1, HN.out.2⟩, by simp [intOf]; omega⟩
              | true =>
                rw [hlv] at hl
                go_wp2_with fail
                refine hl.mono ?_
                rintro e wl ⟨rfl, hbl⟩
                have HN : Hid (SrI S w wl w.heap.size dk ∧ PtR a b j2 dk ∧ ltE (dk (j2)) (dk (a)) = true) := ⟨HX.out.1.less hbl, HX.out.2, hlv⟩
                clear hl hbl HX hlv c0
                go_wp2_with fail
                go_meet
                exact ⟨j2, rfl, ⟨by omega, by omega, by omega⟩, HN.out.1, HN.out.2.1, fun _ => HN.out.2.2⟩
            · have hle' : ¬ ((i2 : Int) ≤ (j2 : Int)) := by omega
              have HX : Hid (SrI S w wr w.heap.size dk ∧ PtR a b j2 dk) := ⟨hI, hS⟩
              clear hI hS c0
              go_wp2_with fail
              go_meet
              exact ⟨j2, rfl, ⟨by omega, by omega, by omega⟩, HX.out.1, HX.out.2, fun h => absurd h hle⟩
        case rest =>
        obtain ⟨j2, rfl, hrgj2, hIj2, hSj2, hTj2⟩ := hcut
        have HR1 : Hid (PtR a b j2 dk ∧ (i2 ≤ j2 → ltE (dk j2) (dk a) = true)) := ⟨hSj2, hTj2⟩
        have HI1 : Hid (SrI S w wc w.heap.size dk) := hIj2
        have c1 := HI1.out.c1
        clear hIj2 hSj2 hTj2 HI HR
        by_cases hij : j2 < i2
        · have hij' : (j2 : Int) < i2 := by omega
          have hji : i2 = j2 + 1 := by omega
          have HN : Hid (SrI S w wc w.heap.size dk ∧ PermR a b d dk ∧ PtL a (j2 + 1) dk ∧ PtR a b j2 dk) := ⟨HI1.out, HP.out, by have := HL1.out.1; rwa [hji] at this, HR1.out.1⟩
          clear HI1 HP HL1 HR1 hji
          go_wp2_with fail
          go_meet
          exact ⟨j2, dk, rfl, by omega, by omega, HN.out.1, HN.out.2.1, HN.out.2.2.1, HN.out.2.2.2⟩
        · have hij' : ¬ ((j2 : Int) < i2) := by omega
          have hlt := HL1.out.2 (by omega)
          have hgt := HR1.out.2 (by omega)
          have hne : i2 < j2 := by
            rcases Nat.lt_or_ge i2 j2 with h | h
            · exact h
            · have : i2 = j2 := by omega
              rw [this, hgt] at hlt
              cases hlt
          obtain ⟨w3, hs3, ha3, hf3⟩ := S.swap wc dk i2 j2 HI1.out.row (by omega) (by omega)
          have hps := pt_swap HL1.out.1 HR1.out.1 (by omega) hne hlt hgt
          have H3 : Hid (SrI S w w3 w.heap.size (swapA dk i2 j2) ∧ PermR a b d (swapA dk i2 j2) ∧ PtL a (i2 + 1) (swapA dk i2 j2) ∧ PtR a b (j2 - 1) (swapA dk i2 j2)) := ⟨HI1.out.swap ha3 hf3, HP.out.trans (PermR.swap dk ⟨by omega, by omega⟩ ⟨by omega, by omega⟩), hps.1, hps.2⟩
          clear ha3 hf3 hps hlt hgt HL1 HR1 HI1 HP
          go_wp2
          go_roundw
          case rel => exact ⟨i2 + 1, j2 - 1, _, by go_num, by congr 1; omega, ⟨by omega, by omega, by omega, by omega⟩, H3.out.1, H3.out.2.1, H3.out.2.2.1, H3.out.2.2.2⟩
          case measure => simp [intOf]; omega
    case rest =>
    obtain ⟨j, dk, rfl, hj1, hj2, hI, hP, hL, hR⟩ := hcut
    obtain ⟨w3, hs3, ha3, hf3⟩ := S.swap wc dk j a hI.row (by omega) (by omega)
    have c1 := hI.c1
    have HE : Hid (∃ d', S.at_ w3 d' ∧ PermR a b d d' ∧ PtD a b j d' ∧ Fr (fun k => k = S.blk) w w3) := ⟨_, ha3, hP.trans (PermR.swap dk ⟨by omega, by omega⟩ ⟨by omega, by omega⟩), pt_done hL hR hj1 hj2, (hI.swap ha3 hf3).fr⟩
    clear ha3 hf3 hI hP hL hR
    go_wp2
    go_ret2
    obtain ⟨d', h1, h2, h3, h4⟩ := HE.out
    exact ⟨j, false, d', rfl, h1, h2, h3, h4⟩
end Go.Proofs.YthnobkiiaflelaaDoor
