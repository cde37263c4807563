/- sort.siftDown_func and sort.heapSort_func, whatever the less lays. -/
import Derived.Test.YthnobkiiaflelaaDoorOwnShelf37
namespace Go.Proofs.YthnobkiiaflelaaDoor
open Go.RowKit Go.Maps Go.Sort

attribute [local go_sem ↓] Go.wp_at_zero Go.wp_at_succ

/-- From f on. -/
def shA (f : Nat) (d : Nat → Ev) : Nat → Ev := fun k => d (f + k)
theorem shA_swap (f : Nat) (d : Nat → Ev) (i j : Nat) : shA f (swapA d (f + i) (f + j)) = swapA (shA f d) i j := by
  funext k
  unfold shA swapA tr
  by_cases h1 : k = i
  · rw [if_pos h1, if_pos (by omega)]
  · rw [if_neg h1, if_neg (by omega)]
    by_cases h2 : k = j
    · rw [if_pos h2, if_pos (by omega)]
    · rw [if_neg h2, if_neg (by omega)]
/-- No child of one from lo on is above it. -/
def MaxH (lo hi : Nat) (a : Nat → Ev) : Prop := ∀ k, 0 < k → k < hi → lo ≤ (k - 1) / 2 → ltE (a ((k - 1) / 2)) (a k) = false
/-- The same, but for r, which may go down. -/
structure SfH (lo hi : Nat) (a : Nat → Ev) (r : Nat) : Prop where
  le : lo ≤ r
  rest : ∀ k, 0 < k → k < hi → lo ≤ (k - 1) / 2 → (k - 1) / 2 ≠ r → ltE (a ((k - 1) / 2)) (a k) = false
  over : ∀ k, 0 < k → k < hi → (k - 1) / 2 = r → lo < r → lo ≤ (r - 1) / 2 → ltE (a ((r - 1) / 2)) (a k) = false
theorem SfH.stop {lo hi : Nat} {a : Nat → Ev} {r : Nat} (h : SfH lo hi a r) (hc : ∀ k, 0 < k → k < hi → (k - 1) / 2 = r → ltE (a r) (a k) = false) : MaxH lo hi a := fun k h0 hk hl => by
  by_cases e : (k - 1) / 2 = r
  · rw [e]; exact hc k h0 hk e
  · exact h.rest k h0 hk hl e
theorem SfH.step {lo hi : Nat} {a : Nat → Ev} {r c : Nat} (h : SfH lo hi a r) (hc0 : 0 < c) (hch : c < hi) (hp : (c - 1) / 2 = r) (hl : ltE (a r) (a c) = true) (hsm : ∀ k, 0 < k → k < hi → (k - 1) / 2 = r → ltE (a c) (a k) = false) : SfH lo hi (swapA a r c) c := by
  have hrc : r < c := by omega
  refine ⟨by have := h.le; omega, fun k h0 hk hlo hne => ?_, fun k h0 hk hpk _ _ => ?_⟩
  · by_cases e1 : (k - 1) / 2 = r
    · rw [e1, swapA_i]
      by_cases e2 : k = c
      · rw [e2, swapA_j]; exact ordE.asymm _ _ hl
      · rw [swapA_o a (by omega) e2]; exact hsm k h0 hk e1
    · rw [swapA_o a e1 hne]
      by_cases e2 : k = r
      · subst e2
        rw [swapA_i]
        exact h.over c hc0 hch hp (by omega) hlo
      · rw [swapA_o a e2 (by omega)]
        exact h.rest k h0 hk hlo e1
  · rw [hp, swapA_i, swapA_o a (by omega) (by omega)]
    have := h.rest k h0 hk (by have := h.le; omega) (by omega)
    rwa [hpk] at this
/-- What siftDown leaves. -/
structure SfR {g : Nat} {lb : Array Value} {sf : Nat} {sb : Array Value} {n : Nat} (S : SrC g lb sf sb n) (lo hi f : Nat) (d : Nat → Ev) (w : World) (e : Ending) (w' : World) : Prop where
  mk :: (out : e = .returned (.tuple #[]) ∧ ∃ d', S.at_ w' d' ∧ PermR f (f + hi) d d' ∧ MaxH lo hi (shA f d') ∧ Fr (fun k => k = S.blk) w w')
set_option maxRecDepth 100000 in
set_option maxHeartbeats 3200000 in
theorem sift_any {g : Nat} {lb : Array Value} {sf : Nat} {sb : Array Value} {n : Nat} (S : SrC g lb sf sb n) (lo hi f : Nat) (d : Nat → Ev) (w : World) (h : S.at_ w d) (hlo : lo ≤ hi) (hn : f + hi ≤ n) (hH : MaxH (lo + 1) hi (shA f d)) :
    Calls Tryd.prog 60 #[lsV g lb sf sb, .int .i64 (lo : Int), .int .i64 (hi : Int), .int .i64 (f : Int)] w (SfR S lo hi f d w) := by
  have hfew := S.few
  have heg := S.eg
  have H0 : Hid (SrI S w (w.alloc (.cells #[.func (.func g) #[] lb, .func (.func sf) #[] sb] 101)) w.heap.size d ∧ SfH lo hi (shA f d) lo) := ⟨SrI.start h, Nat.le_refl _, fun k h0 hk hl hne => hH k h0 hk (by omega), fun k _ _ _ h1 _ => by omega⟩
  clear h hH
  unfold lsV
  go_enter Tryd.func60, Tryd.ntmps60
  go_wp2_with fail
  go_loopw [8, 9] (fun vr _ wr => ∃ (r : Nat) (dk : Nat → Ev), vr = .int .i64 r ∧ r ≤ hi ∧ SrI S w wr w.heap.size dk ∧ PermR f (f + hi) d dk ∧ SfH lo hi (shA f dk) r) (fun vr _ _ => hi + 1 - (intOf vr).toNat)
  case atStart => exact ⟨lo, d, rfl, hlo, H0.out.1, PermR.refl _ _ _, H0.out.2⟩
  case round =>
    clear H0
    obtain ⟨r, dk, rfl, hr, hI, hP, hS⟩ := hrel
    have HI : Hid (SrI S w wr w.heap.size dk ∧ PermR f (f + hi) d dk ∧ SfH lo hi (shA f dk) r) := ⟨hI, hP, hS⟩
    have hw1 : wrap64 (2 * (r : Int)) = 2 * (r : Int) := by unfold wrap64; omega
    obtain ⟨c1, hc1⟩ : ∃ c1 : Nat, c1 = 2 * r + 1 := ⟨_, rfl⟩
    have hw2 : wrap64 (2 * (r : Int) + 1) = (c1 : Int) := by unfold wrap64; omega
    have hw2' : 2 * (r : Int) + 1 = (c1 : Int) := by omega
    have HC : Hid (c1 = 2 * r + 1) := hc1
    clear hI hP hS
    by_cases h1 : hi ≤ c1
    · have h1' : (hi : Int) ≤ c1 := by omega
      have HE : Hid (SfR S lo hi f d w (.returned (.tuple #[])) wr) := ⟨rfl, dk, HI.out.1.row, HI.out.2.1, HI.out.2.2.stop (fun k h0 hk hp => by omega), HI.out.1.fr⟩
      clear HI hc1
      go_wp2
      go_end0
      exact HE.out
    · have h1' : ¬ ((hi : Int) ≤ c1) := by omega
      obtain ⟨c2, hc2⟩ : ∃ c2 : Nat, c2 = c1 + 1 := ⟨_, rfl⟩
      have hw3 : wrap64 ((c1 : Int) + 1) = (c2 : Int) := by unfold wrap64; omega
      have hw3' : (c1 : Int) + 1 = (c2 : Int) := by omega
      have hw4 : wrap64 (c2 : Int) = (c2 : Int) := by unfold wrap64; omega
      have HC2 : Hid (c2 = c1 + 1) := hc2
      have c0 := HI.out.1.c0
      clear hc1 hc2
      go_upto_region 4 with fail
      go_cut [32] (fun v wd => v = .bool (decide (c2 < hi) && ltE (dk (f + c1)) (dk (f + c2))) ∧ SrI S w wd w.heap.size dk)
      case first =>
        by_cases h2 : c2 < hi
        · have h2' : (c2 : Int) < hi := by omega
          have hl := S.less wr dk (f + c1) (f + c2) HI.out.1.row (by omega) (by omega)
          rw [show (((f + c2 : Nat) : Int)) = (f : Int) + (c1 : Int) + 1 by have := HC2.out; omega, show (((f + c1 : Nat) : Int)) = (f : Int) + (c1 : Int) by omega] at hl
          go_wp2_with fail
          refine hl.mono ?_
          rintro e w2 ⟨rfl, hb2⟩
          have hI2 := HI.out.1.less hb2
          clear hl hb2
          go_wp2_with fail
          go_meet
          exact ⟨by simp [h2], hI2⟩
        · have h2' : ¬ ((c2 : Int) < hi) := by omega
          go_wp2_with fail
          go_meet
          exact ⟨by simp [h2], HI.out.1⟩
      case rest =>
      obtain ⟨rfl, hI2⟩ := hcut
      have HI2 : Hid (SrI S w wc w.heap.size dk) := hI2
      clear hI2 c0
      go_upto_if 32 with fail
      go_cut [9] (fun v wd => wd = wc ∧ ∃ c : Nat, v = .int .i64 c ∧ c < hi ∧ 0 < c ∧ (c - 1) / 2 = r ∧ ∀ k, 0 < k → k < hi → (k - 1) / 2 = r → ltE (dk (f + c)) (dk (f + k)) = false)
      case first =>
        have hcc : ∀ k, 0 < k → (k - 1) / 2 = r → k = c1 ∨ k = c2 := fun k h0 hk => by have := HC.out; have := HC2.out; omega
        have hp1 : (c1 - 1) / 2 = r ∧ (c2 - 1) / 2 = r := by have := HC.out; have := HC2.out; omega
        cases hb : (decide (c2 < hi) && ltE (dk (f + c1)) (dk (f + c2))) with
        | true =>
          rw [Bool.and_eq_true, decide_eq_true_iff] at hb
          have HB : Hid (c2 < hi ∧ ltE (dk (f + c1)) (dk (f + c2)) = true ∧ (∀ k, 0 < k → (k - 1) / 2 = r → k = c1 ∨ k = c2) ∧ (c2 - 1) / 2 = r) := ⟨hb.1, hb.2, hcc, hp1.2⟩
          clear hb hcc hp1
          go_wp2_with fail
          go_meet
          refine ⟨rfl, c2, rfl, HB.out.1, by have := HC2.out; omega, HB.out.2.2.2, fun k h0 hk hp => ?_⟩
          rcases HB.out.2.2.1 k h0 hp with rfl | rfl
          · exact ordE.asymm _ _ HB.out.2.1
          · exact ltE_self _
        | false =>
          have HB : Hid ((∀ k, 0 < k → (k - 1) / 2 = r → k = c1 ∨ k = c2) ∧ (c1 - 1) / 2 = r ∧ (c2 < hi → ltE (dk (f + c1)) (dk (f + c2)) = false)) := ⟨hcc, hp1.1, fun h => by simpa [h] using hb⟩
          clear hb hcc hp1
          go_wp2_with fail
          go_meet
          refine ⟨rfl, c1, rfl, by omega, by have := HC.out; omega, HB.out.2.1, fun k h0 hk hp => ?_⟩
          rcases HB.out.1 k h0 hp with rfl | rfl
          · exact ltE_self _
          · exact HB.out.2.2 hk
      case rest =>
      obtain ⟨rfl, c, rfl, hch, hc0, hcp, hsm⟩ := hcut
      have HSM : Hid (∀ k, 0 < k → k < hi → (k - 1) / 2 = r → ltE (dk (f + c)) (dk (f + k)) = false) := hsm
      have c0 := HI2.out.c0
      have hl := S.less wc dk (f + r) (f + c) HI2.out.row (by omega) (by omega)
      rw [show (((f + r : Nat) : Int)) = (f : Int) + (r : Int) by omega, show (((f + c : Nat) : Int)) = (f : Int) + (c : Int) by omega] at hl
      clear hsm hw1 hw2 hw2' hw3 hw3' hw4 h1 h1'
      go_wp2_with fail
      refine hl.mono ?_
      rintro e w3 ⟨rfl, hb3⟩
      have hI3 := HI2.out.less hb3
      have c1' := hI3.c1
      cases hlv : ltE (dk (f + r)) (dk (f + c)) with
      | false =>
        have HE : Hid (SfR S lo hi f d w (.returned (.tuple #[])) w3) := ⟨rfl, dk, hI3.row, HI.out.2.1, HI.out.2.2.stop (fun k h0 hk hp => ltE_tr (HSM.out k h0 hk hp) hlv), hI3.fr⟩
        clear hl hb3 hI3 HI HI2 hlv c0 c1'
        go_wp2
        go_end0
        exact HE.out
      | true =>
        obtain ⟨w4, hs, ha4, hf4⟩ := S.swap w3 dk (f + r) (f + c) hI3.row (by omega) (by omega)
        rw [show (((f + r : Nat) : Int)) = (f : Int) + (r : Int) by omega, show (((f + c : Nat) : Int)) = (f : Int) + (c : Int) by omega] at hs
        have HN : Hid (SrI S w w4 w.heap.size (swapA dk (f + r) (f + c)) ∧ PermR f (f + hi) d (swapA dk (f + r) (f + c)) ∧ SfH lo hi (shA f (swapA dk (f + r) (f + c))) c) := ⟨hI3.swap ha4 hf4, HI.out.2.1.trans (PermR.swap dk ⟨by omega, by omega⟩ ⟨by omega, by omega⟩), by rw [shA_swap]; exact HI.out.2.2.step hc0 hch hcp hlv HSM.out⟩
        have hrc : r < c := by omega
        clear hl hb3 hI3 HI HI2 hlv c0 ha4 hf4
        go_wp2
        go_roundw
        case rel => exact ⟨c, _, rfl, by omega, HN.out.1, HN.out.2.1, HN.out.2.2⟩
        case measure => simp [intOf]; omega
end Go.Proofs.YthnobkiiaflelaaDoor
/- sort.heapSort_func, whatever the less lays. -/
namespace Go.Proofs.YthnobkiiaflelaaDoor
open Go.RowKit Go.Maps Go.Sort

attribute [local go_sem ↓] Go.wp_at_zero Go.wp_at_succ

/-- Nobody is above the first one. -/
theorem MaxH.root {m : Nat} {a : Nat → Ev} (h : MaxH 0 m a) : ∀ k, k < m → ltE (a 0) (a k) = false := by
  intro k
  induction k using Nat.strongRecOn with
  | _ k ih =>
    intro hk
    by_cases h0 : k = 0
    · subst h0; exact ltE_self _
    · have h1 := ih ((k - 1) / 2) (by omega) (by omega)
      have h2 := h k (by omega) hk (Nat.zero_le _)
      exact ltE_tr h2 h1
/-- The first j are a heap; those behind are sorted, and none of them is ahead of one of the heap's. -/
structure HpS (m j : Nat) (a : Nat → Ev) : Prop where
  heap : MaxH 0 j a
  sort : SortR j m a
  up : ∀ p q, p < j → j ≤ q → q < m → ltE (a q) (a p) = false
theorem HpS.cut {m i : Nat} {a : Nat → Ev} (h : HpS m (i + 1) a) (hi : i < m) : MaxH 1 i (swapA a 0 i) ∧ SortR i m (swapA a 0 i) ∧ ∀ p q, p < i → i ≤ q → q < m → ltE (swapA a 0 i q) (swapA a 0 i p) = false := by
  have hr := h.heap.root
  have hq : ∀ q, i < q → swapA a 0 i q = a q := fun q hq => swapA_o a (by omega) (by omega)
  have hp : ∀ p, p ≤ i → ∃ p', p' ≤ i ∧ swapA a 0 i p = a p' := fun p hp => by
    unfold swapA tr
    split
    · exact ⟨i, by omega, rfl⟩
    · split
      · exact ⟨0, by omega, rfl⟩
      · exact ⟨p, hp, rfl⟩
  refine ⟨fun k h0 hk hl => ?_, fun p q h1 h2 h3 => ?_, fun p q h1 h2 h3 => ?_⟩
  · rw [swapA_o a (by omega) (by omega), swapA_o a (by omega) (by omega)]
    exact h.heap k h0 (by omega) (Nat.zero_le _)
  · rw [hq q (by omega)]
    by_cases e : p = i
    · subst e
      rw [swapA_j]
      exact h.up 0 q (by omega) (by omega) h3
    · rw [hq p (by omega)]
      exact h.sort p q (by omega) h2 h3
  · obtain ⟨p', hp', e⟩ := hp p (by omega)
    rw [e]
    by_cases e2 : q = i
    · subst e2
      rw [swapA_j]
      exact hr p' (by omega)
    · rw [hq q (by omega)]
      exact h.up p' q (by omega) (by omega) h3
theorem seg_sh {f m : Nat} {d d' : Nat → Ev} (h : PermR f (f + m) d d') {p : Ev → Prop} (hp : ∀ k, k < m → p (shA f d k)) : ∀ k, k < m → p (shA f d' k) := fun k hk =>
  h.all (p := p) (fun i h1 h2 => by have := hp (i - f) (by omega); unfold shA at this; rwa [show f + (i - f) = i by omega] at this) (f + k) (by omega) (by omega)
set_option maxRecDepth 100000 in
set_option maxHeartbeats 3200000 in
theorem heapSort_any {g : Nat} {lb : Array Value} {sf : Nat} {sb : Array Value} {n : Nat} (S : SrC g lb sf sb n) (a b : Nat) (d : Nat → Ev) (w : World) (h : S.at_ w d) (hab : a < b) (hb : b ≤ n) :
    Calls Tryd.prog 53 #[lsV g lb sf sb, .int .i64 (a : Int), .int .i64 (b : Int)] w (SrR S a b d w) := by
  have hfew := S.few
  have heg := S.eg
  have H0 : Hid (SrI S w (w.alloc (.cells #[.func (.func g) #[] lb, .func (.func sf) #[] sb] 101)) w.heap.size d) := SrI.start h
  obtain ⟨m, hm⟩ : ∃ m : Nat, m = b - a := ⟨_, rfl⟩
  have hmi : (b : Int) - (a : Int) = (m : Int) := by omega
  have hq : ((m : Int) - 1).tdiv 2 = (((m - 1) / 2 : Nat) : Int) := by rw [Int.tdiv_eq_ediv_of_nonneg (by omega)]; omega
  have HM : Hid (m = b - a ∧ b = a + m) := ⟨hm, by omega⟩
  have hm1 : 1 ≤ m := by omega
  have hmn : a + m ≤ n := by omega
  clear h hm
  unfold lsV
  go_enter Tryd.func53, Tryd.ntmps53
  go_wp2_with fail
  go_loopw [9] (fun vi wr => ∃ (i : Nat) (dk : Nat → Ev), vi = .int .i64 ((i : Int) - 1) ∧ i ≤ m ∧ SrI S w wr w.heap.size dk ∧ PermR a (a + m) d dk ∧ MaxH i m (shA a dk)) (fun vi _ => (intOf vi + 1).toNat)
  case atStart => exact ⟨(m - 1) / 2 + 1, d, by congr 1; omega, by omega, H0.out, PermR.refl _ _ _, fun k h0 hk hl => by omega⟩
  case round =>
    clear H0
    obtain ⟨i, dk, rfl, hi, hI, hP, hH⟩ := hrel
    by_cases hi0 : 0 < i
    · obtain ⟨i, rfl⟩ : ∃ i', i = i' + 1 := ⟨i - 1, by omega⟩
      have hii : (((i + 1 : Nat) : Int)) - 1 = (i : Int) := by omega
      rw [hii]
      have hi0' : (0 : Int) ≤ i := by omega
      have hbx := hI.box
      have c0 := hI.c0
      have c1 := hI.c1
      have hs := sift_any S i m a dk wr hI.row (by omega) hmn hH
      unfold lsV at hs
      have HI : Hid (SrI S w wr w.heap.size dk ∧ PermR a (a + m) d dk) := ⟨hI, hP⟩
      clear hI hP hH hbx hi0
      go_wp2_with fail
      refine hs.mono ?_
      rintro e w2 ⟨rfl, d2, ha2, hp2, hh2, hf2⟩
      have HN : Hid (SrI S w w2 w.heap.size d2 ∧ PermR a (a + m) d d2 ∧ MaxH i m (shA a d2)) := ⟨HI.out.1.swap ha2 hf2, HI.out.2.trans hp2, hh2⟩
      clear hs ha2 hp2 hh2 hf2 HI c0 c1
      go_wp2
      exact ⟨⟨i, d2, rfl, by omega, HN.out.1, HN.out.2.1, HN.out.2.2⟩, by simp [intOf]⟩
    · obtain rfl : i = 0 := by omega
      have hi0' : ¬ ((0 : Int) ≤ ((0 : Nat) : Int) - 1) := by omega
      have H0 : Hid (SrI S w wr w.heap.size dk ∧ PermR a (a + m) d dk ∧ HpS m m (shA a dk)) := ⟨hI, hP, hH, fun p q _ _ _ => by omega, fun p q _ _ _ => by omega⟩
      clear hI hP hH
      go_wp2_with fail
      go_loopw [10] (fun vi wr => ∃ (j : Nat) (dk : Nat → Ev), vi = .int .i64 ((j : Int) - 1) ∧ j ≤ m ∧ SrI S w wr w.heap.size dk ∧ PermR a (a + m) d dk ∧ HpS m j (shA a dk)) (fun vi _ => (intOf vi + 1).toNat)
      case atStart => exact ⟨m, dk, rfl, Nat.le_refl _, H0.out.1, H0.out.2.1, H0.out.2.2⟩
      case round =>
        clear H0
        clear dk
        obtain ⟨j, dk, rfl, hj, hI, hP, hH⟩ := hrel
        by_cases hj0 : 0 < j
        · obtain ⟨i, rfl⟩ : ∃ i', j = i' + 1 := ⟨j - 1, by omega⟩
          have hii : (((i + 1 : Nat) : Int)) - 1 = (i : Int) := by omega
          rw [hii]
          have hi1' : (0 : Int) ≤ i := by omega
          have c1 := hI.c1
          obtain ⟨w2, hs, ha2, hf2⟩ := S.swap wr dk a (a + i) hI.row (by omega) (by omega)
          rw [show (((a + i : Nat) : Int)) = (a : Int) + (i : Int) by omega] at hs
          have hI2 := hI.swap ha2 hf2
          have hc := hH.cut (by omega : i < m)
          have hsh : shA a (swapA dk a (a + i)) = swapA (shA a dk) 0 i := shA_swap a dk 0 i
          rw [← hsh] at hc
          have c0' := hI2.c0
          have c1' := hI2.c1
          have hsd := sift_any S 0 i a (swapA dk a (a + i)) w2 ha2 (Nat.zero_le _) (by omega) hc.1
          unfold lsV at hsd
          have hz : (((0 : Nat) : Int)) = 0 := rfl
          rw [hz] at hsd
          have HI : Hid (SrI S w w2 w.heap.size (swapA dk a (a + i)) ∧ PermR a (a + m) d (swapA dk a (a + i)) ∧ SortR i m (shA a (swapA dk a (a + i))) ∧ ∀ p q, p < i → i ≤ q → q < m → ltE (shA a (swapA dk a (a + i)) q) (shA a (swapA dk a (a + i)) p) = false) := ⟨hI2, hP.trans (PermR.swap dk ⟨by omega, by omega⟩ ⟨by omega, by omega⟩), hc.2.1, hc.2.2⟩
          clear hI hP hH hI2 ha2 hf2 hc hsh hj0 hz
          go_wp2_with fail
          refine hsd.mono ?_
          rintro e w3 ⟨rfl, d3, ha3, hp3, hh3, hf3⟩
          have hout : ∀ q, i ≤ q → shA a d3 q = shA a (swapA dk a (a + i)) q := fun q hq => hp3.out (a + q) (by omega)
          have HN : Hid (SrI S w w3 w.heap.size d3 ∧ PermR a (a + m) d d3 ∧ HpS m i (shA a d3)) := by
            refine ⟨HI.out.1.swap ha3 hf3, HI.out.2.1.trans (hp3.wide (Nat.le_refl _) (by omega) (by omega)), hh3, HI.out.2.2.1.congr (fun k h1 _ => hout k h1), fun p q h1 h2 h3 => ?_⟩
            rw [hout q h2]
            exact seg_sh hp3 (p := fun x => ltE (shA a (swapA dk a (a + i)) q) x = false) (fun k hk => HI.out.2.2.2 k q hk h2 h3) p h1
          clear hsd ha3 hp3 hh3 hf3 HI c0' c1' c1 hout hs
          go_wp2
          exact ⟨⟨i, d3, rfl, by omega, HN.out.1, HN.out.2.1, HN.out.2.2⟩, by simp [intOf]⟩
        · obtain rfl : j = 0 := by omega
          have hj0' : ¬ ((0 : Int) ≤ ((0 : Nat) : Int) - 1) := by omega
          have HE : Hid (SrR S a b d w (.returned (.tuple #[])) wr) := by
            refine ⟨rfl, dk, hI.row, by rw [HM.out.2]; exact hP, fun p q h1 h2 h3 => ?_, hI.fr⟩
            have := hH.sort (p - a) (q - a) (Nat.zero_le _) (by omega) (by have := HM.out.1; omega)
            unfold shA at this
            rwa [show a + (q - a) = q by omega, show a + (p - a) = p by omega] at this
          clear hI hP hH
          go_wp2
          go_end0
          exact HE.out
end Go.Proofs.YthnobkiiaflelaaDoor
