/- sort.breakPatterns_func, whatever the less lays. -/
import Derived.Test.YthnobkiiaflelaaDoorOwnShelf40
import Derived.Test.YthnobkiiaflelaaDoorOwnShelf35
namespace Go.Proofs.YthnobkiiaflelaaDoor
open Go.RowKit Go.Maps Go.Sort Go.Shelf Go.Lib

attribute [local go_sem ↓] Go.wp_at_zero Go.wp_at_succ

theorem nextPow (l : Nat) (hl : 1 ≤ l) (hl2 : l ≤ 1000000) : ∃ M : Nat, 1 ≤ M ∧ M ≤ 2 * l ∧ ∀ w, Calls Tryd.prog 61 #[.int .i64 (l : Int)] w fun e w' => e = .returned (.int .u64 (M : Int)) ∧ w' = w := by
  refine ⟨1 <<< bitsLen l, by rw [Nat.one_shiftLeft]; exact Nat.two_pow_pos _, by rw [Nat.one_shiftLeft]; exact two_pow_bitsLen_le (by omega), fun w => ?_⟩
  have h := Any.nextPowerOfTwo (P := Tryd.prog) { Tryd.lBreak with } l (by omega) w
  change Calls Tryd.prog 61 _ w _ at h
  exact h
theorem xorNxt (rb X : Nat) (hX : X < 18446744073709551616) (w : World) (hc : w.cell? ⟨rb, 0, none⟩ = some (.int .u64 X)) (hf : w.frozen? ⟨rb, 0, none⟩ = false) : ∃ Y : Nat, Y < 18446744073709551616 ∧ Calls Tryd.prog 62 #[.pointer (some ⟨rb, 0, none⟩)] w fun e w' => e = .returned (.int .u64 (Y : Int)) ∧ w' = (w.setCell ⟨rb, 0, none⟩ (.int .u64 (Y : Int))).drewN 3 := by
  refine ⟨xorNextN X, xorNextN_lt X hX, ?_⟩
  have h := Any.xorshift_Next (P := Tryd.prog) { Tryd.lBreak with } rb 0 X hX w hc hf
  change Calls Tryd.prog 62 _ w _ at h
  exact h
/-- On the way: the row, the box, the random number's box. -/
structure BkI {g : Nat} {lb : Array Value} {sf : Nat} {sb : Array Value} {n : Nat} (S : SrC g lb sf sb n) (w wr : World) (d : Nat → Ev) : Prop where
  sr : SrI S w wr w.heap.size d
  rnd : ∃ X : Nat, X < 18446744073709551616 ∧ wr.heap[w.heap.size + 1]? = some (.cells #[.int .u64 (X : Int)] 131 (0, 0))
  ne : w.heap.size + 1 ≠ S.blk ∧ w.heap.size + 1 ≠ S.bs
set_option maxRecDepth 100000 in
set_option maxHeartbeats 3200000 in
theorem break_any {g : Nat} {lb : Array Value} {sf : Nat} {sb : Array Value} {n : Nat} (S : SrC g lb sf sb n) (a b : Nat) (d : Nat → Ev) (w : World) (h : S.at_ w d) (hab : a + 13 ≤ b) (hb : b ≤ n) :
    Calls Tryd.prog 54 #[lsV g lb sf sb, .int .i64 (a : Int), .int .i64 (b : Int)] w (SpR S a b d w) := by
  have hfew := S.few
  obtain ⟨l, hl⟩ : ∃ l : Nat, l = b - a := ⟨_, rfl⟩
  have hli : (b : Int) - (a : Int) = (l : Int) := by omega
  obtain ⟨q, hq⟩ : ∃ q : Nat, q = l / 4 := ⟨_, rfl⟩
  have hqi : (l : Int).tdiv 4 = (q : Int) := by rw [Int.tdiv_eq_ediv_of_nonneg (by omega)]; omega
  have hw2 : wrap64 ((q : Int) * 2) = (q : Int) * 2 := by unfold wrap64; omega
  have hwl : IntKind.u64.wrap (l : Int) = (l : Int) := by rw [IntKind.wrap_u64]; omega
  obtain ⟨z, hz⟩ : ∃ z : Nat, z = a + q * 2 := ⟨_, rfl⟩
  have hzi : (a : Int) + (q : Int) * 2 = (z : Int) := by omega
  have hzr : a + 1 ≤ z ∧ z + 1 < b := by omega
  have h8 : (8 : Int) ≤ l := by omega
  obtain ⟨M, hM1, hM2, hnp⟩ := nextPow l (by omega) (by omega)
  have hI0 : SrI S w (w.alloc (.cells #[.func (.func g) #[] lb, .func (.func sf) #[] sb] 101)) w.heap.size d := SrI.start h
  have HW : Hid (BkI S w ((w.alloc (.cells #[.func (.func g) #[] lb, .func (.func sf) #[] sb] 101)).alloc (.cells #[.int .u64 (l : Int)] 131)) d) := by
    refine ⟨hI0.less ((Below.refl _ _).alloc (Nat.le_refl _) _), ⟨l, by omega, ?_⟩, by have := (S.low h).1; omega, by have := (S.low h).2; omega⟩
    have := heap_alloc_new (w.alloc (.cells #[.func (.func g) #[] lb, .func (.func sf) #[] sb] 101)) (.cells #[.int .u64 (l : Int)] 131)
    simpa using this
  have HLB : Hid (l = b - a) := hl
  clear h hI0 hq hz hl
  unfold lsV
  go_enter Tryd.func54, Tryd.ntmps54
  go_wp2_with (first | (go_at_call 61; refine (hnp _).mono ?_; rintro e w' ⟨rfl, rfl⟩) | fail)
  go_loopw [9, 10] (fun vi _ wr => ∃ (t : Nat) (dk : Nat → Ev), vi = .int .i64 ((z : Int) - 1 + (t : Int)) ∧ t ≤ 3 ∧ BkI S w wr dk ∧ PermR a b d dk) (fun vi _ _ => (z + 2 - intOf vi).toNat)
  case atStart => exact ⟨0, d, by simp, by omega, HW.out, PermR.refl _ _ _⟩
  case round =>
    clear HW
    obtain ⟨t, dk, rfl, ht, hI, hP⟩ := hrel
    by_cases ht3 : t < 3
    · obtain ⟨y, hy, hyi⟩ : ∃ y : Nat, y = z - 1 + t ∧ (z : Int) - 1 + (t : Int) = (y : Int) := ⟨_, rfl, by omega⟩
      rw [hyi]
      have hle : (y : Int) ≤ (z : Int) + 1 := by omega
      have HY : Hid (y = z - 1 + t ∧ (a ≤ y ∧ y < b)) := ⟨hy, by omega⟩
      have HIP : Hid (BkI S w wr dk ∧ PermR a b d dk) := ⟨hI, hP⟩
      clear hI hP hy hyi
      go_upto_region 8 with fail
      have hI := HIP.out.1
      have hP := HIP.out.2
      have hyr := HY.out.2
      obtain ⟨X, hX, hxb⟩ := hI.rnd
      obtain ⟨Y, hY, hnx⟩ := xorNxt (w.heap.size + 1) X hX wr (by rw [cell_of_row _ _ 0 _ _ _ hxb]; rfl) (by simp [World.frozen?, hxb])
      obtain ⟨O, hO⟩ : ∃ O : Nat, O = Y &&& (M - 1) := ⟨_, rfl⟩
      have lO : O ≤ M - 1 := by rw [hO]; exact Nat.and_le_right
      have eAnd : bits .and .u64 (Y : Int) ((M : Int) - 1) = (O : Int) := by
        rw [show ((M : Int) - 1) = ((M - 1 : Nat) : Int) by omega, bits_and_u64_nat _ _ hY (by omega), hO]
      have hwM : IntKind.u64.wrap ((M : Int) - 1) = (M : Int) - 1 := by rw [IntKind.wrap_u64]; omega
      have HwO : Hid (wrap64 (O : Int) = (O : Int)) := by unfold Hid wrap64; omega
      obtain ⟨w2, hw2'⟩ : ∃ w2, (wr.setCell ⟨w.heap.size + 1, 0, none⟩ (.int .u64 (Y : Int))).drewN 3 = w2 := ⟨_, rfl⟩
      have hI2 : BkI S w w2 dk := by
        have hk : ∀ k, k ≠ w.heap.size + 1 → w2.heap[k]? = wr.heap[k]? := fun k hk => by rw [← hw2']; exact setc _ _ _ _ hk
        refine ⟨⟨S.keep hI.sr.row fun k e => hk k (by rcases e with rfl | rfl; exact Ne.symm hI.ne.1; exact Ne.symm hI.ne.2), ?_, (hk _ (by omega)).trans hI.sr.box, hI.sr.ne⟩, ⟨Y, hY, ?_⟩, hI.ne⟩
        · refine hI.sr.fr.trans (M' := fun k => k = w.heap.size + 1) ⟨by rw [← hw2']; rfl, by rw [← hw2']; rfl, by rw [← hw2']; rfl, by rw [← hw2']; simp [World.setCell], fun k _ hk' => hk k hk'⟩ (fun k hk' e => by omega)
        · rw [← hw2']
          show (wr.setCell ⟨w.heap.size + 1, 0, none⟩ (.int .u64 (Y : Int))).heap[w.heap.size + 1]? = _
          rw [heap_setCell_same _ _ 0 _ _ _ hxb]; rfl
      rw [hw2'] at hnx
      have c1 := hI2.sr.c1
      have HX : Hid (BkI S w w2 dk ∧ PermR a b d dk) := ⟨hI2, hP⟩
      have HSW : Hid (∀ O', O' < l → ∃ w3, (callFunc sf (#[.int .i64 (y : Int), .int .i64 ((a + O' : Nat) : Int)] ++ sb)).run Tryd.prog w2 = .ok (.value (.tuple #[])) w3 ∧ BkI S w w3 (swapA dk y (a + O')) ∧ PermR a b d (swapA dk y (a + O'))) := fun O' hO' => by
        have hlb := HLB.out
        obtain ⟨w3, hs, ha, hf⟩ := S.swap w2 dk y (a + O') hI2.sr.row (by omega) (by omega)
        obtain ⟨X2, hX2, hxb2⟩ := hI2.rnd
        exact ⟨w3, hs, ⟨hI2.sr.swap ha hf, ⟨X2, hX2, (hf.block _ (lt_of_block hxb2) hI2.ne.1).trans hxb2⟩, hI2.ne⟩, hP.trans (PermR.swap dk ⟨by omega, by omega⟩ ⟨by omega, by omega⟩)⟩
      clear hI hxb hX hO hw2' hI2 hP HIP hw2 hqi hzi hli hwl h8
      go_wp2_with fail
      refine hnx.mono ?_
      rintro e wx ⟨rfl, rfl⟩
      clear hnx
      go_upto_region 9 with fail
      rw [HwO.out]
      have HO : Hid (O ≤ M - 1 ∧ M ≤ 2 * l ∧ 1 ≤ M) := ⟨lO, hM2, hM1⟩
      have hl6 : l ≤ 1000000 := by have := HLB.out; omega
      have hO2 : O ≤ 2000000 := by omega
      clear eAnd hwM HwO hY lO hM2 hM1 hnp hle
      by_cases hOl : O < l
      · obtain ⟨w3, hs3, hB3, hP3⟩ := HSW.out O hOl
        rw [show (((a + O : Nat) : Int)) = (a : Int) + (O : Int) by omega] at hs3
        have HN : Hid (BkI S w w3 (swapA dk y (a + O)) ∧ PermR a b d (swapA dk y (a + O))) := ⟨hB3, hP3⟩
        have hOl' : ¬ ((l : Int) ≤ O) := by omega
        clear hB3 hP3 HSW HX
        go_wp2
        exact ⟨⟨t + 1, _, by congr 1; have := HY.out.1; omega, by omega, HN.out.1, HN.out.2⟩, by simp [intOf]; have := HY.out.1; omega⟩
      · obtain ⟨w3, hs3, hB3, hP3⟩ := HSW.out (O - l) (by have := HO.out; omega)
        rw [show (((a + (O - l) : Nat) : Int)) = (a : Int) + ((O : Int) - (l : Int)) by omega] at hs3
        have HN : Hid (BkI S w w3 (swapA dk y (a + (O - l))) ∧ PermR a b d (swapA dk y (a + (O - l)))) := ⟨hB3, hP3⟩
        have hOl' : (l : Int) ≤ O := by omega
        clear hB3 hP3 HSW HX
        go_wp2
        exact ⟨⟨t + 1, _, by congr 1; have := HY.out.1; omega, by omega, HN.out.1, HN.out.2⟩, by simp [intOf]; have := HY.out.1; omega⟩
    · have hle : ¬ ((z : Int) - 1 + (t : Int) ≤ (z : Int) + 1) := by omega
      have HE : Hid (SpR S a b d w (.returned (.tuple #[])) wr) := ⟨rfl, dk, hI.sr.row, hP, hI.sr.fr⟩
      clear hI hP
      go_wp2
      go_end0
      exact HE.out
end Go.Proofs.YthnobkiiaflelaaDoor
