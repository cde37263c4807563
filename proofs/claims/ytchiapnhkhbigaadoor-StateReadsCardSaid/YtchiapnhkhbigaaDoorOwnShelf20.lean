/- What the document lays: numbers' digits, numbers, ints, bytes, sums. -/
import Derived.Test.YtchiapnhkhbigaaDoorOwnShelf19
import Derived.Test.YtchiapnhkhbigaaDoorOwnShelf13
namespace Go.Proofs.YtchiapnhkhbigaaDoor
open Go.RowKit

/-- The last q digits of a number, the highest first. -/
def lastD (n : Int) (q : Nat) : List Int := (List.range q).map fun j => n / 256 ^ (q - 1 - j) % 256
theorem lastD_length (n : Int) (q : Nat) : (lastD n q).length = q := by simp [lastD]
theorem lastD_succ (n : Int) (q : Nat) : lastD n (q + 1) = (n / 256 ^ q % 256) :: lastD n q := by
  unfold lastD
  rw [List.range_succ_eq_map, List.map_cons, List.map_map]
  congr 1
  apply List.map_congr_left
  intro j hj
  have : j < q := by simpa using hj
  show n / 256 ^ (q + 1 - 1 - (j + 1)) % 256 = _
  rw [show q + 1 - 1 - (j + 1) = q - 1 - j from by omega]
theorem lastD_bd (n : Int) (q : Nat) : ∀ x, x ∈ lastD n q → 0 ≤ x ∧ x ≤ 255 := by
  intro x hx
  simp only [lastD, List.mem_map] at hx
  obtain ⟨j, _, rfl⟩ := hx
  omega
theorem lastD_dgs (n : Int) : lastD n (sz n) = dgs false n (sz n) (sz n) := by
  unfold lastD dgs
  apply List.map_congr_left
  intro j _
  simp [dgt, trn]
theorem sz_is (n : Int) (q : Nat) (h0 : 0 ≤ n) (h8 : q ≤ 8) (hz : n / 256 ^ q = 0) (hp : q = 0 ∨ 0 < n / 256 ^ (q - 1)) : sz n = q := by
  have hc : q = 0 ∨ q = 1 ∨ q = 2 ∨ q = 3 ∨ q = 4 ∨ q = 5 ∨ q = 6 ∨ q = 7 ∨ q = 8 := by omega
  rcases hc with h | h | h | h | h | h | h | h | h <;> subst h <;> simp only [Nat.reduceSub, Int.reducePow, Nat.reduceEqDiff, false_or, true_or] at hz hp <;> unfold sz <;> repeat' split
  all_goals omega
theorem div_step (n : Int) (q : Nat) : n / 256 ^ q / 256 = n / 256 ^ (q + 1) := by
  rw [Int.pow_succ, Int.ediv_ediv_of_nonneg (Int.le_of_lt (Int.pow_pos (by decide)))]
theorem div_bd (n : Int) (q : Nat) (h0 : 0 ≤ n) (h1 : n ≤ 18446744073709551615) : 0 ≤ n / 256 ^ q ∧ n / 256 ^ q ≤ 18446744073709551615 := by
  have hp : (0 : Int) < 256 ^ q := Int.pow_pos (by decide)
  refine ⟨Int.ediv_nonneg h0 (Int.le_of_lt hp), ?_⟩
  exact Int.le_trans (Int.ediv_le_self _ h0) h1
theorem div_8 (n : Int) (q : Nat) (h0 : 0 ≤ n) (h1 : n ≤ 18446744073709551615) (hq : q ≤ 8) (hp : 0 < n / 256 ^ q) : q < 8 := by
  rcases Nat.lt_or_ge q 8 with h | h
  · exact h
  · have : q = 8 := by omega
    subst this
    simp only [Int.reducePow] at hp
    omega

set_option maxRecDepth 100000 in
set_option maxHeartbeats 1600000 in
theorem refDigits_own (n : Int) (w : World) (h0 : 0 ≤ n) (h1 : n ≤ 18446744073709551615) :
    Calls Tryd.prog 71 #[.int .u64 n] w fun e w' => ∃ v, e = .returned v ∧ Ow w w' v (dgs false n (sz n) (sz n)) := by
  have H0 : Hid (0 ≤ n ∧ n ≤ 18446744073709551615) := ⟨h0, h1⟩
  clear h0 h1
  go_enter Tryd.func71, Tryd.ntmps71
  go_wp2
  go_loopw [0, 3] (fun nv v wr => ∃ (q : Nat) (vo : Value), q ≤ 8 ∧ (q = 0 ∨ 0 < n / 256 ^ (q - 1)) ∧ nv = .int .u64 (n / 256 ^ q) ∧ v = vo ∧ Ow w wr vo (lastD n q)) (fun nv _ _ => (intOf nv).toNat)
  case atStart => exact ⟨0, _, by omega, .inl rfl, by simp, rfl, Ow.nil w⟩
  case round =>
    obtain ⟨q, vo, hq, hp, rfl, hv, hO⟩ := hrel
    have hv' := hv.symm
    subst hv'
    clear hv
    have hb := div_bd n q H0.out.1 H0.out.2
    have hst := div_step n q
    have HP8 := fun h => div_8 n q H0.out.1 H0.out.2 hq h
    generalize hm : n / 256 ^ q = m at *
    have HM : Hid (n / 256 ^ q = m) := hm
    have HP : Hid (q = 0 ∨ 0 < n / 256 ^ (q - 1)) := hp
    have HST : Hid (m / 256 = n / 256 ^ (q + 1)) := hst
    have HO : Hid (Ow w wr vo (lastD n q)) := hO
    have hlen := lastD_length n q
    clear hm hp hst hO
    by_cases hpos : 0 < m
    · have hq8 := HP8 hpos
      have hg : decide (m > 0) = true := by simpa using hpos
      have hr : m.tmod 256 = m % 256 := Int.tmod_eq_emod_of_nonneg hb.1
      have hd : m.tdiv 256 = m / 256 := Int.tdiv_eq_ediv_of_nonneg hb.1
      clear HP8
      go_wp2_with (first
        | (at_builtin; refine wpList_append_B rfl (.tmp 7) (.tmp 11) rfl wr _ _ [] [m % 256] rfl rfl ((Ow.nil wr).alloc _) (one_src wr _) (by intro y hy; rw [List.mem_singleton.1 hy]; omega) (by simp) ?_; intro v1 w1 hO1)
        | (at_builtin; refine wpList_append_B rfl (.tmp 12) (.tmp 13) rfl wr _ _ _ (lastD n q) rfl rfl hO1 (HO.out.src hO1.below) (lastD_bd n q) (by rw [hlen]; simp; omega) ?_; intro v2 w2 hO2)
        | fail)
      go_roundw
      case rel =>
        refine ⟨q + 1, _, by omega, .inr (by rw [Nat.add_sub_cancel, HM.out]; exact hpos), by rw [← HST.out], rfl, ?_⟩
        rw [lastD_succ, HM.out]
        exact hO2.mono HO.out.below
      case measure => simp [intOf]; omega
    · have hg : decide (m > 0) = false := by simpa using hpos
      have hm0 : n / 256 ^ q = 0 := by rw [HM.out]; omega
      have HSZ : Hid (sz n = q) := sz_is n q H0.out.1 hq hm0 HP.out
      clear hm0
      go_wp2
      go_ret
      refine ⟨vo, rfl, ?_⟩
      rw [← lastD_dgs, HSZ.out]
      exact HO.out
theorem refDigits_any (n : Int) (w : World) (h0 : 0 ≤ n) (h1 : n ≤ 18446744073709551615) :
    Calls Tryd.prog 71 #[.int .u64 n] w fun e w' => ∃ da dc, e = .returned (.slice da (sz n) dc) ∧ Ow w w' (.slice da (sz n) dc) (dgs false n (sz n) (sz n)) := by
  refine (refDigits_own n w h0 h1).mono fun e w' ⟨v, h, hO⟩ => ?_
  obtain ⟨da, dc, e1⟩ := hO.form
  rw [dgs_length] at e1
  subst e1
  exact ⟨da, dc, h, hO⟩
theorem dgs_bd (t : Bool) (n : Int) (k q : Nat) : ∀ x, x ∈ dgs t n k q → 0 ≤ x ∧ x ≤ 255 := by
  intro x hx
  simp only [dgs, List.mem_map] at hx
  obtain ⟨j, _, rfl⟩ := hx
  exact dgt_bd t n k j
theorem SlAt.below {w w' : World} {ad : Option Addr} {n : Nat} {z : Nat → Int} (h : SlAt w ad n z) (hb : Below w.heap.size w w') : SlAt w' ad n z := h.frm (S := []) (Frm.ofBelow hb) (by simp)

set_option maxRecDepth 100000 in
set_option maxHeartbeats 1600000 in
theorem refUint_any (ad : Option Addr) (l : List Int) (cap : Nat) (n : Int) (w : World) (hs : SlAt w ad l.length (fn l)) (hnil : ad = none → l.length = 0 ∧ cap = 0) (hn : l.length + 64 ≤ 140737488351232) (h0 : 0 ≤ n) (h1 : n ≤ 18446744073709551615) :
    Calls Tryd.prog 42 #[.slice ad l.length cap, .int .u64 n] w fun e w' => ∃ v, e = .returned v ∧ Ow w w' v (l ++ uB n) := by
  have HS : Hid (SlAt w ad l.length (fn l)) := hs
  have HU : Hid (uB n = (sz n : Int) :: dgs false n (sz n) (sz n)) := rfl
  have hlen := dgs_length false n (sz n) (sz n)
  have hk := sz_le n
  clear hs
  go_enter Tryd.func42, Tryd.ntmps42
  go_wp2_with (first
    | (go_at_call 71; refine (refDigits_any n _ h0 h1).mono ?_; rintro e w1 ⟨da, dc, rfl, hD⟩)
    | (go_at_call 72; refine (refOwn_any ad l cap _ (HS.out.below hD.below) hnil (by omega)).mono ?_; rintro e w2 ⟨vo, rfl, hO⟩)
    | (at_builtin; refine wpList_append_B rfl (.tmp 9) (.tmp 13) rfl w1 _ _ l [(sz n : Int)] rfl rfl (hO.alloc _) (one_src w2 _) (by intro y hy; rw [List.mem_singleton.1 hy]; omega) (by simp; omega) ?_; intro v1 w3 hO1)
    | (at_builtin; refine wpList_append_B rfl (.tmp 14) (.tmp 15) rfl w1 _ _ _ (dgs false n (sz n) (sz n)) rfl rfl hO1 (hD.src hO1.below) (dgs_bd _ _ _ _) (by rw [hlen]; simp; omega) ?_; intro v2 w4 hO2)
    | fail)
  go_ret
  refine ⟨v2, rfl, ?_⟩
  rw [HU.out]
  simpa using hO2.mono hD.below

end Go.Proofs.YtchiapnhkhbigaaDoor
