/- tree.Left. -/
import Derived.Test.YtlnoabedcnlpoaaDoorJPath
namespace Go.Proofs.YtlnoabedcnlpoaaDoor
open Go.RowKit

/-- What the first i ranks have left, as the digits of a number, cut. -/
def leftI (c : Tc) (z : Nat → Int) : Nat → Int
  | 0 => 0
  | i + 1 => min (leftI c z i * (stp c c.fi + 1) + stp c (z i)) 1073741824
def leftF (c : Tc) (z : Nat → Int) (n : Nat) : Int := if isE c z n = 0 then leftI c z n else 0
theorem stp_bd {c : Tc} {h : Int} (h1 : TOk1 c) (h2 : TOk2 c) (ha : c.la ≤ h) (hb : h ≤ c.fi) : 0 ≤ stp c h ∧ stp c h ≤ 255 ∧ stp c h ≤ stp c c.fi := by
  have a1 : 0 < c.st := by have := h1.2.1; omega
  have m : stp c h ≤ stp c c.fi := Int.ediv_le_ediv a1 (by omega)
  exact ⟨Int.ediv_nonneg (by omega) (by omega), by have := h2.2; omega, m⟩
theorem leftI_bd {c : Tc} {z : Nat → Int} (h1 : TOk1 c) (h2 : TOk2 c) : ∀ i, (∀ j, j < i → c.la ≤ z j ∧ z j ≤ c.fi) → 0 ≤ leftI c z i ∧ leftI c z i ≤ 1073741824
  | 0, _ => by simp [leftI]
  | i + 1, h => by
    have a := leftI_bd h1 h2 i (fun j hj => h j (by omega))
    have b := stp_bd h1 h2 (h i (by omega)).1 (h i (by omega)).2
    have d := stp_bd (c := c) h1 h2 h1.2.2.2.1 (Int.le_refl _)
    have m : 0 ≤ leftI c z i * (stp c c.fi + 1) := Int.mul_nonneg a.1 (by omega)
    simp only [leftI]
    omega
set_option maxRecDepth 100000 in
set_option maxHeartbeats 1600000 in
theorem left_any (c : Tc) (ka : Option Addr) (kc : Nat) (ad : Option Addr) (n cap : Nat) (z : Nat → Int) (w : World) (h : IsAt w ad n z) (hn : n ≤ 1000000) (hI : TcIn w c ka) :
    Calls Tryd.prog 13 #[.agg (tcv c ka kc), .slice ad n cap] w fun e w' => e = .returned (.tuple #[.int .i64 (leftF c z n), errV (isE c z n)]) ∧ Below w.heap.size w w' := by
  have HH : Hid (IsAt w ad n z ∧ TcIn w c ka) := ⟨h, hI⟩
  clear h hI
  go_enter Tryd.func13, Tryd.ntmps13
  go_upto_region 1 with (first | (refine wpList_boxN rfl _ _ rfl (tcv c ka kc) rfl ?_; intro v1 N1) | fail)
  have HX : Hid (Below w.heap.size w v1 ∧ (∀ w' : World, Below v1.heap.size v1 w' → w'.rangeAt w.heap.size 0 (tcl c ka kc))) :=
    ⟨N1.below, fun w' hb => tcl_range (heap_below hb N1.blk)⟩
  clear N1
  have HR1 := hidV (HX.out.2 v1 (Below.refl _ _))
  go_wp2_with (first | (refine wpList_load_mid rfl 32 _ rfl w.heap.size 0 rfl (tcl c ka kc) _ HR1.out Tryd.underlying32 rfl (szTl c ka kc) ?_) | fail)
  refine (checkPath_any c ka kc ad n cap z v1 (HH.out.1.below HX.out.1) hn (HH.out.2.below HX.out.1)).mono ?_
  rintro e v2 ⟨rfl, hb2⟩
  have HB2 := hidV hb2
  have HBE := hidV (Below.transS HX.out.1 hb2)
  clear hb2 HR1
  by_cases h0 : isE c z n = 0
  · have HO := hidV (isE_ok h0)
    have HF : Hid (leftF c z n = leftI c z n) := if_pos h0
    have HZ := hidV h0
    have HT := hidV (chkT_ok HO.out.1)
    rw [h0, errV_zero]
    clear h0
    have HR2 := hidV (HX.out.2 v2 HB2.out)
    have fi := (tcBox HR2.out).fi
    go_wp2_with (first | (refine wpList_load_mid rfl 32 _ rfl w.heap.size 0 rfl (tcl c ka kc) _ HR2.out Tryd.underlying32 rfl (szTl c ka kc) ?_) | fail)
    refine (stepsLeft_any c ka kc c.fi v2 HT.out.1 HT.out.1.2.2.2.1 (Int.le_refl _)).mono ?_
    rintro e v3 ⟨rfl, hb3⟩
    have HB3 := hidV (Below.transS HB2.out hb3)
    clear hb3 HR2 fi
    have hq := stp_bd (c := c) HT.out.1 HT.out.2.1 HT.out.1.2.2.2.1 (Int.le_refl _)
    have w1 : IntKind.i64.wrap (stp c c.fi + 1) = stp c c.fi + 1 := by rw [IntKind.wrap_i64]; omega
    have HQ := hidV hq
    clear hq
    go_wp2
    clear w1
    go_loopw [8, 10, 24] (fun lv kv iv wr => ∃ i : Nat, i ≤ n ∧ lv = .int .i64 (leftI c z i) ∧ iv = .int .i64 i ∧ Below v1.heap.size v1 wr) (fun _ _ iv _ => n + 1 - (intOf iv).toNat)
    case atStart => exact ⟨0, by omega, rfl, rfl, HB3.out⟩
    case round =>
      obtain ⟨i, hi, rfl, rfl, hb⟩ := hrel
      have HB := hidV hb
      clear hb
      by_cases hlt : i < n
      · have hlt' : (i : Int) < n := by omega
        have HIw := hidV (HH.out.1.below (Below.transS HX.out.1 HB.out))
        obtain ⟨b, off, rfl, hc⟩ := HIw.out (by omega)
        have hci := hc i hlt
        clear hc
        have hz := (HO.out.2.2 i hlt).1
        have HR := hidV (HX.out.2 wr HB.out)
        have hst := stepsLeft_any c ka kc (z i) wr HT.out.1 hz.1 hz.2
        have hq := stp_bd (c := c) HT.out.1 HT.out.2.1 hz.1 hz.2
        have hl := leftI_bd (z := z) HT.out.1 HT.out.2.1 i (fun j hj => (HO.out.2.2 j (by omega)).1)
        have hQ := HQ.out
        have hm : 0 ≤ leftI c z i * (stp c c.fi + 1) ∧ leftI c z i * (stp c c.fi + 1) ≤ 1073741824 * 256 := ⟨Int.mul_nonneg hl.1 (by omega), Int.mul_le_mul hl.2 (by omega) (by omega) (by omega)⟩
        have w1 : IntKind.i64.wrap (leftI c z i * (stp c c.fi + 1)) = leftI c z i * (stp c c.fi + 1) := by rw [IntKind.wrap_i64]; omega
        have w2 : IntKind.i64.wrap (leftI c z i * (stp c c.fi + 1) + stp c (z i)) = leftI c z i * (stp c c.fi + 1) + stp c (z i) := by rw [IntKind.wrap_i64]; omega
        have HS : Hid (leftI c z (i + 1) = min (leftI c z i * (stp c c.fi + 1) + stp c (z i)) 1073741824) := rfl
        clear hz hq hl hQ hm
        generalize hL1 : leftI c z (i + 1) = L1 at *
        have HL1 := hidV hL1
        clear hL1
        generalize leftI c z i = L0 at *
        generalize stp c (z i) = s at *
        generalize hp : L0 * (stp c c.fi + 1) = p at *
        generalize hp1 : stp c c.fi + 1 = bs at *
        have HP := hidV hp
        clear hp1
        by_cases hmn : p + s ≤ 1073741824
        · have HM : Hid (L1 = p + s) := by have := HS.out; show _ = _; omega
          have hmn' : ¬ 1073741824 < p + s := by omega
          clear HS
          go_wp2_with (first | (refine wpList_load_mid rfl 32 _ rfl w.heap.size 0 rfl (tcl c ka kc) _ HR.out Tryd.underlying32 rfl (szTl c ka kc) ?_) | fail)
          refine hst.mono ?_
          rintro e w4 ⟨rfl, hb4⟩
          have HB4 := hidV (Below.transS HB.out hb4)
          clear hb4 hst HR
          go_wp2
          go_roundw
          case rel => exact ⟨i + 1, by omega, by rw [HL1.out, HM.out], by go_num, HB4.out⟩
          case measure => simp [intOf]; omega
        · have HM : Hid (L1 = 1073741824) := by have := HS.out; show _ = _; omega
          have hmn' : 1073741824 < p + s := by omega
          clear HS
          go_wp2_with (first | (refine wpList_load_mid rfl 32 _ rfl w.heap.size 0 rfl (tcl c ka kc) _ HR.out Tryd.underlying32 rfl (szTl c ka kc) ?_) | fail)
          refine hst.mono ?_
          rintro e w4 ⟨rfl, hb4⟩
          have HB4 := hidV (Below.transS HB.out hb4)
          clear hb4 hst HR
          go_wp2
          go_roundw
          case rel => exact ⟨i + 1, by omega, by rw [HL1.out, HM.out], by go_num, HB4.out⟩
          case measure => simp [intOf]; omega
      · obtain rfl : i = n := by omega
        have hnn : ¬ ((i : Int) < i) := by omega
        go_wp2
        go_ret2
        exact ⟨by rw [HF.out, HZ.out]; rfl, Below.transS HX.out.1 HB.out⟩
  · have HE : Hid (leftF c z n = 0) := if_neg h0
    have HV := hidV (errV_ne h0)
    rw [errV_ne h0]
    clear h0
    go_wp2
    go_ret2
    exact ⟨by rw [HE.out, HV.out]; rfl, HBE.out⟩
end Go.Proofs.YtlnoabedcnlpoaaDoor
