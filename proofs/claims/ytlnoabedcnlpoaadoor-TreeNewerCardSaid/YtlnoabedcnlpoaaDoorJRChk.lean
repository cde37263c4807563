/- The document's Check of a tree. -/
import Derived.Test.YtlnoabedcnlpoaaDoorJBase
import Derived.BigQuiet
import Derived.Deep.QuietTactic
namespace Go.Proofs.YtlnoabedcnlpoaaDoor
open Go.RowKit

theorem belowD {B : Nat} {w w' : World} (h : Below B w w') (n : Nat) : Below B w (w'.drewN n) := ⟨h.os, h.tape, h.output, h.size, h.block⟩
theorem kok_pos {z : Nat → Int} {n : Nat} (h : KOk z n) : ∀ j, j < n → 0 ≤ z j
  | 0, hj => by have := (h 0 hj).1; simp [lastK] at this; omega
  | j + 1, hj => by
    have h1 := (h (j + 1) hj).1
    rw [lastK_succ] at h1
    have := kok_pos h j (by omega)
    omega
set_option maxRecDepth 100000 in
set_option maxHeartbeats 3200000 in
theorem rcheck_any (c : Tc) (ka : Option Addr) (kc : Nat) (w : World) (h : TcIn w c ka) :
    Calls Tryd.prog 16 #[.agg (tcv c ka kc)] w fun e w' => e = .returned (.int .i64 (chkT c)) ∧ Below w.heap.size w w' := by
  have HI := hidV h
  clear h
  go_enter Tryd.func16, Tryd.ntmps16
  go_upto_region 1 with (first | (refine wpList_boxN rfl _ _ rfl (tcv c ka kc) rfl ?_; intro v1 N1) | fail)
  have HX : Hid (Below w.heap.size w v1 ∧ (∀ w' : World, Below v1.heap.size v1 w' → TcBox w' w.heap.size c ka kc)) :=
    ⟨N1.below, fun w' hb => tcBox (tcl_range (heap_below hb N1.blk))⟩
  clear N1
  obtain ⟨am, ks, dp, fi, la, st, fe⟩ := HX.out.2 v1 (Below.refl _ _)
  have HB1 := hidV HX.out.1
  simp only [List.append_eq, List.cons_append, List.nil_append]
  by_cases h1 : c.dp < 1
  · have HE : Hid (chkT c = 1) := if_pos (fun h => by have := h.1.1; omega)
    go_wp2
    go_ret
    exact ⟨by rw [HE.out]; rfl, HB1.out⟩
  by_cases h2 : 8 < c.dp
  · have HE : Hid (chkT c = 1) := if_pos (fun h => by have := h.1.1; omega)
    go_wp2
    go_ret
    exact ⟨by rw [HE.out]; rfl, HB1.out⟩
  by_cases h3 : c.st < 1
  · have HE : Hid (chkT c = 1) := if_pos (fun h => by have := h.1.2.1; omega)
    go_wp2
    go_ret
    exact ⟨by rw [HE.out]; rfl, HB1.out⟩
  by_cases h4 : c.la < 1
  · have HE : Hid (chkT c = 1) := if_pos (fun h => by have := h.1.2.2.1; omega)
    go_wp2
    go_ret
    exact ⟨by rw [HE.out]; rfl, HB1.out⟩
  by_cases h5 : c.fi < c.la
  · have HE : Hid (chkT c = 1) := if_pos (fun h => by have := h.1.2.2.2; omega)
    go_wp2
    go_ret
    exact ⟨by rw [HE.out]; rfl, HB1.out⟩
  by_cases h6 : 1099511627776 < c.fi
  · have HE : Hid (chkT c = 1) := if_pos (fun h => by have := h.1.2.2.2; omega)
    go_wp2
    go_ret
    exact ⟨by rw [HE.out]; rfl, HB1.out⟩
  have hm : 0 ≤ c.dp * (c.fi - c.la + 1) ∧ c.dp * (c.fi - c.la + 1) ≤ 8 * 1099511627777 := ⟨Int.mul_nonneg (by omega) (by omega), Int.mul_le_mul (by omega) (by omega) (by omega) (by omega)⟩
  have w1 : IntKind.i64.wrap (c.fi - c.la) = c.fi - c.la := by rw [IntKind.wrap_i64]; omega
  have w2 : IntKind.i64.wrap (c.fi - c.la + 1) = c.fi - c.la + 1 := by rw [IntKind.wrap_i64]; omega
  have w3 : IntKind.i64.wrap (c.dp * (c.fi - c.la + 1)) = c.dp * (c.fi - c.la + 1) := by rw [IntKind.wrap_i64]; omega
  have w4 : IntKind.i64.wrap (c.fi + c.dp * (c.fi - c.la + 1)) = c.fi + c.dp * (c.fi - c.la + 1) := by rw [IntKind.wrap_i64]; omega
  have hd : (c.fi - c.la).tdiv c.st = stp c c.fi := by rw [Int.tdiv_eq_ediv_of_nonneg (by omega)]; rfl
  have hqb : 0 ≤ stp c c.fi ∧ stp c c.fi ≤ c.fi - c.la := ⟨Int.ediv_nonneg (by omega) (by omega), Int.ediv_le_self _ (by omega)⟩
  have w5 : IntKind.i64.wrap (stp c c.fi) = stp c c.fi := by rw [IntKind.wrap_i64]; omega
  have hz : ¬ c.st = 0 := by omega
  have hz' : (c.st == 0) = false := by simpa using hz
  clear hm hqb
  by_cases h7 : 1099511627776 < c.fi + c.dp * (c.fi - c.la + 1)
  · have HE : Hid (chkT c = 1) := if_pos (fun h => by have := h.2.1.1; omega)
    go_wp2
    go_ret
    exact ⟨by rw [HE.out]; rfl, HB1.out⟩
  by_cases h8 : 255 < stp c c.fi
  · have HE : Hid (chkT c = 1) := if_pos (fun h => by have := h.2.1.2; omega)
    go_wp2
    go_ret
    exact ⟨by rw [HE.out]; rfl, HB1.out⟩
  by_cases h9 : c.fe < 0
  · have HE : Hid (chkT c = 1) := if_pos (fun h => by have := h.2.2.1; omega)
    go_wp2
    go_ret
    exact ⟨by rw [HE.out]; rfl, HB1.out⟩
  by_cases h10 : 1125899906842624 < c.fe
  · have HE : Hid (chkT c = 1) := if_pos (fun h => by have := h.2.2.1; omega)
    go_wp2
    go_ret
    exact ⟨by rw [HE.out]; rfl, HB1.out⟩
  by_cases h11 : c.am < 10
  · have HE : Hid (chkT c = 1) := if_pos (fun h => by have := h.2.2.2; omega)
    go_wp2
    go_ret
    exact ⟨by rw [HE.out]; rfl, HB1.out⟩
  by_cases h12 : 1125899906842624 < c.am
  · have HE : Hid (chkT c = 1) := if_pos (fun h => by have := h.2.2.2; omega)
    go_wp2
    go_ret
    exact ⟨by rw [HE.out]; rfl, HB1.out⟩
  have hfe : 0 ≤ c.dp * c.fe ∧ c.dp * c.fe ≤ 8 * 1125899906842624 := ⟨Int.mul_nonneg (by omega) (by omega), Int.mul_le_mul (by omega) (by omega) (by omega) (by omega)⟩
  have HW : Hid (IntKind.i64.wrap (c.dp * c.fe) = c.dp * c.fe ∧ IntKind.i64.wrap (c.am - c.dp * c.fe) = c.am - c.dp * c.fe) := ⟨by rw [IntKind.wrap_i64]; omega, by rw [IntKind.wrap_i64]; omega⟩
  have HC : Hid (¬ ¬ (TOk1 c ∧ TOk2 c ∧ TOk3 c)) := fun h => h ⟨⟨by omega, by omega, by omega, by omega, by omega⟩, ⟨by omega, by omega⟩, ⟨by omega, by omega⟩, by omega, by omega⟩
  go_upto_region 3 with fail
  clear h1 h2 h3 h4 h5 h6 h7 h8 h9 h10 h11 h12 w1 w2 w3 w4 w5 hd hz hz' hfe am ks dp fi la st fe
  go_wp2
  go_loopw [3] (fun iv wr => ∃ i : Nat, i ≤ c.kn ∧ iv = .int .i64 i ∧ KOk c.kz i ∧ Below v1.heap.size v1 wr) (fun iv _ => c.kn + 1 - (intOf iv).toNat)
  case atStart => exact ⟨0, by omega, rfl, fun j hj => by omega, Below.refl _ _⟩
  case round =>
    obtain ⟨i, hi, rfl, hk, hb⟩ := hrel
    have HK := hidV hk
    have HB := hidV hb
    have HBW := hidV (Below.transS HB1.out hb)
    clear hk hb
    have ks := (HX.out.2 wr HB.out).ks
    by_cases hlt : i < c.kn
    · have hlt' : (i : Int) < c.kn := by omega
      obtain ⟨b, off, rfl, hc⟩ := (HI.out.below HBW.out).keys (by omega)
      have hci := hc i hlt
      have HE : Hid (¬ KOk c.kz c.kn → chkT c = 33) := fun h => by
        unfold chkT
        rw [if_neg HC.out, if_pos (fun h2 => h h2.2)]
      by_cases q1 : c.kz i < 0
      · have HF : Hid (chkT c = 33) := HE.out (fun h => by have := kok_pos h i hlt; omega)
        have d1 : decide (c.kz i < 0) = true := by simpa using q1
        clear hc
        go_wp2_with fail
        go_quiet (fail)
        go_wp2
        go_ret
        exact ⟨by rw [HF.out]; rfl, belowD HBW.out _⟩
      have d1 : decide (c.kz i < 0) = false := by simpa using q1
      by_cases q2 : 15 < c.kz i
      · have HF : Hid (chkT c = 33) := HE.out (fun h => by have := (h i hlt).2; omega)
        have d2 : decide (15 < c.kz i) = true := by simpa using q2
        clear hc
        go_wp2_with fail
        go_quiet (fail)
        go_wp2
        go_ret
        exact ⟨by rw [HF.out]; rfl, belowD HBW.out _⟩
      have d2 : decide (15 < c.kz i) = false := by simpa using q2
      by_cases q3 : i = 0
      · subst q3
        have HN : Hid (KOk c.kz (0 + 1)) := fun j hj => by
          obtain rfl : j = 0 := by omega
          simp only [lastK, if_true]
          omega
        have hci0 : wr.cell? ⟨b, off, none⟩ = some (.int .i64 (c.kz 0)) := by simpa using hci
        clear hc
        go_wp2_with fail
        go_quiet (fail)
        go_wp2
        go_roundw
        case rel => exact ⟨0 + 1, by omega, by go_num, HN.out, belowD HB.out _⟩
        case measure => simp [intOf] <;> omega
      · obtain ⟨k, rfl⟩ : ∃ k, i = k + 1 := ⟨i - 1, by omega⟩
        have hck := hc k (by omega)
        have few := HI.out.few
        have wk : IntKind.i64.wrap (((k + 1 : Nat) : Int) - 1) = (k : Int) := by rw [IntKind.wrap_i64]; omega
        have q0 : (0 : Int) < ((k + 1 : Nat) : Int) := by omega
        have kl : (k : Int) < c.kn := by omega
        have d3 : decide ((0 : Int) < ((k + 1 : Nat) : Int)) = true := by simp
        have k0 : (0 : Int) ≤ k := by omega
        clear hc q3
        by_cases q4 : c.kz (k + 1) ≤ c.kz k
        · have HF : Hid (chkT c = 33) := HE.out (fun h => by have := (h (k + 1) hlt).1; rw [lastK_succ] at this; omega)
          have d4 : decide (c.kz (k + 1) ≤ c.kz k) = true := by simpa using q4
          go_wp2_with fail
          go_quiet (fail)
          go_wp2
          go_ret
          exact ⟨by rw [HF.out]; rfl, belowD HBW.out _⟩
        · have HN : Hid (KOk c.kz (k + 1 + 1)) := fun j hj => by
            by_cases e : j = k + 1
            · subst e; rw [lastK_succ]; omega
            · exact HK.out j (by omega)
          have d4 : decide (c.kz (k + 1) ≤ c.kz k) = false := by simpa using q4
          go_wp2_with fail
          go_quiet (fail)
          go_wp2
          go_roundw
          case rel => exact ⟨k + 1 + 1, by omega, by go_num, HN.out, belowD HB.out _⟩
          case measure => simp [intOf]; omega
    · obtain rfl : i = c.kn := by omega
      have hnn : ¬ ((c.kn : Int) < c.kn) := by omega
      obtain ⟨am, -, dp, fi, la, st, fe⟩ := HX.out.2 wr HB.out
      obtain ⟨w1, w2⟩ := HW.out
      by_cases q1 : (c.kn : Int) < 2
      · have HF : Hid (chkT c = 33) := by
          show chkT c = 33
          unfold chkT
          rw [if_neg HC.out, if_pos (fun h2 => by have := h2.1; omega)]
        go_wp2
        go_ret
        exact ⟨by rw [HF.out]; rfl, HBW.out⟩
      have HN : Hid (¬ ¬ (2 ≤ c.kn ∧ KOk c.kz c.kn)) := fun h => h ⟨by omega, HK.out⟩
      by_cases q2 : c.am - c.dp * c.fe < 10
      · have HF : Hid (chkT c = 27) := by
          show chkT c = 27
          unfold chkT
          rw [if_neg HC.out, if_neg HN.out, if_pos q2]
        go_wp2
        go_ret
        exact ⟨by rw [HF.out]; rfl, HBW.out⟩
      · have HF : Hid (chkT c = 0) := by
          show chkT c = 0
          unfold chkT
          rw [if_neg HC.out, if_neg HN.out, if_neg q2]
        go_wp2
        go_ret
        exact ⟨by rw [HF.out]; rfl, HBW.out⟩
end Go.Proofs.YtlnoabedcnlpoaaDoor
