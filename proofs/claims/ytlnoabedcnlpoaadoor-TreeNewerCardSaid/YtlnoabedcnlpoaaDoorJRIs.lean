/- The document's word on whether a path is one of a tree's. -/
import Derived.Test.YtlnoabedcnlpoaaDoorJRChk
import Derived.Test.YtlnoabedcnlpoaaDoorJNew
namespace Go.Proofs.YtlnoabedcnlpoaaDoor
open Go.RowKit

set_option maxRecDepth 100000 in
set_option maxHeartbeats 3200000 in
theorem ris_any (c : Tc) (ka : Option Addr) (kc : Nat) (ad : Option Addr) (n cap : Nat) (z : Nat → Int) (w : World) (h : IsAt w ad n z) (hn : n ≤ 1000000) (hI : TcIn w c ka) :
    Calls Tryd.prog 28 #[.agg (tcv c ka kc), .slice ad n cap] w fun e w' => e = .returned (.int .i64 (isE c z n)) ∧ Below w.heap.size w w' := by
  have HH : Hid (IsAt w ad n z ∧ TcIn w c ka) := ⟨h, hI⟩
  clear h hI
  go_enter Tryd.func28, Tryd.ntmps28
  go_upto_region 1 with (first | (refine wpList_boxN rfl _ _ rfl (tcv c ka kc) rfl ?_; intro v1 N1) | fail)
  have HX : Hid (Below w.heap.size w v1 ∧ (∀ w' : World, Below v1.heap.size v1 w' → w'.rangeAt w.heap.size 0 (tcl c ka kc))) :=
    ⟨N1.below, fun w' hb => tcl_range (heap_below hb N1.blk)⟩
  clear N1
  have HR1 := hidV (HX.out.2 v1 (Below.refl _ _))
  go_wp2_with (first | (refine wpList_loadR (by rfl) _ rfl w.heap.size rfl c ka kc HR1.out ?_) | fail)
  refine (rcheck_any c ka kc v1 (HH.out.2.below HX.out.1)).mono ?_
  rintro e v2 ⟨rfl, hb2⟩
  have HB2 := hidV hb2
  have HBE := hidV (Below.transS HX.out.1 hb2)
  clear hb2 HR1
  by_cases h0 : chkT c = 0
  · have HT := hidV (chkT_ok h0)
    have HE : Hid (isE c z n = if PathOk c z n then 0 else 1) := by show _ = _; unfold isE; rw [if_neg (by simpa using h0)]
    rw [h0]
    clear h0
    have dp := (tcBox (HX.out.2 v2 HB2.out)).dp
    by_cases h1 : (n : Int) = c.dp
    · have h1' : ((n : Int) == c.dp) = true := by simpa using h1
      have h1n : ((n : Int) != c.dp) = false := by simpa using h1
      have HN := hidV h1
      clear h1
      go_upto_region 6 with fail
      try rw [h1n]
      clear dp h1' h1n
      go_wp2
      go_loopw [6] (fun iv wr => ∃ i : Nat, i ≤ n ∧ iv = .int .i64 i ∧ HsOk c z i ∧ Below v1.heap.size v1 wr) (fun iv _ => n + 1 - (intOf iv).toNat)
      case atStart => exact ⟨0, by omega, rfl, fun j hj => by omega, HB2.out⟩
      case round =>
        obtain ⟨i, hi, rfl, hk, hb⟩ := hrel
        have HK := hidV hk
        have HB := hidV hb
        have HBW := hidV (Below.transS HX.out.1 hb)
        clear hk hb
        by_cases hlt : i < n
        · have hlt' : (i : Int) < n := by omega
          obtain ⟨b, off, rfl, hc⟩ := (HH.out.1.below HBW.out) (by omega)
          have hci := hc i hlt
          obtain ⟨-, -, -, fi, la, st, -⟩ := tcBox (HX.out.2 wr HB.out)
          have HF : Hid (¬ HtOk c (z i) → isE c z n = 1) := fun h => by rw [HE.out, if_neg (fun h2 => h (h2.2 i hlt))]
          clear hc
          by_cases q1 : z i < c.la
          · have HG : Hid (isE c z n = 1) := HF.out (fun h => by have := h.1; omega)
            have d1 : decide (z i < c.la) = true := by simpa using q1
            go_wp2_with fail
            go_quiet (fail)
            go_wp2
            go_ret
            exact ⟨by rw [HG.out]; rfl, belowD HBW.out _⟩
          have d1 : decide (z i < c.la) = false := by simpa using q1
          by_cases q2 : c.fi < z i
          · have HG : Hid (isE c z n = 1) := HF.out (fun h => by have := h.1; omega)
            have d2 : decide (c.fi < z i) = true := by simpa using q2
            go_wp2_with fail
            go_quiet (fail)
            go_wp2
            go_ret
            exact ⟨by rw [HG.out]; rfl, belowD HBW.out _⟩
          have d2 : decide (c.fi < z i) = false := by simpa using q2
          have hT := HT.out.1
          have w1 : IntKind.i64.wrap (c.fi - z i) = c.fi - z i := by have := hT.2.2; rw [IntKind.wrap_i64]; omega
          have hz : ¬ c.st = 0 := by have := hT.2.1; omega
          have hz' : (c.st == 0) = false := by simpa using hz
          have hd : (c.fi - z i).tmod c.st = (c.fi - z i) % c.st := Int.tmod_eq_emod_of_nonneg (by omega)
          have hb : 0 ≤ (c.fi - z i) % c.st ∧ (c.fi - z i) % c.st ≤ c.fi - z i := ⟨Int.emod_nonneg _ hz, by
            have := Int.mul_ediv_add_emod (c.fi - z i) c.st
            have h2 := Int.mul_nonneg (Int.ediv_nonneg (a := c.fi - z i) (b := c.st) (by omega) (by have := hT.2.1; omega)) (by have := hT.2.1; omega : (0 : Int) ≤ c.st)
            rw [Int.mul_comm] at h2
            omega⟩
          have w2 : IntKind.i64.wrap ((c.fi - z i) % c.st) = (c.fi - z i) % c.st := by have := hT.2.2; rw [IntKind.wrap_i64]; omega
          have HQ : Hid (HtOk c (z i) ↔ (c.fi - z i) % c.st = 0) := ⟨fun h => h.2, fun h => ⟨by omega, h⟩⟩
          generalize (c.fi - z i) % c.st = q at *
          clear hb hT
          by_cases q3 : q = 0
          · have d3 : (q == 0) = true := by simpa using q3
            have HG : Hid (HsOk c z (i + 1)) := fun j hj => by
              by_cases e : j = i
              · subst e; exact HQ.out.2 q3
              · exact HK.out j (by omega)
            subst q3
            go_wp2_with fail
            go_quiet (fail)
            go_wp2
            go_roundw
            case rel => exact ⟨i + 1, by omega, by go_num, HG.out, belowD HB.out _⟩
            case measure => simp [intOf]; omega
          · have d3 : (q == 0) = false := by simpa using q3
            have HG : Hid (isE c z n = 1) := HF.out (fun h => q3 (HQ.out.1 h))
            go_wp2_with fail
            go_quiet (fail)
            go_wp2
            go_ret
            exact ⟨by rw [HG.out]; rfl, belowD HBW.out _⟩
        · obtain rfl : i = n := by omega
          have hnn : ¬ ((i : Int) < i) := by omega
          have HG : Hid (isE c z i = 0) := by show _ = _; rw [HE.out, if_pos ⟨HN.out, HK.out⟩]
          go_wp2
          go_ret
          exact ⟨by rw [HG.out]; rfl, HBW.out⟩
    · have h1' : ((n : Int) == c.dp) = false := by simpa using h1
      have HG : Hid (isE c z n = 1) := by show _ = _; rw [HE.out, if_neg (fun h => h1 h.1)]
      clear h1
      go_wp2
      go_ret
      exact ⟨by rw [HG.out]; rfl, HBE.out⟩
  · have h0' : (chkT c == 0) = false := by simpa using h0
    have HE : Hid (isE c z n = chkT c) := isE_chk h0
    go_wp2
    go_ret
    exact ⟨by rw [HE.out]; rfl, HBE.out⟩
end Go.Proofs.YtlnoabedcnlpoaaDoor
