/- The document's Newer. -/
import Derived.Test.YtlnoabedcnlpoaaDoorJRIs
namespace Go.Proofs.YtlnoabedcnlpoaaDoor
open Go.RowKit

set_option maxRecDepth 100000 in
set_option maxHeartbeats 1600000 in
theorem rnewer_any (c : Tc) (ka : Option Addr) (kc : Nat) (a1 a2 : Option Addr) (n m c1 c2 : Nat) (z y : Nat → Int) (w : World) (h1 : IsAt w a1 n z) (h2 : IsAt w a2 m y) (hn : n ≤ 1000000) (hm : m ≤ 1000000) (hI : TcIn w c ka) :
    Calls Tryd.prog 21 #[.agg (tcv c ka kc), .slice a1 n c1, .slice a2 m c2] w fun e w' => e = .returned (.bool (newerF c z n y m)) ∧ Below w.heap.size w w' := by
  have HH : Hid (IsAt w a1 n z ∧ IsAt w a2 m y ∧ TcIn w c ka) := ⟨h1, h2, hI⟩
  clear h1 h2 hI
  go_enter Tryd.func21, Tryd.ntmps21
  go_upto_region 1 with (first | (refine wpList_boxN rfl _ _ rfl (tcv c ka kc) rfl ?_; intro v1 N1) | fail)
  have HX : Hid (Below w.heap.size w v1 ∧ (∀ w' : World, Below v1.heap.size v1 w' → w'.rangeAt w.heap.size 0 (tcl c ka kc))) :=
    ⟨N1.below, fun w' hb => tcl_range (heap_below hb N1.blk)⟩
  clear N1
  have HR1 := hidV (HX.out.2 v1 (Below.refl _ _))
  go_wp2_with (first | (refine wpList_loadR (by rfl) _ rfl w.heap.size rfl c ka kc HR1.out ?_) | fail)
  refine (ris_any c ka kc a1 n c1 z v1 (HH.out.1.below HX.out.1) hn (HH.out.2.2.below HX.out.1)).mono ?_
  rintro e v2 ⟨rfl, hb2⟩
  have HB2 := hidV hb2
  have HBE := hidV (Below.transS HX.out.1 hb2)
  clear hb2 HR1
  by_cases q1 : isE c z n = 0
  · have HZ := hidV q1
    rw [q1]
    clear q1
    have HR2 := hidV (HX.out.2 v2 HB2.out)
    go_wp2_with (first | (refine wpList_loadR (by rfl) _ rfl w.heap.size rfl c ka kc HR2.out ?_) | fail)
    refine (ris_any c ka kc a2 m c2 y v2 (HH.out.2.1.below HBE.out) hm (HH.out.2.2.below HBE.out)).mono ?_
    rintro e v3 ⟨rfl, hb3⟩
    have HBF := hidV (Below.transS HBE.out hb3)
    clear hb3 HR2
    by_cases q2 : isE c y m = 0
    · have hnm : m = n := by have a := (isE_ok HZ.out).2.1; have b := (isE_ok q2).2.1; omega
      have HE : Hid (newerF c z n y m = nwB z y n) := if_pos ⟨HZ.out, q2⟩
      rw [q2]
      clear q2
      subst hnm
      go_wp2
      go_loopw [7] (fun iv wr => ∃ i : Nat, i ≤ m ∧ iv = .int .i64 i ∧ (∀ j, j < i → z j = y j) ∧ Below w.heap.size w wr) (fun iv _ => m + 1 - (intOf iv).toNat)
      case atStart => exact ⟨0, by omega, rfl, fun j hj => by omega, HBF.out⟩
      case round =>
        obtain ⟨i, hi, rfl, he, hb⟩ := hrel
        have HEq := hidV he
        have HB := hidV hb
        clear he hb
        by_cases hlt : i < m
        · have hlt' : (i : Int) < m := by omega
          obtain ⟨b, off, rfl, hc⟩ := (HH.out.1.below HB.out) (by omega)
          obtain ⟨b2, off2, rfl, hd⟩ := (HH.out.2.1.below HB.out) (by omega)
          have hci := hc i hlt
          have hdi := hd i hlt
          clear hc hd
          by_cases q3 : z i = y i
          · have q3' : (z i == y i) = true := by simpa using q3
            have HN : Hid (∀ j, j < i + 1 → z j = y j) := fun j hj => by
              by_cases e : j = i
              · subst e; exact q3
              · exact HEq.out j (by omega)
            clear q3
            go_wp2_with fail
            go_quiet (fail)
            go_wp2
            go_roundw
            case rel => exact ⟨i + 1, by omega, by go_num, HN.out, belowD HB.out _⟩
            case measure => simp [intOf]; omega
          · have q3' : (z i == y i) = false := by simpa using q3
            by_cases q4 : z i < y i
            · have HN : Hid (newerF c z m y m = true) := by show _ = _; rw [HE.out, nwB_pos (nw_here hlt HEq.out q4)]
              have d4 : decide (z i < y i) = true := by simpa using q4
              clear q3
              go_wp2_with fail
              go_quiet (fail)
              go_wp2_with fail
              go_quiet (fail)
              go_wp2
              go_ret
              exact ⟨by rw [HN.out]; rfl, belowD (belowD HB.out _) _⟩
            · have HN : Hid (newerF c z m y m = false) := by show _ = _; rw [HE.out, nwB_neg (nw_not HEq.out (by omega))]
              have d4 : decide (z i < y i) = false := by simpa using q4
              clear q3
              go_wp2_with fail
              go_quiet (fail)
              go_wp2_with fail
              go_quiet (fail)
              go_wp2
              go_ret
              exact ⟨by rw [HN.out]; rfl, belowD (belowD HB.out _) _⟩
        · obtain rfl : i = m := by omega
          have hnn : ¬ ((i : Int) < i) := by omega
          have HN : Hid (newerF c z i y i = false) := by show _ = _; rw [HE.out, nwB_neg (nw_none HEq.out)]
          go_wp2
          go_ret
          exact ⟨by rw [HN.out]; rfl, HB.out⟩
    · have HE : Hid (newerF c z n y m = false) := if_neg (fun h => q2 h.2)
      have q2' : (isE c y m == 0) = false := by simpa using q2
      go_wp2
      go_ret
      exact ⟨by rw [HE.out]; rfl, HBF.out⟩
  · have HE : Hid (newerF c z n y m = false) := if_neg (fun h => q1 h.1)
    have q1' : (isE c z n == 0) = false := by simpa using q1
    go_wp2
    go_ret
    exact ⟨by rw [HE.out]; rfl, HBE.out⟩
end Go.Proofs.YtlnoabedcnlpoaaDoor
