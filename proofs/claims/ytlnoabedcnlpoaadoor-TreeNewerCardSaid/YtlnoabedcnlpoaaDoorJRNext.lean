/- The document's Next. -/
import Derived.Test.YtlnoabedcnlpoaaDoorJRBeg
import Derived.Test.YtlnoabedcnlpoaaDoorJNext
import Derived.Deep.RegionLaw
import Derived.Deep.DrawnRows
namespace Go.Proofs.YtlnoabedcnlpoaaDoor
open Go.RowKit

/-- The last of the first i ranks that is not at its least height. -/
def atF (c : Tc) (z : Nat → Int) : Nat → Int
  | 0 => -1
  | i + 1 => if c.la ≤ z i - c.st then (i : Int) else atF c z i
theorem atF_spec (c : Tc) (z : Nat → Int) : ∀ i, (atF c z i = -1 ∧ ∀ j, j < i → ¬ c.la ≤ z j - c.st) ∨ ∃ a, a < i ∧ atF c z i = (a : Int) ∧ c.la ≤ z a - c.st ∧ ∀ j, a < j → j < i → ¬ c.la ≤ z j - c.st
  | 0 => .inl ⟨rfl, fun j hj => by omega⟩
  | i + 1 => by
    by_cases h : c.la ≤ z i - c.st
    · exact .inr ⟨i, by omega, if_pos h, h, fun j h1 h2 => by omega⟩
    · rcases atF_spec c z i with ⟨e, hk⟩ | ⟨a, ha, e, h1, hk⟩
      · refine .inl ⟨by rw [atF, if_neg h, e], fun j hj => ?_⟩
        by_cases ej : j = i
        · subst ej; exact h
        · exact hk j (by omega)
      · refine .inr ⟨a, by omega, by rw [atF, if_neg h, e], h1, fun j h2 h3 => ?_⟩
        by_cases ej : j = i
        · subst ej; exact h
        · exact hk j h2 (by omega)
theorem stp_iff {c : Tc} {h : Int} (h1 : TOk1 c) : 0 < stp c h ↔ c.la ≤ h - c.st := by
  have a1 : 0 < c.st := by have := h1.2.1; omega
  constructor
  · intro hs
    have h2 : stp c h * c.st ≤ h - c.la := Int.ediv_mul_le (h - c.la) (by omega)
    have h3 : 1 * c.st ≤ stp c h * c.st := Int.mul_le_mul_of_nonneg_right (by omega) (by omega)
    omega
  · intro hs
    have : 1 ≤ (h - c.la) / c.st := Int.le_ediv_of_mul_le a1 (by omega)
    show 0 < (h - c.la) / c.st
    omega
structure RNxR (c : Tc) (z : Nat → Int) (n : Nat) (w : World) (e : Ending) (w' : World) : Prop where
  bad : isE c z n ≠ 0 → e = .returned (.tuple #[.slice none 0 0, .int .i64 (isE c z n)])
  slot : isE c z n = 0 → (∀ i, i < n → stp c (z i) = 0) → e = .returned (.tuple #[.slice none 0 0, .int .i64 30])
  ok : isE c z n = 0 → ∀ a, a < n → 0 < stp c (z a) → (∀ i, a < i → i < n → stp c (z i) = 0) → ∃ ad cap, e = .returned (.tuple #[.slice ad n cap, .int .i64 0]) ∧ IsAt w' ad n (nextZ c z a)
  below : Below w.heap.size w w'
set_option maxRecDepth 100000 in
set_option maxHeartbeats 3200000 in
theorem rnext_any (c : Tc) (ka : Option Addr) (kc : Nat) (ad : Option Addr) (n cap : Nat) (z : Nat → Int) (w : World) (h : IsAt w ad n z) (hn : n ≤ 1000000) (hI : TcIn w c ka) :
    Calls Tryd.prog 12 #[.agg (tcv c ka kc), .slice ad n cap] w (RNxR c z n w) := by
  have HH : Hid (IsAt w ad n z ∧ TcIn w c ka) := ⟨h, hI⟩
  clear h hI
  go_enter Tryd.func12, Tryd.ntmps12
  go_upto_region 1 with (first | (refine wpList_boxN rfl _ _ rfl (tcv c ka kc) rfl ?_; intro v1 N1) | fail)
  have HX : Hid (Below w.heap.size w v1 ∧ (∀ w' : World, Below v1.heap.size v1 w' → w'.rangeAt w.heap.size 0 (tcl c ka kc))) :=
    ⟨N1.below, fun w' hb => tcl_range (heap_below hb N1.blk)⟩
  clear N1
  have HR1 := hidV (HX.out.2 v1 (Below.refl _ _))
  go_wp2_with (first | (refine wpList_loadR (by rfl) _ rfl w.heap.size rfl c ka kc HR1.out ?_) | fail)
  refine (ris_any c ka kc ad n cap z v1 (HH.out.1.below HX.out.1) hn (HH.out.2.below HX.out.1)).mono ?_
  rintro e v2 ⟨rfl, hb2⟩
  have HB2 := hidV hb2
  have HBE := hidV (Below.transS HX.out.1 hb2)
  clear hb2 HR1
  by_cases h0 : isE c z n = 0
  · have HO := hidV (isE_ok h0)
    have HZ := hidV h0
    have HT := hidV (chkT_ok HO.out.1)
    rw [h0]
    clear h0
    go_wp2
    go_loopw [7, 8] (fun av iv wr => ∃ i : Nat, i ≤ n ∧ av = .int .i64 (atF c z i) ∧ iv = .int .i64 i ∧ Below v1.heap.size v1 wr) (fun _ iv _ => n + 1 - (intOf iv).toNat)
    case atStart => exact ⟨0, by omega, rfl, rfl, HB2.out⟩
    case round =>
      obtain ⟨i, hi, rfl, rfl, hb⟩ := hrel
      have HB := hidV hb
      clear hb
      by_cases hlt : i < n
      · have hlt' : (i : Int) < n := by omega
        obtain ⟨b, off, rfl, hc⟩ := (HH.out.1.below (Below.transS HX.out.1 HB.out)) (by omega)
        have hci := hc i hlt
        clear hc
        obtain ⟨-, -, -, -, la, st, -⟩ := tcBox (HX.out.2 wr HB.out)
        have w1 : IntKind.i64.wrap (z i - c.st) = z i - c.st := by have := (HO.out.2.2 i hlt).1; have := HT.out.1.2; have := HH.out.2.st; unfold Ib at this; rw [IntKind.wrap_i64]; omega
        by_cases q : c.la ≤ z i - c.st
        · have HA : Hid (atF c z (i + 1) = (i : Int)) := if_pos q
          have d1 : decide (c.la ≤ z i - c.st) = true := by simpa using q
          go_wp2_with fail
          go_quiet (fail)
          go_wp2
          go_roundw
          case rel => exact ⟨i + 1, by omega, by rw [HA.out], by go_num, belowD HB.out _⟩
          case measure => simp [intOf]; omega
        · have HA : Hid (atF c z (i + 1) = atF c z i) := if_neg q
          have d1 : decide (c.la ≤ z i - c.st) = false := by simpa using q
          generalize hA1 : atF c z (i + 1) = A1 at *
          have HA1 := hidV hA1
          clear hA1
          generalize atF c z i = A0 at *
          go_wp2_with fail
          go_quiet (fail)
          go_wp2
          go_roundw
          case rel => exact ⟨i + 1, by omega, by rw [HA1.out, HA.out], by go_num, belowD HB.out _⟩
          case measure => simp [intOf]; omega
      · obtain rfl : i = n := by omega
        have hnn : ¬ ((i : Int) < i) := by omega
        have HBW := hidV (Below.transS HX.out.1 HB.out)
        rcases atF_spec c z i with ⟨ea, hk⟩ | ⟨a, ha, ea, h1, hk⟩
        · have HE : Hid (RNxR c z i w (.returned (.tuple #[.slice none 0 0, .int .i64 30])) wr) := ⟨fun h => absurd HZ.out h, fun _ _ => rfl, fun _ a ha h1 _ => absurd ((stp_iff HT.out.1).1 h1) (hk a ha), HBW.out⟩
          rw [ea]
          clear ea hk
          go_wp2
          go_ret2
          exact HE.out
        · have HU : Hid (∀ b, b < i → 0 < stp c (z b) → (∀ j, b < j → j < i → stp c (z j) = 0) → b = a) := fun b hb g1 g2 => by
            have g3 := (stp_iff HT.out.1).1 g1
            by_cases l1 : b < a
            · have := g2 a l1 ha
              have := (stp_iff HT.out.1).2 h1
              omega
            · by_cases l2 : a < b
              · exact absurd g3 (hk b l2 hb)
              · omega
          have HS : Hid (¬ ∀ j, j < i → stp c (z j) = 0) := fun h => by
            have := h a ha
            have := (stp_iff HT.out.1).2 h1
            omega
          have H1 := hidV h1
          have ha0 : ¬ (a : Int) < 0 := by omega
          rw [ea]
          clear ea hk h1
          go_wp2
          generalize wr = wo at *
          go_loopw [9, 10] (fun qv iv wq => ∃ j : Nat, j ≤ i ∧ iv = .int .i64 j ∧ IOw wo wq qv (keysL (nextZ c z a) j)) (fun _ iv _ => i + 1 - (intOf iv).toNat)
          case atStart => exact ⟨0, by omega, rfl, IOw.nil _⟩
          case round =>
            obtain ⟨j, hj, rfl, hO⟩ := hrel
            have HOw := hidV hO
            have HBQ := hidV (Below.transS HB.out hO.below)
            have bx := tcBox (HX.out.2 wr HBQ.out)
            clear hO
            by_cases hlt : j < i
            · have hlt' : (j : Int) < i := by omega
              obtain ⟨b, off, rfl, hc⟩ := (HH.out.1.below (Below.transS HX.out.1 HBQ.out)) (by omega)
              have hci := hc j hlt
              clear hc
              have HL := hidV (keysL_succ (nextZ c z a) j)
              have hlen : (keysL (nextZ c z a) j).length + [nextZ c z a j].length ≤ 1000000 := by simp [keysL_length]; omega
              by_cases l1 : j < a
              · have l1' : (j : Int) < a := by omega
                have ev : nextZ c z a j = z j := if_pos l1
                rw [ev] at HL hlen
                have N3 := new_alloc wr #[.int .i64 (z j)] 3
                have HO3 := hidV (HOw.out.keep N3.below)
                have HU3 := hidV (src_one N3)
                clear N3 bx ev
                go_wp2_with (at_builtin; refine wpList_append_I underI rfl _ _ rfl wo _ _ (keysL (nextZ c z a) j) [z j] rfl rfl HO3.out HU3.out hlen ?_; intro v' w4 hO4 hk4; have HR := hidV hO4; clear hO4 hk4)
                go_roundw
                case rel => exact ⟨j + 1, by omega, by go_num, by rw [HL.out]; exact HR.out⟩
                case measure => simp [intOf]; omega
              · have l1' : ¬ (j : Int) < a := by omega
                by_cases l2 : j = a
                · have l2' : ((j : Int) == (a : Int)) = true := by simp [l2]
                  have st := bx.st
                  have ev : nextZ c z a j = z j - c.st := by unfold nextZ; rw [if_neg l1, if_pos l2]
                  rw [ev] at HL hlen
                  have w1 : IntKind.i64.wrap (z j - c.st) = z j - c.st := by have := (HO.out.2.2 j hlt).1; have := HT.out.1.2; have := HH.out.2.st; unfold Ib at this; rw [IntKind.wrap_i64]; omega
                  have N3 := new_alloc wr.drew #[.int .i64 (z j - c.st)] 3
                  have HO3 := hidV ((HOw.out.keep (w' := wr.drew) (Below.refl _ wr).drew).keep N3.below)
                  have HU3 := hidV (src_one N3)
                  clear N3 bx ev l2
                  go_wp2_with fail
                  go_region_law (refine step_append_I underI (by rfl) _ _ (by rfl) wo _ _ (keysL (nextZ c z a) j) [z j - c.st] (by simp [Act.eval]) (by simp [Act.eval]) HO3.out HU3.out hlen ?_; intro v' w4 hO4; have HR := hidV hO4; clear hO4)
                  all_goals
                    go_simp
                    go_wp2
                    go_roundw
                    case rel => exact ⟨j + 1, by omega, by go_num, by rw [HL.out]; exact HR.out⟩
                    case measure => simp [intOf]; omega
                · have l2' : ((j : Int) == (a : Int)) = false := by simp; omega
                  have fic := bx.fi
                  have ev : nextZ c z a j = c.fi := by unfold nextZ; rw [if_neg l1, if_neg l2]
                  rw [ev] at HL hlen
                  have N3 := new_alloc wr #[.int .i64 c.fi] 3
                  have HO3 := hidV (HOw.out.keep N3.below)
                  have HU3 := hidV (src_one N3)
                  clear N3 bx ev l2
                  go_wp2_with (at_builtin; refine wpList_append_I underI rfl _ _ rfl wo _ _ (keysL (nextZ c z a) j) [c.fi] rfl rfl HO3.out HU3.out hlen ?_; intro v' w4 hO4 hk4; have HR := hidV hO4; clear hO4 hk4)
                  go_roundw
                  case rel => exact ⟨j + 1, by omega, by go_num, by rw [HL.out]; exact HR.out⟩
                  case measure => simp [intOf]; omega
            · obtain rfl : j = i := by omega
              have hnn : ¬ ((j : Int) < j) := by omega
              obtain ⟨va, vc, rfl, hA⟩ := iow_is HOw.out
              rw [keysL_length] at hA HOw ⊢
              have HE : Hid (RNxR c z j w (.returned (.tuple #[.slice va j vc, .int .i64 0])) wr) := ⟨fun h => absurd HZ.out h, fun _ h => absurd h HS.out, fun _ b hb g1 g2 => by
                obtain rfl := HU.out b hb g1 g2
                exact ⟨va, vc, rfl, hA.same (y := nextZ c z b) (fun k hk => by simp [Go.Proofs.YtlnoabedcnlpoaaDoor.fi, List.getD_eq_getElem?_getD, keysL_at hk])⟩, Below.transS HX.out.1 HBQ.out⟩
              clear hA bx
              go_wp2
              go_ret2
              exact HE.out
  · have h0' : (isE c z n == 0) = false := by simpa using h0
    have HE : Hid (RNxR c z n w (.returned (.tuple #[.slice none 0 0, .int .i64 (isE c z n)])) v2) := ⟨fun _ => rfl, fun h => absurd h h0, fun h => absurd h h0, HBE.out⟩
    clear h0
    go_wp2
    go_ret2
    exact HE.out
end Go.Proofs.YtlnoabedcnlpoaaDoor
