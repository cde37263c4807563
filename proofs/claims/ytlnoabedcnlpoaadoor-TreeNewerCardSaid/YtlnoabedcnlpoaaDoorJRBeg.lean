/- The document's Begin and Left. -/
import Derived.Test.YtlnoabedcnlpoaaDoorJRIs
import Derived.Test.YtlnoabedcnlpoaaDoorJIow
namespace Go.Proofs.YtlnoabedcnlpoaaDoor
open Go.RowKit

structure RBegR (c : Tc) (w : World) (e : Ending) (w' : World) : Prop where
  bad : chkT c ≠ 0 → e = .returned (.tuple #[.slice none 0 0, .int .i64 (chkT c)])
  ok : chkT c = 0 → ∃ (ad : Option Addr) (k cap : Nat), (k : Int) = c.dp ∧ e = .returned (.tuple #[.slice ad k cap, .int .i64 0]) ∧ IsAt w' ad k (fun _ => c.fi)
  below : Below w.heap.size w w'
theorem iow_is {w0 w : World} {v : Value} {L : List Int} (h : IOw w0 w v L) : ∃ ad cap, v = .slice ad L.length cap ∧ IsAt w ad L.length (fi L) := by
  rcases h.form with ⟨rfl, rfl⟩ | ⟨g, cap, rfl, _, _, _, _, hc⟩
  · exact ⟨none, 0, rfl, fun h => by cases h⟩
  · exact ⟨_, cap, rfl, fun _ => ⟨g, 0, rfl, hc⟩⟩
set_option maxRecDepth 100000 in
set_option maxHeartbeats 1600000 in
theorem rbegin_any (c : Tc) (ka : Option Addr) (kc : Nat) (w : World) (hI : TcIn w c ka) :
    Calls Tryd.prog 10 #[.agg (tcv c ka kc)] w (RBegR c w) := by
  have HH := hidV hI
  clear hI
  go_enter Tryd.func10, Tryd.ntmps10
  go_upto_region 1 with (first | (refine wpList_boxN rfl _ _ rfl (tcv c ka kc) rfl ?_; intro v1 N1) | fail)
  have HX : Hid (Below w.heap.size w v1 ∧ (∀ w' : World, Below v1.heap.size v1 w' → w'.rangeAt w.heap.size 0 (tcl c ka kc))) :=
    ⟨N1.below, fun w' hb => tcl_range (heap_below hb N1.blk)⟩
  clear N1
  have HR1 := hidV (HX.out.2 v1 (Below.refl _ _))
  go_wp2_with (first | (refine wpList_loadR (by rfl) _ rfl w.heap.size rfl c ka kc HR1.out ?_) | fail)
  refine (rcheck_any c ka kc v1 (HH.out.below HX.out.1)).mono ?_
  rintro e v2 ⟨rfl, hb2⟩
  have HB2 := hidV hb2
  have HBE := hidV (Below.transS HX.out.1 hb2)
  clear hb2 HR1
  by_cases h0 : chkT c = 0
  · obtain ⟨k, hk⟩ : ∃ k : Nat, (k : Int) = c.dp := ⟨c.dp.toNat, by have := (chkT_ok h0).1.1; omega⟩
    have hk8 : k ≤ 8 := by have := (chkT_ok h0).1.1; omega
    have HZ := hidV h0
    have HK := hidV hk
    rw [h0]
    clear h0 hk
    go_wp2
    go_loopw [5, 6] (fun pv iv wr => ∃ i : Nat, i ≤ k ∧ iv = .int .i64 i ∧ IOw v2 wr pv (List.replicate i c.fi)) (fun _ iv _ => k + 1 - (intOf iv).toNat)
    case atStart => exact ⟨0, by omega, rfl, IOw.nil v2⟩
    case round =>
      obtain ⟨i, hi, rfl, hO⟩ := hrel
      have HO := hidV hO
      have HBv := hidV (Below.transS HB2.out hO.below)
      have bx := tcBox (HX.out.2 wr HBv.out)
      have dp := bx.dp
      rw [← HK.out] at dp
      have fic := bx.fi
      clear hO bx
      by_cases hlt : i < k
      · have hlt' : (i : Int) < k := by omega
        have N3 := new_alloc wr #[.int .i64 c.fi] 3
        have HO3 := hidV (HO.out.keep N3.below)
        have HU3 := hidV (src_one N3)
        clear N3
        go_wp2_with (at_builtin; refine wpList_append_I underI rfl _ _ rfl v2 _ _ (List.replicate i c.fi) [c.fi] rfl rfl HO3.out HU3.out (by simp; omega) ?_; intro v' w4 hO4 hk4; have HR := hidV hO4; clear hO4 hk4)
        go_roundw
        case rel => exact ⟨i + 1, by omega, by go_num, by rw [List.replicate_succ']; exact HR.out⟩
        case measure => simp [intOf]; omega
      · obtain rfl : i = k := by omega
        have hnn : ¬ ((i : Int) < i) := by omega
        obtain ⟨ad, cap, rfl, hA⟩ := iow_is HO.out
        rw [List.length_replicate] at hA HO ⊢
        have HE : Hid (RBegR c w (.returned (.tuple #[.slice ad i cap, .int .i64 0])) wr) := ⟨fun h => absurd HZ.out h, fun _ => ⟨ad, i, cap, HK.out, rfl, hA.same (fun j hj => by simp [Go.Proofs.YtlnoabedcnlpoaaDoor.fi, hj])⟩, Below.transS HBE.out HO.out.below⟩
        clear hA
        go_wp2
        go_ret2
        exact HE.out
  · have h0' : (chkT c == 0) = false := by simpa using h0
    have HE : Hid (RBegR c w (.returned (.tuple #[.slice none 0 0, .int .i64 (chkT c)])) v2) := ⟨fun _ => rfl, fun h => absurd h h0, HBE.out⟩
    have dp := (tcBox (HX.out.2 v2 HB2.out)).dp
    have HZ := hidV h0'
    clear h0 h0'
    go_wp2
    go_loopw [5, 6] (fun pv iv wr => iv = .int .i64 0 ∧ pv = .slice none 0 0 ∧ wr = v2) (fun _ _ _ => 0)
    case atStart => exact ⟨rfl, rfl, rfl⟩
    case round =>
      obtain ⟨rfl, rfl, hw⟩ := hrel
      rw [hw]
      clear hw
      have h0' := HZ.out
      by_cases q : 0 < c.dp
      · go_wp2
        go_ret2
        exact HE.out
      · go_wp2
        go_ret2
        exact HE.out
set_option maxRecDepth 100000 in
set_option maxHeartbeats 1600000 in
theorem rleft_any (c : Tc) (ka : Option Addr) (kc : Nat) (ad : Option Addr) (n cap : Nat) (z : Nat → Int) (w : World) (h : IsAt w ad n z) (hn : n ≤ 1000000) (hI : TcIn w c ka) :
    Calls Tryd.prog 14 #[.agg (tcv c ka kc), .slice ad n cap] w fun e w' => e = .returned (.tuple #[.int .i64 (leftF c z n), .int .i64 (isE c z n)]) ∧ Below w.heap.size w w' := by
  have HH : Hid (IsAt w ad n z ∧ TcIn w c ka) := ⟨h, hI⟩
  clear h hI
  go_enter Tryd.func14, Tryd.ntmps14
  go_upto_region 1 with (first | (refine wpList_boxN rfl _ _ rfl (tcv c ka kc) rfl ?_; intro v1 N1) | fail)
  have HX : Hid (Below w.heap.size w v1 ∧ (∀ w' : World, Below v1.heap.size v1 w' → w'.rangeAt w.heap.size 0 (tcl c ka kc))) :=
    ⟨N1.below, fun w' hb => tcl_range (heap_below hb N1.blk)⟩
  clear N1
  have HR1 := hidV (HX.out.2 v1 (Below.refl _ _))
  go_wp2_with (first | (refine wpList_loadR (by rfl) _ rfl w.heap.size rfl c ka kc HR1.out ?_) | fail)
  refine (ris_any c ka kc ad n cap z v1 (HH.out.1.below HX.out.1) hn (HH.out.2.below HX.out.1)).mono ?_
  rintro e v2 ⟨rfl, hb2⟩
  have HB2 := hidV hb2
  have HBE := hidV (Below.transS HX.out.1 hb2)
  clear hb2 HR1
  by_cases h0 : isE c z n = 0
  · have HO := hidV (isE_ok h0)
    have HF : Hid (leftF c z n = leftI c z n) := if_pos h0
    have HZ := hidV h0
    have HT := hidV (chkT_ok HO.out.1)
    rw [h0]
    clear h0
    obtain ⟨-, -, -, fic, la, st, -⟩ := tcBox (HX.out.2 v2 HB2.out)
    have hq := stp_bd (c := c) HT.out.1 HT.out.2.1 HT.out.1.2.2.2.1 (Int.le_refl _)
    have w0 : IntKind.i64.wrap (c.fi - c.la) = c.fi - c.la := by have := HT.out.1.2.2; rw [IntKind.wrap_i64]; omega
    have hd : (c.fi - c.la).tdiv c.st = stp c c.fi := by rw [Int.tdiv_eq_ediv_of_nonneg (by have := HT.out.1.2.2; omega)]; rfl
    have w1 : IntKind.i64.wrap (stp c c.fi) = stp c c.fi := by rw [IntKind.wrap_i64]; omega
    have w2 : IntKind.i64.wrap (stp c c.fi + 1) = stp c c.fi + 1 := by rw [IntKind.wrap_i64]; omega
    have hz : ¬ c.st = 0 := by have := HT.out.1.2.1; omega
    have hz' : (c.st == 0) = false := by simpa using hz
    have HQ := hidV hq
    clear hq
    go_upto_region 6 with fail
    clear w0 hd w1 w2 fic la st hz hz'
    go_wp2
    go_loopw [8, 9] (fun lv iv wr => ∃ i : Nat, i ≤ n ∧ lv = .int .i64 (leftI c z i) ∧ iv = .int .i64 i ∧ Below v1.heap.size v1 wr) (fun _ iv _ => n + 1 - (intOf iv).toNat)
    case atStart => exact ⟨0, by omega, rfl, rfl, HB2.out⟩
    case round =>
      obtain ⟨i, hi, rfl, rfl, hb⟩ := hrel
      have HB := hidV hb
      clear hb
      by_cases hlt : i < n
      · have hlt' : (i : Int) < n := by omega
        obtain ⟨b, off, rfl, hc⟩ := (HH.out.1.below (Below.transS HX.out.1 HB.out)) (by omega)
        have hci := hc i hlt
        clear hc
        obtain ⟨-, -, -, -, la, st, -⟩ := tcBox (HX.out.2 wr HB.out)
        have hz := (HO.out.2.2 i hlt).1
        have hq := stp_bd (c := c) HT.out.1 HT.out.2.1 hz.1 hz.2
        have hl := leftI_bd (z := z) HT.out.1 HT.out.2.1 i (fun j hj => (HO.out.2.2 j (by omega)).1)
        have hQ := HQ.out
        have hm : 0 ≤ leftI c z i * (stp c c.fi + 1) ∧ leftI c z i * (stp c c.fi + 1) ≤ 1073741824 * 256 := ⟨Int.mul_nonneg hl.1 (by omega), Int.mul_le_mul hl.2 (by omega) (by omega) (by omega)⟩
        have w1 : IntKind.i64.wrap (leftI c z i * (stp c c.fi + 1)) = leftI c z i * (stp c c.fi + 1) := by rw [IntKind.wrap_i64]; omega
        have w2 : IntKind.i64.wrap (leftI c z i * (stp c c.fi + 1) + stp c (z i)) = leftI c z i * (stp c c.fi + 1) + stp c (z i) := by rw [IntKind.wrap_i64]; omega
        have w3 : IntKind.i64.wrap (z i - c.la) = z i - c.la := by have := HT.out.1.2.2; rw [IntKind.wrap_i64]; omega
        have hd : (z i - c.la).tdiv c.st = stp c (z i) := by rw [Int.tdiv_eq_ediv_of_nonneg (by omega)]; rfl
        have w4 : IntKind.i64.wrap (stp c (z i)) = stp c (z i) := by rw [IntKind.wrap_i64]; omega
        have hs0 : ¬ c.st = 0 := by have := HT.out.1.2.1; omega
        have hs0' : (c.st == 0) = false := by simpa using hs0
        have HS : Hid (leftI c z (i + 1) = min (leftI c z i * (stp c c.fi + 1) + stp c (z i)) 1073741824) := rfl
        clear hz hq hl hQ hm
        generalize hL1 : leftI c z (i + 1) = L1 at *
        have HL1 := hidV hL1
        clear hL1
        generalize leftI c z i = L0 at *
        generalize stp c (z i) = s at *
        generalize hp : L0 * (stp c c.fi + 1) = p at *
        generalize hp1 : stp c c.fi + 1 = bs at *
        clear hp1
        by_cases hmn : p + s ≤ 1073741824
        · have HM : Hid (L1 = p + s) := by have := HS.out; show _ = _; omega
          have hmn' : ¬ 1073741824 < p + s := by omega
          clear HS
          go_wp2_with fail
          go_quiet (fail)
          go_wp2
          go_roundw
          case rel => exact ⟨i + 1, by omega, by rw [HL1.out, HM.out], by go_num, belowD HB.out _⟩
          case measure => simp [intOf]; omega
        · have HM : Hid (L1 = 1073741824) := by have := HS.out; show _ = _; omega
          have hmn' : 1073741824 < p + s := by omega
          clear HS
          go_wp2_with fail
          go_quiet (fail)
          go_wp2
          go_roundw
          case rel => exact ⟨i + 1, by omega, by rw [HL1.out, HM.out], by go_num, belowD HB.out _⟩
          case measure => simp [intOf]; omega
      · obtain rfl : i = n := by omega
        have hnn : ¬ ((i : Int) < i) := by omega
        go_wp2
        go_ret2
        exact ⟨by rw [HF.out, HZ.out]; rfl, Below.transS HX.out.1 HB.out⟩
  · have h0' : (isE c z n == 0) = false := by simpa using h0
    have HE : Hid (leftF c z n = 0) := if_neg h0
    go_wp2
    go_ret2
    exact ⟨by rw [HE.out]; rfl, HBE.out⟩
end Go.Proofs.YtlnoabedcnlpoaaDoor
