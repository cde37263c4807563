/- Whether a tree has a path; its room. -/
import Derived.Test.YtlnoabedcnlpoaaDoorJChk
import Derived.Shelf.Abstract
namespace Go.Proofs.YtlnoabedcnlpoaaDoor
open Go.RowKit

/-- A height that a rank may have. -/
def HtOk (c : Tc) (h : Int) : Prop := (c.la ≤ h ∧ h ≤ c.fi) ∧ (c.fi - h) % c.st = 0
instance (c : Tc) (h : Int) : Decidable (HtOk c h) := inferInstanceAs (Decidable (_ ∧ _))
theorem none_any (c : Tc) (ka : Option Addr) (kc B : Nat) (h : Int) (w : World) (hO : TOk1 c) (hB : TcBox w B c ka kc) :
    Calls Tryd.prog 45 #[.int .i64 h, .pointer (some ⟨B, 0, none⟩)] w fun e w' => e = .returned (.bool (!decide (HtOk c h))) ∧ w' = w := by
  obtain ⟨am, ks, dp, fi, la, st, fe⟩ := hB
  by_cases h1 : c.la ≤ h ∧ h ≤ c.fi
  · have d1 : decide (c.la ≤ h ∧ h ≤ c.fi) = true := by simpa using h1
    have w1 : IntKind.i64.wrap (c.fi - h) = c.fi - h := by obtain ⟨-, -, a1, a2, a3⟩ := hO; rw [IntKind.wrap_i64]; omega
    have hd : (c.fi - h).tmod c.st = (c.fi - h) % c.st := Int.tmod_eq_emod_of_nonneg (by omega)
    have hz : ¬ c.st = 0 := by have := hO.2.1; omega
    have hz' : (c.st == 0) = false := by simpa using hz
    have hb : 0 ≤ (c.fi - h) % c.st ∧ (c.fi - h) % c.st ≤ c.fi - h := ⟨Int.emod_nonneg _ hz, by
      have := Int.mul_ediv_add_emod (c.fi - h) c.st
      have h2 := Int.mul_nonneg (Int.ediv_nonneg (a := c.fi - h) (b := c.st) (by omega) (by have := hO.2.1; omega)) (by have := hO.2.1; omega : (0 : Int) ≤ c.st)
      rw [Int.mul_comm] at h2
      omega⟩
    have w2 : IntKind.i64.wrap ((c.fi - h) % c.st) = (c.fi - h) % c.st := by obtain ⟨-, -, a1, a2, a3⟩ := hO; rw [IntKind.wrap_i64]; omega
    have HE : Hid (decide (HtOk c h) = decide ((c.fi - h) % c.st = 0)) := by show _ = _; simp [HtOk, h1]
    generalize (c.fi - h) % c.st = q at *
    clear hO hb h1
    go_enter Tryd.func45, Tryd.ntmps45
    go_wp2_with fail
    refine (within_any h c.la c.fi w).mono ?_
    rintro e q1 ⟨rfl, hW⟩
    rw [hW, d1]
    clear hW d1
    go_wp2
    go_ret
    exact ⟨by rw [HE.out]; simp [bne]; rfl, rfl⟩
  · have d1 : decide (c.la ≤ h ∧ h ≤ c.fi) = false := by simpa using h1
    have HE : Hid (decide (HtOk c h) = false) := by show _ = _; simp only [decide_eq_false_iff_not]; exact fun h => h1 h.1
    go_enter Tryd.func45, Tryd.ntmps45
    go_wp2_with fail
    refine (within_any h c.la c.fi w).mono ?_
    rintro e q1 ⟨rfl, hW⟩
    rw [hW, d1]
    clear hW d1 h1
    go_wp2
    go_ret
    exact ⟨by rw [HE.out]; rfl, rfl⟩
/-- All heights may be. -/
def HsOk (c : Tc) (z : Nat → Int) (n : Nat) : Prop := ∀ j, j < n → HtOk c (z j)
instance (c : Tc) (z : Nat → Int) (n : Nat) : Decidable (HsOk c z n) := inferInstanceAs (Decidable (∀ j, j < n → _))
set_option maxHeartbeats 1600000 in
theorem index_any (c : Tc) (ka : Option Addr) (kc B : Nat) (ad : Option Addr) (n cap : Nat) (z : Nat → Int) (w : World) (h : IsAt w ad n z) (hn : n ≤ 1000000) (hO : TOk1 c) (hB : TcBox w B c ka kc) :
    Calls Tryd.prog 51 #[.slice ad n cap, .func (.func 45) #[] #[.pointer (some ⟨B, 0, none⟩)]] w fun e w' => (∃ q : Int, e = .returned (.int .i64 q) ∧ decide (q ≥ 0) = !decide (HsOk c z n)) ∧ w' = w := by
  have HH : Hid (IsAt w ad n z ∧ TOk1 c ∧ TcBox w B c ka kc) := ⟨h, hO, hB⟩
  have eg : ∀ args w, (callFunc 45 args).run Tryd.prog w = .ok (.enter 45 args) w := enters_of Tryd.func45 (by kernel_rfl) rfl
  clear h hO hB
  go_enter Tryd.func51, Tryd.ntmps51
  go_wp2
  go_loopw [5, 8] (fun _ iv wr => ∃ i : Nat, i ≤ n ∧ iv = .int .i64 i ∧ HsOk c z i ∧ wr = w) (fun _ iv _ => n + 1 - (intOf iv).toNat)
  case atStart => exact ⟨0, by omega, rfl, fun j hj => by omega, rfl⟩
  case round =>
    obtain ⟨i, hi, rfl, hk, hw⟩ := hrel
    have HK : Hid (HsOk c z i) := hk
    have HW := hidV hw
    clear hk
    by_cases hlt : i < n
    · have hlt' : (i : Int) < n := by omega
      obtain ⟨b, off, rfl, hc⟩ := HH.out.1 (by omega)
      have hci : wr.cell? ⟨b, off + i, none⟩ = some (.int .i64 (z i)) := by rw [hw]; exact hc i hlt
      have hcall := none_any c ka kc B (z i) wr HH.out.2.1 (by rw [hw]; exact HH.out.2.2)
      clear hc hw
      by_cases hq : HtOk c (z i)
      · have e1 : decide (HtOk c (z i)) = true := by simp [hq]
        rw [e1] at hcall
        have HN : Hid (HsOk c z (i + 1)) := fun j hj => by
          by_cases e : j = i
          · subst e; exact hq
          · exact HK.out j (by omega)
        clear e1 hq
        go_wp2_with (first | (go_at_fn 45; refine hcall.mono ?_; rintro e w1 ⟨rfl, hw1⟩; rw [hw1]) | fail)
        go_roundw
        case rel => exact ⟨i + 1, by omega, by go_num, HN.out, HW.out⟩
        case measure => simp [intOf]; omega
      · have e1 : decide (HtOk c (z i)) = false := by simpa using hq
        rw [e1] at hcall
        have HN : Hid (¬ HsOk c z n) := fun h => hq (h i hlt)
        clear e1 hq
        go_wp2_with (first | (go_at_fn 45; refine hcall.mono ?_; rintro e w1 ⟨rfl, hw1⟩; rw [hw1]) | fail)
        go_ret
        refine ⟨⟨_, rfl, ?_⟩, HW.out⟩
        have := HN.out
        simp [this]
    · obtain rfl : i = n := by omega
      have hnn : ¬ ((i : Int) < i) := by omega
      have hk := HK.out
      clear hw
      go_wp2
      go_ret
      refine ⟨⟨_, rfl, ?_⟩, HW.out⟩
      simp
set_option maxHeartbeats 800000 in
theorem contains_any (c : Tc) (ka : Option Addr) (kc B : Nat) (ad : Option Addr) (n cap : Nat) (z : Nat → Int) (w : World) (h : IsAt w ad n z) (hn : n ≤ 1000000) (hO : TOk1 c) (hB : TcBox w B c ka kc) :
    Calls Tryd.prog 46 #[.slice ad n cap, .func (.func 45) #[] #[.pointer (some ⟨B, 0, none⟩)]] w fun e w' => e = .returned (.bool (!decide (HsOk c z n))) ∧ w' = w := by
  have hi := index_any c ka kc B ad n cap z w h hn hO hB
  clear h hO hB
  generalize (!decide (HsOk c z n)) = r at *
  go_enter Tryd.func46, Tryd.ntmps46
  go_wp2_with (go_at_call 51; refine hi.mono ?_; rintro e w1 ⟨⟨q, rfl, hq⟩, hw1⟩; rw [hw1])
  all_goals (go_ret; exact ⟨by simp_all, rfl⟩)
theorem pathOk_iff {c : Tc} {z : Nat → Int} {n : Nat} : PathOk c z n ↔ (n : Int) = c.dp ∧ HsOk c z n := Iff.rfl
set_option maxHeartbeats 800000 in
theorem has_any (c : Tc) (ka : Option Addr) (kc : Nat) (ad : Option Addr) (n cap : Nat) (z : Nat → Int) (w : World) (h : IsAt w ad n z) (hn : n ≤ 1000000) (hO : TOk1 c) :
    Calls Tryd.prog 36 #[.agg (tcv c ka kc), .slice ad n cap] w fun e w' => e = .returned (.bool (decide (PathOk c z n))) ∧ Below w.heap.size w w' := by
  have HH : Hid (IsAt w ad n z ∧ TOk1 c) := ⟨h, hO⟩
  clear h hO
  go_enter Tryd.func36, Tryd.ntmps36
  go_upto_region 1 with (first | (refine wpList_boxN rfl _ _ rfl (tcv c ka kc) rfl ?_; intro v1 N1) | fail)
  have hbx := tcBox (tcl_range N1.blk)
  have hc := contains_any c ka kc w.heap.size ad n cap z v1 (HH.out.1.below N1.below) hn HH.out.2 hbx
  obtain ⟨am, ks, dp, fi, la, st, fe⟩ := hbx
  have HB := hidV N1.below
  clear N1
  by_cases h1 : (n : Int) = c.dp
  · have h1' : ((n : Int) == c.dp) = true := by simpa using h1
    have HE : Hid (decide (PathOk c z n) = decide (HsOk c z n)) := by show _ = _; simp [pathOk_iff, h1]
    clear h1
    generalize decide (HsOk c z n) = r at *
    go_wp2_with fail
    refine hc.mono ?_
    rintro e w1 ⟨rfl, hw1⟩
    rw [hw1]
    clear hc hw1
    go_wp2
    go_ret
    exact ⟨by rw [HE.out]; simp, HB.out⟩
  · have h1' : ((n : Int) == c.dp) = false := by simpa using h1
    have HE : Hid (decide (PathOk c z n) = false) := by show _ = _; simp only [decide_eq_false_iff_not]; exact fun h => h1 h.1
    clear h1 hc
    go_wp2
    go_ret
    exact ⟨by rw [HE.out]; rfl, HB.out⟩
theorem isE_chk {c : Tc} {z : Nat → Int} {n : Nat} (h : chkT c ≠ 0) : isE c z n = chkT c := if_pos h
set_option maxHeartbeats 800000 in
theorem checkPath_any (c : Tc) (ka : Option Addr) (kc : Nat) (ad : Option Addr) (n cap : Nat) (z : Nat → Int) (w : World) (h : IsAt w ad n z) (hn : n ≤ 1000000) (hI : TcIn w c ka) :
    Calls Tryd.prog 24 #[.agg (tcv c ka kc), .slice ad n cap] w fun e w' => e = .returned (errV (isE c z n)) ∧ Below w.heap.size w w' := by
  have HH : Hid (IsAt w ad n z ∧ TcIn w c ka) := ⟨h, hI⟩
  clear h hI
  go_enter Tryd.func24, Tryd.ntmps24
  go_upto_region 1 with (first | (refine wpList_boxN rfl _ _ rfl (tcv c ka kc) rfl ?_; intro v1 N1) | fail)
  have HX : Hid (Below w.heap.size w v1 ∧ (∀ w' : World, Below v1.heap.size v1 w' → w'.rangeAt w.heap.size 0 (tcl c ka kc))) :=
    ⟨N1.below, fun w' hb => tcl_range (heap_below hb N1.blk)⟩
  clear N1
  have HR1 := hidV (HX.out.2 v1 (Below.refl _ _))
  go_wp2_with (first | (refine wpList_load_mid rfl 32 _ rfl w.heap.size 0 rfl (tcl c ka kc) _ HR1.out Tryd.underlying32 rfl (szTl c ka kc) ?_) | fail)
  refine (check_any c ka kc v1 (HH.out.2.below HX.out.1)).mono ?_
  rintro e v2 ⟨rfl, hb2⟩
  have HB2 := hidV hb2
  have HBE := hidV (Below.transS HX.out.1 hb2)
  clear hb2 HR1
  by_cases h0 : chkT c = 0
  · have HO := hidV (chkT_ok h0).1
    have HE : Hid (isE c z n = if PathOk c z n then 0 else 1) := by show _ = _; unfold isE; rw [if_neg (by simpa using h0)]
    rw [h0, errV_zero]
    clear h0
    have HR2 := hidV (HX.out.2 v2 HB2.out)
    go_wp2_with (first | (refine wpList_load_mid rfl 32 _ rfl w.heap.size 0 rfl (tcl c ka kc) _ HR2.out Tryd.underlying32 rfl (szTl c ka kc) ?_) | fail)
    refine (has_any c ka kc ad n cap z v2 (HH.out.1.below HBE.out) hn HO.out).mono ?_
    rintro e v3 ⟨rfl, hb3⟩
    have HBF := hidV (Below.transS HBE.out hb3)
    clear hb3 HR2
    by_cases h1 : PathOk c z n
    · have HF : Hid (isE c z n = 0) := by show _ = _; rw [HE.out, if_pos h1]
      have d1 : decide (PathOk c z n) = true := by simpa using h1
      rw [d1]
      clear d1 h1
      go_wp2
      go_ret
      exact ⟨by rw [HF.out]; rfl, HBF.out⟩
    · have HF : Hid (isE c z n = 1) := by show _ = _; rw [HE.out, if_neg h1]
      have d1 : decide (PathOk c z n) = false := by simpa using h1
      rw [d1]
      clear d1 h1
      go_wp2
      go_ret
      exact ⟨by rw [HF.out]; rfl, HBF.out⟩
  · have HE : Hid (isE c z n = chkT c) := isE_chk h0
    rw [errV_ne h0]
    have HV := hidV (errV_ne h0)
    clear h0
    go_wp2
    go_ret
    exact ⟨by rw [HE.out, HV.out]; rfl, HBE.out⟩
/-- What is left for the outputs. -/
def roomF (c : Tc) : Int := if chkT c = 0 then c.am - c.dp * c.fe else 0
set_option maxHeartbeats 800000 in
theorem room_any (c : Tc) (ka : Option Addr) (kc : Nat) (w : World) (hI : TcIn w c ka) :
    Calls Tryd.prog 15 #[.agg (tcv c ka kc)] w fun e w' => e = .returned (.tuple #[.int .i64 (roomF c), errV (chkT c)]) ∧ Below w.heap.size w w' := by
  have HH := hidV hI
  clear hI
  go_enter Tryd.func15, Tryd.ntmps15
  go_upto_region 1 with (first | (refine wpList_boxN rfl _ _ rfl (tcv c ka kc) rfl ?_; intro v1 N1) | fail)
  have HX : Hid (Below w.heap.size w v1 ∧ (∀ w' : World, Below v1.heap.size v1 w' → w'.rangeAt w.heap.size 0 (tcl c ka kc))) :=
    ⟨N1.below, fun w' hb => tcl_range (heap_below hb N1.blk)⟩
  clear N1
  have HR1 := hidV (HX.out.2 v1 (Below.refl _ _))
  go_wp2_with (first | (refine wpList_load_mid rfl 32 _ rfl w.heap.size 0 rfl (tcl c ka kc) _ HR1.out Tryd.underlying32 rfl (szTl c ka kc) ?_) | fail)
  refine (check_any c ka kc v1 (HH.out.below HX.out.1)).mono ?_
  rintro e v2 ⟨rfl, hb2⟩
  have HB2 := hidV hb2
  have HBE := hidV (Below.transS HX.out.1 hb2)
  clear hb2 HR1
  by_cases h0 : chkT c = 0
  · have HO := hidV (chkT_ok h0)
    have HE : Hid (roomF c = c.am - c.dp * c.fe) := if_pos h0
    have HZ := hidV h0
    rw [h0, errV_zero]
    clear h0
    have HR2 := hidV (HX.out.2 v2 HB2.out)
    have dp := (tcBox HR2.out).dp
    go_wp2_with (first | (refine wpList_load_mid rfl 32 _ rfl w.heap.size 0 rfl (tcl c ka kc) _ HR2.out Tryd.underlying32 rfl (szTl c ka kc) ?_) | fail)
    refine (behind_any c ka kc c.dp v2 HO.out.2.2 (by have := HO.out.1.1; omega) HO.out.1.1.2).mono ?_
    rintro e v3 ⟨rfl, hb3⟩
    have HBF := hidV (Below.transS HBE.out hb3)
    clear hb3 HR2 dp
    go_wp2
    go_ret2
    exact ⟨by rw [HE.out, HZ.out]; rfl, HBF.out⟩
  · have HE : Hid (roomF c = 0) := if_neg h0
    have HV := hidV (errV_ne h0)
    rw [errV_ne h0]
    clear h0
    go_wp2
    go_ret2
    exact ⟨by rw [HE.out, HV.out]; rfl, HBE.out⟩
end Go.Proofs.YtlnoabedcnlpoaaDoor
