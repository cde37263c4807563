/- tree.Newer. -/
import Derived.Test.YtlnoabedcnlpoaaDoorJLeft
namespace Go.Proofs.YtlnoabedcnlpoaaDoor
open Go.RowKit

theorem isNaN_any (n : Int) (w : World) : Calls Tryd.prog 50 #[.int .i64 n] w fun e w' => e = .returned (.bool false) ∧ w' = w := by
  go_enter Tryd.func50, Tryd.ntmps50
  go_wp2
  go_ret
  exact ⟨by simp, rfl⟩
def cmpF (a b : Int) : Int := if a < b then -1 else if b < a then 1 else 0
set_option maxHeartbeats 800000 in
theorem cmp_any (a b : Int) (w : World) : Calls Tryd.prog 42 #[.int .i64 a, .int .i64 b] w fun e w' => e = .returned (.int .i64 (cmpF a b)) ∧ w' = w := by
  have ha := isNaN_any a w
  have hb := isNaN_any b w
  by_cases h1 : a < b
  · have HE : Hid (cmpF a b = -1) := if_pos h1
    go_enter Tryd.func42, Tryd.ntmps42
    go_wp2_with (first | (go_at_call 50; refine ha.mono ?_; rintro e w1 ⟨rfl, hw1⟩; rw [hw1]; clear hw1) | (go_at_call 50; refine hb.mono ?_; rintro e w1 ⟨rfl, hw1⟩; rw [hw1]; clear hw1))
    go_ret
    exact ⟨by rw [HE.out]; rfl, rfl⟩
  · by_cases h2 : b < a
    · have HE : Hid (cmpF a b = 1) := by show _ = _; unfold cmpF; rw [if_neg h1, if_pos h2]
      go_enter Tryd.func42, Tryd.ntmps42
      go_wp2_with (first | (go_at_call 50; refine ha.mono ?_; rintro e w1 ⟨rfl, hw1⟩; rw [hw1]; clear hw1) | (go_at_call 50; refine hb.mono ?_; rintro e w1 ⟨rfl, hw1⟩; rw [hw1]; clear hw1))
      go_ret
      exact ⟨by rw [HE.out]; rfl, rfl⟩
    · have HE : Hid (cmpF a b = 0) := by show _ = _; unfold cmpF; rw [if_neg h1, if_neg h2]
      go_enter Tryd.func42, Tryd.ntmps42
      go_wp2_with (first | (go_at_call 50; refine ha.mono ?_; rintro e w1 ⟨rfl, hw1⟩; rw [hw1]; clear hw1) | (go_at_call 50; refine hb.mono ?_; rintro e w1 ⟨rfl, hw1⟩; rw [hw1]; clear hw1))
      go_ret
      exact ⟨by rw [HE.out]; rfl, rfl⟩
/-- The first n heights of a path are smaller at the first rank at which two differ. -/
def Nw (z y : Nat → Int) (n : Nat) : Prop := ∃ i, i < n ∧ (∀ j, j < i → z j = y j) ∧ z i < y i
noncomputable def nwB (z y : Nat → Int) (n : Nat) : Bool := @decide (Nw z y n) (Classical.propDecidable _)
theorem nwB_pos {z y : Nat → Int} {n : Nat} (h : Nw z y n) : nwB z y n = true := by unfold nwB; exact @decide_eq_true _ (Classical.propDecidable _) h
theorem nwB_neg {z y : Nat → Int} {n : Nat} (h : ¬ Nw z y n) : nwB z y n = false := by unfold nwB; exact @decide_eq_false _ (Classical.propDecidable _) h
theorem nwB_iff {z y : Nat → Int} {n : Nat} : nwB z y n = true ↔ Nw z y n := by
  by_cases h : Nw z y n
  · simp [nwB_pos h, h]
  · simp [nwB_neg h, h]
theorem nw_here {z y : Nat → Int} {n i : Nat} (hi : i < n) (he : ∀ j, j < i → z j = y j) (h : z i < y i) : Nw z y n := ⟨i, hi, he, h⟩
theorem nw_not {z y : Nat → Int} {n i : Nat} (he : ∀ j, j < i → z j = y j) (h : y i < z i) : ¬ Nw z y n := fun ⟨k, _, h1, h2⟩ => by
  by_cases e : k < i
  · have := he k e; omega
  · by_cases e2 : k = i
    · subst e2; omega
    · have := h1 i (by omega); omega
theorem nw_none {z y : Nat → Int} {n : Nat} (he : ∀ j, j < n → z j = y j) : ¬ Nw z y n := fun ⟨k, hk, _, h2⟩ => by have := he k hk; omega
set_option maxRecDepth 100000 in
set_option maxHeartbeats 1600000 in
theorem compare_any (a1 a2 : Option Addr) (n c1 c2 : Nat) (z y : Nat → Int) (w : World) (h1 : IsAt w a1 n z) (h2 : IsAt w a2 n y) (hn : n ≤ 1000000) :
    Calls Tryd.prog 34 #[.slice a1 n c1, .slice a2 n c2] w fun e w' => (∃ q : Int, e = .returned (.int .i64 q) ∧ decide (q < 0) = nwB z y n) ∧ w' = w := by
  have HH : Hid (IsAt w a1 n z ∧ IsAt w a2 n y) := ⟨h1, h2⟩
  clear h1 h2
  go_enter Tryd.func34, Tryd.ntmps34
  go_wp2
  go_loopw [5, 6, 7, 8, 11] (fun _ _ _ _ iv wr => ∃ i : Nat, i ≤ n ∧ iv = .int .i64 i ∧ (∀ j, j < i → z j = y j) ∧ wr = w) (fun _ _ _ _ iv _ => n + 1 - (intOf iv).toNat)
  case atStart => exact ⟨0, by omega, rfl, fun j hj => by omega, rfl⟩
  case round =>
    obtain ⟨i, hi, rfl, he, hw⟩ := hrel
    have HE := hidV he
    have HW := hidV hw
    clear he
    by_cases hlt : i < n
    · have hlt' : (i : Int) < n := by omega
      have hge' : ¬ (n : Int) ≤ i := by omega
      obtain ⟨b, off, rfl, hc⟩ := HH.out.1 (by omega)
      obtain ⟨b2, off2, rfl, hd⟩ := HH.out.2 (by omega)
      have hci : wr.cell? ⟨b, off + i, none⟩ = some (.int .i64 (z i)) := by rw [hw]; exact hc i hlt
      have hdi : wr.cell? ⟨b2, off2 + i, none⟩ = some (.int .i64 (y i)) := by rw [hw]; exact hd i hlt
      clear hc hd hw
      have hcall := cmp_any (z i) (y i) wr
      by_cases q1 : z i < y i
      · have e1 : cmpF (z i) (y i) = -1 := if_pos q1
        have HN : Hid (nwB z y n = true) := nwB_pos (nw_here hlt HE.out q1)
        rw [e1] at hcall
        clear e1 q1
        go_wp2_with (go_at_call 42; refine hcall.mono ?_; rintro e w1 ⟨rfl, hw1⟩; rw [hw1])
        go_ret
        exact ⟨⟨_, rfl, by rw [HN.out]; rfl⟩, HW.out⟩
      · by_cases q2 : y i < z i
        · have e1 : cmpF (z i) (y i) = 1 := by unfold cmpF; rw [if_neg q1, if_pos q2]
          have HN : Hid (nwB z y n = false) := nwB_neg (nw_not HE.out q2)
          rw [e1] at hcall
          clear e1 q1 q2
          go_wp2_with (go_at_call 42; refine hcall.mono ?_; rintro e w1 ⟨rfl, hw1⟩; rw [hw1])
          go_ret
          exact ⟨⟨_, rfl, by rw [HN.out]; rfl⟩, HW.out⟩
        · have e1 : cmpF (z i) (y i) = 0 := by unfold cmpF; rw [if_neg q1, if_neg q2]
          have HN : Hid (∀ j, j < i + 1 → z j = y j) := fun j hj => by
            by_cases e : j = i
            · subst e; omega
            · exact HE.out j (by omega)
          rw [e1] at hcall
          clear e1 q1 q2
          go_wp2_with (go_at_call 42; refine hcall.mono ?_; rintro e w1 ⟨rfl, hw1⟩; rw [hw1])
          go_roundw
          case rel => exact ⟨i + 1, by omega, by go_num, HN.out, HW.out⟩
          case measure => simp [intOf]; omega
    · obtain rfl : i = n := by omega
      have hnn : ¬ ((i : Int) < i) := by omega
      have HN : Hid (nwB z y i = false) := nwB_neg (nw_none HE.out)
      clear hw
      go_wp2
      go_ret
      exact ⟨⟨_, rfl, by rw [HN.out]; rfl⟩, HW.out⟩
section
variable {ops : Array Oper} {rest : List Oper} {o : Oper} {a : Act} {w : World} {Q : Exit → Act → World → Prop}
theorem wpList_wanted {P : Program} (hw : Region.wanted o (yielded ops a.tmps) = true) (h : ∀ K : Act → World → Prop, (∀ a w, wpList P ops Q rest a w → K a w) → o.wp P a w K Q) : wpList P ops Q (o :: rest) a w :=
  wpList_step fun K hK => by rw [if_pos hw]; exact h K hK
/-- A tree loaded, guarded or not. -/
theorem wpList_loadT (hw : Region.wanted o (yielded ops a.tmps) = true) (x : Operand) (ho : o.op = .load 32 x) (g : Nat) (hx : a.eval x = .pointer (some ⟨g, 0, none⟩)) (c : Tc) (ka : Option Addr) (kc : Nat) (hc : w.rangeAt g 0 (tcl c ka kc))
    (h : wpList Tryd.prog ops Q rest (a.put o.dst (.agg (tcl c ka kc).toArray)) w) : wpList Tryd.prog ops Q (o :: rest) a w :=
  wpList_wanted hw fun _ hK => wp_load_mid 32 x ho g 0 hx (tcl c ka kc) _ hc Tryd.underlying32 rfl (szTl c ka kc) (hK _ _ h)
/-- The document's tree loaded, guarded or not. -/
theorem wpList_loadR (hw : Region.wanted o (yielded ops a.tmps) = true) (x : Operand) (ho : o.op = .load 28 x) (g : Nat) (hx : a.eval x = .pointer (some ⟨g, 0, none⟩)) (c : Tc) (ka : Option Addr) (kc : Nat) (hc : w.rangeAt g 0 (tcl c ka kc))
    (h : wpList Tryd.prog ops Q rest (a.put o.dst (.agg (tcl c ka kc).toArray)) w) : wpList Tryd.prog ops Q (o :: rest) a w :=
  wpList_wanted hw fun _ hK => wp_load_mid 28 x ho g 0 hx (tcl c ka kc) _ hc Tryd.underlying28 rfl (szRl c ka kc) (hK _ _ h)
end
noncomputable def newerF (c : Tc) (z : Nat → Int) (n : Nat) (y : Nat → Int) (m : Nat) : Bool := if isE c z n = 0 ∧ isE c y m = 0 then nwB z y n else false
set_option maxRecDepth 100000 in
set_option maxHeartbeats 1600000 in
theorem newer_any (c : Tc) (ka : Option Addr) (kc : Nat) (a1 a2 : Option Addr) (n m c1 c2 : Nat) (z y : Nat → Int) (w : World) (h1 : IsAt w a1 n z) (h2 : IsAt w a2 m y) (hn : n ≤ 1000000) (hm : m ≤ 1000000) (hI : TcIn w c ka) :
    Calls Tryd.prog 20 #[.agg (tcv c ka kc), .slice a1 n c1, .slice a2 m c2] w fun e w' => e = .returned (.bool (newerF c z n y m)) ∧ Below w.heap.size w w' := by
  have HH : Hid (IsAt w a1 n z ∧ IsAt w a2 m y ∧ TcIn w c ka) := ⟨h1, h2, hI⟩
  clear h1 h2 hI
  go_enter Tryd.func20, Tryd.ntmps20
  go_upto_region 1 with (first | (refine wpList_boxN rfl _ _ rfl (tcv c ka kc) rfl ?_; intro v1 N1) | fail)
  have HX : Hid (Below w.heap.size w v1 ∧ (∀ w' : World, Below v1.heap.size v1 w' → w'.rangeAt w.heap.size 0 (tcl c ka kc))) :=
    ⟨N1.below, fun w' hb => tcl_range (heap_below hb N1.blk)⟩
  clear N1
  have HR1 := hidV (HX.out.2 v1 (Below.refl _ _))
  go_wp2_with (first | (refine wpList_loadT (by rfl) _ rfl w.heap.size rfl c ka kc HR1.out ?_) | fail)
  refine (checkPath_any c ka kc a1 n c1 z v1 (HH.out.1.below HX.out.1) hn (HH.out.2.2.below HX.out.1)).mono ?_
  rintro e v2 ⟨rfl, hb2⟩
  have HB2 := hidV hb2
  have HBE := hidV (Below.transS HX.out.1 hb2)
  clear hb2 HR1
  by_cases q1 : isE c z n = 0
  · have HZ := hidV q1
    rw [q1, errV_zero]
    clear q1
    have HR2 := hidV (HX.out.2 v2 HB2.out)
    go_wp2_with (first | (refine wpList_loadT (by rfl) _ rfl w.heap.size rfl c ka kc HR2.out ?_) | fail)
    refine (checkPath_any c ka kc a2 m c2 y v2 (HH.out.2.1.below HBE.out) hm (HH.out.2.2.below HBE.out)).mono ?_
    rintro e v3 ⟨rfl, hb3⟩
    have HBF := hidV (Below.transS HBE.out hb3)
    clear hb3 HR2
    by_cases q2 : isE c y m = 0
    · have hnm : m = n := by have a := (isE_ok HZ.out).2.1; have b := (isE_ok q2).2.1; omega
      have HE : Hid (newerF c z n y m = nwB z y n) := if_pos ⟨HZ.out, q2⟩
      rw [q2, errV_zero]
      clear q2
      subst hnm
      go_wp2_with fail
      refine (compare_any a1 a2 m c1 c2 z y v3 (HH.out.1.below HBF.out) (HH.out.2.1.below HBF.out) hn).mono ?_
      rintro e v4 ⟨⟨q, rfl, hq⟩, hw4⟩
      rw [hw4]
      have HQ := hidV hq
      clear hw4 hq
      go_wp2
      go_ret
      exact ⟨by rw [HE.out, ← HQ.out]; rfl, HBF.out⟩
    · have HE : Hid (newerF c z n y m = false) := if_neg (fun h => q2 h.2)
      rw [errV_ne q2]
      clear q2
      go_wp2
      go_ret
      exact ⟨by rw [HE.out]; rfl, HBF.out⟩
  · have HE : Hid (newerF c z n y m = false) := if_neg (fun h => q1 h.1)
    rw [errV_ne q1]
    clear q1
    go_wp2
    go_ret
    exact ⟨by rw [HE.out]; rfl, HBE.out⟩
end Go.Proofs.YtlnoabedcnlpoaaDoor
