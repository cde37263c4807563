/- The order of what is laid: ints, bytes, sums; rows of things; and as texts. -/
import Derived.Test.YtmgjipemgdgjdaaOrd
namespace Go.Proofs.Ytmgjipemgdgjdaa
open Go.RowKit

theorem Parts.first2 {x y : Int} {a b : List Int} {c : Int} (h : x ≠ y) (hc : sgn x y = c) : Parts (x :: a) (y :: b) c := hc ▸ Parts.first h
theorem sgn_eq {n m : Int} (h : n = m) : sgn n m = 0 := by rw [sgn, if_neg (by omega), if_neg (by omega)]
theorem i_parts (n m : Int) (h0 : -9223372036854775808 ≤ n) (h1 : n ≤ 9223372036854775807) (g0 : -9223372036854775808 ≤ m) (g1 : m ≤ 9223372036854775807) : Parts (iB n) (iB m) (sgn n m) := by
  have sn := sz_le n
  have sm := sz_le m
  have sn' := sz_le (-1 - n)
  have sm' := sz_le (-1 - m)
  unfold iB
  by_cases hn : n < 0
  · rw [if_pos hn]
    by_cases hm : m < 0
    · rw [if_pos hm]
      by_cases e : sz (-1 - n) = sz (-1 - m)
      · rw [← e]
        have b1 := sz_bound (-1 - n) (by omega) (by omega)
        have b2 := sz_bound (-1 - m) (by omega) (by omega)
        rw [← e] at b2
        have := (dgs_parts (-1 - n) (-1 - m) _ (by omega) b1 (by omega) b2).2.cons (x := 127 - (sz (-1 - n) : Int))
        rwa [sgn_congr (a := -1 - m) (b := -1 - n) (c := n) (d := m) (by omega) (by omega)] at this
      · refine Parts.first2 (by omega) (sgn_congr ⟨fun h => ?_, fun h => ?_⟩ ⟨fun h => ?_, fun h => ?_⟩)
        · rcases Int.lt_or_le n m with h' | h'
          · exact h'
          · have := sz_mono (n := -1 - n) (m := -1 - m) (by omega); omega
        · have := sz_mono (n := -1 - m) (m := -1 - n) (by omega); omega
        · rcases Int.lt_or_le m n with h' | h'
          · exact h'
          · have := sz_mono (n := -1 - m) (m := -1 - n) (by omega); omega
        · have := sz_mono (n := -1 - n) (m := -1 - m) (by omega); omega
    · rw [if_neg hm]
      exact Parts.first2 (by omega) ((sgn_lt (by omega)).trans (sgn_lt (by omega)).symm)
  · rw [if_neg hn]
    by_cases hm : m < 0
    · rw [if_pos hm]
      exact Parts.first2 (by omega) ((sgn_gt (by omega)).trans (sgn_gt (by omega)).symm)
    · rw [if_neg hm]
      by_cases e : sz n = sz m
      · rw [← e]
        have b1 := sz_bound n (by omega) (by omega)
        have b2 := sz_bound m (by omega) (by omega)
        rw [← e] at b2
        exact (dgs_parts n m _ (by omega) b1 (by omega) b2).1.cons
      · refine Parts.first2 (by omega) (sgn_congr ⟨fun h => ?_, fun h => ?_⟩ ⟨fun h => ?_, fun h => ?_⟩)
        · rcases Int.lt_or_le n m with h' | h'
          · exact h'
          · have := sz_mono (n := m) (m := n) (by omega); omega
        · have := sz_mono (n := n) (m := m) (by omega); omega
        · rcases Int.lt_or_le m n with h' | h'
          · exact h'
          · have := sz_mono (n := n) (m := m) (by omega); omega
        · have := sz_mono (n := m) (m := n) (by omega); omega

/-- Bytes, each 0 marked. -/
def escL : List Int → List Int
  | [] => []
  | x :: l => esc x ++ escL l
theorem escL_snoc : ∀ (l : List Int) (x : Int), escL (l ++ [x]) = escL l ++ esc x
  | [], x => by simp [escL]
  | y :: l, x => by rw [List.cons_append, escL, escL, escL_snoc l x, List.append_assoc]
/-- The n bytes z as a list. -/
def lB (z : Nat → Int) (n : Nat) : List Int := (List.range n).map z
theorem lB_length (z : Nat → Int) (n : Nat) : (lB z n).length = n := by simp [lB]
theorem escF_escL (z : Nat → Int) : ∀ n, escF z n = escL (lB z n)
  | 0 => rfl
  | n + 1 => by
    have hs : lB z (n + 1) = lB z n ++ [z n] := by simp [lB, List.range_succ]
    rw [escF, escF_escL z n, hs, escL_snoc]
theorem Parts.pre {p a b : List Int} {c : Int} (h : Parts a b c) : Parts (p ++ a) (p ++ b) c :=
  ⟨fun h0 => by rw [h.1 h0], fun h0 r s => by rw [List.append_assoc, List.append_assoc, cmpL_same, h.2 h0 r s]⟩
theorem esc_parts : ∀ (a b : List Int), (∀ x, x ∈ a → 0 ≤ x ∧ x ≤ 255) → (∀ x, x ∈ b → 0 ≤ x ∧ x ≤ 255) → Parts (escL a ++ [0, 0]) (escL b ++ [0, 0]) (cmpL a b)
  | [], [], _, _ => ⟨fun _ => rfl, fun h => absurd rfl h⟩
  | [], y :: b, _, hb => by
    have hy := hb y (List.mem_cons_self ..)
    refine ⟨fun h => by simp [cmpL] at h, fun _ r s => ?_⟩
    show cmpL _ _ = -1
    rw [escL, escL, esc]
    by_cases h0 : y = 0
    · rw [if_pos h0]; simp [cmpL]
    · rw [if_neg h0]; simp [cmpL]; omega
  | x :: a, [], ha, _ => by
    have hx := ha x (List.mem_cons_self ..)
    refine ⟨fun h => by simp [cmpL] at h, fun _ r s => ?_⟩
    show cmpL _ _ = 1
    rw [escL, escL, esc]
    by_cases h0 : x = 0
    · rw [if_pos h0]; simp [cmpL]
    · rw [if_neg h0]; simp [cmpL]; omega
  | x :: a, y :: b, ha, hb => by
    have hx := ha x (List.mem_cons_self ..)
    have hy := hb y (List.mem_cons_self ..)
    rw [cmpL]
    by_cases h1 : x < y
    · rw [if_pos h1]
      refine ⟨fun h => by simp at h, fun _ r s => ?_⟩
      have hy0 : ¬ y = 0 := by omega
      rw [escL, escL, esc, esc, if_neg hy0]
      by_cases h0 : x = 0
      · rw [if_pos h0]; simp [cmpL]; omega
      · rw [if_neg h0]; simp [cmpL]; omega
    · rw [if_neg h1]
      by_cases h2 : y < x
      · rw [if_pos h2]
        refine ⟨fun h => by simp at h, fun _ r s => ?_⟩
        have hx0 : ¬ x = 0 := by omega
        rw [escL, escL, esc, esc, if_neg hx0]
        by_cases h0 : y = 0
        · rw [if_pos h0]; simp [cmpL]; omega
        · rw [if_neg h0]; simp [cmpL]; omega
      · rw [if_neg h2]
        have e : x = y := by omega
        subst e
        have := esc_parts a b (fun z hz => ha z (List.mem_cons_of_mem _ hz)) (fun z hz => hb z (List.mem_cons_of_mem _ hz))
        rw [escL, escL, List.append_assoc, List.append_assoc]
        exact this.pre

/-- Two rows, and one thing more of each. -/
theorem Parts.next {L M a b : List Int} {o c : Int} (h : Parts L M o) (k : Parts a b c) : Parts (L ++ a) (M ++ b) (if o = 0 then c else o) := by
  by_cases h0 : o = 0
  · rw [if_pos h0, h.1 h0]
    exact k.pre
  · rw [if_neg h0]
    refine ⟨fun e => absurd e h0, fun _ r s => ?_⟩
    rw [List.append_assoc, List.append_assoc, h.2 h0]
theorem Parts.cmp {L M : List Int} {o : Int} (h : Parts L M o) : cmpL L M = o := by
  by_cases h0 : o = 0
  · rw [h.1 h0, h0]; exact cmpL_self _
  · have := h.2 h0 [] []
    simpa using this
theorem Parts.nil : Parts [] [] 0 := ⟨fun _ => rfl, fun h => absurd rfl h⟩

/-- compare's answer. -/
def cmpv (l s : Bool) : Int := if s then 0 else if l then -1 else 1
def toU (l : List Int) : List UInt8 := l.map fun x => UInt8.ofNat x.toNat
theorem u_lt {x y : Int} (hx : 0 ≤ x ∧ x ≤ 255) (hy : 0 ≤ y ∧ y ≤ 255) : (UInt8.ofNat x.toNat < UInt8.ofNat y.toNat) ↔ x < y := by
  rw [UInt8.lt_iff_toNat_lt, UInt8.toNat_ofNat', UInt8.toNat_ofNat', Nat.mod_eq_of_lt (by omega), Nat.mod_eq_of_lt (by omega)]
  omega
theorem u_eq {x y : Int} (hx : 0 ≤ x ∧ x ≤ 255) (hy : 0 ≤ y ∧ y ≤ 255) : (UInt8.ofNat x.toNat = UInt8.ofNat y.toNat) ↔ x = y := by
  rw [← UInt8.toNat_inj, UInt8.toNat_ofNat', UInt8.toNat_ofNat', Nat.mod_eq_of_lt (by omega), Nat.mod_eq_of_lt (by omega)]
  omega
theorem toU_cmp : ∀ (a b : List Int), (∀ x, x ∈ a → 0 ≤ x ∧ x ≤ 255) → (∀ x, x ∈ b → 0 ≤ x ∧ x ≤ 255) → cmpv (Op.bytesLess (toU a) (toU b)) (toU a == toU b) = cmpL a b
  | [], [], _, _ => rfl
  | [], _ :: _, _, _ => rfl
  | _ :: _, [], _, _ => rfl
  | x :: a, y :: b, ha, hb => by
    have hx := ha x (List.mem_cons_self ..)
    have hy := hb y (List.mem_cons_self ..)
    have ih := toU_cmp a b (fun z hz => ha z (List.mem_cons_of_mem _ hz)) (fun z hz => hb z (List.mem_cons_of_mem _ hz))
    have e1 : toU (x :: a) = UInt8.ofNat x.toNat :: toU a := rfl
    have e2 : toU (y :: b) = UInt8.ofNat y.toNat :: toU b := rfl
    rw [e1, e2, cmpL, Op.bytesLess]
    by_cases h1 : x < y
    · have hne : ¬ UInt8.ofNat x.toNat = UInt8.ofNat y.toNat := by rw [u_eq hx hy]; omega
      have hlt : UInt8.ofNat x.toNat < UInt8.ofNat y.toNat := (u_lt hx hy).2 h1
      rw [if_pos h1]
      simp [cmpv, hne, hlt]
    · have hnl : ¬ UInt8.ofNat x.toNat < UInt8.ofNat y.toNat := by rw [u_lt hx hy]; exact h1
      rw [if_neg h1]
      by_cases h2 : y < x
      · have hne : ¬ UInt8.ofNat x.toNat = UInt8.ofNat y.toNat := by rw [u_eq hx hy]; omega
        rw [if_pos h2]
        simp [cmpv, hne, hnl]
      · rw [if_neg h2, ← ih]
        have e : x = y := by omega
        subst e
        simp [cmpv]
end Go.Proofs.Ytmgjipemgdgjdaa
