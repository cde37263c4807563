/- long: whether a condition has more than is gone through. -/
import Derived.Test.YtecahnafcljljaaDoorCBase
namespace Go.Proofs.YtecahnafcljljaaDoor
open Go.RowKit

/-- The keys of the first branches together. -/
def sumK (X : Nat → Bv) : Nat → Nat
  | 0 => 0
  | i + 1 => sumK X i + (X i).n
theorem sumK_le {X : Nat → Bv} {i n : Nat} (h : i < n) : (X i).n ≤ sumK X n := by
  induction n with
  | zero => omega
  | succ n ih =>
    simp only [sumK]
    by_cases e : i = n
    · subst e; omega
    · have := ih (by omega); omega
theorem sumK_bd {X : Nat → Bv} {m : Nat} (hx : ∀ i, (X i).n ≤ m) : ∀ i, sumK X i ≤ i * m
  | 0 => by simp [sumK]
  | i + 1 => by
    have h1 := sumK_bd hx i
    have h2 := hx i
    simp only [sumK]
    rw [Nat.succ_mul]; omega
def lng (X : Nat → Bv) (n : Nat) : Bool := decide (300 < n + sumK X (min n 300))
theorem lng_no {X : Nat → Bv} {n : Nat} (h : lng X n = false) : n ≤ 300 ∧ ∀ i, i < n → (X i).n ≤ 300 := by
  simp only [lng, decide_eq_false_iff_not] at h
  have h1 : n ≤ 300 := by omega
  have e : min n 300 = n := by omega
  rw [e] at h
  refine ⟨h1, fun i hi => ?_⟩
  have := sumK_le (X := X) hi
  omega

set_option maxHeartbeats 1600000 in
theorem long_any (ad : Option Addr) (n cap : Nat) (X : Nat → Bv) (w : World) (h : BrAt w ad n X) (hn : n ≤ 140737488355328) (hx : ∀ i, i < n → (X i).n ≤ 140737488355328) :
    Calls Tryd.prog 6 #[.agg #[.slice ad n cap]] w fun e w' => e = .returned (.bool (lng X n)) ∧ Below w.heap.size w w' := by
  have HB : Hid (BrAt w ad n X) := h
  have hb0 : Below w.heap.size w (w.alloc (.cells #[.slice ad n cap] 24)) := (Below.refl _ w).alloc (Nat.le_refl _) _
  have hc0 : (w.alloc (.cells #[.slice ad n cap] 24)).cell? ⟨w.heap.size, 0, none⟩ = some (.slice ad n cap) := by simp
  clear h
  go_enter Tryd.func6, Tryd.ntmps6
  go_wp2
  generalize w.alloc (.cells #[.slice ad n cap] 24) = W0 at *
  go_loopw [3, 4] (fun sv iv wr => ∃ i : Nat, i ≤ n ∧ i ≤ 300 ∧ sv = .int .i64 ((n + sumK X i : Nat) : Int) ∧ iv = .int .i64 i ∧ sumK X i ≤ i * 140737488355328 ∧ Below w.heap.size w wr ∧ wr.cell? ⟨w.heap.size, 0, none⟩ = some (.slice ad n cap)) (fun _ iv _ => 301 - (intOf iv).toNat)
  case atStart => exact ⟨0, by omega, by omega, by simp [sumK], rfl, by simp [sumK], hb0, hc0⟩
  case round =>
    clear hb0 hc0
    obtain ⟨i, hi, hi3, rfl, rfl, hs, hb, hc0⟩ := hrel
    by_cases hlt : i < n
    · have hlt' : (i : Int) < n := by omega
      by_cases h3 : i < 300
      · have h3' : (i : Int) < 300 := by omega
        obtain ⟨b, off, rfl, hc⟩ := HB.out.at_ (by omega)
        obtain ⟨ka, kc, hr0, hI0⟩ := hc i hlt
        have hxi := hx i hlt
        have ck : wr.cell? ⟨b, off + i * 35, none⟩ = some (.slice ka (X i).n kc) := range_below hr0 hb 0 _ rfl
        have e1 : ((n + sumK X (i + 1) : Nat) : Int) = ((n + sumK X i : Nat) : Int) + (X i).n := by simp only [sumK]; omega
        have HS : Hid (sumK X (i + 1) ≤ (i + 1) * 140737488355328) := by show _ ≤ _; simp only [sumK]; omega
        have hbd : ((n + sumK X i : Nat) : Int) + (X i).n ≤ 9223372036854775807 := by omega
        have hbd0 : (0 : Int) ≤ ((n + sumK X i : Nat) : Int) := by omega
        generalize ((n + sumK X i : Nat) : Int) = q at *
        clear hc hr0 hI0 hx hs
        go_wp2
        go_roundw
        case rel => exact ⟨i + 1, by omega, by omega, by rw [e1], by go_num, HS.out, hb, hc0⟩
        case measure => simp [intOf]; omega
      · have h3' : ¬ (i : Int) < 300 := by omega
        have e2 : (decide ((300 : Int) < ((n + sumK X i : Nat) : Int))) = lng X n := by
          have : min n 300 = i := by omega
          rw [lng, this]
          exact decide_eq_decide.2 (by omega)
        generalize ((n + sumK X i : Nat) : Int) = q at *
        have E2 : Hid (decide ((300 : Int) < q) = lng X n) := e2
        clear e2 hx hs
        go_wp2
        go_ret
        exact ⟨by rw [← E2.out]; rfl, hb⟩
    · obtain rfl : i = n := by omega
      have hnn : ¬ ((i : Int) < i) := by omega
      have e2 : (decide ((300 : Int) < ((i + sumK X i : Nat) : Int))) = lng X i := by
        have : min i 300 = i := by omega
        rw [lng, this]
        exact decide_eq_decide.2 (by omega)
      generalize ((i + sumK X i : Nat) : Int) = q at *
      have E2 : Hid (decide ((300 : Int) < q) = lng X i) := e2
      clear e2 hx hs
      go_wp2
      go_ret
      exact ⟨by rw [← E2.out]; rfl, hb⟩
end Go.Proofs.YtecahnafcljljaaDoor
