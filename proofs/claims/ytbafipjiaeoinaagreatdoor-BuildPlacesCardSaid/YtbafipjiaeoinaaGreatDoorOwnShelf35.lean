/- longState: whether a state has more than is gone through. -/
import Derived.Test.YtbafipjiaeoinaaGreatDoorOwnShelf01
import Derived.Test.YtbafipjiaeoinaaGreatDoorOwnShelf19
namespace Go.Proofs.YtbafipjiaeoinaaGreatDoor
open Go.RowKit

/-- The keys of the first holds together. -/
def sumN (X : Nat → Hd) : Nat → Nat
  | 0 => 0
  | i + 1 => sumN X i + (X i).n
theorem sumN_le {X : Nat → Hd} {i n : Nat} (h : i < n) : (X i).n ≤ sumN X n := by
  induction n with
  | zero => omega
  | succ n ih =>
    simp only [sumN]
    by_cases e : i = n
    · subst e; omega
    · have := ih (by omega); omega
theorem sumN_bd {X : Nat → Hd} {m n : Nat} (hx : ∀ i, i < n → (X i).n ≤ m) : ∀ i, i ≤ n → sumN X i ≤ i * m
  | 0, _ => by simp [sumN]
  | i + 1, hi => by
    have h1 := sumN_bd hx i (by omega)
    have h2 := hx i (by omega)
    simp only [sumN]
    rw [Nat.succ_mul]; omega
def lngS (s : Sv) : Bool := decide (100 < s.pn + s.hn ∨ 300 < s.pn + s.hn + sumN s.H s.hn)
theorem lngS_no {s : Sv} (h : lngS s = false) : s.Small := by
  simp only [lngS, decide_eq_false_iff_not] at h
  refine ⟨by omega, fun i hi => ?_⟩
  have := sumN_le (X := s.H) hi
  omega

set_option maxRecDepth 100000 in
set_option maxHeartbeats 1600000 in
theorem long_any (s : Sv) (p : Pl) (w : World) (h : SvAt w s p) (hp : s.pn ≤ 140737488355328) (hh : s.hn ≤ 140737488355328) (hx : ∀ i, i < s.hn → (s.H i).n ≤ 140737488355328) :
    Calls Tryz.prog 7 #[.agg (svv s p)] w fun e w' => e = .returned (.bool (lngS s)) ∧ Below w.heap.size w w' := by
  obtain ⟨nu, a, b, pn, P, hn, H⟩ := s
  obtain ⟨pa, pc, ha, hc⟩ := p
  obtain ⟨_, hd, _, _, _, _⟩ := h
  simp only at hd hp hh hx
  have HL : Hid (lngS ⟨nu, a, b, pn, P, hn, H⟩ = decide (100 < pn + hn ∨ 300 < pn + hn + sumN H hn)) := rfl
  generalize lngS ⟨nu, a, b, pn, P, hn, H⟩ = LL at *
  unfold svv
  simp only
  have hb0 : Below w.heap.size w (w.alloc (.cells #[.int .i64 nu, .int .i64 a, .int .i64 b, .slice pa pn pc, .slice ha hn hc] 32)) := (Below.refl _ w).alloc (Nat.le_refl _) _
  have HHD : Hid (HdAt (w.alloc (.cells #[.int .i64 nu, .int .i64 a, .int .i64 b, .slice pa pn pc, .slice ha hn hc] 32)) ha hn H) := hd.below hb0
  have hr0 := heap_alloc_new w (.cells #[.int .i64 nu, .int .i64 a, .int .i64 b, .slice pa pn pc, .slice ha hn hc] 32)
  have HX : Hid (∀ i, i < hn → (H i).n ≤ 140737488355328) := hx
  clear hd hx
  have ew : wrap64 ((pn : Int) + hn) = (pn : Int) + hn := by simp [wrap64]; omega
  have HB : Hid (Below w.heap.size w (w.alloc (.cells #[.int .i64 nu, .int .i64 a, .int .i64 b, .slice pa pn pc, .slice ha hn hc] 32))) := hb0
  clear hb0
  by_cases h1 : 100 < pn + hn
  · have h1' : (100 : Int) < (pn : Int) + hn := by omega
    have HE : Hid (LL = true) := by rw [HL.out]; exact decide_eq_true (.inl h1)
    clear hr0
    go_enter Tryz.func7, Tryz.ntmps7
    go_wp2
    go_ret
    exact ⟨by rw [HE.out]; rfl, HB.out⟩
  · have h1'' : ¬ (100 : Int) < (pn : Int) + hn := by omega
    go_enter Tryz.func7, Tryz.ntmps7
    go_wp2
    generalize w.alloc (.cells #[.int .i64 nu, .int .i64 a, .int .i64 b, .slice pa pn pc, .slice ha hn hc] 32) = W0 at *
    have c4 : W0.cell? ⟨w.heap.size, 4, none⟩ = some (.slice ha hn hc) := by rw [cell_of_row _ _ 4 _ _ _ hr0]; rfl
    clear hr0
    go_loop [3, 4] (fun sv iv => ∃ i : Nat, i ≤ hn ∧ sv = .int .i64 ((pn : Int) + hn + (sumN H i : Nat)) ∧ iv = .int .i64 i) (fun _ iv => hn + 1 - (intOf iv).toNat)
    case atStart => exact ⟨0, by omega, by simp [sumN], rfl⟩
    case round =>
      obtain ⟨i, hi, rfl, rfl⟩ := hrel
      have hs := sumN_bd HX.out i hi
      by_cases hlt : i < hn
      · have hlt' : (i : Int) < hn := by omega
        have hxi := HX.out i hlt
        obtain ⟨bl0, off, rfl, hc0⟩ := HHD.out.at_ (by omega)
        obtain ⟨ka, kc, hr, _, _⟩ := hc0 i hlt
        obtain ⟨_, _, d2⟩ := hd_cells hr
        have HW : Hid ((pn : Int) + hn + (sumN H i : Nat) + (H i).n = (pn : Int) + hn + (sumN H (i + 1) : Nat)) := by show _ = _; simp only [sumN]; omega
        have hq : 0 ≤ (pn : Int) + hn + (sumN H i : Nat) ∧ (pn : Int) + hn + (sumN H i : Nat) ≤ 14073748835532900 := by omega
        clear hc0 hr hs
        generalize (pn : Int) + hn + (sumN H i : Nat) = q at *
        obtain ⟨x, hx⟩ : ∃ x, H i = x := ⟨_, rfl⟩
        rw [hx] at hxi HW d2
        clear hx
        have e2 : wrap64 (q + (x.n : Int)) = q + (x.n : Int) := by simp [wrap64]; omega
        go_wp2
        go_round
        case rel => exact ⟨i + 1, by omega, by first | rw [HW.out] | (rw [e2, HW.out]) | (rw [← HW.out]), by go_num⟩
        case measure => simp [intOf]; omega
      · obtain rfl : i = hn := by omega
        have hnn : ¬ ((i : Int) < i) := by omega
        have HE : Hid (LL = decide ((300 : Int) < (pn : Int) + i + (sumN H i : Nat))) := by
          show _ = _
          rw [HL.out]
          exact decide_eq_decide.2 (by omega)
        generalize (pn : Int) + i + (sumN H i : Nat) = q at *
        go_wp2
        go_ret
        exact ⟨by rw [HE.out]; rfl, HB.out⟩
end Go.Proofs.YtbafipjiaeoinaaGreatDoor
/- Places held against each other. -/
namespace Go.Proofs.YtbafipjiaeoinaaGreatDoor
open Go.RowKit

theorem ktPl : Tryz.prog.keyTypeAt 3 71 = true := by kernel_rfl
theorem cellsPl : Tryz.prog.cellsOf 71 = 2 := by kernel_rfl
theorem formedPl (a b : Int) : (Value.agg #[.int .i64 a, .int .i64 b]).formed Tryz.prog 71 = true := by
  simp only [Value.formed, Tryz.underlying71]
  simp [cellsPl]
theorem lits_pl (d : Nat) {a b : Int} (ha : Ib a) (hb : Ib b) : Tryz.prog.keyLits (d + 3) 71 [.int .i64 a, .int .i64 b] = some [Lit.int .i64 a, Lit.int .i64 b] := by
  unfold Program.keyLits
  rw [Tryz.underlying71]
  simp [cellsI, cellsPl, Kp.lits_int (d + 1) ha, Kp.lits_int (d + 1) hb]
set_option maxRecDepth 20000 in
theorem eqPl {a b : Int} (ha : Ib a) (hb : Ib b) (w : World) : (Op.equalIn (9998 + 2) 71 (.agg #[.int .i64 a, .int .i64 b]) (.agg #[.int .i64 a, .int .i64 b])).run Tryz.prog w = .ok true w := by
  obtain ⟨r, h1, h2⟩ := run_equalIn_deep (P := Tryz.prog) 9997 3 71 ktPl w 3 3 (.agg #[.int .i64 a, .int .i64 b]) (.agg #[.int .i64 a, .int .i64 b]) _ _ (formedPl a b) (formedPl a b) (by simpa [Value.cells] using lits_pl 0 ha hb) (by simpa [Value.cells] using lits_pl 0 ha hb)
  rw [show (9998 + 2 : Nat) = 9997 + 3 from rfl, h1]
  congr 1
  exact h2.2 rfl
set_option maxRecDepth 20000 in
theorem eqPl2 {a b : Int} (ha : Ib a) (hb : Ib b) (w : World) : (binOp .eql 71 (.agg #[.int .i64 a, .int .i64 b]) (.agg #[.int .i64 a, .int .i64 b])).run Tryz.prog w = .ok (.bool true) w := by
  rw [run_eql_struct, eqPl ha hb]
  rfl
theorem nePl {a b : Int} (ha : Ib a) (hb : Ib b) (w : World) : (binOp .neq 71 (.agg #[.int .i64 a, .int .i64 b]) (.agg #[.int .i64 a, .int .i64 b])).run Tryz.prog w = .ok (.bool false) w := by
  have e0 := eqPl2 ha hb w
  simp only [binOp, Sem.run_bind] at e0 ⊢
  revert e0
  cases hh : Sem.run Tryz.prog (Op.equal 71 (.agg #[.int .i64 a, .int .i64 b]) (.agg #[.int .i64 a, .int .i64 b])) w with
  | ok b w2 =>
    simp [Result.andThen]
  | halt hx w2 => simp [Result.andThen]
end Go.Proofs.YtbafipjiaeoinaaGreatDoor
