/- The document's sum. -/
import Derived.Test.YtjlobimncpiacaaDoorOwnShelf25
namespace Go.Proofs.YtjlobimncpiacaaDoor
open Go.RowKit

set_option maxRecDepth 100000 in
set_option maxHeartbeats 3200000 in
theorem rsum_any (s : Sv) (p : Pl) (w : World) (h : SvAt w s p) (h1 : SNum s) (h2 : SRows s) :
    Calls Tryd.prog 35 #[.agg (svv s p)] w fun e w' => e = .returned (.int .i64 (tot s)) ∧ Below w.heap.size w w' := by
  obtain ⟨nu, a, b, pn, P, hn, H⟩ := s
  obtain ⟨pa, pc, ha, hc⟩ := p
  obtain ⟨py, hd, _, _, _, _⟩ := h
  simp only at py hd
  have HT : Hid (tot ⟨nu, a, b, pn, P, hn, H⟩ = a + b + sumP P pn + sumH H hn) := rfl
  unfold svv
  simp only
  have hab : (0 ≤ a ∧ a ≤ 1125899906842624) ∧ (0 ≤ b ∧ b ≤ 1125899906842624) := ⟨h1.2.1, h1.2.2⟩
  have hp8 : pn + hn ≤ 8 := h2.1
  have HP : Hid (∀ i, i ≤ pn → 0 ≤ sumP P i ∧ sumP P i ≤ 9007199254740992) := sumP_pre h2.2.1 (by omega)
  have HH : Hid (∀ i, i ≤ hn → 0 ≤ sumH H i ∧ sumH H i ≤ 9007199254740992) := sumH_pre h2.2.2 (by omega)
  clear h1 h2
  have hb0 : Below w.heap.size w (w.alloc (.cells #[.int .i64 nu, .int .i64 a, .int .i64 b, .slice pa pn pc, .slice ha hn hc] 26)) := (Below.refl _ w).alloc (Nat.le_refl _) _
  have HPY : Hid (PyAt (w.alloc (.cells #[.int .i64 nu, .int .i64 a, .int .i64 b, .slice pa pn pc, .slice ha hn hc] 26)) pa pn P) := py.below hb0
  have HHD : Hid (HdAt (w.alloc (.cells #[.int .i64 nu, .int .i64 a, .int .i64 b, .slice pa pn pc, .slice ha hn hc] 26)) ha hn H) := hd.below hb0
  clear py hd
  have hr0 := heap_alloc_new w (.cells #[.int .i64 nu, .int .i64 a, .int .i64 b, .slice pa pn pc, .slice ha hn hc] 26)
  go_enter Tryd.func35, Tryd.ntmps35
  go_wp2
  generalize w.alloc (.cells #[.int .i64 nu, .int .i64 a, .int .i64 b, .slice pa pn pc, .slice ha hn hc] 26) = W0 at *
  have c3 : W0.cell? ⟨w.heap.size, 3, none⟩ = some (.slice pa pn pc) := by rw [cell_of_row _ _ 3 _ _ _ hr0]; rfl
  have c4 : W0.cell? ⟨w.heap.size, 4, none⟩ = some (.slice ha hn hc) := by rw [cell_of_row _ _ 4 _ _ _ hr0]; rfl
  have HB0 : Hid (Below w.heap.size w W0) := hb0
  have eab : wrap64 (a + b) = a + b + sumP P 0 := by simp [sumP, wrap64]; omega
  clear hb0 hr0
  go_loop [3, 4] (fun sv iv => ∃ i : Nat, i ≤ pn ∧ sv = .int .i64 (a + b + sumP P i) ∧ iv = .int .i64 i) (fun _ iv => pn + 1 - (intOf iv).toNat)
  case atStart => exact ⟨0, by omega, by first | rw [eab] | (simp [sumP]), rfl⟩
  case round =>
    clear eab
    obtain ⟨i, hi, rfl, rfl⟩ := hrel
    by_cases hlt : i < pn
    · have hlt' : (i : Int) < pn := by omega
      obtain ⟨bl0, off, rfl, hc0⟩ := HPY.out.at_ (by omega)
      have c2 := (py_cells (hc0 i hlt)).2.2.1
      have b1 := HP.out i (by omega)
      have b2' : 0 ≤ sumP P i + (P i).am ∧ sumP P i + (P i).am ≤ 9007199254740992 := HP.out (i + 1) (by omega)
      have HW : Hid (a + b + sumP P i + (P i).am = a + b + sumP P (i + 1)) := by show _ = _; rw [show sumP P (i + 1) = sumP P i + (P i).am from rfl]; omega
      clear hc0
      generalize sumP P i = q at *
      obtain ⟨x, hx⟩ : ∃ x, P i = x := ⟨_, rfl⟩
      rw [hx] at b2' HW c2
      clear hx
      have ew : wrap64 (a + b + q + x.am) = a + b + q + x.am := by simp [wrap64]; omega
      go_wp2
      go_round
      case rel => exact ⟨i + 1, by omega, by first | rw [HW.out] | (rw [ew, HW.out]) | (rw [← HW.out]), by go_num⟩
      case measure => simp [intOf]; omega
    · obtain rfl : i = pn := by omega
      have hnn : ¬ ((i : Int) < i) := by omega
      have b1 := HP.out i (by omega)
      have HQ : Hid (tot ⟨nu, a, b, i, P, hn, H⟩ = a + b + sumP P i + sumH H hn) := HT.out
      generalize sumP P i = q at *
      have e0 : Hid (a + b + q = a + b + q + sumH H 0) := by show _ = _; simp [sumH]
      clear HT HP HPY
      go_wp2
      go_loop [3, 5] (fun sv iv => ∃ j : Nat, j ≤ hn ∧ sv = .int .i64 (a + b + q + sumH H j) ∧ iv = .int .i64 j) (fun _ iv => hn + 1 - (intOf iv).toNat)
      case atStart => exact ⟨0, by omega, by rw [← e0.out], rfl⟩
      case round =>
        clear e0
        obtain ⟨j, hj, rfl, rfl⟩ := hrel
        by_cases hlt : j < hn
        · have hlt' : (j : Int) < hn := by omega
          obtain ⟨bl0, off, rfl, hc0⟩ := HHD.out.at_ (by omega)
          obtain ⟨ka, kc, hr, _, _⟩ := hc0 j hlt
          obtain ⟨_, d1, _⟩ := hd_cells hr
          have b3 := HH.out j (by omega)
          have b2' : 0 ≤ sumH H j + (H j).am ∧ sumH H j + (H j).am ≤ 9007199254740992 := HH.out (j + 1) (by omega)
          have HW : Hid (a + b + q + sumH H j + (H j).am = a + b + q + sumH H (j + 1)) := by show _ = _; rw [show sumH H (j + 1) = sumH H j + (H j).am from rfl]; omega
          clear hc0 hr
          generalize sumH H j = r at *
          obtain ⟨x, hx⟩ : ∃ x, H j = x := ⟨_, rfl⟩
          rw [hx] at b2' HW d1
          clear hx
          have ew : wrap64 (a + b + q + r + x.am) = a + b + q + r + x.am := by simp [wrap64]; omega
          go_wp2
          go_round
          case rel => exact ⟨j + 1, by omega, by first | rw [HW.out] | (rw [ew, HW.out]) | (rw [← HW.out]), by go_num⟩
          case measure => simp [intOf]; omega
        · obtain rfl : j = hn := by omega
          have hnn : ¬ ((j : Int) < j) := by omega
          go_wp2
          go_ret
          exact ⟨by rw [HQ.out]; rfl, HB0.out⟩
end Go.Proofs.YtjlobimncpiacaaDoor
