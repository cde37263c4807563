/- What the document lays: bytes; a thing. -/
import Derived.Test.YtlbjnkcplkdeeaaRefLaid2
namespace Go.Proofs.Ytlbjnkcplkdeeaa
open Go.RowKit

set_option maxRecDepth 100000 in
set_option maxHeartbeats 1600000 in
theorem refBytes_any (ad : Option Addr) (l : List Int) (cap : Nat) (xa : Option Addr) (n xc : Nat) (z : Nat → Int) (w : World) (hs : SlAt w ad l.length (fn l)) (hnil : ad = none → l.length = 0 ∧ cap = 0) (hn : l.length + 2 * n + 64 ≤ 140737488351232) (hx : SlAt w xa n z) :
    Calls Try.prog 25 #[.slice ad l.length cap, .slice xa n xc] w fun e w' => ∃ v, e = .returned v ∧ Ow w w' v (l ++ (escF z n ++ [0, 0])) := by
  have HS : Hid (SlAt w ad l.length (fn l)) := hs
  have HX : Hid (SlAt w xa n z) := hx
  clear hs hx
  go_enter Try.func25, Try.ntmps25
  go_wp2_with (first
    | (go_at_call 41; refine (refOwn_any ad l cap _ HS.out hnil (by omega)).mono ?_; rintro e w2 ⟨vo, rfl, hO⟩)
    | fail)
  go_loopw [5, 6] (fun v i wr => ∃ (q : Nat) (vx : Value), q ≤ n ∧ i = .int .i64 q ∧ v = vx ∧ Ow w wr vx (l ++ escF z q)) (fun _ i _ => n - (intOf i).toNat)
  case atStart => exact ⟨0, _, by omega, rfl, rfl, by simpa [escF] using hO⟩
  case round =>
    clear hO
    obtain ⟨q, vx, hq, rfl, hv, hO⟩ := hrel
    have hv' := hv.symm
    subst hv'
    clear hv
    have hle := escF_le z q
    have HO : Hid (Ow w wr vx (l ++ escF z q)) := hO
    by_cases hlt : q < n
    · obtain ⟨b, off, rfl, hcz⟩ := HX.out.2 (by omega)
      have hzq := HX.out.1 q hlt
      have hcq : wr.cell? ⟨b, off + q, none⟩ = some (.int .u8 (z q)) := (hO.below.cell (p := ⟨b, off + q, none⟩) (HX.out.lt (by omega) rfl)).trans (hcz q hlt)
      have hblt : b < w.heap.size := HX.out.lt (by omega) rfl
      clear hcz hO
      have hkeep : ∀ {v' w'}, Ow w w' v' (l ++ escF z q ++ [z q]) → w'.cell? ⟨b, off + q, none⟩ = some (.int .u8 (z q)) := fun h => (h.below.cell (p := ⟨b, off + q, none⟩) hblt).trans ((HO.out.below.cell (p := ⟨b, off + q, none⟩) hblt).symm.trans hcq)
      have HK : Hid (∀ {v' w'}, Ow w w' v' (l ++ escF z q ++ [z q]) → w'.cell? ⟨b, off + q, none⟩ = some (.int .u8 (z q))) := hkeep
      clear hkeep
      by_cases h0 : z q = 0
      · have h0' : (z q == 0) = true := by simp [h0]
        have H0 : Hid (z q = 0) := h0
        clear h0
        go_wp2_with (first
          | (at_builtin; refine wpList_append_B rfl (.tmp 15) (.tmp 20) rfl w _ _ _ [z q] rfl rfl (HO.out.alloc _) (one_src wr _) (by intro y hy; rw [List.mem_singleton.1 hy]; exact hzq) (by simp; omega) ?_; intro v2 w4 hO2; have hc2 := HK.out hO2)
          | (at_builtin; refine wpList_append_B rfl (.tmp 27) (.tmp 28) rfl w _ _ _ [255] rfl rfl (hO2.alloc _) (one_src w4 _) (by intro y hy; rw [List.mem_singleton.1 hy]; omega) (by simp; omega) ?_; intro v3 w5 hO3)
          | fail)
        go_roundw
        case rel =>
          refine ⟨q + 1, _, by omega, by go_num, rfl, ?_⟩
          have e : l ++ escF z (q + 1) = l ++ escF z q ++ [z q] ++ [255] := by rw [escF, esc, if_pos H0.out, H0.out]; simp
          rw [e]
          exact hO3
        case measure => simp [intOf]; omega
      · have h0' : (z q == 0) = false := by simp [h0]
        have H0 : Hid (¬ z q = 0) := h0
        clear h0
        go_wp2_with (first
          | (at_builtin; refine wpList_append_B rfl (.tmp 15) (.tmp 20) rfl w _ _ _ [z q] rfl rfl (HO.out.alloc _) (one_src wr _) (by intro y hy; rw [List.mem_singleton.1 hy]; exact hzq) (by simp; omega) ?_; intro v2 w4 hO2; have hc2 := HK.out hO2)
          | fail)
        go_roundw
        case rel =>
          refine ⟨q + 1, _, by omega, by go_num, rfl, ?_⟩
          have e : l ++ escF z (q + 1) = l ++ escF z q ++ [z q] := by rw [escF, esc, if_neg H0.out]; simp
          rw [e]
          exact hO2
        case measure => simp [intOf]; omega
    · obtain rfl : q = n := by omega
      clear hO
      go_wp2_with (first
        | (at_builtin; refine wpList_append_B rfl (.tmp 30) (.tmp 31) rfl w _ _ _ [0, 0] rfl rfl (HO.out.alloc _) (two_src wr _ _) (by intro y hy; simp at hy; omega) (by simp; omega) ?_; intro v3 w5 hO3)
        | fail)
      go_ret
      exact ⟨v3, rfl, by simpa using hO3⟩

set_option maxRecDepth 100000 in
set_option maxHeartbeats 1600000 in
theorem laid_any (ad : Option Addr) (l : List Int) (cap : Nat) (x : Th) (w : World) (hs : SlAt w ad l.length (fn l)) (hnil : ad = none → l.length = 0 ∧ cap = 0) (hl : l.length + 2 * x.len + 64 ≤ 140737488351232) (hx : ThOk w x) :
    Calls Try.prog 8 #[.slice ad l.length cap, .agg x.v] w fun e w' => ∃ v, e = .returned v ∧ Ow w w' v (l ++ x.by) := by
  have h0 := Th.cell w x 30 0 _ rfl
  have h1 := Th.cell w x 30 1 _ rfl
  have h2 := Th.cell w x 30 2 _ rfl
  have H3 : Hid ((w.alloc (.cells x.v 30)).rangeAt w.heap.size 3 (bl x.h 32)) := Th.range w x _
  have HB : Hid (Below w.heap.size w (w.alloc (.cells x.v 30))) := (Below.refl _ w).alloc (Nat.le_refl _) _
  have HS : Hid (SlAt w ad l.length (fn l)) := hs
  have HX : Hid (ThOk w x) := hx
  clear hs hx
  rcases x.kd_cases with hk | hk | hk | hk
  all_goals
    have k0 : (wrap64 ((IntKind.u64.wrap x.k).tmod 4) == 0) = decide (x.kd = 0) := rfl
    have k1 : (wrap64 ((IntKind.u64.wrap x.k).tmod 4) == 1) = decide (x.kd = 1) := rfl
    have k2 : (wrap64 ((IntKind.u64.wrap x.k).tmod 4) == 2) = decide (x.kd = 2) := rfl
    have HK : Hid (x.kd = _) := hk
    rw [hk] at k0 k1 k2
    simp only [Int.reduceEq, decide_true, decide_false] at k0 k1 k2
    clear hk
    go_enter Try.func8, Try.ntmps8
    go_wp2_with (first | (refine Go.Great.wpList_boxTo rfl _ _ rfl _ rfl _ rfl x.v rfl ?_) | (refine wpList_load_mid rfl 28 _ rfl w.heap.size 3 rfl (bl x.h 32) _ H3.out Try.underlying28 rfl (by rw [bl_length]; exact hsz) ?_) | fail)
  · refine (refUint_any ad l cap (IntKind.u64.wrap x.n) _ (HS.out.below HB.out) hnil (by omega) (u64_bd _).1 (u64_bd _).2).mono ?_
    rintro e w1 ⟨v, rfl, hO⟩
    go_wp2
    go_ret
    exact ⟨v, rfl, by rw [Th.by, if_pos HK.out]; exact hO.mono HB.out⟩
  · refine (refInt_any ad l cap x.n _ (HS.out.below HB.out) hnil (by omega) HX.out.n).mono ?_
    rintro e w1 ⟨v, rfl, hO⟩
    go_wp2
    go_ret
    exact ⟨v, rfl, by rw [Th.by, HK.out]; exact hO.mono HB.out⟩
  · refine (refBytes_any ad l cap x.a x.len x.cap x.z _ (HS.out.below HB.out) hnil (by omega) (HX.out.b.below HB.out)).mono ?_
    rintro e w1 ⟨v, rfl, hO⟩
    go_wp2
    go_ret
    exact ⟨v, rfl, by rw [Th.by, HK.out]; exact hO.mono HB.out⟩
  · refine (refHash_any ad l cap x.h _ (HS.out.below HB.out) hnil (by omega) HX.out.h).mono ?_
    rintro e w1 ⟨v, rfl, hO⟩
    go_wp2
    go_ret
    exact ⟨v, rfl, by rw [Th.by, HK.out]; exact hO.mono HB.out⟩
end Go.Proofs.Ytlbjnkcplkdeeaa
