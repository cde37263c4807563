/- cond.Check. -/
import Derived.Test.YtecahnafcljljaaDoorCBase
namespace Go.Proofs.YtecahnafcljljaaDoor
open Go.RowKit

theorem within_any (n m : Int) (w : World) :
    Calls Tryd.prog 38 #[.int .i64 n, .int .i64 m] w fun e w' => e = .returned (.bool (decide (0 ≤ n ∧ n ≤ m))) ∧ w' = w := by
  by_cases h : 0 ≤ n
  · go_enter Tryd.func38, Tryd.ntmps38
    go_wp2
    go_ret
    simp [h]
  · have e : decide (0 ≤ n ∧ n ≤ m) = false := by simp; omega
    rw [e]
    go_enter Tryd.func38, Tryd.ntmps38
    go_wp2
    go_ret
    simp

set_option maxHeartbeats 800000 in
theorem keys_any (ka : Option Addr) (n kc : Nat) (z : Nat → Int) (w : World) (h : IsAt w ka n z) (hn : n ≤ 1000000) :
    Calls Tryd.prog 37 #[.slice ka n kc] w fun e w' => e = .returned (.bool (decide (KOk z n ∧ 0 < n))) ∧ Below w.heap.size w w' := by
  have HI : Hid (IsAt w ka n z) := h
  have hb0 := Below.refl w.heap.size w
  clear h
  go_enter Tryd.func37, Tryd.ntmps37
  go_wp2
  go_loopw [3, 5, 8] (fun lv kv iv wr => ∃ i : Nat, i ≤ n ∧ lv = .int .i64 (lastK z i) ∧ iv = .int .i64 i ∧ KOk z i ∧ Below w.heap.size w wr) (fun _ _ iv _ => n + 1 - (intOf iv).toNat)
  case atStart => exact ⟨0, by omega, rfl, rfl, fun j hj => by omega, hb0⟩
  case round =>
    clear hb0
    obtain ⟨i, hi, rfl, rfl, hk, hb⟩ := hrel
    have HK : Hid (KOk z i) := hk
    clear hk
    by_cases hlt : i < n
    · have hlt' : (i : Int) < n := by omega
      obtain ⟨b, off, rfl, hc⟩ := HI.out (by omega)
      have hci : wr.cell? ⟨b, off + i, none⟩ = some (.int .i64 (z i)) := by
        have := hc i hlt
        rw [hb.cell (p := ⟨b, off + i, none⟩) (World.block_lt_of_cell? w ⟨b, off + i, none⟩ this)]; exact this
      clear hc
      by_cases h1 : lastK z i < z i
      · have h1' : ¬ z i ≤ lastK z i := by omega
        by_cases h2 : z i < 16
        · have h2' : ¬ 16 ≤ z i := by omega
          have HN : Hid (KOk z (i + 1)) := fun j hj => by
            by_cases e : j = i
            · subst e; exact ⟨h1, h2⟩
            · exact HK.out j (by omega)
          have e1 := lastK_succ z i
          generalize lastK z i = q at *
          go_wp2
          go_roundw
          case rel => exact ⟨i + 1, by omega, by rw [e1], by go_num, HN.out, hb⟩
          case measure => simp [intOf]; omega
        · have h2' : 16 ≤ z i := by omega
          have HN : Hid (¬ KOk z n) := fun hk => h2 (hk i hlt).2
          generalize lastK z i = q at *
          go_wp2
          go_ret
          exact ⟨by simp [HN.out], hb⟩
      · have h1' : z i ≤ lastK z i := by omega
        have HN : Hid (¬ KOk z n) := fun hk => h1 (hk i hlt).1
        generalize lastK z i = q at *
        go_wp2
        go_ret
        exact ⟨by simp [HN.out], hb⟩
    · obtain rfl : i = n := by omega
      have hnn : ¬ ((i : Int) < i) := by omega
      have hk := HK.out
      go_wp2
      go_ret
      exact ⟨by simp, hb⟩

set_option maxHeartbeats 800000 in
theorem mayBe_any (x : Bv) (ka : Option Addr) (kc : Nat) (w : World) (h : IsAt w ka x.n x.z) (hn : x.n ≤ 1000000) :
    Calls Tryd.prog 21 #[.agg (bv x ka kc)] w fun e w' => e = .returned (.bool (decide (BOk x))) ∧ Below w.heap.size w w' := by
  have HI : Hid (IsAt (w.alloc (.cells (bv x ka kc) 56)) ka x.n x.z) := h.below ((Below.refl _ w).alloc (Nat.le_refl _) _)
  have hb0 : Below w.heap.size w (w.alloc (.cells (bv x ka kc) 56)) := (Below.refl _ w).alloc (Nat.le_refl _) _
  have hs0 : w.heap.size + 1 = (w.alloc (.cells (bv x ka kc) 56)).heap.size := by simp
  obtain ⟨c0, c33, c34⟩ := bbox_of (heap_alloc_new w (.cells (bv x ka kc) 56))
  have hk := keys_any ka x.n kc x.z _ HI.out hn
  clear h
  go_enter Tryd.func21, Tryd.ntmps21
  go_wp2_with (first | (refine Go.Great.wpList_boxTo rfl _ _ rfl _ rfl _ rfl (bv x ka kc) rfl ?_) | fail)
  generalize w.alloc (.cells (bv x ka kc) 56) = W0 at *
  have W0lt : w.heap.size < W0.heap.size := by omega
  have kc33 : ∀ w1, Below W0.heap.size W0 w1 → w1.cell? ⟨w.heap.size, 33, none⟩ = some (.int .i64 x.af) := fun w1 hb => by rw [hb.cell (p := ⟨w.heap.size, 33, none⟩) W0lt]; exact c33
  have kc34 : ∀ w1, Below W0.heap.size W0 w1 → w1.cell? ⟨w.heap.size, 34, none⟩ = some (.int .i64 x.ol) := fun w1 hb => by rw [hb.cell (p := ⟨w.heap.size, 34, none⟩) W0lt]; exact c34
  clear c33 c34 HI
  by_cases h1 : KOk x.z x.n ∧ 0 < x.n
  · have e1 : decide (KOk x.z x.n ∧ 0 < x.n) = true := by simp [h1]
    rw [e1] at hk
    by_cases h2 : 0 ≤ x.af ∧ x.af ≤ 1099511627776
    · have e2 : decide (0 ≤ x.af ∧ x.af ≤ 1099511627776) = true := by simp [h2]
      have HE : Hid (decide (BOk x) = decide (0 ≤ x.ol ∧ x.ol ≤ 65536)) := by show _ = _; simp [BOk, h1, h2]
      have hw1 := within_any x.af 1099511627776
      rw [e2] at hw1
      have hw2 := within_any x.ol 65536
      generalize decide (0 ≤ x.ol ∧ x.ol ≤ 65536) = r at *
      clear e1 e2 h1 h2
      go_wp2_with fail
      refine hk.mono ?_
      rintro e w1 ⟨rfl, hb1⟩
      have d33 := kc33 w1 hb1
      have d34 := kc34 w1 hb1
      clear kc33 kc34 hk
      go_wp2_with fail
      refine (hw1 w1).mono ?_
      rintro e w2 ⟨rfl, rfl⟩
      go_wp2_with fail
      refine (hw2 _).mono ?_
      rintro e w3 ⟨rfl, rfl⟩
      go_wp2
      go_ret
      exact ⟨by rw [HE.out]; rfl, Below.trans hb0 (hb1.mono (by omega))⟩
    · have e2 : decide (0 ≤ x.af ∧ x.af ≤ 1099511627776) = false := by simp only [decide_eq_false_iff_not]; exact h2
      have HE : Hid (decide (BOk x) = false) := by show _ = _; simp only [decide_eq_false_iff_not]; exact fun h => h2 h.2.1
      have hw1 := within_any x.af 1099511627776
      rw [e2] at hw1
      clear e1 e2 h1 h2
      go_wp2_with fail
      refine hk.mono ?_
      rintro e w1 ⟨rfl, hb1⟩
      have d33 := kc33 w1 hb1
      clear kc33 kc34 hk
      go_wp2_with fail
      refine (hw1 w1).mono ?_
      rintro e w2 ⟨rfl, rfl⟩
      go_wp2
      go_ret
      exact ⟨by rw [HE.out]; rfl, Below.trans hb0 (hb1.mono (by omega))⟩
  · have e1 : decide (KOk x.z x.n ∧ 0 < x.n) = false := by simp only [decide_eq_false_iff_not]; exact h1
    rw [e1] at hk
    have HE : Hid (decide (BOk x) = false) := by show _ = _; simp only [decide_eq_false_iff_not]; exact fun h => h1 h.1
    clear e1 h1 kc33 kc34
    go_wp2_with fail
    refine hk.mono ?_
    rintro e w1 ⟨rfl, hb1⟩
    clear hk
    go_wp2
    go_ret
    exact ⟨by rw [HE.out]; rfl, Below.trans hb0 (hb1.mono (by omega))⟩

set_option maxHeartbeats 800000 in
theorem bad_any (x : Bv) (ka : Option Addr) (kc : Nat) (w : World) (h : IsAt w ka x.n x.z) (hn : x.n ≤ 1000000) :
    Calls Tryd.prog 20 #[.agg (bv x ka kc)] w fun e w' => e = .returned (.bool (!decide (BOk x))) ∧ Below w.heap.size w w' := by
  have hI := h.below ((Below.refl _ w).alloc (Nat.le_refl _) (.cells (bv x ka kc) 56))
  have hb0 : Below w.heap.size w (w.alloc (.cells (bv x ka kc) 56)) := (Below.refl _ w).alloc (Nat.le_refl _) _
  have hbx := heap_alloc_new w (.cells (bv x ka kc) 56)
  have hm := mayBe_any x ka kc _ hI hn
  clear h hI
  generalize decide (BOk x) = r at *
  go_enter Tryd.func20, Tryd.ntmps20
  go_wp2_with (first | (refine Go.Great.wpList_boxTo rfl _ _ rfl _ rfl _ rfl (bv x ka kc) rfl ?_) | (refine wpList_load_row rfl 56 _ rfl w.heap.size rfl _ (bv x ka kc) _ _ hbx Tryd.underlying56 rfl (szBv x ka kc) ?_) | (go_at_call 21; refine hm.mono ?_; rintro e w1 ⟨rfl, hb1⟩) | fail)
  go_ret
  exact ⟨rfl, Below.trans hb0 (hb1.mono hb0.size)⟩

set_option maxHeartbeats 1600000 in
theorem index_any (ad : Option Addr) (n cap : Nat) (X : Nat → Bv) (w : World) (h : BrAt w ad n X) (hn : n ≤ 1000000) (hx : ∀ i, i < n → (X i).n ≤ 1000000) :
    Calls Tryd.prog 39 #[.slice ad n cap, .func (.func 20) #[] #[]] w fun e w' => (∃ q : Int, e = .returned (.int .i64 q) ∧ decide (q ≥ 0) = !decide (AllOk X n)) ∧ Below w.heap.size w w' := by
  have HB : Hid (BrAt w ad n X) := h
  have hb0 := Below.refl w.heap.size w
  have eg : ∀ args w, (callFunc 20 args).run Tryd.prog w = .ok (.enter 20 args) w := enters_of Tryd.func20 (by kernel_rfl) rfl
  clear h
  go_enter Tryd.func39, Tryd.ntmps39
  go_wp2
  go_loopw [5, 8] (fun _ iv wr => ∃ i : Nat, i ≤ n ∧ iv = .int .i64 i ∧ AllOk X i ∧ Below w.heap.size w wr) (fun _ iv _ => n + 1 - (intOf iv).toNat)
  case atStart => exact ⟨0, by omega, rfl, fun j hj => by omega, hb0⟩
  case round =>
    clear hb0
    obtain ⟨i, hi, rfl, hk, hb⟩ := hrel
    have HK : Hid (AllOk X i) := hk
    clear hk
    by_cases hlt : i < n
    · have hlt' : (i : Int) < n := by omega
      obtain ⟨b, off, rfl, hc⟩ := HB.out.at_ (by omega)
      obtain ⟨ka, kc, hr0, hI0⟩ := hc i hlt
      have HR : Hid (wr.rangeAt b (off + i * 35) (brl (X i) ka kc)) := range_below hr0 hb
      have hcall := bad_any (X i) ka kc wr (hI0.below hb) (hx i hlt)
      clear hc hr0 hI0
      by_cases hq : BOk (X i)
      · have e1 : decide (BOk (X i)) = true := by simp [hq]
        rw [e1] at hcall
        have HN : Hid (AllOk X (i + 1)) := fun j hj => by
          by_cases e : j = i
          · subst e; exact hq
          · exact HK.out j (by omega)
        clear e1 hq
        go_wp2_with (first | (refine wpList_load_mid rfl 56 _ rfl b (off + i * 35) rfl (brl (X i) ka kc) _ HR.out Tryd.underlying56 rfl (szBl _ _ _) ?_) | (go_at_fn 20; refine hcall.mono ?_; rintro e w1 ⟨rfl, hb1⟩) | fail)
        go_roundw
        case rel => exact ⟨i + 1, by omega, by go_num, HN.out, hb.trans (hb1.mono hb.size)⟩
        case measure => simp [intOf]; omega
      · have e1 : decide (BOk (X i)) = false := by simpa using hq
        rw [e1] at hcall
        have HN : Hid (¬ AllOk X n) := fun h => hq (h i hlt)
        clear e1 hq
        go_wp2_with (first | (refine wpList_load_mid rfl 56 _ rfl b (off + i * 35) rfl (brl (X i) ka kc) _ HR.out Tryd.underlying56 rfl (szBl _ _ _) ?_) | (go_at_fn 20; refine hcall.mono ?_; rintro e w1 ⟨rfl, hb1⟩) | fail)
        go_ret
        refine ⟨⟨_, rfl, ?_⟩, hb.trans (hb1.mono hb.size)⟩
        have := HN.out
        simp [this]
    · obtain rfl : i = n := by omega
      have hnn : ¬ ((i : Int) < i) := by omega
      have hk := HK.out
      go_wp2
      go_ret
      refine ⟨⟨_, rfl, ?_⟩, hb⟩
      simp

set_option maxHeartbeats 800000 in
theorem contains_any (ad : Option Addr) (n cap : Nat) (X : Nat → Bv) (w : World) (h : BrAt w ad n X) (hn : n ≤ 1000000) (hx : ∀ i, i < n → (X i).n ≤ 1000000) :
    Calls Tryd.prog 22 #[.slice ad n cap, .func (.func 20) #[] #[]] w fun e w' => e = .returned (.bool (!decide (AllOk X n))) ∧ Below w.heap.size w w' := by
  have hi := index_any ad n cap X w h hn hx
  clear h
  generalize (!decide (AllOk X n)) = r at *
  go_enter Tryd.func22, Tryd.ntmps22
  go_wp2_with (go_at_call 39; refine hi.mono ?_; rintro e w1 ⟨⟨q, rfl, hq⟩, hb1⟩)
  all_goals (go_ret; exact ⟨by simp_all, hb1⟩)

set_option maxHeartbeats 1600000 in
theorem check_any (ad : Option Addr) (n cap : Nat) (X : Nat → Bv) (w : World) (h : BrAt w ad n X) (hn : n ≤ 1000000) (hx : ∀ i, i < n → (X i).n ≤ 1000000) :
    Calls Tryd.prog 9 #[.agg #[.slice ad n cap]] w fun e w' => e = .returned (errV (chkE X n)) ∧ Below w.heap.size w w' := by
  have hI := h.below ((Below.refl _ w).alloc (Nat.le_refl _) (.cells #[.slice ad n cap] 38))
  have hb0 : Below w.heap.size w (w.alloc (.cells #[.slice ad n cap] 38)) := (Below.refl _ w).alloc (Nat.le_refl _) _
  have hm := contains_any ad n cap X _ hI hn hx
  clear h hI
  by_cases h1 : n < 1
  · have h1' : (n : Int) < 1 := by omega
    have HE : Hid (chkE X n = 1) := if_neg (fun h => by have := h.1; omega)
    clear hm
    go_enter Tryd.func9, Tryd.ntmps9
    go_wp2
    go_ret
    exact ⟨by rw [HE.out]; rfl, hb0⟩
  · have h1' : ¬ (n : Int) < 1 := by omega
    by_cases h2 : 8 < n
    · have h2' : (8 : Int) < n := by omega
      have HE : Hid (chkE X n = 1) := if_neg (fun h => by have := h.1; omega)
      clear hm
      go_enter Tryd.func9, Tryd.ntmps9
      go_wp2
      go_ret
      exact ⟨by rw [HE.out]; rfl, hb0⟩
    · have h2' : ¬ (8 : Int) < n := by omega
      by_cases h3 : AllOk X n
      · have e1 : decide (AllOk X n) = true := by simp [h3]
        rw [e1] at hm
        have HE : Hid (chkE X n = 0) := if_pos ⟨by omega, h3⟩
        clear e1 h3
        go_enter Tryd.func9, Tryd.ntmps9
        go_wp2_with (go_at_call 22; refine hm.mono ?_; rintro e w1 ⟨rfl, hb1⟩)
        go_ret
        exact ⟨by rw [HE.out]; rfl, hb0.trans (hb1.mono hb0.size)⟩
      · have e1 : decide (AllOk X n) = false := by simpa using h3
        rw [e1] at hm
        have HE : Hid (chkE X n = 1) := if_neg (fun h => h3 h.2)
        clear e1 h3
        go_enter Tryd.func9, Tryd.ntmps9
        go_wp2_with (go_at_call 22; refine hm.mono ?_; rintro e w1 ⟨rfl, hb1⟩)
        go_ret
        exact ⟨by rw [HE.out]; rfl, hb0.trans (hb1.mono hb0.size)⟩
end Go.Proofs.YtecahnafcljljaaDoor
