/- cond.Check of branches of any number of keys. -/
import Derived.Test.YtbehkajfckadfaaGreatDoorOwnShelf11
import Derived.Test.YtbehkajfckadfaaGreatDoorOwnShelf12
import Derived.Test.YtbehkajfckadfaaGreatDoorOwnShelf13
namespace Go.Proofs.YtbehkajfckadfaaGreatDoor.Cd
open Go.RowKit

set_option maxHeartbeats 800000 in
theorem keys_anyX (ka : Option Addr) (n kc : Nat) (z : Nat → Int) (w : World) (h : IsAt w ka n z) (hn : n ≤ 17592186043904) :
    Calls Tryz.prog 75 #[.slice ka n kc] w fun e w' => e = .returned (.bool (decide (KOk z n ∧ 0 < n))) ∧ Below w.heap.size w w' := by
  have HI : Hid (IsAt w ka n z) := h
  have hb0 := Below.refl w.heap.size w
  clear h
  go_enter Tryz.func75, Tryz.ntmps75
  go_wp2
  go_loopw [3, 5, 8] (fun lv kv iv wr => ∃ i : Nat, i ≤ n ∧ lv = .int .i64 (lastK z i) ∧ iv = .int .i64 i ∧ KOk z i ∧ Below w.heap.size w wr) (fun _ _ iv _ => n + 1 - (intOf iv).toNat)
  case atStart => exact ⟨0, by omega, rfl, rfl, fun j hj => by omega, hb0⟩
  case round =>
    clear hb0
    obtain ⟨i, hi, rfl, rfl, hk, hb⟩ := hrel
    have HK : Hid (KOk z i) := hk
    clear hk
    by_cases hlt : i < n
    · have hlt' : (i : Int) < n := by omega
      obtain ⟨b, off, rfl, hc⟩ := HI.out (by omega)
      have hci : wr.cell? ⟨b, off + i, none⟩ = some (.int .i64 (z i)) := by
        have := hc i hlt
        rw [hb.cell (p := ⟨b, off + i, none⟩) (World.block_lt_of_cell? w ⟨b, off + i, none⟩ this)]; exact this
      clear hc
      by_cases h1 : lastK z i < z i
      · have h1' : ¬ z i ≤ lastK z i := by omega
        by_cases h2 : z i < 16
        · have h2' : ¬ 16 ≤ z i := by omega
          have HN : Hid (KOk z (i + 1)) := fun j hj => by
            by_cases e : j = i
            · subst e; exact ⟨h1, h2⟩
            · exact HK.out j (by omega)
          have e1 := lastK_succ z i
          generalize lastK z i = q at *
          go_wp2
          go_roundw
          case rel => exact ⟨i + 1, by omega, by rw [e1], by go_num, HN.out, hb⟩
          case measure => simp [intOf]; omega
        · have h2' : 16 ≤ z i := by omega
          have HN : Hid (¬ KOk z n) := fun hk => h2 (hk i hlt).2
          generalize lastK z i = q at *
          go_wp2
          go_ret
          exact ⟨by simp [HN.out], hb⟩
      · have h1' : z i ≤ lastK z i := by omega
        have HN : Hid (¬ KOk z n) := fun hk => h1 (hk i hlt).1
        generalize lastK z i = q at *
        go_wp2
        go_ret
        exact ⟨by simp [HN.out], hb⟩
    · obtain rfl : i = n := by omega
      have hnn : ¬ ((i : Int) < i) := by omega
      have hk := HK.out
      go_wp2
      go_ret
      exact ⟨by simp, hb⟩
set_option maxHeartbeats 800000 in
theorem mayBe_anyX (x : Bv) (ka : Option Addr) (kc : Nat) (w : World) (h : IsAt w ka x.n x.z) (hn : x.n ≤ 17592186043904) :
    Calls Tryz.prog 56 #[.agg (bv x ka kc)] w fun e w' => e = .returned (.bool (decide (BOk x))) ∧ Below w.heap.size w w' := by
  have HI : Hid (IsAt (w.alloc (.cells (bv x ka kc) 91)) ka x.n x.z) := h.below ((Below.refl _ w).alloc (Nat.le_refl _) _)
  have hb0 : Below w.heap.size w (w.alloc (.cells (bv x ka kc) 91)) := (Below.refl _ w).alloc (Nat.le_refl _) _
  have hs0 : w.heap.size + 1 = (w.alloc (.cells (bv x ka kc) 91)).heap.size := by simp
  obtain ⟨c0, c33, c34⟩ := bbox_of (heap_alloc_new w (.cells (bv x ka kc) 91))
  have hk := keys_anyX ka x.n kc x.z _ HI.out hn
  clear h
  go_enter Tryz.func56, Tryz.ntmps56
  go_wp2_with (first | (refine Go.Great.wpList_boxTo rfl _ _ rfl _ rfl _ rfl (bv x ka kc) rfl ?_) | fail)
  generalize w.alloc (.cells (bv x ka kc) 91) = W0 at *
  have W0lt : w.heap.size < W0.heap.size := by omega
  have kc33 : ∀ w1, Below W0.heap.size W0 w1 → w1.cell? ⟨w.heap.size, 33, none⟩ = some (.int .i64 x.af) := fun w1 hb => by rw [hb.cell (p := ⟨w.heap.size, 33, none⟩) W0lt]; exact c33
  have kc34 : ∀ w1, Below W0.heap.size W0 w1 → w1.cell? ⟨w.heap.size, 34, none⟩ = some (.int .i64 x.ol) := fun w1 hb => by rw [hb.cell (p := ⟨w.heap.size, 34, none⟩) W0lt]; exact c34
  clear c33 c34 HI
  by_cases h1 : KOk x.z x.n ∧ 0 < x.n
  · have e1 : decide (KOk x.z x.n ∧ 0 < x.n) = true := by simp [h1]
    rw [e1] at hk
    by_cases h2 : 0 ≤ x.af ∧ x.af ≤ 1099511627776
    · have e2 : decide (0 ≤ x.af ∧ x.af ≤ 1099511627776) = true := by simp [h2]
      have HE : Hid (decide (BOk x) = decide (0 ≤ x.ol ∧ x.ol ≤ 65536)) := by show _ = _; simp [BOk, h1, h2]
      have hw1 := within_any x.af 1099511627776
      rw [e2] at hw1
      have hw2 := within_any x.ol 65536
      generalize decide (0 ≤ x.ol ∧ x.ol ≤ 65536) = r at *
      clear e1 e2 h1 h2
      go_wp2_with fail
      refine hk.mono ?_
      rintro e w1 ⟨rfl, hb1⟩
      have d33 := kc33 w1 hb1
      have d34 := kc34 w1 hb1
      clear kc33 kc34 hk
      go_wp2_with fail
      refine (hw1 w1).mono ?_
      rintro e w2 ⟨rfl, rfl⟩
      go_wp2_with fail
      refine (hw2 _).mono ?_
      rintro e w3 ⟨rfl, rfl⟩
      go_wp2
      go_ret
      exact ⟨by rw [HE.out]; rfl, Below.trans hb0 (hb1.mono (by omega))⟩
    · have e2 : decide (0 ≤ x.af ∧ x.af ≤ 1099511627776) = false := by simp only [decide_eq_false_iff_not]; exact h2
      have HE : Hid (decide (BOk x) = false) := by show _ = _; simp only [decide_eq_false_iff_not]; exact fun h => h2 h.2.1
      have hw1 := within_any x.af 1099511627776
      rw [e2] at hw1
      clear e1 e2 h1 h2
      go_wp2_with fail
      refine hk.mono ?_
      rintro e w1 ⟨rfl, hb1⟩
      have d33 := kc33 w1 hb1
      clear kc33 kc34 hk
      go_wp2_with fail
      refine (hw1 w1).mono ?_
      rintro e w2 ⟨rfl, rfl⟩
      go_wp2
      go_ret
      exact ⟨by rw [HE.out]; rfl, Below.trans hb0 (hb1.mono (by omega))⟩
  · have e1 : decide (KOk x.z x.n ∧ 0 < x.n) = false := by simp only [decide_eq_false_iff_not]; exact h1
    rw [e1] at hk
    have HE : Hid (decide (BOk x) = false) := by show _ = _; simp only [decide_eq_false_iff_not]; exact fun h => h1 h.1
    clear e1 h1 kc33 kc34
    go_wp2_with fail
    refine hk.mono ?_
    rintro e w1 ⟨rfl, hb1⟩
    clear hk
    go_wp2
    go_ret
    exact ⟨by rw [HE.out]; rfl, Below.trans hb0 (hb1.mono (by omega))⟩
set_option maxHeartbeats 800000 in
theorem bad_anyX (x : Bv) (ka : Option Addr) (kc : Nat) (w : World) (h : IsAt w ka x.n x.z) (hn : x.n ≤ 17592186043904) :
    Calls Tryz.prog 55 #[.agg (bv x ka kc)] w fun e w' => e = .returned (.bool (!decide (BOk x))) ∧ Below w.heap.size w w' := by
  have hI := h.below ((Below.refl _ w).alloc (Nat.le_refl _) (.cells (bv x ka kc) 91))
  have hb0 : Below w.heap.size w (w.alloc (.cells (bv x ka kc) 91)) := (Below.refl _ w).alloc (Nat.le_refl _) _
  have hbx := heap_alloc_new w (.cells (bv x ka kc) 91)
  have hm := mayBe_anyX x ka kc _ hI hn
  clear h hI
  generalize decide (BOk x) = r at *
  go_enter Tryz.func55, Tryz.ntmps55
  go_wp2_with (first | (refine Go.Great.wpList_boxTo rfl _ _ rfl _ rfl _ rfl (bv x ka kc) rfl ?_) | (refine wpList_load_row rfl 91 _ rfl w.heap.size rfl _ (bv x ka kc) _ _ hbx Tryz.underlying91 rfl (szBv x ka kc) ?_) | (go_at_call 56; refine hm.mono ?_; rintro e w1 ⟨rfl, hb1⟩) | fail)
  go_ret
  exact ⟨rfl, Below.trans hb0 (hb1.mono hb0.size)⟩
set_option maxHeartbeats 1600000 in
theorem index_anyX (ad : Option Addr) (n cap : Nat) (X : Nat → Bv) (w : World) (h : BrAt w ad n X) (hn : n ≤ 1000000) (hx : ∀ i, i < n → (X i).n ≤ 17592186043904) :
    Calls Tryz.prog 77 #[.slice ad n cap, .func (.func 55) #[] #[]] w fun e w' => (∃ q : Int, e = .returned (.int .i64 q) ∧ decide (q ≥ 0) = !decide (AllOk X n)) ∧ Below w.heap.size w w' := by
  have HB : Hid (BrAt w ad n X) := h
  have hb0 := Below.refl w.heap.size w
  have eg : ∀ args w, (callFunc 55 args).run Tryz.prog w = .ok (.enter 55 args) w := enters_of Tryz.func55 (by kernel_rfl) rfl
  clear h
  go_enter Tryz.func77, Tryz.ntmps77
  go_wp2
  go_loopw [5, 8] (fun _ iv wr => ∃ i : Nat, i ≤ n ∧ iv = .int .i64 i ∧ AllOk X i ∧ Below w.heap.size w wr) (fun _ iv _ => n + 1 - (intOf iv).toNat)
  case atStart => exact ⟨0, by omega, rfl, fun j hj => by omega, hb0⟩
  case round =>
    clear hb0
    obtain ⟨i, hi, rfl, hk, hb⟩ := hrel
    have HK : Hid (AllOk X i) := hk
    clear hk
    by_cases hlt : i < n
    · have hlt' : (i : Int) < n := by omega
      obtain ⟨b, off, rfl, hc⟩ := HB.out.at_ (by omega)
      obtain ⟨ka, kc, hr0, hI0⟩ := hc i hlt
      have HR : Hid (wr.rangeAt b (off + i * 35) (brl (X i) ka kc)) := range_below hr0 hb
      have hcall := bad_anyX (X i) ka kc wr (hI0.below hb) (hx i hlt)
      clear hc hr0 hI0
      by_cases hq : BOk (X i)
      · have e1 : decide (BOk (X i)) = true := by simp [hq]
        rw [e1] at hcall
        have HN : Hid (AllOk X (i + 1)) := fun j hj => by
          by_cases e : j = i
          · subst e; exact hq
          · exact HK.out j (by omega)
        clear e1 hq
        go_wp2_with (first | (refine wpList_load_mid rfl 91 _ rfl b (off + i * 35) rfl (brl (X i) ka kc) _ HR.out Tryz.underlying91 rfl (szBl _ _ _) ?_) | (go_at_fn 55; refine hcall.mono ?_; rintro e w1 ⟨rfl, hb1⟩) | fail)
        go_roundw
        case rel => exact ⟨i + 1, by omega, by go_num, HN.out, hb.trans (hb1.mono hb.size)⟩
        case measure => simp [intOf]; omega
      · have e1 : decide (BOk (X i)) = false := by simpa using hq
        rw [e1] at hcall
        have HN : Hid (¬ AllOk X n) := fun h => hq (h i hlt)
        clear e1 hq
        go_wp2_with (first | (refine wpList_load_mid rfl 91 _ rfl b (off + i * 35) rfl (brl (X i) ka kc) _ HR.out Tryz.underlying91 rfl (szBl _ _ _) ?_) | (go_at_fn 55; refine hcall.mono ?_; rintro e w1 ⟨rfl, hb1⟩) | fail)
        go_ret
        refine ⟨⟨_, rfl, ?_⟩, hb.trans (hb1.mono hb.size)⟩
        have := HN.out
        simp [this]
    · obtain rfl : i = n := by omega
      have hnn : ¬ ((i : Int) < i) := by omega
      have hk := HK.out
      go_wp2
      go_ret
      refine ⟨⟨_, rfl, ?_⟩, hb⟩
      simp
set_option maxHeartbeats 800000 in
theorem contains_anyX (ad : Option Addr) (n cap : Nat) (X : Nat → Bv) (w : World) (h : BrAt w ad n X) (hn : n ≤ 1000000) (hx : ∀ i, i < n → (X i).n ≤ 17592186043904) :
    Calls Tryz.prog 57 #[.slice ad n cap, .func (.func 55) #[] #[]] w fun e w' => e = .returned (.bool (!decide (AllOk X n))) ∧ Below w.heap.size w w' := by
  have hi := index_anyX ad n cap X w h hn hx
  clear h
  generalize (!decide (AllOk X n)) = r at *
  go_enter Tryz.func57, Tryz.ntmps57
  go_wp2_with (go_at_call 77; refine hi.mono ?_; rintro e w1 ⟨⟨q, rfl, hq⟩, hb1⟩)
  all_goals (go_ret; exact ⟨by simp_all, hb1⟩)
set_option maxHeartbeats 1600000 in
theorem check_anyX (ad : Option Addr) (n cap : Nat) (X : Nat → Bv) (w : World) (h : BrAt w ad n X) (hn : n ≤ 1000000) (hx : ∀ i, i < n → (X i).n ≤ 17592186043904) :
    Calls Tryz.prog 41 #[.agg #[.slice ad n cap]] w fun e w' => e = .returned (errV (chkE X n)) ∧ Below w.heap.size w w' := by
  have hI := h.below ((Below.refl _ w).alloc (Nat.le_refl _) (.cells #[.slice ad n cap] 68))
  have hb0 : Below w.heap.size w (w.alloc (.cells #[.slice ad n cap] 68)) := (Below.refl _ w).alloc (Nat.le_refl _) _
  have hm := contains_anyX ad n cap X _ hI hn hx
  clear h hI
  by_cases h1 : n < 1
  · have h1' : (n : Int) < 1 := by omega
    have HE : Hid (chkE X n = 1) := if_neg (fun h => by have := h.1; omega)
    clear hm
    go_enter Tryz.func41, Tryz.ntmps41
    go_wp2
    go_ret
    exact ⟨by rw [HE.out]; rfl, hb0⟩
  · have h1' : ¬ (n : Int) < 1 := by omega
    by_cases h2 : 8 < n
    · have h2' : (8 : Int) < n := by omega
      have HE : Hid (chkE X n = 1) := if_neg (fun h => by have := h.1; omega)
      clear hm
      go_enter Tryz.func41, Tryz.ntmps41
      go_wp2
      go_ret
      exact ⟨by rw [HE.out]; rfl, hb0⟩
    · have h2' : ¬ (8 : Int) < n := by omega
      by_cases h3 : AllOk X n
      · have e1 : decide (AllOk X n) = true := by simp [h3]
        rw [e1] at hm
        have HE : Hid (chkE X n = 0) := if_pos ⟨by omega, h3⟩
        clear e1 h3
        go_enter Tryz.func41, Tryz.ntmps41
        go_wp2_with (go_at_call 57; refine hm.mono ?_; rintro e w1 ⟨rfl, hb1⟩)
        go_ret
        exact ⟨by rw [HE.out]; rfl, hb0.trans (hb1.mono hb0.size)⟩
      · have e1 : decide (AllOk X n) = false := by simpa using h3
        rw [e1] at hm
        have HE : Hid (chkE X n = 1) := if_neg (fun h => h3 h.2)
        clear e1 h3
        go_enter Tryz.func41, Tryz.ntmps41
        go_wp2_with (go_at_call 57; refine hm.mono ?_; rintro e w1 ⟨rfl, hb1⟩)
        go_ret
        exact ⟨by rw [HE.out]; rfl, hb0.trans (hb1.mono hb0.size)⟩
end Go.Proofs.YtbehkajfckadfaaGreatDoor.Cd
/- Outputs whose branches have any number of keys. -/
namespace Go.Proofs.YtbehkajfckadfaaGreatDoor
open Go.RowKit

/-- Its branches are few; their keys need not be. -/
def To.Big (x : To) : Prop := x.cn ≤ 1000000 ∧ ∀ i, i < x.cn → (x.X i).n ≤ 17592186043904
theorem To.Small.big {x : To} (h : x.Small) : x.Big := ⟨h.1, fun i hi => by have := h.2 i hi; omega⟩
set_option maxHeartbeats 1600000 in
theorem checkOut_anyX (x : To) (ca : Option Addr) (cc : Nat) (w : World) (h : Cd.BrAt w ca x.cn x.X) (hs : x.Big) :
    Calls Tryz.prog 26 #[.agg (tov x ca cc)] w fun e w' => e = .returned (errV (outE x)) ∧ Below w.heap.size w w' := by
  have hb0 : Below w.heap.size w (w.alloc (.cells #[.int .i64 x.am, .slice ca x.cn cc] 71)) := (Below.refl _ w).alloc (Nat.le_refl _) _
  have hc := Cd.check_anyX ca x.cn cc x.X _ (h.below hb0) hs.1 hs.2
  clear h
  unfold tov
  by_cases h1 : x.am < 10
  · have HE : Hid (outE x = 27) := if_pos h1
    clear hc
    go_enter Tryz.func26, Tryz.ntmps26
    go_wp2
    go_ret
    exact ⟨by rw [HE.out]; rfl, hb0⟩
  · by_cases h2 : 1125899906842624 < x.am
    · have HE : Hid (outE x = 5) := by unfold outE; rw [if_neg h1, if_pos h2]; exact rfl
      clear hc
      go_enter Tryz.func26, Tryz.ntmps26
      go_wp2
      go_ret
      exact ⟨by rw [HE.out]; rfl, hb0⟩
    · have HE : Hid (outE x = Cd.chkE x.X x.cn) := by unfold outE; rw [if_neg h1, if_neg h2]; exact rfl
      go_enter Tryz.func26, Tryz.ntmps26
      go_wp2_with fail
      refine hc.mono ?_
      rintro e w1 ⟨rfl, hb1⟩
      have HB : Hid (Below w.heap.size w w1) := hb0.trans (hb1.mono hb0.size)
      clear hb0 hb1 hc
      go_wp2
      go_ret
      exact ⟨by rw [HE.out]; rfl, HB.out⟩
end Go.Proofs.YtbehkajfckadfaaGreatDoor
/- tx.Check of any transaction, whatever its keys are. -/
namespace Go.Proofs.YtbehkajfckadfaaGreatDoor
open Go.RowKit

set_option maxRecDepth 100000 in
set_option maxHeartbeats 3200000 in
theorem kcheck_anyX (lk : Int) (ia : Option Addr) (n ic : Nat) (oa : Option Addr) (m oc : Nat) (X : Nat → Ti) (S : Nat → Option Addr × Nat) (O : Nat → To) (w : World) (h : TiAt w ia n X S) (ho : ToAt w oa m O) (hs : ∀ i, i < m → (O i).Big) (hn : n ≤ 1000000) (hm : m ≤ 1000000) :
    Calls Tryz.prog 12 #[.agg (txv lk ia n ic oa m oc)] w fun e w' => e = .returned (errV (txE lk n X m O)) ∧ Below w.heap.size w w' := by
  have hb0 : Below w.heap.size w (w.alloc (.cells #[.int .i64 lk, .slice ia n ic, .slice oa m oc] 35)) := (Below.refl _ w).alloc (Nat.le_refl _) _
  have hr0 := heap_alloc_new w (.cells #[.int .i64 lk, .slice ia n ic, .slice oa m oc] 35)
  have HH : Hid (TiAt w ia n X S ∧ ToAt w oa m O ∧ ∀ i, i < m → (O i).Big) := ⟨h, ho, hs⟩
  clear h ho hs
  unfold txv
  by_cases hN : NumOk lk n m
  · obtain ⟨hl, hnn, hmm⟩ := hN
    have HN : Hid (NumOk lk n m) := ⟨hl, hnn, hmm⟩
    have d1 : decide (0 ≤ lk ∧ lk ≤ 1099511627776) = true := by simpa using hl
    have d2 : decide ((1 : Int) ≤ (n : Int) ∧ (n : Int) ≤ 64) = true := by simp; omega
    have d3 : decide ((1 : Int) ≤ (m : Int) ∧ (m : Int) ≤ 64) = true := by simp; omega
    go_enter Tryz.func12, Tryz.ntmps12
    go_wp2_with fail
    generalize w.alloc (.cells #[.int .i64 lk, .slice ia n ic, .slice oa m oc] 35) = W0 at *
    have c1 : W0.cell? ⟨w.heap.size, 1, none⟩ = some (.slice ia n ic) := by rw [cell_of_row _ _ 1 _ _ _ hr0]; rfl
    have c2 : W0.cell? ⟨w.heap.size, 2, none⟩ = some (.slice oa m oc) := by rw [cell_of_row _ _ 2 _ _ _ hr0]; rfl
    refine (kwithin_any lk 0 1099511627776 _).mono ?_
    rintro e w1 ⟨rfl, hW⟩
    rw [hW, d1]
    clear hW
    go_wp2_with fail
    refine (kwithin_any n 1 64 _).mono ?_
    rintro e w1 ⟨rfl, hW⟩
    rw [hW, d2]
    clear hW
    go_wp2_with fail
    refine (kwithin_any m 1 64 _).mono ?_
    rintro e w1 ⟨rfl, hW⟩
    rw [hW, d3]
    clear hW d1 d2 d3 hl hnn hmm
    go_wp2_with fail
    refine (kcontains_any ia n ic X S W0 (HH.out.1.below hb0) hn).mono ?_
    rintro e w2 ⟨rfl, hb2⟩
    by_cases hI : InsOk X n
    · have d4 : (!decide (InsOk X n)) = false := by simpa using hI
      rw [d4]
      clear d4
      have HI : Hid (InsOk X n) := hI
      clear hI
      have HB2 : Hid (Below w.heap.size w w2) := hb0.trans (hb2.mono hb0.size)
      have hr2 : w2.heap[w.heap.size]? = some (.cells #[.int .i64 lk, .slice ia n ic, .slice oa m oc] 35 (0, 0)) := by rw [hb2.block _ (lt_of_block hr0)]; exact hr0
      have HR2 : Hid (∀ w', Below w2.heap.size w2 w' → w'.heap[w.heap.size]? = some (.cells #[.int .i64 lk, .slice ia n ic, .slice oa m oc] 35 (0, 0))) := fun w' hb => by rw [hb.block _ (lt_of_block hr2)]; exact hr2
      clear hb2 hr2 hr0 hb0 c1 c2
      go_wp2_with fail
      have HS : Hid (∀ w', Below w2.heap.size w2 w' → w'.rangeAt w.heap.size 0 (txl lk ia n ic oa m oc) ∧ w'.cell? ⟨w.heap.size, 1, none⟩ = some (.slice ia n ic)) := fun w' hb => ⟨txl_range (HR2.out w' hb), by rw [cell_of_row _ _ 1 _ _ _ (HR2.out w' hb)]; rfl⟩
      have S0 := HS.out w2.drew (Below.refl _ w2).drew
      refine wp_region_noPanic ?_
      refine wp_region_held_drew (S := fun w' => w'.rangeAt w.heap.size 0 (txl lk ia n ic oa m oc) ∧ w'.cell? ⟨w.heap.size, 1, none⟩ = some (.slice ia n ic)) (by kernel_rfl) S0 (fun hHeld => ?_)
      refine wpAnyH_take (i := 0) (oi := { dst := some 32, op := Go.Op.load 35 (Go.Operand.tmp 1), type := 35, pos := "tx.go:54", after := #[], guard := none }) rfl (by kernel_rfl) (by kernel_rfl) (by kernel_rfl) (fun _ _ _ h => h) (yieldsIf_load_mid (by rfl) _ _ rfl w.heap.size 0 rfl (txl lk ia n ic oa m oc) _ (fun _ h => h.1) Tryz.underlying35 rfl szTx) (by assumption) ?_
      try simp only [Act.put, List.setIfInBounds_toArray, List.set_cons_zero, List.set_cons_succ]
      refine wpAnyH_take (i := 3) (oi := { dst := some 35, op := Go.Op.fieldAddr 35 (Go.Operand.tmp 1) 1, type := 0, pos := "tx.go:54", after := #[], guard := none }) (v := ?_) rfl (by kernel_rfl) (by kernel_rfl) (by kernel_rfl) (fun _ _ _ h => h) (Or.inl ⟨by rfl, ?_⟩) (by assumption) ?_
      rotate_left
      · intro wz hSw; (try dsimp only at hSw); go_simp; (try with_reducible rfl)
      try simp only [Act.put, List.setIfInBounds_toArray, List.set_cons_zero, List.set_cons_succ]
      refine wpAnyH_take (i := 4) (oi := { dst := some 36, op := Go.Op.load 32 (Go.Operand.tmp 35), type := 32, pos := "tx.go:54", after := #[{ on := 3, ground := Go.Ground.data }], guard := none }) (v := ?_) rfl (by kernel_rfl) (by kernel_rfl) (by kernel_rfl) (fun _ _ _ h => h) (Or.inl ⟨by rfl, ?_⟩) (by assumption) ?_
      rotate_left
      · intro wz hSw; (try dsimp only at hSw); go_simp; (try with_reducible rfl)
      try simp only [Act.put, List.setIfInBounds_toArray, List.set_cons_zero, List.set_cons_succ]
      refine wpAnyH_take (i := 5) (oi := { dst := some 37, op := Go.Op.call { callee := Go.Callee.builtin Go.Builtin.len, args := #[Go.Operand.tmp 36], argTypes := #[32] }, type := 3, pos := "tx.go:54", after := #[{ on := 4, ground := Go.Ground.data }], guard := none }) (v := ?_) rfl (by kernel_rfl) (by kernel_rfl) (by kernel_rfl) (fun _ _ _ h => h) (Or.inl ⟨by rfl, ?_⟩) (by assumption) ?_
      rotate_left
      · intro wz hSw; (try dsimp only at hSw); go_simp; (try with_reducible rfl)
      try simp only [Act.put, List.setIfInBounds_toArray, List.set_cons_zero, List.set_cons_succ]
      refine wpAnyH_ready (rs := [1]) (by kernel_rfl) (by simp) ?_
      refine (AllReadyH.cons (o := { dst := some 33, op := Go.Op.call { callee := Go.Callee.value (Go.Operand.func 25), args := #[Go.Operand.tmp 32], argTypes := #[35] }, type := 80, pos := "tx.go:54", after := #[{ on := 0, ground := Go.Ground.data }], guard := none }) rfl (fun K hK => ?_) AllReadyH.nil)
      go_simp
      refine (points_any lk ia n ic oa m oc X S w2.drew (HH.out.1.below HB2.out.drew) (fun i hi => by have := (HI.out i hi).1; exact ⟨by omega, by omega⟩) hn).mono ?_
      rintro e w3 ⟨⟨pb, rfl, hpm⟩, hb3⟩
      have HB3 : Hid (Below w2.heap.size w2 w3) := (Below.refl _ w2).drew.trans hb3
      clear hb3
      obtain ⟨D, kk, hD, hDs⟩ := hpm
      have hlen : ∀ ty, (Builtin.len_ #[80] ty #[.map (some pb)]).run Tryz.prog w3 = .ok (.int .i64 ((ptsL X n).length : Nat)) w3 := fun ty => by rw [← hDs]; exact hD.len (t := 80) (e := 105) Tryz.underlying80 ty
      clear hD hDs
      refine hK.out _ _ (HS.out w3 HB3.out) (fun _ => ?_)
      clear hK K
      refine wpAnyH_ready (rs := [2]) (by kernel_rfl) (by simp) ?_
      refine (AllReadyH.cons (o := { dst := some 34, op := Go.Op.call { callee := Go.Callee.builtin Go.Builtin.len, args := #[Go.Operand.tmp 33], argTypes := #[80] }, type := 3, pos := "tx.go:54", after := #[{ on := 1, ground := Go.Ground.data }, { on := 1, ground := Go.Ground.chain }], guard := none }) rfl (fun K hK => ?_) AllReadyH.nil)
      go_simp
      refine hK.out _ _ (HS.out w3 HB3.out) (fun _ => ?_)
      clear hK K hlen
      try simp only [Act.put, List.setIfInBounds_toArray, List.set_cons_zero, List.set_cons_succ]
      refine wpAnyH_take (i := 6) (oi := { dst := some 38, op := Go.Op.binOp Go.BinOp.lss 3 (Go.Operand.tmp 34) (Go.Operand.tmp 37) 3, type := 4, pos := "tx.go:54", after := #[{ on := 2, ground := Go.Ground.data }, { on := 5, ground := Go.Ground.data }], guard := none }) (v := ?_) rfl (by kernel_rfl) (by kernel_rfl) (by kernel_rfl) (fun _ _ _ h => h) (Or.inl ⟨by rfl, ?_⟩) (by assumption) ?_
      rotate_left
      · intro wz hSw; (try dsimp only at hSw); go_simp; (try with_reducible rfl)
      try simp only [Act.put, List.setIfInBounds_toArray, List.set_cons_zero, List.set_cons_succ]
      refine wpAnyH_take (i := 7) (oi := { dst := some 31, op := Go.Op.assign (Go.Operand.tmp 38), type := 4, pos := "tx.go:54", after := #[{ on := 6, ground := Go.Ground.data }, { on := 2, ground := Go.Ground.chain }], guard := none }) (v := ?_) rfl (by kernel_rfl) (by kernel_rfl) (by kernel_rfl) (fun _ _ _ h => h) (Or.inl ⟨by rfl, ?_⟩) (by assumption) ?_
      rotate_left
      · intro wz hSw; (try dsimp only at hSw); go_simp; (try with_reducible rfl)
      try simp only [Act.put, List.setIfInBounds_toArray, List.set_cons_zero, List.set_cons_succ]
      refine wpAnyH_done (by kernel_rfl) (NoPanic.normal ?_) _
      try simp only [Act.put, List.setIfInBounds_toArray, List.set_cons_zero, List.set_cons_succ]
      clear hHeld S0
      by_cases hA : Apart X n
      · have hl : (ptsL X n).length = n := (ptsL_full X n).2 hA
        have hl' : decide ((ptsL X n).length < n) = false := by simp; omega
        rw [hl']
        clear hl'
        have HE : Hid (txE lk n X m O = if outsE O m ≠ 0 then outsE O m else totE O m) := by unfold txE; rw [if_neg (by simpa using HN.out), if_neg (by simpa using HI.out), if_neg (by simpa using hA)]; exact rfl
        have hb3 : Below w.heap.size w w3 := HB2.out.trans (HB3.out.mono HB2.out.size)
        have hr3 := HR2.out w3 HB3.out
        have c2 : w3.cell? ⟨w.heap.size, 2, none⟩ = some (.slice oa m oc) := by rw [cell_of_row _ _ 2 _ _ _ hr3]; rfl
        clear hA hl HS HB3 HB2 HR2 HI HN
        go_wp2
        clear c2
        go_loopw [2, 5, 6, 43] (fun _ _ _ iv wr => ∃ i : Nat, i ≤ m ∧ iv = .int .i64 i ∧ outsE O i = 0 ∧ Below w.heap.size w wr ∧ wr.heap[w.heap.size]? = some (.cells #[.int .i64 lk, .slice ia n ic, .slice oa m oc] 35 (0, 0))) (fun _ _ _ iv _ => m + 1 - (intOf iv).toNat)
        case atStart => exact ⟨0, by omega, rfl, rfl, hb3, hr3⟩
        case round =>
          clear hb3 hr3
          obtain ⟨i, hi, rfl, hz, hb, hr⟩ := hrel
          have HZ : Hid (outsE O i = 0) := hz
          clear hz
          by_cases hlt : i < m
          · have hlt' : (i : Int) < m := by omega
            obtain ⟨b, off, rfl, hc⟩ := HH.out.2.1.at_ (by omega)
            obtain ⟨ca, cc, hr0, hbr, _⟩ := hc i hlt
            have hr1 := range_below hr0 hb
            have c0 : wr.cell? ⟨b, off + i * 2, none⟩ = some (.int .i64 (O i).am) := by simpa using hr1 0 _ rfl
            have c1 : wr.cell? ⟨b, off + i * 2 + 1, none⟩ = some (.slice ca (O i).cn cc) := hr1 1 _ rfl
            have hb1 : Below w.heap.size w (wr.alloc (.cells #[.int .i64 (O i).am, .slice ca (O i).cn cc] 71)) := hb.alloc hb.size _
            have hk := checkOut_anyX (O i) ca cc (wr.alloc (.cells #[.int .i64 (O i).am, .slice ca (O i).cn cc] 71)) (hbr.below hb1) (HH.out.2.2 i hlt)
            have hrA : (wr.alloc (.cells #[.int .i64 (O i).am, .slice ca (O i).cn cc] 71)).heap[w.heap.size]? = some (.cells #[.int .i64 lk, .slice ia n ic, .slice (some ⟨b, off, none⟩) m oc] 35 (0, 0)) := by rw [Below.heap_alloc _ _ _ (lt_of_block hr)]; exact hr
            unfold tov at hk
            clear hc hr0 hbr hr1
            by_cases hq : outE (O i) = 0
            · rw [hq, kerrV_0] at hk
              have HN : Hid (outsE O (i + 1) = 0) := by rw [outsE, if_pos HZ.out]; exact hq
              clear hq
              go_wp2_with fail
              generalize wr.alloc (.cells #[.int .i64 (O i).am, .slice ca (O i).cn cc] 71) = q1 at *
              refine hk.mono ?_
              rintro e q2 ⟨rfl, hb2⟩
              have hrB : q2.heap[w.heap.size]? = some (.cells #[.int .i64 lk, .slice ia n ic, .slice (some ⟨b, off, none⟩) m oc] 35 (0, 0)) := by rw [hb2.block _ (lt_of_block hrA)]; exact hrA
              have hbB : Below w.heap.size w q2 := hb1.trans (hb2.mono hb1.size)
              clear hk hrA hb1 hb2 c0 c1 hr hb
              go_wp2
              go_roundw
              case rel => exact ⟨i + 1, by omega, by go_num, HN.out, hbB, hrB⟩
              case measure => simp [intOf]; omega
            · rw [kerrV_ne hq] at hk
              have HE2 : Hid (errV (txE lk n X m O) = .iface 74 (.int .i64 (outE (O i)))) := by
                have e1 : outsE O (i + 1) = outE (O i) := by rw [outsE, if_pos HZ.out]
                have e2 : outsE O m = outE (O i) := by rw [← e1]; exact outsE_stop (by rw [e1]; exact hq) m (by omega)
                rw [HE.out, e2, if_pos hq, kerrV_ne hq]; exact rfl
              clear hq
              go_wp2_with fail
              generalize wr.alloc (.cells #[.int .i64 (O i).am, .slice ca (O i).cn cc] 71) = q1 at *
              refine hk.mono ?_
              rintro e q2 ⟨rfl, hb2⟩
              have hbB : Below w.heap.size w q2 := hb1.trans (hb2.mono hb1.size)
              clear hk hrA hb1 hb2 c0 c1 hr hb
              go_wp2
              go_ret
              exact ⟨by rw [HE2.out]; rfl, hbB⟩
          · obtain rfl : i = m := by omega
            have hnn : ¬ ((i : Int) < i) := by omega
            have HE3 : Hid (txE lk n X i O = totE O i) := by rw [HE.out, if_neg (by simpa using HZ.out)]; exact rfl
            have hk := ktotal_any lk ia n ic oa i oc O wr (HH.out.2.1.below hb) hm
            unfold txv at hk
            obtain ⟨c0, c1, c2⟩ : wr.cell? ⟨w.heap.size, 0, none⟩ = some (.int .i64 lk) ∧ wr.cell? ⟨w.heap.size, 1, none⟩ = some (.slice ia n ic) ∧ wr.cell? ⟨w.heap.size, 2, none⟩ = some (.slice oa i oc) := ⟨by rw [cell_of_row _ _ 0 _ _ _ hr]; rfl, by rw [cell_of_row _ _ 1 _ _ _ hr]; rfl, by rw [cell_of_row _ _ 2 _ _ _ hr]; rfl⟩
            go_wp2_with fail
            refine hk.mono ?_
            rintro e q2 ⟨rfl, hb2⟩
            have hbB : Below w.heap.size w q2 := hb.trans (hb2.mono hb.size)
            clear hk c0 c1 c2 hr hb hb2
            go_wp2
            go_ret
            exact ⟨by rw [HE3.out]; rfl, hbB⟩
      · have hl' : ((ptsL X n).length : Int) < (n : Int) := by have h1 := ptsL_le X n; have h2 : (ptsL X n).length ≠ n := fun h => hA ((ptsL_full X n).1 h); omega
        have HE : Hid (txE lk n X m O = 9) := by unfold txE; rw [if_neg (by simpa using HN.out), if_neg (by simpa using HI.out), if_pos hA]; exact rfl
        have HBE : Hid (Below w.heap.size w w3) := HB2.out.trans (HB3.out.mono HB2.out.size)
        clear hA
        go_wp2
        go_ret
        exact ⟨by rw [HE.out]; rfl, HBE.out⟩
    · have d4 : (!decide (InsOk X n)) = true := by simpa using hI
      rw [d4]
      have HE : Hid (txE lk n X m O = 4) := by unfold txE; rw [if_neg (by simpa using HN.out), if_pos hI]; exact rfl
      have HBE : Hid (Below w.heap.size w w2) := hb0.trans (hb2.mono hb0.size)
      clear d4 hI hr0 hb2 c1 c2 hb0
      go_wp2
      go_ret
      exact ⟨by rw [HE.out]; rfl, HBE.out⟩
  · have HE : Hid (txE lk n X m O = 4) := if_pos hN
    by_cases h1 : 0 ≤ lk ∧ lk ≤ 1099511627776
    · have d1 : decide (0 ≤ lk ∧ lk ≤ 1099511627776) = true := by simpa using h1
      by_cases h2 : 1 ≤ n ∧ n ≤ 64
      · have d2 : decide ((1 : Int) ≤ (n : Int) ∧ (n : Int) ≤ 64) = true := by simp; omega
        have d3 : decide ((1 : Int) ≤ (m : Int) ∧ (m : Int) ≤ 64) = false := by
          have : ¬ (1 ≤ m ∧ m ≤ 64) := fun h => hN ⟨h1, h2, h⟩
          rw [decide_eq_false_iff_not]; omega
        clear hN h1 h2
        go_enter Tryz.func12, Tryz.ntmps12
        go_wp2_with fail
        generalize w.alloc (.cells #[.int .i64 lk, .slice ia n ic, .slice oa m oc] 35) = W0 at *
        have c1 : W0.cell? ⟨w.heap.size, 1, none⟩ = some (.slice ia n ic) := by rw [cell_of_row _ _ 1 _ _ _ hr0]; rfl
        have c2 : W0.cell? ⟨w.heap.size, 2, none⟩ = some (.slice oa m oc) := by rw [cell_of_row _ _ 2 _ _ _ hr0]; rfl
        refine (kwithin_any lk 0 1099511627776 _).mono ?_
        rintro e w1 ⟨rfl, hW⟩
        rw [hW, d1]
        clear hW
        go_wp2_with fail
        refine (kwithin_any n 1 64 _).mono ?_
        rintro e w1 ⟨rfl, hW⟩
        rw [hW, d2]
        clear hW
        go_wp2_with fail
        refine (kwithin_any m 1 64 _).mono ?_
        rintro e w1 ⟨rfl, hW⟩
        rw [hW, d3]
        clear hW
        go_wp2
        go_ret
        exact ⟨by rw [HE.out]; rfl, hb0⟩
      · have d2 : decide ((1 : Int) ≤ (n : Int) ∧ (n : Int) ≤ 64) = false := by rw [decide_eq_false_iff_not]; omega
        clear hN h1 h2
        go_enter Tryz.func12, Tryz.ntmps12
        go_wp2_with fail
        generalize w.alloc (.cells #[.int .i64 lk, .slice ia n ic, .slice oa m oc] 35) = W0 at *
        have c1 : W0.cell? ⟨w.heap.size, 1, none⟩ = some (.slice ia n ic) := by rw [cell_of_row _ _ 1 _ _ _ hr0]; rfl
        refine (kwithin_any lk 0 1099511627776 _).mono ?_
        rintro e w1 ⟨rfl, hW⟩
        rw [hW, d1]
        clear hW
        go_wp2_with fail
        refine (kwithin_any n 1 64 _).mono ?_
        rintro e w1 ⟨rfl, hW⟩
        rw [hW, d2]
        clear hW
        go_wp2
        go_ret
        exact ⟨by rw [HE.out]; rfl, hb0⟩
    · have d1 : decide (0 ≤ lk ∧ lk ≤ 1099511627776) = false := by simpa using h1
      clear hN h1
      go_enter Tryz.func12, Tryz.ntmps12
      go_wp2_with fail
      refine (kwithin_any lk 0 1099511627776 _).mono ?_
      rintro e w1 ⟨rfl, hW⟩
      rw [hW, d1]
      clear hW
      go_wp2
      go_ret
      exact ⟨by rw [HE.out]; rfl, hb0⟩
end Go.Proofs.YtbehkajfckadfaaGreatDoor
