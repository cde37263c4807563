/- cond.Check of branches of any number of keys. -/
import Derived.Test.YtjnepkggdkccaaaGreatDoorOwnShelf16
import Derived.Test.YtjnepkggdkccaaaGreatDoorOwnShelf33
import Derived.Test.YtjnepkggdkccaaaGreatDoorOwnShelf35
namespace Go.Proofs.YtjnepkggdkccaaaGreatDoor.Cd
open Go.RowKit

set_option maxHeartbeats 800000 in
theorem keys_anyX (ka : Option Addr) (n kc : Nat) (z : Nat → Int) (w : World) (h : IsAt w ka n z) (hn : n ≤ 17592186043904) :
  Calls Tryz.prog 136 #[.slice ka n kc] w fun e w' => e = .returned (.bool (decide (KOk z n ∧ 0 < n))) ∧ Below w.heap.size w w' := by
 have HI : Hid (IsAt w ka n z) := h
 have hb0 := Below.refl w.heap.size w
 clear h
 go_enter Tryz.func136, Tryz.ntmps136
 go_wp2
 go_loopw [3, 5, 8] (fun lv kv iv wr => ∃ i : Nat, i ≤ n ∧ lv = .int .i64 (lastK z i) ∧ iv = .int .i64 i ∧ KOk z i ∧ Below w.heap.size w wr) (fun _ _ iv _ => n + 1 - (intOf iv).toNat)
 case atStart => exact ⟨0, by omega, rfl, rfl, fun j hj => by omega, hb0⟩
 case round =>
  clear hb0
  obtain ⟨i, hi, rfl, rfl, hk, hb⟩ := hrel
  have HK : Hid (KOk z i) := hk
  clear hk
  by_cases hlt : i < n
  ·have hlt' : (i : Int) < n := by omega
   obtain ⟨b, off, rfl, hc⟩ := HI.out (by omega)
   have hci : wr.cell? ⟨b, off + i, none⟩ = some (.int .i64 (z i)) := by
    have := hc i hlt
    rw [hb.cell (p := ⟨b, off + i, none⟩) (World.block_lt_of_cell? w ⟨b, off + i, none⟩ this)]; exact this
   clear hc
   by_cases h1 : lastK z i < z i
   ·have h1' : ¬ z i ≤ lastK z i := by omega
    by_cases h2 : z i < 16
    ·have h2' : ¬ 16 ≤ z i := by omega
     have HN : Hid (KOk z (i + 1)) := fun j hj => by
      by_cases e : j = i
      ·subst e; exact ⟨h1, h2⟩
      ·exact HK.out j (by omega)
     have e1 := lastK_succ z i
     generalize lastK z i = q at *
     go_wp2
     go_roundw
     case rel => exact ⟨i + 1, by omega, by rw [e1], by go_num, HN.out, hb⟩
     case measure => simp [intOf]; omega
    ·have h2' : 16 ≤ z i := by omega
     have HN : Hid (¬ KOk z n) := fun hk => h2 (hk i hlt).2
     generalize lastK z i = q at *
     go_wp2
     go_ret
     exact ⟨by simp [HN.out], hb⟩
   ·have h1' : z i ≤ lastK z i := by omega
    have HN : Hid (¬ KOk z n) := fun hk => h1 (hk i hlt).1
    generalize lastK z i = q at *
    go_wp2
    go_ret
    exact ⟨by simp [HN.out], hb⟩
  ·obtain rfl : i = n := by omega
   have hnn : ¬ ((i : Int) < i) := by omega
   have hk := HK.out
   go_wp2
   go_ret
   exact ⟨by simp, hb⟩
set_option maxHeartbeats 800000 in
theorem mayBe_anyX (x : Bv) (ka : Option Addr) (kc : Nat) (w : World) (h : IsAt w ka x.n x.z) (hn : x.n ≤ 17592186043904) :
  Calls Tryz.prog 124 #[.agg (bv x ka kc)] w fun e w' => e = .returned (.bool (decide (BOk x))) ∧ Below w.heap.size w w' := by
 have HI : Hid (IsAt (w.alloc (.cells (bv x ka kc) 164)) ka x.n x.z) := h.below ((Below.refl _ w).alloc (Nat.le_refl _) _)
 have hb0 : Below w.heap.size w (w.alloc (.cells (bv x ka kc) 164)) := (Below.refl _ w).alloc (Nat.le_refl _) _
 have hs0 : w.heap.size + 1 = (w.alloc (.cells (bv x ka kc) 164)).heap.size := by simp
 obtain ⟨c0, c33, c34⟩ := bbox_of (heap_alloc_new w (.cells (bv x ka kc) 164))
 have hk := keys_anyX ka x.n kc x.z _ HI.out hn
 clear h
 go_enter Tryz.func124, Tryz.ntmps124
 go_wp2_with (first | (refine Go.Great.wpList_boxTo rfl _ _ rfl _ rfl _ rfl (bv x ka kc) rfl ?_) | fail)
 generalize w.alloc (.cells (bv x ka kc) 164) = W0 at *
 have W0lt : w.heap.size < W0.heap.size := by omega
 have kc33 : ∀ w1, Below W0.heap.size W0 w1 → w1.cell? ⟨w.heap.size, 33, none⟩ = some (.int .i64 x.af) := fun w1 hb => by rw [hb.cell (p := ⟨w.heap.size, 33, none⟩) W0lt]; exact c33
 have kc34 : ∀ w1, Below W0.heap.size W0 w1 → w1.cell? ⟨w.heap.size, 34, none⟩ = some (.int .i64 x.ol) := fun w1 hb => by rw [hb.cell (p := ⟨w.heap.size, 34, none⟩) W0lt]; exact c34
 clear c33 c34 HI
 by_cases h1 : KOk x.z x.n ∧ 0 < x.n
 ·have e1 : decide (KOk x.z x.n ∧ 0 < x.n) = true := by simp [h1]
  rw [e1] at hk
  by_cases h2 : 0 ≤ x.af ∧ x.af ≤ 1099511627776
  ·have e2 : decide (0 ≤ x.af ∧ x.af ≤ 1099511627776) = true := by simp [h2]
   have HE : Hid (decide (BOk x) = decide (0 ≤ x.ol ∧ x.ol ≤ 65536)) := by show _ = _; simp [BOk, h1, h2]
   have hw1 := within_any x.af 1099511627776
   rw [e2] at hw1
   have hw2 := within_any x.ol 65536
   generalize decide (0 ≤ x.ol ∧ x.ol ≤ 65536) = r at *
   clear e1 e2 h1 h2
   go_wp2_with fail
   refine hk.mono ?_
   rintro e w1 ⟨rfl, hb1⟩
   have d33 := kc33 w1 hb1
   have d34 := kc34 w1 hb1
   clear kc33 kc34 hk
   go_wp2_with fail
   refine (hw1 w1).mono ?_
   rintro e w2 ⟨rfl, rfl⟩
   go_wp2_with fail
   refine (hw2 _).mono ?_
   rintro e w3 ⟨rfl, rfl⟩
   go_wp2
   go_ret
   exact ⟨by rw [HE.out]; rfl, Below.trans hb0 (hb1.mono (by omega))⟩
  ·have e2 : decide (0 ≤ x.af ∧ x.af ≤ 1099511627776) = false := by simp only [decide_eq_false_iff_not]; exact h2
   have HE : Hid (decide (BOk x) = false) := by show _ = _; simp only [decide_eq_false_iff_not]; exact fun h => h2 h.2.1
   have hw1 := within_any x.af 1099511627776
   rw [e2] at hw1
   clear e1 e2 h1 h2
   go_wp2_with fail
   refine hk.mono ?_
   rintro e w1 ⟨rfl, hb1⟩
   have d33 := kc33 w1 hb1
   clear kc33 kc34 hk
   go_wp2_with fail
   refine (hw1 w1).mono ?_
   rintro e w2 ⟨rfl, rfl⟩
   go_wp2
   go_ret
   exact ⟨by rw [HE.out]; rfl, Below.trans hb0 (hb1.mono (by omega))⟩
 ·have e1 : decide (KOk x.z x.n ∧ 0 < x.n) = false := by simp only [decide_eq_false_iff_not]; exact h1
  rw [e1] at hk
  have HE : Hid (decide (BOk x) = false) := by show _ = _; simp only [decide_eq_false_iff_not]; exact fun h => h1 h.1
  clear e1 h1 kc33 kc34
  go_wp2_with fail
  refine hk.mono ?_
  rintro e w1 ⟨rfl, hb1⟩
  clear hk
  go_wp2
  go_ret
  exact ⟨by rw [HE.out]; rfl, Below.trans hb0 (hb1.mono (by omega))⟩
set_option maxHeartbeats 800000 in
theorem bad_anyX (x : Bv) (ka : Option Addr) (kc : Nat) (w : World) (h : IsAt w ka x.n x.z) (hn : x.n ≤ 17592186043904) :
  Calls Tryz.prog 123 #[.agg (bv x ka kc)] w fun e w' => e = .returned (.bool (!decide (BOk x))) ∧ Below w.heap.size w w' := by
 have hI := h.below ((Below.refl _ w).alloc (Nat.le_refl _) (.cells (bv x ka kc) 164))
 have hb0 : Below w.heap.size w (w.alloc (.cells (bv x ka kc) 164)) := (Below.refl _ w).alloc (Nat.le_refl _) _
 have hbx := heap_alloc_new w (.cells (bv x ka kc) 164)
 have hm := mayBe_anyX x ka kc _ hI hn
 clear h hI
 generalize decide (BOk x) = r at *
 go_enter Tryz.func123, Tryz.ntmps123
 go_wp2_with (first | (refine Go.Great.wpList_boxTo rfl _ _ rfl _ rfl _ rfl (bv x ka kc) rfl ?_) | (refine wpList_load_row rfl 164 _ rfl w.heap.size rfl _ (bv x ka kc) _ _ hbx Tryz.underlying164 rfl (szBv x ka kc) ?_) | (go_at_call 124; refine hm.mono ?_; rintro e w1 ⟨rfl, hb1⟩) | fail)
 go_ret
 exact ⟨rfl, Below.trans hb0 (hb1.mono hb0.size)⟩
set_option maxHeartbeats 1600000 in
theorem index_anyX (ad : Option Addr) (n cap : Nat) (X : Nat → Bv) (w : World) (h : BrAt w ad n X) (hn : n ≤ 1000000) (hx : ∀ i, i < n → (X i).n ≤ 17592186043904) :
  Calls Tryz.prog 138 #[.slice ad n cap, .func (.func 123) #[] #[]] w fun e w' => (∃ q : Int, e = .returned (.int .i64 q) ∧ decide (q ≥ 0) = !decide (AllOk X n)) ∧ Below w.heap.size w w' := by
 have HB : Hid (BrAt w ad n X) := h
 have hb0 := Below.refl w.heap.size w
 have eg : ∀ args w, (callFunc 123 args).run Tryz.prog w = .ok (.enter 123 args) w := enters_of Tryz.func123 (by kernel_rfl) rfl
 clear h
 go_enter Tryz.func138, Tryz.ntmps138
 go_wp2
 go_loopw [5, 8] (fun _ iv wr => ∃ i : Nat, i ≤ n ∧ iv = .int .i64 i ∧ AllOk X i ∧ Below w.heap.size w wr) (fun _ iv _ => n + 1 - (intOf iv).toNat)
 case atStart => exact ⟨0, by omega, rfl, fun j hj => by omega, hb0⟩
 case round =>
  clear hb0
  obtain ⟨i, hi, rfl, hk, hb⟩ := hrel
  have HK : Hid (AllOk X i) := hk
  clear hk
  by_cases hlt : i < n
  ·have hlt' : (i : Int) < n := by omega
   obtain ⟨b, off, rfl, hc⟩ := HB.out.at_ (by omega)
   obtain ⟨ka, kc, hr0, hI0⟩ := hc i hlt
   have HR : Hid (wr.rangeAt b (off + i * 35) (brl (X i) ka kc)) := range_below hr0 hb
   have hcall := bad_anyX (X i) ka kc wr (hI0.below hb) (hx i hlt)
   clear hc hr0 hI0
   by_cases hq : BOk (X i)
   ·have e1 : decide (BOk (X i)) = true := by simp [hq]
    rw [e1] at hcall
    have HN : Hid (AllOk X (i + 1)) := fun j hj => by
     by_cases e : j = i
     ·subst e; exact hq
     ·exact HK.out j (by omega)
    clear e1 hq
    go_wp2_with (first | (refine wpList_load_mid rfl 164 _ rfl b (off + i * 35) rfl (brl (X i) ka kc) _ HR.out Tryz.underlying164 rfl (szBl _ _ _) ?_) | (go_at_fn 123; refine hcall.mono ?_; rintro e w1 ⟨rfl, hb1⟩) | fail)
    go_roundw
    case rel => exact ⟨i + 1, by omega, by go_num, HN.out, hb.trans (hb1.mono hb.size)⟩
    case measure => simp [intOf]; omega
   ·have e1 : decide (BOk (X i)) = false := by simpa using hq
    rw [e1] at hcall
    have HN : Hid (¬ AllOk X n) := fun h => hq (h i hlt)
    clear e1 hq
    go_wp2_with (first | (refine wpList_load_mid rfl 164 _ rfl b (off + i * 35) rfl (brl (X i) ka kc) _ HR.out Tryz.underlying164 rfl (szBl _ _ _) ?_) | (go_at_fn 123; refine hcall.mono ?_; rintro e w1 ⟨rfl, hb1⟩) | fail)
    go_ret
    refine ⟨⟨_, rfl, ?_⟩, hb.trans (hb1.mono hb.size)⟩
    have := HN.out
    simp [this]
  ·obtain rfl : i = n := by omega
   have hnn : ¬ ((i : Int) < i) := by omega
   have hk := HK.out
   go_wp2
   go_ret
   refine ⟨⟨_, rfl, ?_⟩, hb⟩
   simp
set_option maxHeartbeats 800000 in
theorem contains_anyX (ad : Option Addr) (n cap : Nat) (X : Nat → Bv) (w : World) (h : BrAt w ad n X) (hn : n ≤ 1000000) (hx : ∀ i, i < n → (X i).n ≤ 17592186043904) :
  Calls Tryz.prog 125 #[.slice ad n cap, .func (.func 123) #[] #[]] w fun e w' => e = .returned (.bool (!decide (AllOk X n))) ∧ Below w.heap.size w w' := by
 have hi := index_anyX ad n cap X w h hn hx
 clear h
 generalize (!decide (AllOk X n)) = r at *
 go_enter Tryz.func125, Tryz.ntmps125
 go_wp2_with (go_at_call 138; refine hi.mono ?_; rintro e w1 ⟨⟨q, rfl, hq⟩, hb1⟩)
 all_goals (go_ret; exact ⟨by simp_all, hb1⟩)
set_option maxHeartbeats 1600000 in
theorem check_anyX (ad : Option Addr) (n cap : Nat) (X : Nat → Bv) (w : World) (h : BrAt w ad n X) (hn : n ≤ 1000000) (hx : ∀ i, i < n → (X i).n ≤ 17592186043904) :
  Calls Tryz.prog 106 #[.agg #[.slice ad n cap]] w fun e w' => e = .returned (errV (chkE X n)) ∧ Below w.heap.size w w' := by
 have hI := h.below ((Below.refl _ w).alloc (Nat.le_refl _) (.cells #[.slice ad n cap] 93))
 have hb0 : Below w.heap.size w (w.alloc (.cells #[.slice ad n cap] 93)) := (Below.refl _ w).alloc (Nat.le_refl _) _
 have hm := contains_anyX ad n cap X _ hI hn hx
 clear h hI
 by_cases h1 : n < 1
 ·have h1' : (n : Int) < 1 := by omega
  have HE : Hid (chkE X n = 1) := if_neg (fun h => by have := h.1; omega)
  clear hm
  go_enter Tryz.func106, Tryz.ntmps106
  go_wp2
  go_ret
  exact ⟨by rw [HE.out]; rfl, hb0⟩
 ·have h1' : ¬ (n : Int) < 1 := by omega
  by_cases h2 : 8 < n
  ·have h2' : (8 : Int) < n := by omega
   have HE : Hid (chkE X n = 1) := if_neg (fun h => by have := h.1; omega)
   clear hm
   go_enter Tryz.func106, Tryz.ntmps106
   go_wp2
   go_ret
   exact ⟨by rw [HE.out]; rfl, hb0⟩
  ·have h2' : ¬ (8 : Int) < n := by omega
   by_cases h3 : AllOk X n
   ·have e1 : decide (AllOk X n) = true := by simp [h3]
    rw [e1] at hm
    have HE : Hid (chkE X n = 0) := if_pos ⟨by omega, h3⟩
    clear e1 h3
    go_enter Tryz.func106, Tryz.ntmps106
    go_wp2_with (go_at_call 125; refine hm.mono ?_; rintro e w1 ⟨rfl, hb1⟩)
    go_ret
    exact ⟨by rw [HE.out]; rfl, hb0.trans (hb1.mono hb0.size)⟩
   ·have e1 : decide (AllOk X n) = false := by simpa using h3
    rw [e1] at hm
    have HE : Hid (chkE X n = 1) := if_neg (fun h => h3 h.2)
    clear e1 h3
    go_enter Tryz.func106, Tryz.ntmps106
    go_wp2_with (go_at_call 125; refine hm.mono ?_; rintro e w1 ⟨rfl, hb1⟩)
    go_ret
    exact ⟨by rw [HE.out]; rfl, hb0.trans (hb1.mono hb0.size)⟩
end Go.Proofs.YtjnepkggdkccaaaGreatDoor.Cd
/- Outputs whose branches have any number of keys. -/
namespace Go.Proofs.YtjnepkggdkccaaaGreatDoor
open Go.RowKit

/-- Its branches are few; their keys need not be. -/
def To.Big (x : To) : Prop := x.cn ≤ 1000000 ∧ ∀ i, i < x.cn → (x.X i).n ≤ 17592186043904
theorem To.Small.big {x : To} (h : x.Small) : x.Big := ⟨h.1, fun i hi => by have := h.2 i hi; omega⟩
set_option maxHeartbeats 1600000 in
theorem checkOut_anyX (x : To) (ca : Option Addr) (cc : Nat) (w : World) (h : Cd.BrAt w ca x.cn x.X) (hs : x.Big) :
  Calls Tryz.prog 83 #[.agg (tov x ca cc)] w fun e w' => e = .returned (errV (outE x)) ∧ Below w.heap.size w w' := by
 have hb0 : Below w.heap.size w (w.alloc (.cells #[.int .i64 x.am, .slice ca x.cn cc] 95)) := (Below.refl _ w).alloc (Nat.le_refl _) _
 have hc := Cd.check_anyX ca x.cn cc x.X _ (h.below hb0) hs.1 hs.2
 clear h
 unfold tov
 by_cases h1 : x.am < 10
 ·have HE : Hid (outE x = 27) := if_pos h1
  clear hc
  go_enter Tryz.func83, Tryz.ntmps83
  go_wp2
  go_ret
  exact ⟨by rw [HE.out]; rfl, hb0⟩
 ·by_cases h2 : 1125899906842624 < x.am
  ·have HE : Hid (outE x = 5) := by unfold outE; rw [if_neg h1, if_pos h2]; exact rfl
   clear hc
   go_enter Tryz.func83, Tryz.ntmps83
   go_wp2
   go_ret
   exact ⟨by rw [HE.out]; rfl, hb0⟩
  ·have HE : Hid (outE x = Cd.chkE x.X x.cn) := by unfold outE; rw [if_neg h1, if_neg h2]; exact rfl
   go_enter Tryz.func83, Tryz.ntmps83
   go_wp2_with fail
   refine hc.mono ?_
   rintro e w1 ⟨rfl, hb1⟩
   have HB : Hid (Below w.heap.size w w1) := hb0.trans (hb1.mono hb0.size)
   clear hb0 hb1 hc
   go_wp2
   go_ret
   exact ⟨by rw [HE.out]; rfl, HB.out⟩
end Go.Proofs.YtjnepkggdkccaaaGreatDoor
/- The document's Check of any transaction, whatever its keys are. -/
namespace Go.Proofs.YtjnepkggdkccaaaGreatDoor
open Go.RowKit

set_option maxRecDepth 100000 in
set_option maxHeartbeats 6400000 in
theorem rkcheck_anyX (lk : Int) (ia : Option Addr) (n ic : Nat) (oa : Option Addr) (m oc : Nat) (X : Nat → Ti) (S : Nat → Option Addr × Nat) (O : Nat → To) (w : World) (h : TiAt w ia n X S) (ho : ToAt w oa m O) (hs : ∀ i, i < m → (O i).Big) (hn : n ≤ 1000000) (hm : m ≤ 1000000) :
  Calls Tryz.prog 54 #[.agg (txv lk ia n ic oa m oc)] w fun e w' => e = .returned (.int .i64 (txE lk n X m O)) ∧ Below w.heap.size w w' := by
 have HH : Hid (TiAt w ia n X S ∧ ToAt w oa m O ∧ ∀ i, i < m → (O i).Big) := ⟨h, ho, hs⟩
 clear h ho hs
 unfold txv
 go_enter Tryz.func54, Tryz.ntmps54
 go_upto_region 1 with (first | (refine wpList_boxN rfl _ _ rfl #[.int .i64 lk, .slice ia n ic, .slice oa m oc] rfl ?_; intro W0 N0) | fail)
 have HB0 := hidV N0.below
 have HC : Hid (∀ w', Below W0.heap.size W0 w' → w'.heap[w.heap.size]? = some (.cells #[.int .i64 lk, .slice ia n ic, .slice oa m oc] 58 (0, 0))) := fun w' hb => heap_below hb N0.blk
 have HC1 : Hid (∀ w', Below W0.heap.size W0 w' → w'.cell? ⟨w.heap.size, 1, none⟩ = some (.slice ia n ic)) := fun w' hb => by rw [cell_of_row _ _ 1 _ _ _ (HC.out w' hb)]; rfl
 have HC2 : Hid (∀ w', Below W0.heap.size W0 w' → w'.cell? ⟨w.heap.size, 2, none⟩ = some (.slice oa m oc)) := fun w' hb => by rw [cell_of_row _ _ 2 _ _ _ (HC.out w' hb)]; rfl
 have c0 : W0.cell? ⟨w.heap.size, 0, none⟩ = some (.int .i64 lk) := by rw [cell_of_row _ _ 0 _ _ _ N0.blk]; rfl
 have c1 := HC1.out W0 (Below.refl _ _)
 have c2 := HC2.out W0 (Below.refl _ _)
 clear N0
 by_cases hN : NumOk lk n m
 ·have HN := hidV hN
  obtain ⟨⟨a1, a2⟩, ⟨a3, a4⟩, a5, a6⟩ := hN
  have b1 : ¬ lk < 0 := by omega
  have b2 : ¬ 1099511627776 < lk := by omega
  have b3 : ¬ (n : Int) < 1 := by omega
  have b4 : ¬ 64 < (n : Int) := by omega
  have b5 : ¬ (m : Int) < 1 := by omega
  have b6 : ¬ 64 < (m : Int) := by omega
  go_upto_region 3 with fail
  clear c0 c1 c2 a1 a2 a3 a4 a5 a6 b1 b2 b3 b4 b5 b6
  go_wp2
  go_loopw [2, 3, 4] (fun ev iv _ wr => ∃ i : Nat, i ≤ n ∧ ev = .int .i64 0 ∧ iv = .int .i64 i ∧ InsOk X i ∧ Below W0.heap.size W0 wr) (fun _ iv _ _ => n + 1 - (intOf iv).toNat)
  case atStart => exact ⟨0, by omega, rfl, rfl, fun j hj => by omega, Below.refl _ _⟩
  case round =>
   obtain ⟨i, hi, rfl, rfl, hk, hb⟩ := hrel
   have HK := hidV hk
   have HB := hidV hb
   clear hk hb
   by_cases hlt : i < n
   ·have hlt' : (i : Int) < n := by omega
    obtain ⟨b, off, rfl, hc⟩ := HH.out.1.at_ (by omega)
    have HR : Hid (wr.rangeAt b (off + i * 35) (til (X i) (S i).1 (S i).2)) := range_below (hc i hlt) (Below.transS HB0.out HB.out)
    have c1 := HC1.out wr HB.out
    clear hc
    go_upto_region 7 with (first | (refine wpList_load_mid rfl 79 _ rfl b (off + i * 35) rfl (til (X i) (S i).1 (S i).2) _ HR.out Tryz.underlying79 rfl (szTilR _ _ _) ?_) | (refine wpList_allocN 79 (tiv ti0 none 0) run_allocTiR rfl rfl ?_; intro z1 N1) | (refine wpList_storeG 79 szTiR rfl _ _ rfl wr.heap.size rfl (tiv (X i) (S i).1 (S i).2) (tiv ti0 none 0) (tiv_size _ _ _) (tiv_size _ _ _) (tiv_one _ _ _) 79 rfl N1.blk ?_; intro z2 hg2 hf2; have HZ2 : Hid (Below wr.heap.size wr z2) := N1.below.trans (hf2.below N1.below.size (by simp)); have d32 : z2.cell? ⟨wr.heap.size, 32, none⟩ = some (.int .i64 (X i).n) := cell_list hg2 (til_32 _ _ _); have d33 : z2.cell? ⟨wr.heap.size, 33, none⟩ = some (.int .i64 (X i).br) := cell_list hg2 (til_33 _ _ _); have d34 : z2.cell? ⟨wr.heap.size, 34, none⟩ = some (.slice (S i).1 (X i).sn (S i).2) := cell_list hg2 (til_34 _ _ _); clear N1 hf2 hg2) | fail)
    have HB2 : Hid (Below W0.heap.size W0 z2) := Below.transS HB.out HZ2.out
    clear HR c1
    by_cases hq : InOk (X i)
    ·have HN2 : Hid (InsOk X (i + 1)) := fun j hj => by
      by_cases e : j = i
      ·subst e; exact hq
      ·exact HK.out j (by omega)
     obtain ⟨⟨q1, q2⟩, ⟨q3, q4⟩, q5⟩ := hq
     have e1 : ¬ (X i).n < 0 := by omega
     have e2 : ¬ 63 < (X i).n := by omega
     have e3 : ¬ (X i).br < 0 := by omega
     have e4 : ¬ 7 < (X i).br := by omega
     have e5 : ¬ (64 : Int) < ((X i).sn : Int) := by omega
     go_wp2
     go_roundw
     case rel => exact ⟨i + 1, by omega, rfl, by go_num, HN2.out, HB2.out⟩
     case measure => simp [intOf]; omega
    ·have HE : Hid (txE lk n X m O = 4) := by unfold txE; rw [if_neg (by simpa using HN.out), if_pos (fun h => hq (h i hlt))]; exact rfl
     have HQ2 := hidV hq
     have HBE : Hid (Below w.heap.size w z2) := Below.transS HB0.out HB2.out
     clear hq
     by_cases e1 : (X i).n < 0
     ·go_wp2
      go_ret
      exact ⟨by rw [HE.out]; rfl, HBE.out⟩
     ·by_cases e2 : 63 < (X i).n
      ·go_wp2
       go_ret
       exact ⟨by rw [HE.out]; rfl, HBE.out⟩
      ·by_cases e3 : (X i).br < 0
       ·go_wp2
        go_ret
        exact ⟨by rw [HE.out]; rfl, HBE.out⟩
       ·by_cases e4 : 7 < (X i).br
        ·go_wp2
         go_ret
         exact ⟨by rw [HE.out]; rfl, HBE.out⟩
        ·have e5 : (64 : Int) < ((X i).sn : Int) := by
          have := HQ2.out
          unfold InOk at this
          omega
         go_wp2
         go_ret
         exact ⟨by rw [HE.out]; rfl, HBE.out⟩
   ·obtain rfl : i = n := by omega
    have hnn : ¬ ((i : Int) < i) := by omega
    have c1 := HC1.out wr HB.out
    go_wp2
    clear c1 hnn
    have HI := hidV HK.out
    have HBw := hidV HB.out
    clear HK HB
    go_loopw [2, 5, 6] (fun ev iv _ wr => ∃ j : Nat, j ≤ i ∧ ev = .int .i64 0 ∧ iv = .int .i64 j ∧ Apart X j ∧ Below W0.heap.size W0 wr) (fun _ iv _ _ => i + 1 - (intOf iv).toNat)
    case atStart => exact ⟨0, by omega, rfl, rfl, fun j hj => by omega, HBw.out⟩
    case round =>
     rename_i wo _ _ _
     obtain ⟨j, hj, rfl, rfl, hk, hb⟩ := hrel
     have HK := hidV hk
     have HB := hidV hb
     clear hk hb
     by_cases hlt : j < i
     ·have hlt' : (j : Int) < i := by omega
      have c1 := HC1.out _ HB.out
      go_wp2
      clear c1
      go_loopw [2, 6] (fun ev kv wq => ∃ k : Nat, k ≤ j ∧ ev = .int .i64 0 ∧ kv = .int .i64 k ∧ (∀ q, q < k → keyT (X j) ≠ keyT (X q)) ∧ Below W0.heap.size W0 wq) (fun _ kv _ => j + 1 - (intOf kv).toNat)
      case atStart => exact ⟨0, by omega, rfl, rfl, fun q hq => by omega, HB.out⟩
      case round =>
       obtain ⟨k, hkj, rfl, rfl, hk, hb⟩ := hrel
       have HK2 := hidV hk
       have HB2 := hidV hb
       clear hk hb
       by_cases hk2 : k < j
       ·have hk2' : (k : Int) < j := by omega
        obtain ⟨b, off, rfl, hc⟩ := HH.out.1.at_ (by omega)
        have HS : Hid (∀ w', Below W0.heap.size W0 w' → w'.cell? ⟨w.heap.size, 1, none⟩ = some (.slice (some ⟨b, off, none⟩) i ic) ∧ w'.rangeAt b (off + j * 35) (ptl (X j).pt (X j).n) ∧ w'.rangeAt b (off + k * 35) (ptl (X k).pt (X k).n)) := fun w' hb => ⟨HC1.out w' hb, pt_range (range_below (hc j (by omega)) (Below.transS HB0.out hb)), pt_range (range_below (hc k (by omega)) (Below.transS HB0.out hb))⟩
        have hbj : Kp.Ib (X j).n ∧ Kp.Ib (X k).n := by
         have h1 := (HI.out j (by omega)).1
         have h2 := (HI.out k (by omega)).1
         unfold Kp.Ib
         omega
        have hzj := HH.out.1.pt j (by omega)
        have hzk := HH.out.1.pt k (by omega)
        have HBJ := hidV (And.intro hbj (And.intro hzj hzk))
        clear hc hbj hzj hzk
        go_wp2_with fail
        refine wp_region_noPanic ?_
        refine wp_region_held_drew (S := fun w' => w'.cell? ⟨w.heap.size, 1, none⟩ = some (.slice (some ⟨b, off, none⟩) i ic) ∧ w'.rangeAt b (off + j * 35) (ptl (X j).pt (X j).n) ∧ w'.rangeAt b (off + k * 35) (ptl (X k).pt (X k).n)) (by kernel_rfl) (HS.out _ (Below.transS HB2.out (Below.refl _ _).drew)) (fun hHeld => ?_)
        have HBd := hidV (Below.transS HB2.out (Below.refl _ _).drew)
        have hlj : (j : Int) < (i : Int) := hlt'
        have hki : (k : Int) < (i : Int) := by omega
        by_cases he : keyT (X j) = keyT (X k)
        ·have HD : Hid (decide (((X j).n, ub (X j).pt) = ((X k).n, ub (X k).pt)) = true) := by show _ = _; exact decide_eq_true he
         have HE : Hid (txE lk i X m O = 9) := by unfold txE; rw [if_neg (by simpa using HN.out), if_neg (by simpa using HI.out), if_pos (fun h => h j hlt k hk2 he)]; exact rfl
         clear he
         refine wpT (i := 0) (oi := ⟨some 93, .fieldAddr 58 (.tmp 1) 1, 0, _, _, none⟩) (v := ?_) rfl (by kernel_rfl) (fun _ _ _ h => h) (Or.inl ⟨by rfl, ?_⟩) (by assumption) ?_
         rotate_left
         ·intro wz hSw; (try dsimp only at hSw); go_simp; (try with_reducible rfl)
         try simp only [Act.put, zA, zB, zC]
         refine wpT (i := 1) (oi := ⟨some 94, .load 55 (.tmp 93), 55, _, _, none⟩) (v := ?_) rfl (by kernel_rfl) (fun _ _ _ h => h) (Or.inl ⟨by rfl, ?_⟩) (by assumption) ?_
         rotate_left
         ·intro wz hSw; (try dsimp only at hSw); go_simp; (try with_reducible rfl)
         try simp only [Act.put, zA, zB, zC]
         refine wpT (i := 2) (oi := ⟨some 95, .move (.tmp 5), 3, _, _, none⟩) (v := ?_) rfl (by kernel_rfl) (fun _ _ _ h => h) (Or.inl ⟨by rfl, ?_⟩) (by assumption) ?_
         rotate_left
         ·intro wz hSw; (try dsimp only at hSw); go_simp; (try with_reducible rfl)
         try simp only [Act.put, zA, zB, zC]
         refine wpT (i := 3) (oi := ⟨some 96, .indexAddr 55 (.tmp 94) (.tmp 95), 0, _, _, none⟩) (v := ?_) rfl (by kernel_rfl) (fun _ _ _ h => h) (Or.inl ⟨by rfl, ?_⟩) (by assumption) ?_
         rotate_left
         ·intro wz hSw; (try dsimp only at hSw); go_simp; (try with_reducible rfl)
         try simp only [Act.put, zA, zB, zC]
         refine wpT (i := 4) (oi := ⟨some 97, .fieldAddr 79 (.tmp 96) 0, 0, _, _, none⟩) (v := ?_) rfl (by kernel_rfl) (fun _ _ _ h => h) (Or.inl ⟨by rfl, ?_⟩) (by assumption) ?_
         rotate_left
         ·intro wz hSw; (try dsimp only at hSw); go_simp; (try with_reducible rfl)
         try simp only [Act.put, zA, zB, zC]
         refine wpT (i := 6) (oi := ⟨some 99, .fieldAddr 58 (.tmp 1) 1, 0, _, _, none⟩) (v := ?_) rfl (by kernel_rfl) (fun _ _ _ h => h) (Or.inl ⟨by rfl, ?_⟩) (by assumption) ?_
         rotate_left
         ·intro wz hSw; (try dsimp only at hSw); go_simp; (try with_reducible rfl)
         try simp only [Act.put, zA, zB, zC]
         refine wpT (i := 7) (oi := ⟨some 100, .load 55 (.tmp 99), 55, _, _, none⟩) (v := ?_) rfl (by kernel_rfl) (fun _ _ _ h => h) (Or.inl ⟨by rfl, ?_⟩) (by assumption) ?_
         rotate_left
         ·intro wz hSw; (try dsimp only at hSw); go_simp; (try with_reducible rfl)
         try simp only [Act.put, zA, zB, zC]
         refine wpT (i := 8) (oi := ⟨some 101, .move (.tmp 6), 3, _, _, none⟩) (v := ?_) rfl (by kernel_rfl) (fun _ _ _ h => h) (Or.inl ⟨by rfl, ?_⟩) (by assumption) ?_
         rotate_left
         ·intro wz hSw; (try dsimp only at hSw); go_simp; (try with_reducible rfl)
         try simp only [Act.put, zA, zB, zC]
         refine wpT (i := 9) (oi := ⟨some 102, .indexAddr 55 (.tmp 100) (.tmp 101), 0, _, _, none⟩) (v := ?_) rfl (by kernel_rfl) (fun _ _ _ h => h) (Or.inl ⟨by rfl, ?_⟩) (by assumption) ?_
         rotate_left
         ·intro wz hSw; (try dsimp only at hSw); go_simp; (try with_reducible rfl)
         try simp only [Act.put, zA, zB, zC]
         refine wpT (i := 10) (oi := ⟨some 103, .fieldAddr 79 (.tmp 102) 0, 0, _, _, none⟩) (v := ?_) rfl (by kernel_rfl) (fun _ _ _ h => h) (Or.inl ⟨by rfl, ?_⟩) (by assumption) ?_
         rotate_left
         ·intro wz hSw; (try dsimp only at hSw); go_simp; (try with_reducible rfl)
         try simp only [Act.put, zA, zB, zC]
         refine wpAnyH_take (i := 5) (oi := ⟨some 98, .load 25 (.tmp 97), 25, _, _, none⟩) rfl (by kernel_rfl) (by kernel_rfl) (by kernel_rfl) (fun _ _ _ h => h) (yieldsIf_load_mid (by rfl) _ _ rfl b (off + j * 35) rfl (ptl (X j).pt (X j).n) _ (fun _ h => h.2.1) Tryz.underlying25 rfl (szPtlR _ _)) (by assumption) ?_
         try simp only [Act.put, zA, zB, zC]
         refine wpAnyH_take (i := 11) (oi := ⟨some 104, .load 25 (.tmp 103), 25, _, _, none⟩) rfl (by kernel_rfl) (by kernel_rfl) (by kernel_rfl) (fun _ _ _ h => h) (yieldsIf_load_mid (by rfl) _ _ rfl b (off + k * 35) rfl (ptl (X k).pt (X k).n) _ (fun _ h => h.2.2) Tryz.underlying25 rfl (szPtlR _ _)) (by assumption) ?_
         try simp only [Act.put, zA, zB, zC]
         refine wpT (i := 12) (oi := ⟨some 105, .binOp .eql 25 (.tmp 98) (.tmp 104) 25, 4, _, _, none⟩) (v := .bool true) rfl (by kernel_rfl) (fun _ _ _ h => h) (Or.inl ⟨by rfl, ?_⟩) (by assumption) ?_
         ·intro wz hSw; (try dsimp only at hSw); exact exec_eqPt _ _ rfl HBJ.out.1.1 HBJ.out.2.1 HBJ.out.1.2 HBJ.out.2.2 true HD.out rfl rfl wz
         try simp only [Act.put, zA, zB, zC]
         refine wpAnyH_done (by kernel_rfl) (NoPanic.normal ?_) _
         try simp only [Act.put, zA, zB, zC]
         clear hHeld
         go_wp2
         go_ret
         exact ⟨by rw [HE.out]; rfl, Below.transS HB0.out HBd.out⟩
        ·have HD : Hid (decide (((X j).n, ub (X j).pt) = ((X k).n, ub (X k).pt)) = false) := by show _ = _; exact decide_eq_false he
         have HN2 : Hid (∀ q, q < k + 1 → keyT (X j) ≠ keyT (X q)) := fun q hq => by
          by_cases e : q = k
          ·subst e; exact he
          ·exact HK2.out q (by omega)
         clear he
         refine wpT (i := 0) (oi := ⟨some 93, .fieldAddr 58 (.tmp 1) 1, 0, _, _, none⟩) (v := ?_) rfl (by kernel_rfl) (fun _ _ _ h => h) (Or.inl ⟨by rfl, ?_⟩) (by assumption) ?_
         rotate_left
         ·intro wz hSw; (try dsimp only at hSw); go_simp; (try with_reducible rfl)
         try simp only [Act.put, zA, zB, zC]
         refine wpT (i := 1) (oi := ⟨some 94, .load 55 (.tmp 93), 55, _, _, none⟩) (v := ?_) rfl (by kernel_rfl) (fun _ _ _ h => h) (Or.inl ⟨by rfl, ?_⟩) (by assumption) ?_
         rotate_left
         ·intro wz hSw; (try dsimp only at hSw); go_simp; (try with_reducible rfl)
         try simp only [Act.put, zA, zB, zC]
         refine wpT (i := 2) (oi := ⟨some 95, .move (.tmp 5), 3, _, _, none⟩) (v := ?_) rfl (by kernel_rfl) (fun _ _ _ h => h) (Or.inl ⟨by rfl, ?_⟩) (by assumption) ?_
         rotate_left
         ·intro wz hSw; (try dsimp only at hSw); go_simp; (try with_reducible rfl)
         try simp only [Act.put, zA, zB, zC]
         refine wpT (i := 3) (oi := ⟨some 96, .indexAddr 55 (.tmp 94) (.tmp 95), 0, _, _, none⟩) (v := ?_) rfl (by kernel_rfl) (fun _ _ _ h => h) (Or.inl ⟨by rfl, ?_⟩) (by assumption) ?_
         rotate_left
         ·intro wz hSw; (try dsimp only at hSw); go_simp; (try with_reducible rfl)
         try simp only [Act.put, zA, zB, zC]
         refine wpT (i := 4) (oi := ⟨some 97, .fieldAddr 79 (.tmp 96) 0, 0, _, _, none⟩) (v := ?_) rfl (by kernel_rfl) (fun _ _ _ h => h) (Or.inl ⟨by rfl, ?_⟩) (by assumption) ?_
         rotate_left
         ·intro wz hSw; (try dsimp only at hSw); go_simp; (try with_reducible rfl)
         try simp only [Act.put, zA, zB, zC]
         refine wpT (i := 6) (oi := ⟨some 99, .fieldAddr 58 (.tmp 1) 1, 0, _, _, none⟩) (v := ?_) rfl (by kernel_rfl) (fun _ _ _ h => h) (Or.inl ⟨by rfl, ?_⟩) (by assumption) ?_
         rotate_left
         ·intro wz hSw; (try dsimp only at hSw); go_simp; (try with_reducible rfl)
         try simp only [Act.put, zA, zB, zC]
         refine wpT (i := 7) (oi := ⟨some 100, .load 55 (.tmp 99), 55, _, _, none⟩) (v := ?_) rfl (by kernel_rfl) (fun _ _ _ h => h) (Or.inl ⟨by rfl, ?_⟩) (by assumption) ?_
         rotate_left
         ·intro wz hSw; (try dsimp only at hSw); go_simp; (try with_reducible rfl)
         try simp only [Act.put, zA, zB, zC]
         refine wpT (i := 8) (oi := ⟨some 101, .move (.tmp 6), 3, _, _, none⟩) (v := ?_) rfl (by kernel_rfl) (fun _ _ _ h => h) (Or.inl ⟨by rfl, ?_⟩) (by assumption) ?_
         rotate_left
         ·intro wz hSw; (try dsimp only at hSw); go_simp; (try with_reducible rfl)
         try simp only [Act.put, zA, zB, zC]
         refine wpT (i := 9) (oi := ⟨some 102, .indexAddr 55 (.tmp 100) (.tmp 101), 0, _, _, none⟩) (v := ?_) rfl (by kernel_rfl) (fun _ _ _ h => h) (Or.inl ⟨by rfl, ?_⟩) (by assumption) ?_
         rotate_left
         ·intro wz hSw; (try dsimp only at hSw); go_simp; (try with_reducible rfl)
         try simp only [Act.put, zA, zB, zC]
         refine wpT (i := 10) (oi := ⟨some 103, .fieldAddr 79 (.tmp 102) 0, 0, _, _, none⟩) (v := ?_) rfl (by kernel_rfl) (fun _ _ _ h => h) (Or.inl ⟨by rfl, ?_⟩) (by assumption) ?_
         rotate_left
         ·intro wz hSw; (try dsimp only at hSw); go_simp; (try with_reducible rfl)
         try simp only [Act.put, zA, zB, zC]
         refine wpAnyH_take (i := 5) (oi := ⟨some 98, .load 25 (.tmp 97), 25, _, _, none⟩) rfl (by kernel_rfl) (by kernel_rfl) (by kernel_rfl) (fun _ _ _ h => h) (yieldsIf_load_mid (by rfl) _ _ rfl b (off + j * 35) rfl (ptl (X j).pt (X j).n) _ (fun _ h => h.2.1) Tryz.underlying25 rfl (szPtlR _ _)) (by assumption) ?_
         try simp only [Act.put, zA, zB, zC]
         refine wpAnyH_take (i := 11) (oi := ⟨some 104, .load 25 (.tmp 103), 25, _, _, none⟩) rfl (by kernel_rfl) (by kernel_rfl) (by kernel_rfl) (fun _ _ _ h => h) (yieldsIf_load_mid (by rfl) _ _ rfl b (off + k * 35) rfl (ptl (X k).pt (X k).n) _ (fun _ h => h.2.2) Tryz.underlying25 rfl (szPtlR _ _)) (by assumption) ?_
         try simp only [Act.put, zA, zB, zC]
         refine wpT (i := 12) (oi := ⟨some 105, .binOp .eql 25 (.tmp 98) (.tmp 104) 25, 4, _, _, none⟩) (v := .bool false) rfl (by kernel_rfl) (fun _ _ _ h => h) (Or.inl ⟨by rfl, ?_⟩) (by assumption) ?_
         ·intro wz hSw; (try dsimp only at hSw); exact exec_eqPt _ _ rfl HBJ.out.1.1 HBJ.out.2.1 HBJ.out.1.2 HBJ.out.2.2 false HD.out rfl rfl wz
         try simp only [Act.put, zA, zB, zC]
         refine wpAnyH_done (by kernel_rfl) (NoPanic.normal ?_) _
         try simp only [Act.put, zA, zB, zC]
         clear hHeld
         go_wp2
         go_roundw
         case rel => exact ⟨k + 1, by omega, rfl, by go_num, HN2.out, HBd.out⟩
         case measure => simp [intOf]; omega
       ·obtain rfl : k = j := by omega
        have hnn : ¬ ((k : Int) < k) := by omega
        have HN2 : Hid (Apart X (k + 1)) := fun p hp q hq => by
         by_cases e : p = k
         ·subst e; exact HK2.out q hq
         ·exact HK.out p (by omega) q hq
        go_wp2
        go_roundw
        case rel => exact ⟨k + 1, by omega, rfl, by go_num, HN2.out, HB2.out⟩
        case measure => simp [intOf]; omega
     ·obtain rfl : j = i := by omega
      have hnn : ¬ ((j : Int) < j) := by omega
      have c1 := HC1.out _ HB.out
      have HE : Hid (txE lk j X m O = if outsE O m ≠ 0 then outsE O m else totE O m) := by unfold txE; rw [if_neg (by simpa using HN.out), if_neg (by simpa using HI.out), if_neg (by simpa using HK.out)]; exact rfl
      go_wp2
      clear c1 hnn
      have HBw := hidV HB.out
      clear HB HK HI
      go_loopw [2, 7, 8] (fun ev iv _ wr => ∃ i : Nat, i ≤ m ∧ ev = .int .i64 0 ∧ iv = .int .i64 i ∧ outsE O i = 0 ∧ Below W0.heap.size W0 wr) (fun _ iv _ _ => m + 1 - (intOf iv).toNat)
      case atStart => exact ⟨0, by omega, rfl, rfl, rfl, HBw.out⟩
      case round =>
       obtain ⟨i, hi, rfl, rfl, hk, hb⟩ := hrel
       have HZ := hidV hk
       have HB := hidV hb
       clear hk hb
       have c2 := HC2.out _ HB.out
       by_cases hlt : i < m
       ·have hlt' : (i : Int) < m := by omega
        obtain ⟨b, off, rfl, hc⟩ := HH.out.2.1.at_ (by omega)
        obtain ⟨ca, cc, hr0, hbr, _⟩ := hc i hlt
        have hr1 := range_below hr0 (Below.transS HB0.out HB.out)
        have c0 : wr.cell? ⟨b, off + i * 2, none⟩ = some (.int .i64 (O i).am) := by simpa using hr1 0 _ rfl
        have HRc : Hid (wr.rangeAt b (off + i * 2 + 1) [.slice ca (O i).cn cc]) := fun q v hv => by
         have h1 := hr1 (q + 1) v (by simpa [tol] using hv)
         rw [show off + i * 2 + 1 + q = off + i * 2 + (q + 1) by omega]
         exact h1
        have hck := Cd.rcheck_anyX ca (O i).cn cc (O i).X _ (hbr.below (Below.transS HB0.out HB.out)) (HH.out.2.2 i hlt).1 (HH.out.2.2 i hlt).2
        have HK4 := hidV hck
        clear hc hr0 hbr hr1 hck
        have HO : Hid (outE (O i) = if (O i).am < 10 then 27 else if 1125899906842624 < (O i).am then 5 else Cd.chkE (O i).X (O i).cn) := rfl
        have HBad : Hid (outE (O i) ≠ 0 → txE lk j X m O = outE (O i)) := fun hq => by
         have e1 : outsE O (i + 1) = outE (O i) := by rw [outsE, if_pos HZ.out]
         have e2 : outsE O m = outE (O i) := by rw [← e1]; exact outsE_stop (by rw [e1]; exact hq) m (by omega)
         rw [HE.out, e2, if_pos hq]
        have HBE := hidV (Below.transS HB0.out HB.out)
        by_cases e1 : (O i).am < 10
        ·have HE2 : Hid (txE lk j X m O = 27) := by
          have h1 : outE (O i) = 27 := by rw [HO.out, if_pos e1]
          show _ = _
          rw [HBad.out (by rw [h1]; decide), h1]
         go_wp2
         go_ret
         exact ⟨by rw [HE2.out]; rfl, HBE.out⟩
        ·by_cases e2 : 1125899906842624 < (O i).am
         ·have HE2 : Hid (txE lk j X m O = 5) := by
           have h1 : outE (O i) = 5 := by rw [HO.out, if_neg e1, if_pos e2]
           show _ = _
           rw [HBad.out (by rw [h1]; decide), h1]
          go_wp2
          go_ret
          exact ⟨by rw [HE2.out]; rfl, HBE.out⟩
         ·have HO2 : Hid (outE (O i) = Cd.chkE (O i).X (O i).cn) := by show _ = _; rw [HO.out, if_neg e1, if_neg e2]
          clear HO
          go_wp2_with (first | (refine wpList_load_mid rfl 122 _ rfl b (off + i * 2 + 1) rfl [.slice ca (O i).cn cc] _ HRc.out Tryz.underlying122 rfl szCondR ?_) | fail)
          refine HK4.out.mono ?_
          rintro e v1 ⟨rfl, hb1⟩
          have HB1 : Hid (Below W0.heap.size W0 v1) := Below.transS HB.out hb1
          have HBE1 : Hid (Below w.heap.size w v1) := Below.transS HBE.out hb1
          clear hb1 c0 c2 HRc HK4 e1 e2
          by_cases e3 : Cd.chkE (O i).X (O i).cn = 0
          ·have HN2 : Hid (outsE O (i + 1) = 0) := by show _ = _; rw [outsE, if_pos HZ.out, HO2.out, e3]
           rw [e3]
           clear e3
           go_wp2
           go_roundw
           case rel => exact ⟨i + 1, by omega, rfl, by go_num, HN2.out, HB1.out⟩
           case measure => simp [intOf]; omega
          ·have HE2 : Hid (txE lk j X m O = Cd.chkE (O i).X (O i).cn) := by
            show _ = _
            rw [HBad.out (by rw [HO2.out]; exact e3), HO2.out]
           clear HO2 HBad
           generalize Cd.chkE (O i).X (O i).cn = ec at *
           go_wp2
           go_ret
           exact ⟨by rw [HE2.out]; rfl, HBE1.out⟩
       ·obtain rfl : i = m := by omega
        have hnn : ¬ ((i : Int) < i) := by omega
        have HE3 : Hid (txE lk j X i O = totE O i) := by show _ = _; rw [HE.out, if_neg (by simpa using HZ.out)]
        have HRT : Hid (wr.rangeAt w.heap.size 0 (txl lk ia j ic oa i oc)) := txl_range (HC.out _ HB.out)
        have HBE := hidV (Below.transS HB0.out HB.out)
        have HKT := hidV (rktotal_any lk ia j ic oa i oc O _ (HH.out.2.1.below HBE.out) hm)
        go_wp2_with (first | (refine wpList_load_mid rfl 58 _ rfl w.heap.size 0 rfl (txl lk ia j ic oa i oc) _ HRT.out Tryz.underlying58 rfl szTxR ?_) | fail)
        refine HKT.out.mono ?_
        rintro e v1 ⟨rfl, hb1⟩
        have HBE1 : Hid (Below w.heap.size w v1) := Below.transS HBE.out hb1
        clear hb1 hnn c2 HKT HRT
        go_wp2
        go_ret
        exact ⟨by rw [HE3.out]; rfl, HBE1.out⟩
 ·have HE : Hid (txE lk n X m O = 4) := if_pos hN
  have HQ : Hid (¬ NumOk lk n m) := hN
  clear hN
  by_cases a1 : lk < 0
  ·go_wp2
   go_ret
   exact ⟨by rw [HE.out]; rfl, HB0.out⟩
  ·by_cases a2 : 1099511627776 < lk
   ·go_wp2
    go_ret
    exact ⟨by rw [HE.out]; rfl, HB0.out⟩
   ·by_cases a3 : (n : Int) < 1
    ·go_wp2
     go_ret
     exact ⟨by rw [HE.out]; rfl, HB0.out⟩
    ·by_cases a4 : 64 < (n : Int)
     ·go_wp2
      go_ret
      exact ⟨by rw [HE.out]; rfl, HB0.out⟩
     ·by_cases a5 : (m : Int) < 1
      ·go_wp2
       go_ret
       exact ⟨by rw [HE.out]; rfl, HB0.out⟩
      ·have a6 : 64 < (m : Int) := by
        have := HQ.out
        unfold NumOk at this
        omega
       go_wp2
       go_ret
       exact ⟨by rw [HE.out]; rfl, HB0.out⟩
end Go.Proofs.YtjnepkggdkccaaaGreatDoor
