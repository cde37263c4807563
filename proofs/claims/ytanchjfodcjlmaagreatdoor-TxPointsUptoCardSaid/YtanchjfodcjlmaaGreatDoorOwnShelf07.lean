/- cond.Check. -/
import Derived.Test.YtanchjfodcjlmaaGreatDoorOwnShelf06
import Derived.Maps.OwnSet
import Derived.DeepKeys4
import Derived.Test.YtanchjfodcjlmaaGreatDoorOwnShelf01
namespace Go.Proofs.YtanchjfodcjlmaaGreatDoor.Cd
open Go.RowKit

theorem within_any (n m : Int) (w : World) :
  Calls Tryz.prog 95 #[.int .i64 n, .int .i64 m] w fun e w' => e = .returned (.bool (decide (0 ≤ n ∧ n ≤ m))) ∧ w' = w := by
 by_cases h : 0 ≤ n
 ·go_enter Tryz.func95, Tryz.ntmps95
  go_wp2
  go_ret
  simp [h]
 ·have e : decide (0 ≤ n ∧ n ≤ m) = false := by simp; omega
  rw [e]
  go_enter Tryz.func95, Tryz.ntmps95
  go_wp2
  go_ret
  simp

set_option maxHeartbeats 800000 in
theorem keys_any (ka : Option Addr) (n kc : Nat) (z : Nat → Int) (w : World) (h : IsAt w ka n z) (hn : n ≤ 1000000) :
  Calls Tryz.prog 94 #[.slice ka n kc] w fun e w' => e = .returned (.bool (decide (KOk z n ∧ 0 < n))) ∧ Below w.heap.size w w' := by
 have HI : Hid (IsAt w ka n z) := h
 have hb0 := Below.refl w.heap.size w
 clear h
 go_enter Tryz.func94, Tryz.ntmps94
 go_wp2
 go_loopw [3, 5, 8] (fun lv kv iv wr => ∃ i : Nat, i ≤ n ∧ lv = .int .i64 (lastK z i) ∧ iv = .int .i64 i ∧ KOk z i ∧ Below w.heap.size w wr) (fun _ _ iv _ => n + 1 - (intOf iv).toNat)
 case atStart => exact ⟨0, by omega, rfl, rfl, fun j hj => by omega, hb0⟩
 case round =>
  clear hb0
  obtain ⟨i, hi, rfl, rfl, hk, hb⟩ := hrel
  have HK : Hid (KOk z i) := hk
  clear hk
  by_cases hlt : i < n
  ·have hlt' : (i : Int) < n := by omega
   obtain ⟨b, off, rfl, hc⟩ := HI.out (by omega)
   have hci : wr.cell? ⟨b, off + i, none⟩ = some (.int .i64 (z i)) := by
    have := hc i hlt
    rw [hb.cell (p := ⟨b, off + i, none⟩) (World.block_lt_of_cell? w ⟨b, off + i, none⟩ this)]; exact this
   clear hc
   by_cases h1 : lastK z i < z i
   ·have h1' : ¬ z i ≤ lastK z i := by omega
    by_cases h2 : z i < 16
    ·have h2' : ¬ 16 ≤ z i := by omega
     have HN : Hid (KOk z (i + 1)) := fun j hj => by
      by_cases e : j = i
      ·subst e; exact ⟨h1, h2⟩
      ·exact HK.out j (by omega)
     have e1 := lastK_succ z i
     generalize lastK z i = q at *
     go_wp2
     go_roundw
     case rel => exact ⟨i + 1, by omega, by rw [e1], by go_num, HN.out, hb⟩
     case measure => simp [intOf]; omega
    ·have h2' : 16 ≤ z i := by omega
     have HN : Hid (¬ KOk z n) := fun hk => h2 (hk i hlt).2
     generalize lastK z i = q at *
     go_wp2
     go_ret
     exact ⟨by simp [HN.out], hb⟩
   ·have h1' : z i ≤ lastK z i := by omega
    have HN : Hid (¬ KOk z n) := fun hk => h1 (hk i hlt).1
    generalize lastK z i = q at *
    go_wp2
    go_ret
    exact ⟨by simp [HN.out], hb⟩
  ·obtain rfl : i = n := by omega
   have hnn : ¬ ((i : Int) < i) := by omega
   have hk := HK.out
   go_wp2
   go_ret
   exact ⟨by simp, hb⟩

set_option maxHeartbeats 800000 in
theorem mayBe_any (x : Bv) (ka : Option Addr) (kc : Nat) (w : World) (h : IsAt w ka x.n x.z) (hn : x.n ≤ 1000000) :
  Calls Tryz.prog 71 #[.agg (bv x ka kc)] w fun e w' => e = .returned (.bool (decide (BOk x))) ∧ Below w.heap.size w w' := by
 have HI : Hid (IsAt (w.alloc (.cells (bv x ka kc) 101)) ka x.n x.z) := h.below ((Below.refl _ w).alloc (Nat.le_refl _) _)
 have hb0 : Below w.heap.size w (w.alloc (.cells (bv x ka kc) 101)) := (Below.refl _ w).alloc (Nat.le_refl _) _
 have hs0 : w.heap.size + 1 = (w.alloc (.cells (bv x ka kc) 101)).heap.size := by simp
 obtain ⟨c0, c33, c34⟩ := bbox_of (heap_alloc_new w (.cells (bv x ka kc) 101))
 have hk := keys_any ka x.n kc x.z _ HI.out hn
 clear h
 go_enter Tryz.func71, Tryz.ntmps71
 go_wp2_with (first | (refine Go.Great.wpList_boxTo rfl _ _ rfl _ rfl _ rfl (bv x ka kc) rfl ?_) | fail)
 generalize w.alloc (.cells (bv x ka kc) 101) = W0 at *
 have W0lt : w.heap.size < W0.heap.size := by omega
 have kc33 : ∀ w1, Below W0.heap.size W0 w1 → w1.cell? ⟨w.heap.size, 33, none⟩ = some (.int .i64 x.af) := fun w1 hb => by rw [hb.cell (p := ⟨w.heap.size, 33, none⟩) W0lt]; exact c33
 have kc34 : ∀ w1, Below W0.heap.size W0 w1 → w1.cell? ⟨w.heap.size, 34, none⟩ = some (.int .i64 x.ol) := fun w1 hb => by rw [hb.cell (p := ⟨w.heap.size, 34, none⟩) W0lt]; exact c34
 clear c33 c34 HI
 by_cases h1 : KOk x.z x.n ∧ 0 < x.n
 ·have e1 : decide (KOk x.z x.n ∧ 0 < x.n) = true := by simp [h1]
  rw [e1] at hk
  by_cases h2 : 0 ≤ x.af ∧ x.af ≤ 1099511627776
  ·have e2 : decide (0 ≤ x.af ∧ x.af ≤ 1099511627776) = true := by simp [h2]
   have HE : Hid (decide (BOk x) = decide (0 ≤ x.ol ∧ x.ol ≤ 65536)) := by show _ = _; simp [BOk, h1, h2]
   have hw1 := within_any x.af 1099511627776
   rw [e2] at hw1
   have hw2 := within_any x.ol 65536
   generalize decide (0 ≤ x.ol ∧ x.ol ≤ 65536) = r at *
   clear e1 e2 h1 h2
   go_wp2_with fail
   refine hk.mono ?_
   rintro e w1 ⟨rfl, hb1⟩
   have d33 := kc33 w1 hb1
   have d34 := kc34 w1 hb1
   clear kc33 kc34 hk
   go_wp2_with fail
   refine (hw1 w1).mono ?_
   rintro e w2 ⟨rfl, rfl⟩
   go_wp2_with fail
   refine (hw2 _).mono ?_
   rintro e w3 ⟨rfl, rfl⟩
   go_wp2
   go_ret
   exact ⟨by rw [HE.out]; rfl, Below.trans hb0 (hb1.mono (by omega))⟩
  ·have e2 : decide (0 ≤ x.af ∧ x.af ≤ 1099511627776) = false := by simp only [decide_eq_false_iff_not]; exact h2
   have HE : Hid (decide (BOk x) = false) := by show _ = _; simp only [decide_eq_false_iff_not]; exact fun h => h2 h.2.1
   have hw1 := within_any x.af 1099511627776
   rw [e2] at hw1
   clear e1 e2 h1 h2
   go_wp2_with fail
   refine hk.mono ?_
   rintro e w1 ⟨rfl, hb1⟩
   have d33 := kc33 w1 hb1
   clear kc33 kc34 hk
   go_wp2_with fail
   refine (hw1 w1).mono ?_
   rintro e w2 ⟨rfl, rfl⟩
   go_wp2
   go_ret
   exact ⟨by rw [HE.out]; rfl, Below.trans hb0 (hb1.mono (by omega))⟩
 ·have e1 : decide (KOk x.z x.n ∧ 0 < x.n) = false := by simp only [decide_eq_false_iff_not]; exact h1
  rw [e1] at hk
  have HE : Hid (decide (BOk x) = false) := by show _ = _; simp only [decide_eq_false_iff_not]; exact fun h => h1 h.1
  clear e1 h1 kc33 kc34
  go_wp2_with fail
  refine hk.mono ?_
  rintro e w1 ⟨rfl, hb1⟩
  clear hk
  go_wp2
  go_ret
  exact ⟨by rw [HE.out]; rfl, Below.trans hb0 (hb1.mono (by omega))⟩

set_option maxHeartbeats 800000 in
theorem bad_any (x : Bv) (ka : Option Addr) (kc : Nat) (w : World) (h : IsAt w ka x.n x.z) (hn : x.n ≤ 1000000) :
  Calls Tryz.prog 70 #[.agg (bv x ka kc)] w fun e w' => e = .returned (.bool (!decide (BOk x))) ∧ Below w.heap.size w w' := by
 have hI := h.below ((Below.refl _ w).alloc (Nat.le_refl _) (.cells (bv x ka kc) 101))
 have hb0 : Below w.heap.size w (w.alloc (.cells (bv x ka kc) 101)) := (Below.refl _ w).alloc (Nat.le_refl _) _
 have hbx := heap_alloc_new w (.cells (bv x ka kc) 101)
 have hm := mayBe_any x ka kc _ hI hn
 clear h hI
 generalize decide (BOk x) = r at *
 go_enter Tryz.func70, Tryz.ntmps70
 go_wp2_with (first | (refine Go.Great.wpList_boxTo rfl _ _ rfl _ rfl _ rfl (bv x ka kc) rfl ?_) | (refine wpList_load_row rfl 101 _ rfl w.heap.size rfl _ (bv x ka kc) _ _ hbx Tryz.underlying101 rfl (szBv x ka kc) ?_) | (go_at_call 71; refine hm.mono ?_; rintro e w1 ⟨rfl, hb1⟩) | fail)
 go_ret
 exact ⟨rfl, Below.trans hb0 (hb1.mono hb0.size)⟩

set_option maxHeartbeats 1600000 in
theorem index_any (ad : Option Addr) (n cap : Nat) (X : Nat → Bv) (w : World) (h : BrAt w ad n X) (hn : n ≤ 1000000) (hx : ∀ i, i < n → (X i).n ≤ 1000000) :
  Calls Tryz.prog 96 #[.slice ad n cap, .func (.func 70) #[] #[]] w fun e w' => (∃ q : Int, e = .returned (.int .i64 q) ∧ decide (q ≥ 0) = !decide (AllOk X n)) ∧ Below w.heap.size w w' := by
 have HB : Hid (BrAt w ad n X) := h
 have hb0 := Below.refl w.heap.size w
 have eg : ∀ args w, (callFunc 70 args).run Tryz.prog w = .ok (.enter 70 args) w := enters_of Tryz.func70 (by kernel_rfl) rfl
 clear h
 go_enter Tryz.func96, Tryz.ntmps96
 go_wp2
 go_loopw [5, 8] (fun _ iv wr => ∃ i : Nat, i ≤ n ∧ iv = .int .i64 i ∧ AllOk X i ∧ Below w.heap.size w wr) (fun _ iv _ => n + 1 - (intOf iv).toNat)
 case atStart => exact ⟨0, by omega, rfl, fun j hj => by omega, hb0⟩
 case round =>
  clear hb0
  obtain ⟨i, hi, rfl, hk, hb⟩ := hrel
  have HK : Hid (AllOk X i) := hk
  clear hk
  by_cases hlt : i < n
  ·have hlt' : (i : Int) < n := by omega
   obtain ⟨b, off, rfl, hc⟩ := HB.out.at_ (by omega)
   obtain ⟨ka, kc, hr0, hI0⟩ := hc i hlt
   have HR : Hid (wr.rangeAt b (off + i * 35) (brl (X i) ka kc)) := range_below hr0 hb
   have hcall := bad_any (X i) ka kc wr (hI0.below hb) (hx i hlt)
   clear hc hr0 hI0
   by_cases hq : BOk (X i)
   ·have e1 : decide (BOk (X i)) = true := by simp [hq]
    rw [e1] at hcall
    have HN : Hid (AllOk X (i + 1)) := fun j hj => by
     by_cases e : j = i
     ·subst e; exact hq
     ·exact HK.out j (by omega)
    clear e1 hq
    go_wp2_with (first | (refine wpList_load_mid rfl 101 _ rfl b (off + i * 35) rfl (brl (X i) ka kc) _ HR.out Tryz.underlying101 rfl (szBl _ _ _) ?_) | (go_at_fn 70; refine hcall.mono ?_; rintro e w1 ⟨rfl, hb1⟩) | fail)
    go_roundw
    case rel => exact ⟨i + 1, by omega, by go_num, HN.out, hb.trans (hb1.mono hb.size)⟩
    case measure => simp [intOf]; omega
   ·have e1 : decide (BOk (X i)) = false := by simpa using hq
    rw [e1] at hcall
    have HN : Hid (¬ AllOk X n) := fun h => hq (h i hlt)
    clear e1 hq
    go_wp2_with (first | (refine wpList_load_mid rfl 101 _ rfl b (off + i * 35) rfl (brl (X i) ka kc) _ HR.out Tryz.underlying101 rfl (szBl _ _ _) ?_) | (go_at_fn 70; refine hcall.mono ?_; rintro e w1 ⟨rfl, hb1⟩) | fail)
    go_ret
    refine ⟨⟨_, rfl, ?_⟩, hb.trans (hb1.mono hb.size)⟩
    have := HN.out
    simp [this]
  ·obtain rfl : i = n := by omega
   have hnn : ¬ ((i : Int) < i) := by omega
   have hk := HK.out
   go_wp2
   go_ret
   refine ⟨⟨_, rfl, ?_⟩, hb⟩
   simp

set_option maxHeartbeats 800000 in
theorem contains_any (ad : Option Addr) (n cap : Nat) (X : Nat → Bv) (w : World) (h : BrAt w ad n X) (hn : n ≤ 1000000) (hx : ∀ i, i < n → (X i).n ≤ 1000000) :
  Calls Tryz.prog 72 #[.slice ad n cap, .func (.func 70) #[] #[]] w fun e w' => e = .returned (.bool (!decide (AllOk X n))) ∧ Below w.heap.size w w' := by
 have hi := index_any ad n cap X w h hn hx
 clear h
 generalize (!decide (AllOk X n)) = r at *
 go_enter Tryz.func72, Tryz.ntmps72
 go_wp2_with (go_at_call 96; refine hi.mono ?_; rintro e w1 ⟨⟨q, rfl, hq⟩, hb1⟩)
 all_goals (go_ret; exact ⟨by simp_all, hb1⟩)

set_option maxHeartbeats 1600000 in
theorem check_any (ad : Option Addr) (n cap : Nat) (X : Nat → Bv) (w : World) (h : BrAt w ad n X) (hn : n ≤ 1000000) (hx : ∀ i, i < n → (X i).n ≤ 1000000) :
  Calls Tryz.prog 51 #[.agg #[.slice ad n cap]] w fun e w' => e = .returned (errV (chkE X n)) ∧ Below w.heap.size w w' := by
 have hI := h.below ((Below.refl _ w).alloc (Nat.le_refl _) (.cells #[.slice ad n cap] 76))
 have hb0 : Below w.heap.size w (w.alloc (.cells #[.slice ad n cap] 76)) := (Below.refl _ w).alloc (Nat.le_refl _) _
 have hm := contains_any ad n cap X _ hI hn hx
 clear h hI
 by_cases h1 : n < 1
 ·have h1' : (n : Int) < 1 := by omega
  have HE : Hid (chkE X n = 1) := if_neg (fun h => by have := h.1; omega)
  clear hm
  go_enter Tryz.func51, Tryz.ntmps51
  go_wp2
  go_ret
  exact ⟨by rw [HE.out]; rfl, hb0⟩
 ·have h1' : ¬ (n : Int) < 1 := by omega
  by_cases h2 : 8 < n
  ·have h2' : (8 : Int) < n := by omega
   have HE : Hid (chkE X n = 1) := if_neg (fun h => by have := h.1; omega)
   clear hm
   go_enter Tryz.func51, Tryz.ntmps51
   go_wp2
   go_ret
   exact ⟨by rw [HE.out]; rfl, hb0⟩
  ·have h2' : ¬ (8 : Int) < n := by omega
   by_cases h3 : AllOk X n
   ·have e1 : decide (AllOk X n) = true := by simp [h3]
    rw [e1] at hm
    have HE : Hid (chkE X n = 0) := if_pos ⟨by omega, h3⟩
    clear e1 h3
    go_enter Tryz.func51, Tryz.ntmps51
    go_wp2_with (go_at_call 72; refine hm.mono ?_; rintro e w1 ⟨rfl, hb1⟩)
    go_ret
    exact ⟨by rw [HE.out]; rfl, hb0.trans (hb1.mono hb0.size)⟩
   ·have e1 : decide (AllOk X n) = false := by simpa using h3
    rw [e1] at hm
    have HE : Hid (chkE X n = 1) := if_neg (fun h => h3 h.2)
    clear e1 h3
    go_enter Tryz.func51, Tryz.ntmps51
    go_wp2_with (go_at_call 72; refine hm.mono ?_; rintro e w1 ⟨rfl, hb1⟩)
    go_ret
    exact ⟨by rw [HE.out]; rfl, hb0.trans (hb1.mono hb0.size)⟩
end Go.Proofs.YtanchjfodcjlmaaGreatDoor.Cd
/- Outputs of a transaction: whether one may be, and what they have together. -/
namespace Go.Proofs.YtanchjfodcjlmaaGreatDoor
open Go.RowKit

/-- What an output says. -/
structure To where
 am : Int
 cn : Nat
 X : Nat → Cd.Bv
instance : Inhabited To := ⟨⟨0, 0, fun _ => default⟩⟩
def tol (x : To) (ca : Option Addr) (cc : Nat) : List Value := [.int .i64 x.am, .slice ca x.cn cc]
def tov (x : To) (ca : Option Addr) (cc : Nat) : Array Value := #[.int .i64 x.am, .slice ca x.cn cc]
/-- Its branches are few, and so are their keys. -/
def To.Small (x : To) : Prop := x.cn ≤ 1000000 ∧ ∀ i, i < x.cn → (x.X i).n ≤ 1000000
/-- m outputs lie at an address. -/
structure ToAt (w : World) (ad : Option Addr) (m : Nat) (O : Nat → To) : Prop where
 at_ : 0 < m → ∃ b off, ad = some ⟨b, off, none⟩ ∧ ∀ i, i < m → ∃ ca cc, w.rangeAt b (off + i * 2) (tol (O i) ca cc) ∧ Cd.BrAt w ca (O i).cn (O i).X ∧ (ca = none → (O i).cn = 0 ∧ cc = 0)
theorem ToAt.nil (w : World) (ad : Option Addr) (O : Nat → To) : ToAt w ad 0 O := ⟨fun h => by omega⟩
theorem ToAt.below {w w' : World} {ad : Option Addr} {m : Nat} {O : Nat → To} (h : ToAt w ad m O) (hb : Below w.heap.size w w') : ToAt w' ad m O := by
 refine ⟨fun hn => ?_⟩
 obtain ⟨b, off, e, hr⟩ := h.at_ hn
 refine ⟨b, off, e, fun i hi => ?_⟩
 obtain ⟨ca, cc, h1, h2, h3⟩ := hr i hi
 exact ⟨ca, cc, range_below h1 hb, h2.below hb, h3⟩
/-- An output's error. -/
def outE (x : To) : Int := if x.am < 10 then 27 else if 1125899906842624 < x.am then 5 else Cd.chkE x.X x.cn
set_option maxHeartbeats 1600000 in
theorem checkOut_any (x : To) (ca : Option Addr) (cc : Nat) (w : World) (h : Cd.BrAt w ca x.cn x.X) (hs : x.Small) :
  Calls Tryz.prog 32 #[.agg (tov x ca cc)] w fun e w' => e = .returned (errV (outE x)) ∧ Below w.heap.size w w' := by
 have hb0 : Below w.heap.size w (w.alloc (.cells #[.int .i64 x.am, .slice ca x.cn cc] 79)) := (Below.refl _ w).alloc (Nat.le_refl _) _
 have hc := Cd.check_any ca x.cn cc x.X _ (h.below hb0) hs.1 hs.2
 clear h
 unfold tov
 by_cases h1 : x.am < 10
 ·have HE : Hid (outE x = 27) := if_pos h1
  clear hc
  go_enter Tryz.func32, Tryz.ntmps32
  go_wp2
  go_ret
  exact ⟨by rw [HE.out]; rfl, hb0⟩
 ·by_cases h2 : 1125899906842624 < x.am
  ·have HE : Hid (outE x = 5) := by unfold outE; rw [if_neg h1, if_pos h2]; exact rfl
   clear hc
   go_enter Tryz.func32, Tryz.ntmps32
   go_wp2
   go_ret
   exact ⟨by rw [HE.out]; rfl, hb0⟩
  ·have HE : Hid (outE x = Cd.chkE x.X x.cn) := by unfold outE; rw [if_neg h1, if_neg h2]; exact rfl
   go_enter Tryz.func32, Tryz.ntmps32
   go_wp2_with fail
   refine hc.mono ?_
   rintro e w1 ⟨rfl, hb1⟩
   have HB : Hid (Below w.heap.size w w1) := hb0.trans (hb1.mono hb0.size)
   clear hb0 hb1 hc
   go_wp2
   go_ret
   exact ⟨by rw [HE.out]; rfl, HB.out⟩
/-- What outputs have together, if it is no more than there may be. -/
def totO (O : Nat → To) : Nat → Option Int
 | 0 => some 0
 | i + 1 => match totO O i with | none => none | some s => if 0 ≤ (O i).am ∧ (O i).am ≤ 1125899906842624 - s then some (s + (O i).am) else none
theorem totO_bd {O : Nat → To} : ∀ {i : Nat} {s : Int}, totO O i = some s → 0 ≤ s ∧ s ≤ 1125899906842624
 | 0, s, h => by cases h; omega
 | i + 1, s, h => by
  unfold totO at h
  split at h
  ·cases h
  ·rename_i t e
   have := totO_bd e
   split at h
   ·cases h; omega
   ·cases h
theorem totO_stop {O : Nat → To} {i : Nat} (h : totO O i = none) : ∀ n, i ≤ n → totO O n = none
 | 0, hn => by obtain rfl : i = 0 := (by omega); exact h
 | n + 1, hn => by
  by_cases e : i = n + 1
  ·subst e; exact h
  ·rw [totO, totO_stop h n (by omega)]
def totV (O : Nat → To) (m : Nat) : Int := (totO O m).getD 0
def totE (O : Nat → To) (m : Nat) : Int := if totO O m = none then 5 else 0
/-- A transaction's three cells. -/
def txv (lk : Int) (ia : Option Addr) (n ic : Nat) (oa : Option Addr) (m oc : Nat) : Array Value := #[.int .i64 lk, .slice ia n ic, .slice oa m oc]
set_option maxHeartbeats 1600000 in
theorem ktotal_any (lk : Int) (ia : Option Addr) (n ic : Nat) (oa : Option Addr) (m oc : Nat) (O : Nat → To) (w : World) (h : ToAt w oa m O) (hm : m ≤ 1000000) :
  Calls Tryz.prog 8 #[.agg (txv lk ia n ic oa m oc)] w fun e w' => e = .returned (.tuple #[.int .i64 (totV O m), errV (totE O m)]) ∧ Below w.heap.size w w' := by
 have hb0 : Below w.heap.size w (w.alloc (.cells #[.int .i64 lk, .slice ia n ic, .slice oa m oc] 35)) := (Below.refl _ w).alloc (Nat.le_refl _) _
 have HT : Hid (ToAt w oa m O) := h
 clear h
 unfold txv
 go_enter Tryz.func8, Tryz.ntmps8
 go_wp2
 generalize w.alloc (.cells #[.int .i64 lk, .slice ia n ic, .slice oa m oc] 35) = W0 at *
 go_loopw [4, 6, 10] (fun sv _ iv wr => ∃ (i : Nat) (s : Int), i ≤ m ∧ iv = .int .i64 i ∧ sv = .int .i64 s ∧ totO O i = some s ∧ Below w.heap.size w wr) (fun _ _ iv _ => m + 1 - (intOf iv).toNat)
 case atStart => exact ⟨0, 0, by omega, rfl, rfl, rfl, hb0⟩
 case round =>
  clear hb0
  obtain ⟨i, s, hi, rfl, rfl, hs, hb⟩ := hrel
  have hbd := totO_bd hs
  have HS : Hid (totO O i = some s) := hs
  clear hs
  by_cases hlt : i < m
  ·have hlt' : (i : Int) < m := by omega
   obtain ⟨b, off, rfl, hc⟩ := HT.out.at_ (by omega)
   obtain ⟨ca, cc, hr0, _⟩ := hc i hlt
   have HR : Hid (wr.rangeAt b (off + i * 2) (tol (O i) ca cc)) := range_below hr0 hb
   clear hc hr0
   have c0 : wr.cell? ⟨b, off + i * 2, none⟩ = some (.int .i64 (O i).am) := by simpa using HR.out 0 _ rfl
   have c1 : wr.cell? ⟨b, off + i * 2 + 1, none⟩ = some (.slice ca (O i).cn cc) := HR.out 1 _ rfl
   have hb1 : Below w.heap.size w (wr.alloc (.cells #[.int .i64 (O i).am, .slice ca (O i).cn cc] 79)) := hb.alloc hb.size _
   by_cases hq : 0 ≤ (O i).am ∧ (O i).am ≤ 1125899906842624 - s
   ·have HN : Hid (totO O (i + 1) = some (s + (O i).am)) := by rw [totO, HS.out]; exact if_pos hq
    have d1 : decide (0 ≤ (O i).am ∧ (O i).am ≤ 1125899906842624 - s) = true := by simpa using hq
    go_wp2_with fail
    refine (kwithin_any (O i).am 0 (1125899906842624 - s) _).mono ?_
    rintro e w1 ⟨rfl, hW⟩
    rw [hW, d1]
    clear hW d1
    go_wp2
    go_roundw
    case rel => exact ⟨i + 1, s + (O i).am, by omega, by go_num, rfl, HN.out, hb1⟩
    case measure => simp [intOf]; omega
   ·have HN : Hid (totO O m = none) := totO_stop (i := i + 1) (by rw [totO, HS.out]; exact if_neg hq) m (by omega)
    have d1 : decide (0 ≤ (O i).am ∧ (O i).am ≤ 1125899906842624 - s) = false := by simpa using hq
    go_wp2_with fail
    refine (kwithin_any (O i).am 0 (1125899906842624 - s) _).mono ?_
    rintro e w1 ⟨rfl, hW⟩
    rw [hW, d1]
    clear hW d1
    go_wp2
    go_ret2
    exact ⟨by simp [totV, totE, HN.out]; rfl, hb1⟩
  ·obtain rfl : i = m := by omega
   have hnn : ¬ ((i : Int) < i) := by omega
   go_wp2
   go_ret2
   exact ⟨by simp [totV, totE, HS.out]; rfl, hb⟩
end Go.Proofs.YtanchjfodcjlmaaGreatDoor
/- The points of a transaction's inputs in a map. -/
namespace Go.Proofs.YtanchjfodcjlmaaGreatDoor
open Go.RowKit
namespace Kp

def Ib (n : Int) : Prop := -9223372036854775808 ≤ n ∧ n ≤ 9223372036854775807
/-- A point's 33 cells. -/
def kv (n : Int) (z : Nat → Int) : Array Value := (bl z 32 ++ [Value.int .i64 n]).toArray
theorem laidOut : laidOutB Tryz.prog = true := by kernel_rfl
theorem tsize : Tryz.prog.types.size = 239 := by kernel_rfl
theorem rowS : (47 : TypeId) < Tryz.prog.types.size := of_decide_eq_true (by kernel_rfl)
theorem wideS : (match Tryz.prog.underlying 47 with | some (.array _ _) | some (.struct _) => true | _ => false) = true := by kernel_rfl
set_option maxRecDepth 20000 in
theorem lawS : Maps.Keyed Tryz.prog 47 := Maps.Keyed.of_law (deep_law_laid laidOut (m := 4) (by omega) rowS (by kernel_rfl) wideS)
theorem ktS : Tryz.prog.keyType 47 = true := by kernel_rfl
theorem cellsS : Tryz.prog.cellsOf 47 = 33 := by kernel_rfl
theorem cellsH : Tryz.prog.cellsOf 43 = 32 := by kernel_rfl
theorem cellsI : Tryz.prog.cellsOf 3 = 1 := by kernel_rfl
theorem cellsB : Tryz.prog.cellsOf 5 = 1 := by kernel_rfl

theorem mapM_opt {α β : Type} {f : α → Option β} {g : α → β} : ∀ (l : List α), (∀ x, x ∈ l → f x = some (g x)) → l.mapM f = some (l.map g)
 | [], _ => rfl
 | x :: l, h => by
  rw [List.mapM_cons, h x (List.mem_cons_self ..), mapM_opt l (fun y hy => h y (List.mem_cons_of_mem _ hy))]
  rfl
theorem flat_one {α β : Type} (f : α → β) : ∀ l : List α, (l.map fun x => [f x]).flatten = l.map f
 | [] => rfl
 | x :: l => by rw [List.map_cons, List.flatten_cons, flat_one f l]; rfl
theorem lits_byte (d : Nat) {x : Int} (h : 0 ≤ x ∧ x ≤ 255) : Tryz.prog.keyLits (d + 1) 5 [.int .u8 x] = some [.int .u8 x] := by
 have hw : (Lit.int .u8 x).wf = true := by simp [Lit.wf, IntKind.min, IntKind.max, IntKind.signed, IntKind.bits]; omega
 unfold Program.keyLits
 rw [Tryz.underlying5]
 simp [hw]
theorem lits_int (d : Nat) {x : Int} (h : Ib x) : Tryz.prog.keyLits (d + 1) 3 [.int .i64 x] = some [.int .i64 x] := by
 have hw : (Lit.int .i64 x).wf = true := by unfold Ib at h; simp [Lit.wf, IntKind.min, IntKind.max, IntKind.signed, IntKind.bits]; omega
 unfold Program.keyLits
 rw [Tryz.underlying3]
 simp [hw]
theorem lits_hash (d : Nat) {z : Nat → Int} (h : Hb z) : Tryz.prog.keyLits (d + 2) 43 (bl z 32) = some ((List.range 32).map fun j => Lit.int .u8 (z j)) := by
 unfold Program.keyLits
 rw [Tryz.underlying43]
 simp only [bl_length, cellsH, cellsB, if_true]
 rw [mapM_opt (g := fun j => [Lit.int .u8 (z j)])]
 ·rw [Option.map_some, flat_one]
 ·intro j hj
  have hj' : j < 32 := List.mem_range.1 hj
  have e : ((bl z 32).drop (j * 1)).take 1 = [.int .u8 (z j)] := by
   rw [Nat.mul_one, List.take_one, List.head?_drop, bl_at hj']
   rfl
  rw [e]
  exact lits_byte d (h j hj')
theorem lits_sig (d : Nat) {n : Int} {z : Nat → Int} (hn : Ib n) (h : Hb z) : Tryz.prog.keyLits (d + 3) 47 (kv n z).toList = some (((List.range 32).map fun j => Lit.int .u8 (z j)) ++ [Lit.int .i64 n]) := by
 have hl : (kv n z).toList = bl z 32 ++ [.int .i64 n] := by simp [kv]
 rw [hl]
 unfold Program.keyLits
 rw [Tryz.underlying47]
 simp only [List.length_append, List.length_cons, List.length_nil, bl_length, cellsS]
 have e1 : List.take 32 (bl z 32 ++ [Value.int .i64 n]) = bl z 32 := by rw [← bl_length z 32]; exact List.take_left
 have e2 : List.drop 32 (bl z 32 ++ [Value.int .i64 n]) = [.int .i64 n] := by rw [← bl_length z 32]; exact List.drop_left
 simp [cellsI, cellsH, e1, e2, lits_int (d + 1) hn, lits_hash d h]

/-- What a point's key reads as. -/
def kl (n : Int) (z : Nat → Int) : Lit := .string (keyBytes (((List.range 32).map fun j => Lit.int .u8 (z j)) ++ [Lit.int .i64 n]))
theorem keyOfS {n : Int} {z : Nat → Int} (hn : Ib n) (h : Hb z) : keyOf Tryz.prog 47 (.agg (kv n z)) = some (kl n z) := by
 have hf : (Value.agg (kv n z)).formed Tryz.prog 47 = true := by
  simp only [Value.formed, Tryz.underlying47, cellsS]
  simp [kv, bl_length]
 have hl := lits_sig (239 - 2) hn h
 unfold keyOf
 rw [Tryz.underlying47]
 simp only [ktS, hf, Bool.and_self, if_true, tsize]
 have : (Value.agg (kv n z)).cells = kv n z := rfl
 rw [this]
 simp only [Nat.reduceAdd, Nat.reduceSub] at hl ⊢
 rw [hl]
 rfl
theorem kl_inj {n m : Int} {z y : Nat → Int} (hn : Ib n) (hz : Hb z) (hm : Ib m) (hy : Hb y) (h : kl n z = kl m y) : n = m ∧ ub z = ub y := by
 have h1 := keyOfS hn hz
 rw [h] at h1
 have := lawS.inj h1 (keyOfS hm hy)
 simp only [Value.agg.injEq] at this
 have h2 : (bl z 32 ++ [Value.int .i64 n]) = (bl y 32 ++ [.int .i64 m]) := by simpa [kv] using congrArg Array.toList this
 obtain ⟨h4, h5⟩ := List.append_inj h2 (by rw [bl_length, bl_length])
 refine ⟨by simpa using h5, ?_⟩
 have h3 : (bl z 32).map (fun v => match v with | .int _ x => UInt8.ofNat x.toNat | _ => 0) = (bl y 32).map (fun v => match v with | .int _ x => UInt8.ofNat x.toNat | _ => 0) := by rw [h4]
 simpa [bl, ub] using h3
theorem kl_key (n : Int) (z : Nat → Int) : WideAt.IsKeyLit (kl n z) := trivial

/-- The map D holds just the points S. -/
structure BkD (D : DataW Unit) (S : List (Int × List UInt8)) : Prop where
 has : ∀ n z, Ib n → Hb z → Maps.has D (kl n z) = S.contains (n, ub z)
 size : Maps.size D = S.length
theorem BkD.nil : BkD (.map []) [] := ⟨fun _ _ _ _ => rfl, rfl⟩
theorem BkD.put {D : DataW Unit} {S : List (Int × List UInt8)} (h : BkD D S) (ht : Maps.Tidy D) {n : Int} {z : Nat → Int} (hn : Ib n) (hz : Hb z) (hc : S.contains (n, ub z) = false) (u : DataW Unit) : BkD (D.put (kl n z) u) (S ++ [(n, ub z)]) := by
 refine ⟨fun m y hm hy => ?_, ?_⟩
 ·by_cases e : kl m y = kl n z
  ·have := kl_inj hm hy hn hz e
   rw [e, Maps.has_put_same ht.isMap (kl_key n z)]
   simp [this.1, this.2]
  ·rw [Maps.has_put_other e, h.has m y hm hy]
   have : ¬ ((m, ub y) = (n, ub z)) := by
    intro e2
    simp only [Prod.mk.injEq] at e2
    apply e
    have h1 := keyOfS hm hy
    have h2 := keyOfS hn hz
    have e3 : kv m y = kv n z := by
     have a1 : hv y = hv z := by rw [hv_ub hy, hv_ub hz, e2.2]
     have a2 : bl y 32 = bl z 32 := by rw [← hv_list, ← hv_list, a1]
     unfold kv
     rw [a2, e2.1]
    rw [e3, h2] at h1
    exact (Option.some.inj h1).symm
   simp [this]
 ·rw [Maps.size_put ht, h.has n z hn hz, hc]
  simp [h.size]
end Kp
end Go.Proofs.YtanchjfodcjlmaaGreatDoor
/- The points that a transaction spends, as a map. -/
namespace Go.Proofs.YtanchjfodcjlmaaGreatDoor
open Go.RowKit

theorem kfrm_new {w w' : World} {o : Obj} (h : Frm [w.heap.size] (w.alloc o) w') : Below w.heap.size w w' :=
 ((Below.refl _ w).alloc (Nat.le_refl _) o).trans (h.below (by simp) (by simp))
def ti0 : Ti := ⟨nz, 0, 0, 0⟩
theorem run_allocTi (w : World) : (Instr.alloc 59 true (.tuple #[])).run Tryz.prog w = .ok (.pointer (some ⟨w.heap.size, 0, none⟩)) (w.alloc (.cells (tiv ti0 none 0) 59)) := by kernel_rfl
theorem szPt : (Tryz.prog.info? 47).map (·.size) = some 33 := by kernel_rfl
theorem szPtl (z : Nat → Int) (n : Int) : (Tryz.prog.info? 47).map (·.size) = some (ptl z n).length := by rw [ptl_length]; exact szPt
theorem build_unit (w : World) : (Instr.build 91 #[]).run Tryz.prog w = .ok (.agg #[]) w := by kernel_rfl
theorem tiv_one (x : Ti) (sa : Option Addr) (sc : Nat) : (tiv x sa sc).all (·.oneCell') = true := all_oneCell_toArray (til_one x sa sc)
theorem pt_range {w : World} {g off : Nat} {x : Ti} {sa : Option Addr} {sc : Nat} (h : w.rangeAt g off (til x sa sc)) : w.rangeAt g off (ptl x.pt x.n) := fun j v hv => by
 refine h j v ?_
 have e : til x sa sc = ptl x.pt x.n ++ [.int .i64 x.br, .slice sa x.sn sc] := by simp [til, ptl]
 rw [e, List.getElem?_append_left (List.getElem?_eq_some_iff.1 hv).1]
 exact hv
/-- The points of n inputs, each once. -/
def keyT (x : Ti) : Int × List UInt8 := (x.n, ub x.pt)
def ptsL (X : Nat → Ti) : Nat → List (Int × List UInt8)
 | 0 => []
 | n + 1 => if (ptsL X n).contains (keyT (X n)) then ptsL X n else ptsL X n ++ [keyT (X n)]
theorem ptsL_le (X : Nat → Ti) : ∀ n, (ptsL X n).length ≤ n
 | 0 => by simp [ptsL]
 | n + 1 => by have := ptsL_le X n; rw [ptsL]; split <;> simp <;> omega
theorem ptsL_mem (X : Nat → Ti) (k : Int × List UInt8) : ∀ n, (ptsL X n).contains k = true ↔ ∃ i, i < n ∧ keyT (X i) = k
 | 0 => by simp [ptsL]
 | n + 1 => by
  have ih := ptsL_mem X k n
  rw [ptsL]
  split
  ·rename_i hc
   rw [ih]
   constructor
   ·rintro ⟨i, hi, e⟩; exact ⟨i, by omega, e⟩
   ·rintro ⟨i, hi, e⟩
    by_cases h : i = n
    ·subst h; rw [e] at hc; exact ih.1 hc
    ·exact ⟨i, by omega, e⟩
  ·rw [List.contains_iff_mem, List.mem_append, ← List.contains_iff_mem, ih]
   constructor
   ·rintro (⟨i, hi, e⟩ | h)
    ·exact ⟨i, by omega, e⟩
    ·exact ⟨n, by omega, (List.mem_singleton.1 h).symm⟩
   ·rintro ⟨i, hi, e⟩
    by_cases h : i = n
    ·subst h; exact .inr (by rw [e]; exact List.mem_singleton.2 rfl)
    ·exact .inl ⟨i, by omega, e⟩
/-- No two inputs spend the same. -/
def Apart (X : Nat → Ti) (n : Nat) : Prop := ∀ i, i < n → ∀ k, k < i → keyT (X i) ≠ keyT (X k)
instance (X : Nat → Ti) (n : Nat) : Decidable (Apart X n) := inferInstanceAs (Decidable (∀ i, i < n → ∀ k, k < i → _))
theorem ptsL_full (X : Nat → Ti) : ∀ n, (ptsL X n).length = n ↔ Apart X n
 | 0 => by simp [ptsL, Apart]
 | n + 1 => by
  have ih := ptsL_full X n
  have hle := ptsL_le X n
  rw [ptsL]
  split
  ·rename_i hc
   obtain ⟨i, hi, e⟩ := (ptsL_mem X _ n).1 hc
   constructor
   ·intro h; omega
   ·intro h; exact absurd e.symm (h n (by omega) i hi)
  ·rename_i hc
   rw [List.length_append, List.length_singleton]
   constructor
   ·intro h i hi k hk
    by_cases e : i = n
    ·subst e
     exact fun he => hc ((ptsL_mem X _ i).2 ⟨k, hk, he.symm⟩)
    ·exact (ih.1 (by omega)) i (by omega) k hk
   ·intro h
    have := ih.2 (fun i hi k hk => h i (by omega) k hk)
    omega
theorem BkD_again {D : DataW Unit} {S : List (Int × List UInt8)} (h : Kp.BkD D S) (ht : Maps.Tidy D) {n : Int} {z : Nat → Int} (hn : Kp.Ib n) (hz : Hb z) (hc : S.contains (n, ub z) = true) (u : DataW Unit) : Kp.BkD (D.put (Kp.kl n z) u) S := by
 refine ⟨fun m y hm hy => ?_, ?_⟩
 ·by_cases e : Kp.kl m y = Kp.kl n z
  ·have := Kp.kl_inj hm hy hn hz e
   rw [e, Maps.has_put_same ht.isMap (Kp.kl_key n z), this.1, this.2, hc]
  ·rw [Maps.has_put_other e, h.has m y hm hy]
 ·rw [Maps.size_put ht, h.has n z hn hz, hc]
  simp [h.size]
theorem BkD_pts {D : DataW Unit} {X : Nat → Ti} {i : Nat} (h : Kp.BkD D (ptsL X i)) (ht : Maps.Tidy D) (hn : Kp.Ib (X i).n) (hz : Hb (X i).pt) (u : DataW Unit) : Kp.BkD (D.put (Kp.kl (X i).n (X i).pt) u) (ptsL X (i + 1)) := by
 rw [ptsL]
 split
 ·rename_i hc; exact BkD_again h ht hn hz hc u
 ·rename_i hc; exact h.put ht hn hz (by simpa [keyT] using hc) u
/-- A map of points of so many. -/
def PtM (w : World) (b N : Nat) : Prop := ∃ (D : DataW Unit) (k : Nat), w.ownsMap Tryz.prog 47 (unitElem (H := Unit)) b k D ∧ Maps.size D = N
theorem kowns_keep {w w' : World} {m n : Nat} {D : DataW Unit} (h : w.ownsMap Tryz.prog 47 (unitElem (H := Unit)) m n D) (hk : w'.heap[m]? = w.heap[m]?) : w'.ownsMap Tryz.prog 47 (unitElem (H := Unit)) m n D := by
 obtain ⟨es, clock, hb, r⟩ := h
 exact ⟨es, clock, by rw [hk]; exact hb, r⟩
set_option maxRecDepth 100000 in
set_option maxHeartbeats 3200000 in
theorem points_any (lk : Int) (ia : Option Addr) (n ic : Nat) (oa : Option Addr) (m oc : Nat) (X : Nat → Ti) (S : Nat → Option Addr × Nat) (w : World) (h : TiAt w ia n X S) (hI : ∀ i, i < n → Kp.Ib (X i).n) (hn : n ≤ 1000000) :
  Calls Tryz.prog 31 #[.agg (txv lk ia n ic oa m oc)] w fun e w' => (∃ b, e = .returned (.map (some b)) ∧ PtM w' b (ptsL X n).length) ∧ Below w.heap.size w w' := by
 have hb0 : Below w.heap.size w ((w.alloc (.cells #[.int .i64 lk, .slice ia n ic, .slice oa m oc] 35)).alloc (.map #[] 0)) := ((Below.refl _ w).alloc (Nat.le_refl _) _).alloc (by simp) _
 have hM0 : ((w.alloc (.cells #[.int .i64 lk, .slice ia n ic, .slice oa m oc] 35)).alloc (.map #[] 0)).ownsMap Tryz.prog 47 (unitElem (H := Unit)) (w.heap.size + 1) 0 (.map []) := by
  have := World.ownsMap_made (w.alloc (.cells #[.int .i64 lk, .slice ia n ic, .slice oa m oc] 35)) Tryz.prog 47 (unitElem (H := Unit))
  simpa using this
 have k1 := run_makeMap (P := Tryz.prog) 87
 have HT : Hid (TiAt w ia n X S) := h
 clear h
 unfold txv
 go_enter Tryz.func31, Tryz.ntmps31
 go_wp2
 generalize (w.alloc (.cells #[.int .i64 lk, .slice ia n ic, .slice oa m oc] 35)).alloc (.map #[] 0) = W0 at *
 go_loopw [5, 10] (fun _ iv wr => ∃ (i : Nat) (D : DataW Unit), i ≤ n ∧ iv = .int .i64 i ∧ wr.ownsMap Tryz.prog 47 (unitElem (H := Unit)) (w.heap.size + 1) i D ∧ Kp.BkD D (ptsL X i) ∧ Below w.heap.size w wr) (fun _ iv _ => n + 1 - (intOf iv).toNat)
 case atStart => exact ⟨0, _, by omega, rfl, hM0, Kp.BkD.nil, hb0⟩
 case round =>
  clear hb0 hM0 k1
  obtain ⟨i, D, hi, rfl, hM, hD, hb⟩ := hrel
  have HD : Hid (Kp.BkD D (ptsL X i)) := hD
  have HM : Hid (wr.ownsMap Tryz.prog 47 (unitElem (H := Unit)) (w.heap.size + 1) i D) := hM
  clear hD hM
  by_cases hlt : i < n
  ·have hlt' : (i : Int) < n := by omega
   obtain ⟨b, off, rfl, hc⟩ := HT.out.at_ (by omega)
   have HR : Hid (wr.rangeAt b (off + i * 35) (til (X i) (S i).1 (S i).2)) := range_below (hc i hlt) hb
   have HZ : Hid (Hb (X i).pt ∧ Kp.Ib (X i).n) := ⟨HT.out.pt i hlt, hI i hlt⟩
   have k2 := build_unit
   clear hc
   go_wp2_with (first | (refine wpList_load_mid rfl 59 _ rfl b (off + i * 35) rfl (til (X i) (S i).1 (S i).2) _ HR.out Tryz.underlying59 rfl (szTil _ _ _) ?_) | (refine wpList_allocG 59 (tiv ti0 none 0) run_allocTi rfl rfl ?_) | (refine wpList_storeG 59 szTi rfl _ _ rfl wr.heap.size rfl (tiv (X i) (S i).1 (S i).2) (tiv ti0 none 0) (tiv_size _ _ _) (tiv_size _ _ _) (tiv_one _ _ _) 59 rfl (heap_alloc_new wr _) ?_; intro u5 hg5 hf5; have hb5 := kfrm_new hf5; have HP : Hid (u5.rangeAt wr.heap.size 0 (ptl (X i).pt (X i).n)) := pt_range (til_range hg5); have HM5 : Hid (u5.ownsMap Tryz.prog 47 (unitElem (H := Unit)) (w.heap.size + 1) i D) := kowns_keep HM.out (hb5.block _ HM.out.lt); clear hg5 hf5) | (refine wpList_load_mid rfl 47 _ rfl wr.heap.size 0 rfl (ptl (X i).pt (X i).n) _ HP.out Tryz.underlying47 rfl (szPtl _ _) ?_) | (at_mapUpdate; refine wpList_mapUpdate_own u5 rfl _ _ _ 87 rfl 47 91 Kp.lawS Tryz.underlying87 (unitElem (H := Unit)) (w.heap.size + 1) i D rfl HM5.out (by simp [maxLen]; omega) (.agg (Kp.kv (X i).n (X i).pt)) (.agg #[]) (Kp.kl (X i).n (X i).pt) rfl rfl (Kp.keyOfS HZ.out.2 HZ.out.1) (.agg []) [] unitElem_mk ?_; intro u6 hm6 hg6) | fail)
   have HD6 : Hid (Kp.BkD (D.put (Kp.kl (X i).n (X i).pt) (.agg [])) (ptsL X (i + 1))) := BkD_pts HD.out (HM.out.tidy Kp.lawS) HZ.out.2 HZ.out.1 _
   have hb6 : Below w.heap.size w u6 := (hb.trans (hb5.mono hb.size)).grown hg6 (by have := hb.size; have := hb5.size; omega) (fun j hj => by cases hj; omega)
   go_roundw
   case rel => exact ⟨i + 1, _, by omega, by go_num, hm6, HD6.out, hb6⟩
   case measure => simp [intOf]; omega
  ·obtain rfl : i = n := by omega
   have hnn : ¬ ((i : Int) < i) := by omega
   go_wp2
   go_ret
   exact ⟨⟨_, rfl, D, _, HM.out, HD.out.size⟩, hb⟩
end Go.Proofs.YtanchjfodcjlmaaGreatDoor
/- tx.Check. -/
namespace Go.Proofs.YtanchjfodcjlmaaGreatDoor
open Go.RowKit

theorem kerrV_0 : errV 0 = .nilIface := rfl
theorem kerrV_ne {x : Int} (h : x ≠ 0) : errV x = .iface 81 (.int .i64 x) := if_neg h
/-- The first output's error that is none. -/
def outsE (O : Nat → To) : Nat → Int
 | 0 => 0
 | i + 1 => if outsE O i = 0 then outE (O i) else outsE O i
theorem outsE_stop {O : Nat → To} {i : Nat} (h : outsE O i ≠ 0) : ∀ n, i ≤ n → outsE O n = outsE O i
 | 0, hn => by obtain rfl : i = 0 := (by omega); rfl
 | n + 1, hn => by
  by_cases e : i = n + 1
  ·subst e; rfl
  ·have ih := outsE_stop h n (by omega)
   rw [outsE, ih, if_neg h]
/-- The numbers that a transaction's counts may be. -/
def NumOk (lk : Int) (n m : Nat) : Prop := (0 ≤ lk ∧ lk ≤ 1099511627776) ∧ (1 ≤ n ∧ n ≤ 64) ∧ (1 ≤ m ∧ m ≤ 64)
instance (lk : Int) (n m : Nat) : Decidable (NumOk lk n m) := inferInstanceAs (Decidable (_ ∧ _))
/-- A transaction's error. -/
def txE (lk : Int) (n : Nat) (X : Nat → Ti) (m : Nat) (O : Nat → To) : Int :=
 if ¬ NumOk lk n m then 4 else if ¬ InsOk X n then 4 else if ¬ Apart X n then 9 else if outsE O m ≠ 0 then outsE O m else totE O m
def txl (lk : Int) (ia : Option Addr) (n ic : Nat) (oa : Option Addr) (m oc : Nat) : List Value := [.int .i64 lk, .slice ia n ic, .slice oa m oc]
theorem txl_range {w : World} {g : Nat} {lk : Int} {ia : Option Addr} {n ic : Nat} {oa : Option Addr} {m oc : Nat} {t : TypeId} {fr : Nat × Nat} (h : w.heap[g]? = some (.cells #[.int .i64 lk, .slice ia n ic, .slice oa m oc] t fr)) : w.rangeAt g 0 (txl lk ia n ic oa m oc) := fun j v hv => by
 rw [Nat.zero_add, cell_of_row _ _ j _ _ _ h]
 simpa [txl] using hv
theorem szTx : (Tryz.prog.info? 35).map (·.size) = some 3 := by kernel_rfl
set_option maxRecDepth 100000 in
set_option maxHeartbeats 3200000 in
theorem kcheck_any (lk : Int) (ia : Option Addr) (n ic : Nat) (oa : Option Addr) (m oc : Nat) (X : Nat → Ti) (S : Nat → Option Addr × Nat) (O : Nat → To) (w : World) (h : TiAt w ia n X S) (ho : ToAt w oa m O) (hs : ∀ i, i < m → (O i).Small) (hn : n ≤ 1000000) (hm : m ≤ 1000000) :
  Calls Tryz.prog 12 #[.agg (txv lk ia n ic oa m oc)] w fun e w' => e = .returned (errV (txE lk n X m O)) ∧ Below w.heap.size w w' := by
 have hb0 : Below w.heap.size w (w.alloc (.cells #[.int .i64 lk, .slice ia n ic, .slice oa m oc] 35)) := (Below.refl _ w).alloc (Nat.le_refl _) _
 have hr0 := heap_alloc_new w (.cells #[.int .i64 lk, .slice ia n ic, .slice oa m oc] 35)
 have HH : Hid (TiAt w ia n X S ∧ ToAt w oa m O ∧ ∀ i, i < m → (O i).Small) := ⟨h, ho, hs⟩
 clear h ho hs
 unfold txv
 by_cases hN : NumOk lk n m
 ·obtain ⟨hl, hnn, hmm⟩ := hN
  have HN : Hid (NumOk lk n m) := ⟨hl, hnn, hmm⟩
  have d1 : decide (0 ≤ lk ∧ lk ≤ 1099511627776) = true := by simpa using hl
  have d2 : decide ((1 : Int) ≤ (n : Int) ∧ (n : Int) ≤ 64) = true := by simp; omega
  have d3 : decide ((1 : Int) ≤ (m : Int) ∧ (m : Int) ≤ 64) = true := by simp; omega
  go_enter Tryz.func12, Tryz.ntmps12
  go_wp2_with fail
  generalize w.alloc (.cells #[.int .i64 lk, .slice ia n ic, .slice oa m oc] 35) = W0 at *
  have c1 : W0.cell? ⟨w.heap.size, 1, none⟩ = some (.slice ia n ic) := by rw [cell_of_row _ _ 1 _ _ _ hr0]; rfl
  have c2 : W0.cell? ⟨w.heap.size, 2, none⟩ = some (.slice oa m oc) := by rw [cell_of_row _ _ 2 _ _ _ hr0]; rfl
  refine (kwithin_any lk 0 1099511627776 _).mono ?_
  rintro e w1 ⟨rfl, hW⟩
  rw [hW, d1]
  clear hW
  go_wp2_with fail
  refine (kwithin_any n 1 64 _).mono ?_
  rintro e w1 ⟨rfl, hW⟩
  rw [hW, d2]
  clear hW
  go_wp2_with fail
  refine (kwithin_any m 1 64 _).mono ?_
  rintro e w1 ⟨rfl, hW⟩
  rw [hW, d3]
  clear hW d1 d2 d3 hl hnn hmm
  go_wp2_with fail
  refine (kcontains_any ia n ic X S W0 (HH.out.1.below hb0) hn).mono ?_
  rintro e w2 ⟨rfl, hb2⟩
  by_cases hI : InsOk X n
  ·have d4 : (!decide (InsOk X n)) = false := by simpa using hI
   rw [d4]
   clear d4
   have HI : Hid (InsOk X n) := hI
   clear hI
   have HB2 : Hid (Below w.heap.size w w2) := hb0.trans (hb2.mono hb0.size)
   have hr2 : w2.heap[w.heap.size]? = some (.cells #[.int .i64 lk, .slice ia n ic, .slice oa m oc] 35 (0, 0)) := by rw [hb2.block _ (lt_of_block hr0)]; exact hr0
   have HR2 : Hid (∀ w', Below w2.heap.size w2 w' → w'.heap[w.heap.size]? = some (.cells #[.int .i64 lk, .slice ia n ic, .slice oa m oc] 35 (0, 0))) := fun w' hb => by rw [hb.block _ (lt_of_block hr2)]; exact hr2
   clear hb2 hr2 hr0 hb0 c1 c2
   go_wp2_with fail
   have HS : Hid (∀ w', Below w2.heap.size w2 w' → w'.rangeAt w.heap.size 0 (txl lk ia n ic oa m oc) ∧ w'.cell? ⟨w.heap.size, 1, none⟩ = some (.slice ia n ic)) := fun w' hb => ⟨txl_range (HR2.out w' hb), by rw [cell_of_row _ _ 1 _ _ _ (HR2.out w' hb)]; rfl⟩
   have S0 := HS.out w2.drew (Below.refl _ w2).drew
   refine wp_region_noPanic ?_
   refine wp_region_held_drew (S := fun w' => w'.rangeAt w.heap.size 0 (txl lk ia n ic oa m oc) ∧ w'.cell? ⟨w.heap.size, 1, none⟩ = some (.slice ia n ic)) (by kernel_rfl) S0 (fun hHeld => ?_)
   refine wpAnyH_take (i := 0) (oi := ⟨some 32, .load 35 (.tmp 1), 35, _, _, none⟩) rfl (by kernel_rfl) (by kernel_rfl) (by kernel_rfl) (fun _ _ _ h => h) (yieldsIf_load_mid (by rfl) _ _ rfl w.heap.size 0 rfl (txl lk ia n ic oa m oc) _ (fun _ h => h.1) Tryz.underlying35 rfl szTx) (by assumption) ?_
   try simp only [Act.put, sqA, sqB, sqC]
   refine wpT (i := 3) (oi := ⟨some 35, .fieldAddr 35 (.tmp 1) 1, 0, _, _, none⟩) (v := ?_) rfl (by kernel_rfl) (fun _ _ _ h => h) (Or.inl ⟨by rfl, ?_⟩) (by assumption) ?_
   rotate_left
   ·intro wz hSw; (try dsimp only at hSw); go_simp; (try with_reducible rfl)
   try simp only [Act.put, sqA, sqB, sqC]
   refine wpT (i := 4) (oi := ⟨some 36, .load 32 (.tmp 35), 32, _, _, none⟩) (v := ?_) rfl (by kernel_rfl) (fun _ _ _ h => h) (Or.inl ⟨by rfl, ?_⟩) (by assumption) ?_
   rotate_left
   ·intro wz hSw; (try dsimp only at hSw); go_simp; (try with_reducible rfl)
   try simp only [Act.put, sqA, sqB, sqC]
   refine wpT (i := 5) (oi := ⟨some 37, .call { callee := Go.Callee.builtin Go.Builtin.len, args := #[.tmp 36], argTypes := #[32] }, 3, _, _, none⟩) (v := ?_) rfl (by kernel_rfl) (fun _ _ _ h => h) (Or.inl ⟨by rfl, ?_⟩) (by assumption) ?_
   rotate_left
   ·intro wz hSw; (try dsimp only at hSw); go_simp; (try with_reducible rfl)
   try simp only [Act.put, sqA, sqB, sqC]
   refine wpAnyH_ready (rs := [1]) (by kernel_rfl) (by simp) ?_
   refine (AllReadyH.cons (o := ⟨some 33, .call { callee := Go.Callee.value (.func 31), args := #[.tmp 32], argTypes := #[35] }, 87, _, _, none⟩) rfl (fun K hK => ?_) AllReadyH.nil)
   go_simp
   refine (points_any lk ia n ic oa m oc X S w2.drew (HH.out.1.below HB2.out.drew) (fun i hi => by have := (HI.out i hi).1; exact ⟨by omega, by omega⟩) hn).mono ?_
   rintro e w3 ⟨⟨pb, rfl, hpm⟩, hb3⟩
   have HB3 : Hid (Below w2.heap.size w2 w3) := (Below.refl _ w2).drew.trans hb3
   clear hb3
   obtain ⟨D, kk, hD, hDs⟩ := hpm
   have hlen : ∀ ty, (Builtin.len_ #[87] ty #[.map (some pb)]).run Tryz.prog w3 = .ok (.int .i64 ((ptsL X n).length : Nat)) w3 := fun ty => by rw [← hDs]; exact hD.len (t := 87) (e := 91) Tryz.underlying87 ty
   clear hD hDs
   refine hK.out _ _ (HS.out w3 HB3.out) (fun _ => ?_)
   clear hK K
   refine wpAnyH_ready (rs := [2]) (by kernel_rfl) (by simp) ?_
   refine (AllReadyH.cons (o := ⟨some 34, .call { callee := Go.Callee.builtin Go.Builtin.len, args := #[.tmp 33], argTypes := #[87] }, 3, _, _, none⟩) rfl (fun K hK => ?_) AllReadyH.nil)
   go_simp
   refine hK.out _ _ (HS.out w3 HB3.out) (fun _ => ?_)
   clear hK K hlen
   try simp only [Act.put, sqA, sqB, sqC]
   refine wpT (i := 6) (oi := ⟨some 38, .binOp .lss 3 (.tmp 34) (.tmp 37) 3, 4, _, _, none⟩) (v := ?_) rfl (by kernel_rfl) (fun _ _ _ h => h) (Or.inl ⟨by rfl, ?_⟩) (by assumption) ?_
   rotate_left
   ·intro wz hSw; (try dsimp only at hSw); go_simp; (try with_reducible rfl)
   try simp only [Act.put, sqA, sqB, sqC]
   refine wpT (i := 7) (oi := ⟨some 31, .assign (.tmp 38), 4, _, _, none⟩) (v := ?_) rfl (by kernel_rfl) (fun _ _ _ h => h) (Or.inl ⟨by rfl, ?_⟩) (by assumption) ?_
   rotate_left
   ·intro wz hSw; (try dsimp only at hSw); go_simp; (try with_reducible rfl)
   try simp only [Act.put, sqA, sqB, sqC]
   refine wpAnyH_done (by kernel_rfl) (NoPanic.normal ?_) _
   try simp only [Act.put, sqA, sqB, sqC]
   clear hHeld S0
   by_cases hA : Apart X n
   ·have hl : (ptsL X n).length = n := (ptsL_full X n).2 hA
    have hl' : decide ((ptsL X n).length < n) = false := by simp; omega
    rw [hl']
    clear hl'
    have HE : Hid (txE lk n X m O = if outsE O m ≠ 0 then outsE O m else totE O m) := by unfold txE; rw [if_neg (by simpa using HN.out), if_neg (by simpa using HI.out), if_neg (by simpa using hA)]; exact rfl
    have hb3 : Below w.heap.size w w3 := HB2.out.trans (HB3.out.mono HB2.out.size)
    have hr3 := HR2.out w3 HB3.out
    have c2 : w3.cell? ⟨w.heap.size, 2, none⟩ = some (.slice oa m oc) := by rw [cell_of_row _ _ 2 _ _ _ hr3]; rfl
    clear hA hl HS HB3 HB2 HR2 HI HN
    go_wp2
    clear c2
    go_loopw [2, 5, 6, 43] (fun _ _ _ iv wr => ∃ i : Nat, i ≤ m ∧ iv = .int .i64 i ∧ outsE O i = 0 ∧ Below w.heap.size w wr ∧ wr.heap[w.heap.size]? = some (.cells #[.int .i64 lk, .slice ia n ic, .slice oa m oc] 35 (0, 0))) (fun _ _ _ iv _ => m + 1 - (intOf iv).toNat)
    case atStart => exact ⟨0, by omega, rfl, rfl, hb3, hr3⟩
    case round =>
     clear hb3 hr3
     obtain ⟨i, hi, rfl, hz, hb, hr⟩ := hrel
     have HZ : Hid (outsE O i = 0) := hz
     clear hz
     by_cases hlt : i < m
     ·have hlt' : (i : Int) < m := by omega
      obtain ⟨b, off, rfl, hc⟩ := HH.out.2.1.at_ (by omega)
      obtain ⟨ca, cc, hr0, hbr, _⟩ := hc i hlt
      have hr1 := range_below hr0 hb
      have c0 : wr.cell? ⟨b, off + i * 2, none⟩ = some (.int .i64 (O i).am) := by simpa using hr1 0 _ rfl
      have c1 : wr.cell? ⟨b, off + i * 2 + 1, none⟩ = some (.slice ca (O i).cn cc) := hr1 1 _ rfl
      have hb1 : Below w.heap.size w (wr.alloc (.cells #[.int .i64 (O i).am, .slice ca (O i).cn cc] 79)) := hb.alloc hb.size _
      have hk := checkOut_any (O i) ca cc (wr.alloc (.cells #[.int .i64 (O i).am, .slice ca (O i).cn cc] 79)) (hbr.below hb1) (HH.out.2.2 i hlt)
      have hrA : (wr.alloc (.cells #[.int .i64 (O i).am, .slice ca (O i).cn cc] 79)).heap[w.heap.size]? = some (.cells #[.int .i64 lk, .slice ia n ic, .slice (some ⟨b, off, none⟩) m oc] 35 (0, 0)) := by rw [Below.heap_alloc _ _ _ (lt_of_block hr)]; exact hr
      unfold tov at hk
      clear hc hr0 hbr hr1
      by_cases hq : outE (O i) = 0
      ·rw [hq, kerrV_0] at hk
       have HN : Hid (outsE O (i + 1) = 0) := by rw [outsE, if_pos HZ.out]; exact hq
       clear hq
       go_wp2_with fail
       generalize wr.alloc (.cells #[.int .i64 (O i).am, .slice ca (O i).cn cc] 79) = q1 at *
       refine hk.mono ?_
       rintro e q2 ⟨rfl, hb2⟩
       have hrB : q2.heap[w.heap.size]? = some (.cells #[.int .i64 lk, .slice ia n ic, .slice (some ⟨b, off, none⟩) m oc] 35 (0, 0)) := by rw [hb2.block _ (lt_of_block hrA)]; exact hrA
       have hbB : Below w.heap.size w q2 := hb1.trans (hb2.mono hb1.size)
       clear hk hrA hb1 hb2 c0 c1 hr hb
       go_wp2
       go_roundw
       case rel => exact ⟨i + 1, by omega, by go_num, HN.out, hbB, hrB⟩
       case measure => simp [intOf]; omega
      ·rw [kerrV_ne hq] at hk
       have HE2 : Hid (errV (txE lk n X m O) = .iface 81 (.int .i64 (outE (O i)))) := by
        have e1 : outsE O (i + 1) = outE (O i) := by rw [outsE, if_pos HZ.out]
        have e2 : outsE O m = outE (O i) := by rw [← e1]; exact outsE_stop (by rw [e1]; exact hq) m (by omega)
        rw [HE.out, e2, if_pos hq, kerrV_ne hq]; exact rfl
       clear hq
       go_wp2_with fail
       generalize wr.alloc (.cells #[.int .i64 (O i).am, .slice ca (O i).cn cc] 79) = q1 at *
       refine hk.mono ?_
       rintro e q2 ⟨rfl, hb2⟩
       have hbB : Below w.heap.size w q2 := hb1.trans (hb2.mono hb1.size)
       clear hk hrA hb1 hb2 c0 c1 hr hb
       go_wp2
       go_ret
       exact ⟨by rw [HE2.out]; rfl, hbB⟩
     ·obtain rfl : i = m := by omega
      have hnn : ¬ ((i : Int) < i) := by omega
      have HE3 : Hid (txE lk n X i O = totE O i) := by rw [HE.out, if_neg (by simpa using HZ.out)]; exact rfl
      have hk := ktotal_any lk ia n ic oa i oc O wr (HH.out.2.1.below hb) hm
      unfold txv at hk
      obtain ⟨c0, c1, c2⟩ : wr.cell? ⟨w.heap.size, 0, none⟩ = some (.int .i64 lk) ∧ wr.cell? ⟨w.heap.size, 1, none⟩ = some (.slice ia n ic) ∧ wr.cell? ⟨w.heap.size, 2, none⟩ = some (.slice oa i oc) := ⟨by rw [cell_of_row _ _ 0 _ _ _ hr]; rfl, by rw [cell_of_row _ _ 1 _ _ _ hr]; rfl, by rw [cell_of_row _ _ 2 _ _ _ hr]; rfl⟩
      go_wp2_with fail
      refine hk.mono ?_
      rintro e q2 ⟨rfl, hb2⟩
      have hbB : Below w.heap.size w q2 := hb.trans (hb2.mono hb.size)
      clear hk c0 c1 c2 hr hb hb2
      go_wp2
      go_ret
      exact ⟨by rw [HE3.out]; rfl, hbB⟩
   ·have hl' : ((ptsL X n).length : Int) < (n : Int) := by have h1 := ptsL_le X n; have h2 : (ptsL X n).length ≠ n := fun h => hA ((ptsL_full X n).1 h); omega
    have HE : Hid (txE lk n X m O = 9) := by unfold txE; rw [if_neg (by simpa using HN.out), if_neg (by simpa using HI.out), if_pos hA]; exact rfl
    have HBE : Hid (Below w.heap.size w w3) := HB2.out.trans (HB3.out.mono HB2.out.size)
    clear hA
    go_wp2
    go_ret
    exact ⟨by rw [HE.out]; rfl, HBE.out⟩
  ·have d4 : (!decide (InsOk X n)) = true := by simpa using hI
   rw [d4]
   have HE : Hid (txE lk n X m O = 4) := by unfold txE; rw [if_neg (by simpa using HN.out), if_pos hI]; exact rfl
   have HBE : Hid (Below w.heap.size w w2) := hb0.trans (hb2.mono hb0.size)
   clear d4 hI hr0 hb2 c1 c2 hb0
   go_wp2
   go_ret
   exact ⟨by rw [HE.out]; rfl, HBE.out⟩
 ·have HE : Hid (txE lk n X m O = 4) := if_pos hN
  by_cases h1 : 0 ≤ lk ∧ lk ≤ 1099511627776
  ·have d1 : decide (0 ≤ lk ∧ lk ≤ 1099511627776) = true := by simpa using h1
   by_cases h2 : 1 ≤ n ∧ n ≤ 64
   ·have d2 : decide ((1 : Int) ≤ (n : Int) ∧ (n : Int) ≤ 64) = true := by simp; omega
    have d3 : decide ((1 : Int) ≤ (m : Int) ∧ (m : Int) ≤ 64) = false := by
     have : ¬ (1 ≤ m ∧ m ≤ 64) := fun h => hN ⟨h1, h2, h⟩
     rw [decide_eq_false_iff_not]; omega
    clear hN h1 h2
    go_enter Tryz.func12, Tryz.ntmps12
    go_wp2_with fail
    generalize w.alloc (.cells #[.int .i64 lk, .slice ia n ic, .slice oa m oc] 35) = W0 at *
    have c1 : W0.cell? ⟨w.heap.size, 1, none⟩ = some (.slice ia n ic) := by rw [cell_of_row _ _ 1 _ _ _ hr0]; rfl
    have c2 : W0.cell? ⟨w.heap.size, 2, none⟩ = some (.slice oa m oc) := by rw [cell_of_row _ _ 2 _ _ _ hr0]; rfl
    refine (kwithin_any lk 0 1099511627776 _).mono ?_
    rintro e w1 ⟨rfl, hW⟩
    rw [hW, d1]
    clear hW
    go_wp2_with fail
    refine (kwithin_any n 1 64 _).mono ?_
    rintro e w1 ⟨rfl, hW⟩
    rw [hW, d2]
    clear hW
    go_wp2_with fail
    refine (kwithin_any m 1 64 _).mono ?_
    rintro e w1 ⟨rfl, hW⟩
    rw [hW, d3]
    clear hW
    go_wp2
    go_ret
    exact ⟨by rw [HE.out]; rfl, hb0⟩
   ·have d2 : decide ((1 : Int) ≤ (n : Int) ∧ (n : Int) ≤ 64) = false := by rw [decide_eq_false_iff_not]; omega
    clear hN h1 h2
    go_enter Tryz.func12, Tryz.ntmps12
    go_wp2_with fail
    generalize w.alloc (.cells #[.int .i64 lk, .slice ia n ic, .slice oa m oc] 35) = W0 at *
    have c1 : W0.cell? ⟨w.heap.size, 1, none⟩ = some (.slice ia n ic) := by rw [cell_of_row _ _ 1 _ _ _ hr0]; rfl
    refine (kwithin_any lk 0 1099511627776 _).mono ?_
    rintro e w1 ⟨rfl, hW⟩
    rw [hW, d1]
    clear hW
    go_wp2_with fail
    refine (kwithin_any n 1 64 _).mono ?_
    rintro e w1 ⟨rfl, hW⟩
    rw [hW, d2]
    clear hW
    go_wp2
    go_ret
    exact ⟨by rw [HE.out]; rfl, hb0⟩
  ·have d1 : decide (0 ≤ lk ∧ lk ≤ 1099511627776) = false := by simpa using h1
   clear hN h1
   go_enter Tryz.func12, Tryz.ntmps12
   go_wp2_with fail
   refine (kwithin_any lk 0 1099511627776 _).mono ?_
   rintro e w1 ⟨rfl, hW⟩
   rw [hW, d1]
   clear hW
   go_wp2
   go_ret
   exact ⟨by rw [HE.out]; rfl, hb0⟩
end Go.Proofs.YtanchjfodcjlmaaGreatDoor
/- The document's Check. -/
namespace Go.Proofs.YtanchjfodcjlmaaGreatDoor.Cd
open Go.RowKit

/-- A branch of noughts. -/
def b0 : Bv := ⟨0, fun _ => 0, fun _ => 0, 0, 0⟩
theorem run_allocR (w : World) : (Instr.alloc 73 true (.tuple #[])).run Tryz.prog w = .ok (.pointer (some ⟨w.heap.size, 0, none⟩)) (w.alloc (.cells (bv b0 none 0) 73)) := by kernel_rfl
section
variable {ops : Array Oper} {rest : List Oper} {o : Oper} {a : Act} {w : World} {Q : Exit → Act → World → Prop}
theorem wpList_allocR (hgd : o.guard = none) (ho : o.op = .alloc 73)
  (h : wpList Tryz.prog ops Q rest (a.put o.dst (.pointer (some ⟨w.heap.size, 0, none⟩))) (w.alloc (.cells (bv b0 none 0) 73))) : wpList Tryz.prog ops Q (o :: rest) a w := by
 refine wpList_plain hgd fun K hK => ?_
 unfold Oper.wp execOp
 simp only [ho, Sem.run_bind, run_allocR, Result.andThen]
 exact hK _ _ h
/-- A whole branch stored into a variable of its own. -/
theorem wpList_storeR (T : TypeId) (hT : (Tryz.prog.info? T).map (·.size) = some 35) (hgd : o.guard = none) (x y : Operand) (ho : o.op = .store T x y) (g : Nat) (hx : a.eval x = .pointer (some ⟨g, 0, none⟩)) (v u : Bv) (ka ua : Option Addr) (kc uc : Nat) (t : TypeId) (hy : a.eval y = .agg (bv v ka kc)) (hg : w.heap[g]? = some (.cells (bv u ua uc) t (0, 0)))
  (h : ∀ w', w'.heap[g]? = some (.cells (bv v ka kc) t (0, 0)) → Frm [g] w w' → wpList Tryz.prog ops Q rest (a.put o.dst undef) w') : wpList Tryz.prog ops Q (o :: rest) a w := by
 refine wpList_store_mid hgd T x y ho g 0 (bv v ka kc) hx hy ?_ (by rw [bv_size]; exact hT) (bv_one v ka kc) (h _ ?_ (setCells_frm g _ 0 w))
 ·intro j hj
  rw [bv_size] at hj
  refine ⟨?_, ?_⟩
  ·rw [Nat.zero_add, cell_of_row w g j _ t _ hg]
   simp [bv_size, hj]
  ·rw [Nat.zero_add]; exact frozen_of_row w g j _ t hg
 ·have := setCells_at g (bv v ka kc).toList 0 w [] (bv u ua uc).toList t (by simpa using hg) rfl (by simp [bv_size])
  rw [this]
  simp [bv_size, List.drop_eq_nil_of_le]
end
theorem BBox.below {w w' : World} {g : Nat} {x : Bv} {ka : Option Addr} {kc : Nat} (h : BBox w g x ka kc) (hb : Below w.heap.size w w') : BBox w' g x ka kc := by
 have hl : g < w.heap.size := World.block_lt_of_cell? w ⟨g, 0, none⟩ h.c0
 exact ⟨by rw [hb.cell (p := ⟨g, 0, none⟩) hl]; exact h.c0, by rw [hb.cell (p := ⟨g, 33, none⟩) hl]; exact h.c33, by rw [hb.cell (p := ⟨g, 34, none⟩) hl]; exact h.c34⟩

end Go.Proofs.YtanchjfodcjlmaaGreatDoor.Cd
