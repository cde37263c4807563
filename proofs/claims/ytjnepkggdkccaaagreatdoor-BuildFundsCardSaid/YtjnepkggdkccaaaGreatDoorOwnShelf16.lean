/- cond.Check. -/
import Derived.Test.YtjnepkggdkccaaaGreatDoorOwnShelf07
import Derived.Test.YtjnepkggdkccaaaGreatDoorOwnShelf15
import Derived.Test.YtjnepkggdkccaaaGreatDoorOwnShelf06
import Derived.Test.YtjnepkggdkccaaaGreatDoorOwnShelf05
namespace Go.Proofs.YtjnepkggdkccaaaGreatDoor.Cd
open Go.RowKit

theorem within_any (n m : Int) (w : World) :
  Calls Tryz.prog 137 #[.int .i64 n, .int .i64 m] w fun e w' => e = .returned (.bool (decide (0 ≤ n ∧ n ≤ m))) ∧ w' = w := by
 by_cases h : 0 ≤ n
 ·go_enter Tryz.func137, Tryz.ntmps137
  go_wp2
  go_ret
  simp [h]
 ·have e : decide (0 ≤ n ∧ n ≤ m) = false := by simp; omega
  rw [e]
  go_enter Tryz.func137, Tryz.ntmps137
  go_wp2
  go_ret
  simp

set_option maxHeartbeats 800000 in
theorem keys_any (ka : Option Addr) (n kc : Nat) (z : Nat → Int) (w : World) (h : IsAt w ka n z) (hn : n ≤ 1000000) :
  Calls Tryz.prog 136 #[.slice ka n kc] w fun e w' => e = .returned (.bool (decide (KOk z n ∧ 0 < n))) ∧ Below w.heap.size w w' := by
 have HI : Hid (IsAt w ka n z) := h
 have hb0 := Below.refl w.heap.size w
 clear h
 go_enter Tryz.func136, Tryz.ntmps136
 go_wp2
 go_loopw [3, 5, 8] (fun lv kv iv wr => ∃ i : Nat, i ≤ n ∧ lv = .int .i64 (lastK z i) ∧ iv = .int .i64 i ∧ KOk z i ∧ Below w.heap.size w wr) (fun _ _ iv _ => n + 1 - (intOf iv).toNat)
 case atStart => exact ⟨0, by omega, rfl, rfl, fun j hj => by omega, hb0⟩
 case round =>
  clear hb0
  obtain ⟨i, hi, rfl, rfl, hk, hb⟩ := hrel
  have HK : Hid (KOk z i) := hk
  clear hk
  by_cases hlt : i < n
  ·have hlt' : (i : Int) < n := by omega
   obtain ⟨b, off, rfl, hc⟩ := HI.out (by omega)
   have hci : wr.cell? ⟨b, off + i, none⟩ = some (.int .i64 (z i)) := by
    have := hc i hlt
    rw [hb.cell (p := ⟨b, off + i, none⟩) (World.block_lt_of_cell? w ⟨b, off + i, none⟩ this)]; exact this
   clear hc
   by_cases h1 : lastK z i < z i
   ·have h1' : ¬ z i ≤ lastK z i := by omega
    by_cases h2 : z i < 16
    ·have h2' : ¬ 16 ≤ z i := by omega
     have HN : Hid (KOk z (i + 1)) := fun j hj => by
      by_cases e : j = i
      ·subst e; exact ⟨h1, h2⟩
      ·exact HK.out j (by omega)
     have e1 := lastK_succ z i
     generalize lastK z i = q at *
     go_wp2
     go_roundw
     case rel => exact ⟨i + 1, by omega, by rw [e1], by go_num, HN.out, hb⟩
     case measure => simp [intOf]; omega
    ·have h2' : 16 ≤ z i := by omega
     have HN : Hid (¬ KOk z n) := fun hk => h2 (hk i hlt).2
     generalize lastK z i = q at *
     go_wp2
     go_ret
     exact ⟨by simp [HN.out], hb⟩
   ·have h1' : z i ≤ lastK z i := by omega
    have HN : Hid (¬ KOk z n) := fun hk => h1 (hk i hlt).1
    generalize lastK z i = q at *
    go_wp2
    go_ret
    exact ⟨by simp [HN.out], hb⟩
  ·obtain rfl : i = n := by omega
   have hnn : ¬ ((i : Int) < i) := by omega
   have hk := HK.out
   go_wp2
   go_ret
   exact ⟨by simp, hb⟩

set_option maxHeartbeats 800000 in
theorem mayBe_any (x : Bv) (ka : Option Addr) (kc : Nat) (w : World) (h : IsAt w ka x.n x.z) (hn : x.n ≤ 1000000) :
  Calls Tryz.prog 124 #[.agg (bv x ka kc)] w fun e w' => e = .returned (.bool (decide (BOk x))) ∧ Below w.heap.size w w' := by
 have HI : Hid (IsAt (w.alloc (.cells (bv x ka kc) 164)) ka x.n x.z) := h.below ((Below.refl _ w).alloc (Nat.le_refl _) _)
 have hb0 : Below w.heap.size w (w.alloc (.cells (bv x ka kc) 164)) := (Below.refl _ w).alloc (Nat.le_refl _) _
 have hs0 : w.heap.size + 1 = (w.alloc (.cells (bv x ka kc) 164)).heap.size := by simp
 obtain ⟨c0, c33, c34⟩ := bbox_of (heap_alloc_new w (.cells (bv x ka kc) 164))
 have hk := keys_any ka x.n kc x.z _ HI.out hn
 clear h
 go_enter Tryz.func124, Tryz.ntmps124
 go_wp2_with (first | (refine Go.Great.wpList_boxTo rfl _ _ rfl _ rfl _ rfl (bv x ka kc) rfl ?_) | fail)
 generalize w.alloc (.cells (bv x ka kc) 164) = W0 at *
 have W0lt : w.heap.size < W0.heap.size := by omega
 have kc33 : ∀ w1, Below W0.heap.size W0 w1 → w1.cell? ⟨w.heap.size, 33, none⟩ = some (.int .i64 x.af) := fun w1 hb => by rw [hb.cell (p := ⟨w.heap.size, 33, none⟩) W0lt]; exact c33
 have kc34 : ∀ w1, Below W0.heap.size W0 w1 → w1.cell? ⟨w.heap.size, 34, none⟩ = some (.int .i64 x.ol) := fun w1 hb => by rw [hb.cell (p := ⟨w.heap.size, 34, none⟩) W0lt]; exact c34
 clear c33 c34 HI
 by_cases h1 : KOk x.z x.n ∧ 0 < x.n
 ·have e1 : decide (KOk x.z x.n ∧ 0 < x.n) = true := by simp [h1]
  rw [e1] at hk
  by_cases h2 : 0 ≤ x.af ∧ x.af ≤ 1099511627776
  ·have e2 : decide (0 ≤ x.af ∧ x.af ≤ 1099511627776) = true := by simp [h2]
   have HE : Hid (decide (BOk x) = decide (0 ≤ x.ol ∧ x.ol ≤ 65536)) := by show _ = _; simp [BOk, h1, h2]
   have hw1 := within_any x.af 1099511627776
   rw [e2] at hw1
   have hw2 := within_any x.ol 65536
   generalize decide (0 ≤ x.ol ∧ x.ol ≤ 65536) = r at *
   clear e1 e2 h1 h2
   go_wp2_with fail
   refine hk.mono ?_
   rintro e w1 ⟨rfl, hb1⟩
   have d33 := kc33 w1 hb1
   have d34 := kc34 w1 hb1
   clear kc33 kc34 hk
   go_wp2_with fail
   refine (hw1 w1).mono ?_
   rintro e w2 ⟨rfl, rfl⟩
   go_wp2_with fail
   refine (hw2 _).mono ?_
   rintro e w3 ⟨rfl, rfl⟩
   go_wp2
   go_ret
   exact ⟨by rw [HE.out]; rfl, Below.trans hb0 (hb1.mono (by omega))⟩
  ·have e2 : decide (0 ≤ x.af ∧ x.af ≤ 1099511627776) = false := by simp only [decide_eq_false_iff_not]; exact h2
   have HE : Hid (decide (BOk x) = false) := by show _ = _; simp only [decide_eq_false_iff_not]; exact fun h => h2 h.2.1
   have hw1 := within_any x.af 1099511627776
   rw [e2] at hw1
   clear e1 e2 h1 h2
   go_wp2_with fail
   refine hk.mono ?_
   rintro e w1 ⟨rfl, hb1⟩
   have d33 := kc33 w1 hb1
   clear kc33 kc34 hk
   go_wp2_with fail
   refine (hw1 w1).mono ?_
   rintro e w2 ⟨rfl, rfl⟩
   go_wp2
   go_ret
   exact ⟨by rw [HE.out]; rfl, Below.trans hb0 (hb1.mono (by omega))⟩
 ·have e1 : decide (KOk x.z x.n ∧ 0 < x.n) = false := by simp only [decide_eq_false_iff_not]; exact h1
  rw [e1] at hk
  have HE : Hid (decide (BOk x) = false) := by show _ = _; simp only [decide_eq_false_iff_not]; exact fun h => h1 h.1
  clear e1 h1 kc33 kc34
  go_wp2_with fail
  refine hk.mono ?_
  rintro e w1 ⟨rfl, hb1⟩
  clear hk
  go_wp2
  go_ret
  exact ⟨by rw [HE.out]; rfl, Below.trans hb0 (hb1.mono (by omega))⟩

set_option maxHeartbeats 800000 in
theorem bad_any (x : Bv) (ka : Option Addr) (kc : Nat) (w : World) (h : IsAt w ka x.n x.z) (hn : x.n ≤ 1000000) :
  Calls Tryz.prog 123 #[.agg (bv x ka kc)] w fun e w' => e = .returned (.bool (!decide (BOk x))) ∧ Below w.heap.size w w' := by
 have hI := h.below ((Below.refl _ w).alloc (Nat.le_refl _) (.cells (bv x ka kc) 164))
 have hb0 : Below w.heap.size w (w.alloc (.cells (bv x ka kc) 164)) := (Below.refl _ w).alloc (Nat.le_refl _) _
 have hbx := heap_alloc_new w (.cells (bv x ka kc) 164)
 have hm := mayBe_any x ka kc _ hI hn
 clear h hI
 generalize decide (BOk x) = r at *
 go_enter Tryz.func123, Tryz.ntmps123
 go_wp2_with (first | (refine Go.Great.wpList_boxTo rfl _ _ rfl _ rfl _ rfl (bv x ka kc) rfl ?_) | (refine wpList_load_row rfl 164 _ rfl w.heap.size rfl _ (bv x ka kc) _ _ hbx Tryz.underlying164 rfl (szBv x ka kc) ?_) | (go_at_call 124; refine hm.mono ?_; rintro e w1 ⟨rfl, hb1⟩) | fail)
 go_ret
 exact ⟨rfl, Below.trans hb0 (hb1.mono hb0.size)⟩

set_option maxHeartbeats 1600000 in
theorem index_any (ad : Option Addr) (n cap : Nat) (X : Nat → Bv) (w : World) (h : BrAt w ad n X) (hn : n ≤ 1000000) (hx : ∀ i, i < n → (X i).n ≤ 1000000) :
  Calls Tryz.prog 138 #[.slice ad n cap, .func (.func 123) #[] #[]] w fun e w' => (∃ q : Int, e = .returned (.int .i64 q) ∧ decide (q ≥ 0) = !decide (AllOk X n)) ∧ Below w.heap.size w w' := by
 have HB : Hid (BrAt w ad n X) := h
 have hb0 := Below.refl w.heap.size w
 have eg : ∀ args w, (callFunc 123 args).run Tryz.prog w = .ok (.enter 123 args) w := enters_of Tryz.func123 (by kernel_rfl) rfl
 clear h
 go_enter Tryz.func138, Tryz.ntmps138
 go_wp2
 go_loopw [5, 8] (fun _ iv wr => ∃ i : Nat, i ≤ n ∧ iv = .int .i64 i ∧ AllOk X i ∧ Below w.heap.size w wr) (fun _ iv _ => n + 1 - (intOf iv).toNat)
 case atStart => exact ⟨0, by omega, rfl, fun j hj => by omega, hb0⟩
 case round =>
  clear hb0
  obtain ⟨i, hi, rfl, hk, hb⟩ := hrel
  have HK : Hid (AllOk X i) := hk
  clear hk
  by_cases hlt : i < n
  ·have hlt' : (i : Int) < n := by omega
   obtain ⟨b, off, rfl, hc⟩ := HB.out.at_ (by omega)
   obtain ⟨ka, kc, hr0, hI0⟩ := hc i hlt
   have HR : Hid (wr.rangeAt b (off + i * 35) (brl (X i) ka kc)) := range_below hr0 hb
   have hcall := bad_any (X i) ka kc wr (hI0.below hb) (hx i hlt)
   clear hc hr0 hI0
   by_cases hq : BOk (X i)
   ·have e1 : decide (BOk (X i)) = true := by simp [hq]
    rw [e1] at hcall
    have HN : Hid (AllOk X (i + 1)) := fun j hj => by
     by_cases e : j = i
     ·subst e; exact hq
     ·exact HK.out j (by omega)
    clear e1 hq
    go_wp2_with (first | (refine wpList_load_mid rfl 164 _ rfl b (off + i * 35) rfl (brl (X i) ka kc) _ HR.out Tryz.underlying164 rfl (szBl _ _ _) ?_) | (go_at_fn 123; refine hcall.mono ?_; rintro e w1 ⟨rfl, hb1⟩) | fail)
    go_roundw
    case rel => exact ⟨i + 1, by omega, by go_num, HN.out, hb.trans (hb1.mono hb.size)⟩
    case measure => simp [intOf]; omega
   ·have e1 : decide (BOk (X i)) = false := by simpa using hq
    rw [e1] at hcall
    have HN : Hid (¬ AllOk X n) := fun h => hq (h i hlt)
    clear e1 hq
    go_wp2_with (first | (refine wpList_load_mid rfl 164 _ rfl b (off + i * 35) rfl (brl (X i) ka kc) _ HR.out Tryz.underlying164 rfl (szBl _ _ _) ?_) | (go_at_fn 123; refine hcall.mono ?_; rintro e w1 ⟨rfl, hb1⟩) | fail)
    go_ret
    refine ⟨⟨_, rfl, ?_⟩, hb.trans (hb1.mono hb.size)⟩
    have := HN.out
    simp [this]
  ·obtain rfl : i = n := by omega
   have hnn : ¬ ((i : Int) < i) := by omega
   have hk := HK.out
   go_wp2
   go_ret
   refine ⟨⟨_, rfl, ?_⟩, hb⟩
   simp

set_option maxHeartbeats 800000 in
theorem contains_any (ad : Option Addr) (n cap : Nat) (X : Nat → Bv) (w : World) (h : BrAt w ad n X) (hn : n ≤ 1000000) (hx : ∀ i, i < n → (X i).n ≤ 1000000) :
  Calls Tryz.prog 125 #[.slice ad n cap, .func (.func 123) #[] #[]] w fun e w' => e = .returned (.bool (!decide (AllOk X n))) ∧ Below w.heap.size w w' := by
 have hi := index_any ad n cap X w h hn hx
 clear h
 generalize (!decide (AllOk X n)) = r at *
 go_enter Tryz.func125, Tryz.ntmps125
 go_wp2_with (go_at_call 138; refine hi.mono ?_; rintro e w1 ⟨⟨q, rfl, hq⟩, hb1⟩)
 all_goals (go_ret; exact ⟨by simp_all, hb1⟩)

set_option maxHeartbeats 1600000 in
theorem check_any (ad : Option Addr) (n cap : Nat) (X : Nat → Bv) (w : World) (h : BrAt w ad n X) (hn : n ≤ 1000000) (hx : ∀ i, i < n → (X i).n ≤ 1000000) :
  Calls Tryz.prog 106 #[.agg #[.slice ad n cap]] w fun e w' => e = .returned (errV (chkE X n)) ∧ Below w.heap.size w w' := by
 have hI := h.below ((Below.refl _ w).alloc (Nat.le_refl _) (.cells #[.slice ad n cap] 93))
 have hb0 : Below w.heap.size w (w.alloc (.cells #[.slice ad n cap] 93)) := (Below.refl _ w).alloc (Nat.le_refl _) _
 have hm := contains_any ad n cap X _ hI hn hx
 clear h hI
 by_cases h1 : n < 1
 ·have h1' : (n : Int) < 1 := by omega
  have HE : Hid (chkE X n = 1) := if_neg (fun h => by have := h.1; omega)
  clear hm
  go_enter Tryz.func106, Tryz.ntmps106
  go_wp2
  go_ret
  exact ⟨by rw [HE.out]; rfl, hb0⟩
 ·have h1' : ¬ (n : Int) < 1 := by omega
  by_cases h2 : 8 < n
  ·have h2' : (8 : Int) < n := by omega
   have HE : Hid (chkE X n = 1) := if_neg (fun h => by have := h.1; omega)
   clear hm
   go_enter Tryz.func106, Tryz.ntmps106
   go_wp2
   go_ret
   exact ⟨by rw [HE.out]; rfl, hb0⟩
  ·have h2' : ¬ (8 : Int) < n := by omega
   by_cases h3 : AllOk X n
   ·have e1 : decide (AllOk X n) = true := by simp [h3]
    rw [e1] at hm
    have HE : Hid (chkE X n = 0) := if_pos ⟨by omega, h3⟩
    clear e1 h3
    go_enter Tryz.func106, Tryz.ntmps106
    go_wp2_with (go_at_call 125; refine hm.mono ?_; rintro e w1 ⟨rfl, hb1⟩)
    go_ret
    exact ⟨by rw [HE.out]; rfl, hb0.trans (hb1.mono hb0.size)⟩
   ·have e1 : decide (AllOk X n) = false := by simpa using h3
    rw [e1] at hm
    have HE : Hid (chkE X n = 1) := if_neg (fun h => h3 h.2)
    clear e1 h3
    go_enter Tryz.func106, Tryz.ntmps106
    go_wp2_with (go_at_call 125; refine hm.mono ?_; rintro e w1 ⟨rfl, hb1⟩)
    go_ret
    exact ⟨by rw [HE.out]; rfl, hb0.trans (hb1.mono hb0.size)⟩
end Go.Proofs.YtjnepkggdkccaaaGreatDoor.Cd
/- Outputs of a transaction: whether one may be, and what they have together. -/
namespace Go.Proofs.YtjnepkggdkccaaaGreatDoor
open Go.RowKit

/-- What an output says. -/
structure To where
 am : Int
 cn : Nat
 X : Nat → Cd.Bv
instance : Inhabited To := ⟨⟨0, 0, fun _ => default⟩⟩
def tol (x : To) (ca : Option Addr) (cc : Nat) : List Value := [.int .i64 x.am, .slice ca x.cn cc]
def tov (x : To) (ca : Option Addr) (cc : Nat) : Array Value := #[.int .i64 x.am, .slice ca x.cn cc]
theorem szTo : (Tryz.prog.info? 95).map (·.size) = some 2 := by kernel_rfl
/-- Its branches are few, and so are their keys. -/
def To.Small (x : To) : Prop := x.cn ≤ 1000000 ∧ ∀ i, i < x.cn → (x.X i).n ≤ 1000000
/-- m outputs lie at an address. -/
structure ToAt (w : World) (ad : Option Addr) (m : Nat) (O : Nat → To) : Prop where
 at_ : 0 < m → ∃ b off, ad = some ⟨b, off, none⟩ ∧ ∀ i, i < m → ∃ ca cc, w.rangeAt b (off + i * 2) (tol (O i) ca cc) ∧ Cd.BrAt w ca (O i).cn (O i).X ∧ (ca = none → (O i).cn = 0 ∧ cc = 0)
theorem ToAt.nil (w : World) (ad : Option Addr) (O : Nat → To) : ToAt w ad 0 O := ⟨fun h => by omega⟩
theorem ToAt.below {w w' : World} {ad : Option Addr} {m : Nat} {O : Nat → To} (h : ToAt w ad m O) (hb : Below w.heap.size w w') : ToAt w' ad m O := by
 refine ⟨fun hn => ?_⟩
 obtain ⟨b, off, e, hr⟩ := h.at_ hn
 refine ⟨b, off, e, fun i hi => ?_⟩
 obtain ⟨ca, cc, h1, h2, h3⟩ := hr i hi
 exact ⟨ca, cc, range_below h1 hb, h2.below hb, h3⟩
/-- An output's error. -/
def outE (x : To) : Int := if x.am < 10 then 27 else if 1125899906842624 < x.am then 5 else Cd.chkE x.X x.cn
set_option maxHeartbeats 1600000 in
theorem checkOut_any (x : To) (ca : Option Addr) (cc : Nat) (w : World) (h : Cd.BrAt w ca x.cn x.X) (hs : x.Small) :
  Calls Tryz.prog 83 #[.agg (tov x ca cc)] w fun e w' => e = .returned (errV (outE x)) ∧ Below w.heap.size w w' := by
 have hb0 : Below w.heap.size w (w.alloc (.cells #[.int .i64 x.am, .slice ca x.cn cc] 95)) := (Below.refl _ w).alloc (Nat.le_refl _) _
 have hc := Cd.check_any ca x.cn cc x.X _ (h.below hb0) hs.1 hs.2
 clear h
 unfold tov
 by_cases h1 : x.am < 10
 ·have HE : Hid (outE x = 27) := if_pos h1
  clear hc
  go_enter Tryz.func83, Tryz.ntmps83
  go_wp2
  go_ret
  exact ⟨by rw [HE.out]; rfl, hb0⟩
 ·by_cases h2 : 1125899906842624 < x.am
  ·have HE : Hid (outE x = 5) := by unfold outE; rw [if_neg h1, if_pos h2]; exact rfl
   clear hc
   go_enter Tryz.func83, Tryz.ntmps83
   go_wp2
   go_ret
   exact ⟨by rw [HE.out]; rfl, hb0⟩
  ·have HE : Hid (outE x = Cd.chkE x.X x.cn) := by unfold outE; rw [if_neg h1, if_neg h2]; exact rfl
   go_enter Tryz.func83, Tryz.ntmps83
   go_wp2_with fail
   refine hc.mono ?_
   rintro e w1 ⟨rfl, hb1⟩
   have HB : Hid (Below w.heap.size w w1) := hb0.trans (hb1.mono hb0.size)
   clear hb0 hb1 hc
   go_wp2
   go_ret
   exact ⟨by rw [HE.out]; rfl, HB.out⟩
/-- What outputs have together, if it is no more than there may be. -/
def totO (O : Nat → To) : Nat → Option Int
 | 0 => some 0
 | i + 1 => match totO O i with | none => none | some s => if 0 ≤ (O i).am ∧ (O i).am ≤ 1125899906842624 - s then some (s + (O i).am) else none
theorem totO_bd {O : Nat → To} : ∀ {i : Nat} {s : Int}, totO O i = some s → 0 ≤ s ∧ s ≤ 1125899906842624
 | 0, s, h => by cases h; omega
 | i + 1, s, h => by
  unfold totO at h
  split at h
  ·cases h
  ·rename_i t e
   have := totO_bd e
   split at h
   ·cases h; omega
   ·cases h
theorem totO_stop {O : Nat → To} {i : Nat} (h : totO O i = none) : ∀ n, i ≤ n → totO O n = none
 | 0, hn => by obtain rfl : i = 0 := (by omega); exact h
 | n + 1, hn => by
  by_cases e : i = n + 1
  ·subst e; exact h
  ·rw [totO, totO_stop h n (by omega)]
def totV (O : Nat → To) (m : Nat) : Int := (totO O m).getD 0
def totE (O : Nat → To) (m : Nat) : Int := if totO O m = none then 5 else 0
/-- A transaction's three cells. -/
def txv (lk : Int) (ia : Option Addr) (n ic : Nat) (oa : Option Addr) (m oc : Nat) : Array Value := #[.int .i64 lk, .slice ia n ic, .slice oa m oc]
set_option maxHeartbeats 1600000 in
theorem ktotal_any (lk : Int) (ia : Option Addr) (n ic : Nat) (oa : Option Addr) (m oc : Nat) (O : Nat → To) (w : World) (h : ToAt w oa m O) (hm : m ≤ 1000000) :
  Calls Tryz.prog 84 #[.agg (txv lk ia n ic oa m oc)] w fun e w' => e = .returned (.tuple #[.int .i64 (totV O m), errV (totE O m)]) ∧ Below w.heap.size w w' := by
 have hb0 : Below w.heap.size w (w.alloc (.cells #[.int .i64 lk, .slice ia n ic, .slice oa m oc] 50)) := (Below.refl _ w).alloc (Nat.le_refl _) _
 have HT : Hid (ToAt w oa m O) := h
 clear h
 unfold txv
 go_enter Tryz.func84, Tryz.ntmps84
 go_wp2
 generalize w.alloc (.cells #[.int .i64 lk, .slice ia n ic, .slice oa m oc] 50) = W0 at *
 go_loopw [4, 6, 10] (fun sv _ iv wr => ∃ (i : Nat) (s : Int), i ≤ m ∧ iv = .int .i64 i ∧ sv = .int .i64 s ∧ totO O i = some s ∧ Below w.heap.size w wr) (fun _ _ iv _ => m + 1 - (intOf iv).toNat)
 case atStart => exact ⟨0, 0, by omega, rfl, rfl, rfl, hb0⟩
 case round =>
  clear hb0
  obtain ⟨i, s, hi, rfl, rfl, hs, hb⟩ := hrel
  have hbd := totO_bd hs
  have HS : Hid (totO O i = some s) := hs
  clear hs
  by_cases hlt : i < m
  ·have hlt' : (i : Int) < m := by omega
   obtain ⟨b, off, rfl, hc⟩ := HT.out.at_ (by omega)
   obtain ⟨ca, cc, hr0, _⟩ := hc i hlt
   have HR : Hid (wr.rangeAt b (off + i * 2) (tol (O i) ca cc)) := range_below hr0 hb
   clear hc hr0
   have c0 : wr.cell? ⟨b, off + i * 2, none⟩ = some (.int .i64 (O i).am) := by simpa using HR.out 0 _ rfl
   have c1 : wr.cell? ⟨b, off + i * 2 + 1, none⟩ = some (.slice ca (O i).cn cc) := HR.out 1 _ rfl
   have hb1 : Below w.heap.size w (wr.alloc (.cells #[.int .i64 (O i).am, .slice ca (O i).cn cc] 95)) := hb.alloc hb.size _
   by_cases hq : 0 ≤ (O i).am ∧ (O i).am ≤ 1125899906842624 - s
   ·have HN : Hid (totO O (i + 1) = some (s + (O i).am)) := by rw [totO, HS.out]; exact if_pos hq
    have d1 : decide (0 ≤ (O i).am ∧ (O i).am ≤ 1125899906842624 - s) = true := by simpa using hq
    go_wp2_with fail
    refine (kwithin_any (O i).am 0 (1125899906842624 - s) _).mono ?_
    rintro e w1 ⟨rfl, hW⟩
    rw [hW, d1]
    clear hW d1
    go_wp2
    go_roundw
    case rel => exact ⟨i + 1, s + (O i).am, by omega, by go_num, rfl, HN.out, hb1⟩
    case measure => simp [intOf]; omega
   ·have HN : Hid (totO O m = none) := totO_stop (i := i + 1) (by rw [totO, HS.out]; exact if_neg hq) m (by omega)
    have d1 : decide (0 ≤ (O i).am ∧ (O i).am ≤ 1125899906842624 - s) = false := by simpa using hq
    go_wp2_with fail
    refine (kwithin_any (O i).am 0 (1125899906842624 - s) _).mono ?_
    rintro e w1 ⟨rfl, hW⟩
    rw [hW, d1]
    clear hW d1
    go_wp2
    go_ret2
    exact ⟨by simp [totV, totE, HN.out]; rfl, hb1⟩
  ·obtain rfl : i = m := by omega
   have hnn : ¬ ((i : Int) < i) := by omega
   go_wp2
   go_ret2
   exact ⟨by simp [totV, totE, HS.out]; rfl, hb⟩
end Go.Proofs.YtjnepkggdkccaaaGreatDoor
/- The points that a transaction spends, as a map. -/
namespace Go.Proofs.YtjnepkggdkccaaaGreatDoor
open Go.RowKit

theorem kfrm_new {w w' : World} {o : Obj} (h : Frm [w.heap.size] (w.alloc o) w') : Below w.heap.size w w' :=
 ((Below.refl _ w).alloc (Nat.le_refl _) o).trans (h.below (by simp) (by simp))
def ti0 : Ti := ⟨nz, 0, 0, 0⟩
theorem run_allocTi (w : World) : (Instr.alloc 130 true (.tuple #[])).run Tryz.prog w = .ok (.pointer (some ⟨w.heap.size, 0, none⟩)) (w.alloc (.cells (tiv ti0 none 0) 130)) := by kernel_rfl
theorem szPt : (Tryz.prog.info? 38).map (·.size) = some 33 := by kernel_rfl
theorem szPtl (z : Nat → Int) (n : Int) : (Tryz.prog.info? 38).map (·.size) = some (ptl z n).length := by rw [ptl_length]; exact szPt
theorem build_unit (w : World) : (Instr.build 211 #[]).run Tryz.prog w = .ok (.agg #[]) w := by kernel_rfl
theorem tiv_one (x : Ti) (sa : Option Addr) (sc : Nat) : (tiv x sa sc).all (·.oneCell') = true := all_oneCell_toArray (til_one x sa sc)
theorem pt_range {w : World} {g off : Nat} {x : Ti} {sa : Option Addr} {sc : Nat} (h : w.rangeAt g off (til x sa sc)) : w.rangeAt g off (ptl x.pt x.n) := fun j v hv => by
 refine h j v ?_
 have e : til x sa sc = ptl x.pt x.n ++ [.int .i64 x.br, .slice sa x.sn sc] := by simp [til, ptl]
 rw [e, List.getElem?_append_left (List.getElem?_eq_some_iff.1 hv).1]
 exact hv
/-- The points of n inputs, each once. -/
def keyT (x : Ti) : Int × List UInt8 := (x.n, ub x.pt)
def ptsL (X : Nat → Ti) : Nat → List (Int × List UInt8)
 | 0 => []
 | n + 1 => if (ptsL X n).contains (keyT (X n)) then ptsL X n else ptsL X n ++ [keyT (X n)]
theorem ptsL_le (X : Nat → Ti) : ∀ n, (ptsL X n).length ≤ n
 | 0 => by simp [ptsL]
 | n + 1 => by have := ptsL_le X n; rw [ptsL]; split <;> simp <;> omega
theorem ptsL_mem (X : Nat → Ti) (k : Int × List UInt8) : ∀ n, (ptsL X n).contains k = true ↔ ∃ i, i < n ∧ keyT (X i) = k
 | 0 => by simp [ptsL]
 | n + 1 => by
  have ih := ptsL_mem X k n
  rw [ptsL]
  split
  ·rename_i hc
   rw [ih]
   constructor
   ·rintro ⟨i, hi, e⟩; exact ⟨i, by omega, e⟩
   ·rintro ⟨i, hi, e⟩
    by_cases h : i = n
    ·subst h; rw [e] at hc; exact ih.1 hc
    ·exact ⟨i, by omega, e⟩
  ·rw [List.contains_iff_mem, List.mem_append, ← List.contains_iff_mem, ih]
   constructor
   ·rintro (⟨i, hi, e⟩ | h)
    ·exact ⟨i, by omega, e⟩
    ·exact ⟨n, by omega, (List.mem_singleton.1 h).symm⟩
   ·rintro ⟨i, hi, e⟩
    by_cases h : i = n
    ·subst h; exact .inr (by rw [e]; exact List.mem_singleton.2 rfl)
    ·exact .inl ⟨i, by omega, e⟩
/-- No two inputs spend the same. -/
def Apart (X : Nat → Ti) (n : Nat) : Prop := ∀ i, i < n → ∀ k, k < i → keyT (X i) ≠ keyT (X k)
instance (X : Nat → Ti) (n : Nat) : Decidable (Apart X n) := inferInstanceAs (Decidable (∀ i, i < n → ∀ k, k < i → _))
theorem ptsL_full (X : Nat → Ti) : ∀ n, (ptsL X n).length = n ↔ Apart X n
 | 0 => by simp [ptsL, Apart]
 | n + 1 => by
  have ih := ptsL_full X n
  have hle := ptsL_le X n
  rw [ptsL]
  split
  ·rename_i hc
   obtain ⟨i, hi, e⟩ := (ptsL_mem X _ n).1 hc
   constructor
   ·intro h; omega
   ·intro h; exact absurd e.symm (h n (by omega) i hi)
  ·rename_i hc
   rw [List.length_append, List.length_singleton]
   constructor
   ·intro h i hi k hk
    by_cases e : i = n
    ·subst e
     exact fun he => hc ((ptsL_mem X _ i).2 ⟨k, hk, he.symm⟩)
    ·exact (ih.1 (by omega)) i (by omega) k hk
   ·intro h
    have := ih.2 (fun i hi k hk => h i (by omega) k hk)
    omega
theorem BkD_again {D : DataW Unit} {S : List (Int × List UInt8)} (h : Kp.BkD D S) (ht : Maps.Tidy D) {n : Int} {z : Nat → Int} (hn : Kp.Ib n) (hz : Hb z) (hc : S.contains (n, ub z) = true) (u : DataW Unit) : Kp.BkD (D.put (Kp.kl n z) u) S := by
 refine ⟨fun m y hm hy => ?_, ?_⟩
 ·by_cases e : Kp.kl m y = Kp.kl n z
  ·have := Kp.kl_inj hm hy hn hz e
   rw [e, Maps.has_put_same ht.isMap (Kp.kl_key n z), this.1, this.2, hc]
  ·rw [Maps.has_put_other e, h.has m y hm hy]
 ·rw [Maps.size_put ht, h.has n z hn hz, hc]
  simp [h.size]
theorem BkD_pts {D : DataW Unit} {X : Nat → Ti} {i : Nat} (h : Kp.BkD D (ptsL X i)) (ht : Maps.Tidy D) (hn : Kp.Ib (X i).n) (hz : Hb (X i).pt) (u : DataW Unit) : Kp.BkD (D.put (Kp.kl (X i).n (X i).pt) u) (ptsL X (i + 1)) := by
 rw [ptsL]
 split
 ·rename_i hc; exact BkD_again h ht hn hz hc u
 ·rename_i hc; exact h.put ht hn hz (by simpa [keyT] using hc) u
/-- A map of points of so many. -/
def PtM (w : World) (b N : Nat) : Prop := ∃ (D : DataW Unit) (k : Nat), w.ownsMap Tryz.prog 38 (unitElem (H := Unit)) b k D ∧ Maps.size D = N
theorem kowns_keep {w w' : World} {m n : Nat} {D : DataW Unit} (h : w.ownsMap Tryz.prog 38 (unitElem (H := Unit)) m n D) (hk : w'.heap[m]? = w.heap[m]?) : w'.ownsMap Tryz.prog 38 (unitElem (H := Unit)) m n D := by
 obtain ⟨es, clock, hb, r⟩ := h
 exact ⟨es, clock, by rw [hk]; exact hb, r⟩
set_option maxRecDepth 100000 in
set_option maxHeartbeats 3200000 in
theorem points_any (lk : Int) (ia : Option Addr) (n ic : Nat) (oa : Option Addr) (m oc : Nat) (X : Nat → Ti) (S : Nat → Option Addr × Nat) (w : World) (h : TiAt w ia n X S) (hI : ∀ i, i < n → Kp.Ib (X i).n) (hn : n ≤ 1000000) :
  Calls Tryz.prog 82 #[.agg (txv lk ia n ic oa m oc)] w fun e w' => (∃ b, e = .returned (.map (some b)) ∧ PtM w' b (ptsL X n).length) ∧ Below w.heap.size w w' := by
 have hb0 : Below w.heap.size w ((w.alloc (.cells #[.int .i64 lk, .slice ia n ic, .slice oa m oc] 50)).alloc (.map #[] 0)) := ((Below.refl _ w).alloc (Nat.le_refl _) _).alloc (by simp) _
 have hM0 : ((w.alloc (.cells #[.int .i64 lk, .slice ia n ic, .slice oa m oc] 50)).alloc (.map #[] 0)).ownsMap Tryz.prog 38 (unitElem (H := Unit)) (w.heap.size + 1) 0 (.map []) := by
  have := World.ownsMap_made (w.alloc (.cells #[.int .i64 lk, .slice ia n ic, .slice oa m oc] 50)) Tryz.prog 38 (unitElem (H := Unit))
  simpa using this
 have k1 := run_makeMap (P := Tryz.prog) 172
 have HT : Hid (TiAt w ia n X S) := h
 clear h
 unfold txv
 go_enter Tryz.func82, Tryz.ntmps82
 go_wp2
 generalize (w.alloc (.cells #[.int .i64 lk, .slice ia n ic, .slice oa m oc] 50)).alloc (.map #[] 0) = W0 at *
 go_loopw [5, 10] (fun _ iv wr => ∃ (i : Nat) (D : DataW Unit), i ≤ n ∧ iv = .int .i64 i ∧ wr.ownsMap Tryz.prog 38 (unitElem (H := Unit)) (w.heap.size + 1) i D ∧ Kp.BkD D (ptsL X i) ∧ Below w.heap.size w wr) (fun _ iv _ => n + 1 - (intOf iv).toNat)
 case atStart => exact ⟨0, _, by omega, rfl, hM0, Kp.BkD.nil, hb0⟩
 case round =>
  clear hb0 hM0 k1
  obtain ⟨i, D, hi, rfl, hM, hD, hb⟩ := hrel
  have HD : Hid (Kp.BkD D (ptsL X i)) := hD
  have HM : Hid (wr.ownsMap Tryz.prog 38 (unitElem (H := Unit)) (w.heap.size + 1) i D) := hM
  clear hD hM
  by_cases hlt : i < n
  ·have hlt' : (i : Int) < n := by omega
   obtain ⟨b, off, rfl, hc⟩ := HT.out.at_ (by omega)
   have HR : Hid (wr.rangeAt b (off + i * 35) (til (X i) (S i).1 (S i).2)) := range_below (hc i hlt) hb
   have HZ : Hid (Hb (X i).pt ∧ Kp.Ib (X i).n) := ⟨HT.out.pt i hlt, hI i hlt⟩
   have k2 := build_unit
   clear hc
   go_wp2_with (first | (refine wpList_load_mid rfl 130 _ rfl b (off + i * 35) rfl (til (X i) (S i).1 (S i).2) _ HR.out Tryz.underlying130 rfl (szTil _ _ _) ?_) | (refine wpList_allocG 130 (tiv ti0 none 0) run_allocTi rfl rfl ?_) | (refine wpList_storeG 130 szTi rfl _ _ rfl wr.heap.size rfl (tiv (X i) (S i).1 (S i).2) (tiv ti0 none 0) (tiv_size _ _ _) (tiv_size _ _ _) (tiv_one _ _ _) 130 rfl (heap_alloc_new wr _) ?_; intro u5 hg5 hf5; have hb5 := kfrm_new hf5; have HP : Hid (u5.rangeAt wr.heap.size 0 (ptl (X i).pt (X i).n)) := pt_range (til_range hg5); have HM5 : Hid (u5.ownsMap Tryz.prog 38 (unitElem (H := Unit)) (w.heap.size + 1) i D) := kowns_keep HM.out (hb5.block _ HM.out.lt); clear hg5 hf5) | (refine wpList_load_mid rfl 38 _ rfl wr.heap.size 0 rfl (ptl (X i).pt (X i).n) _ HP.out Tryz.underlying38 rfl (szPtl _ _) ?_) | (at_mapUpdate; refine wpList_mapUpdate_own u5 rfl _ _ _ 172 rfl 38 211 Kp.lawS Tryz.underlying172 (unitElem (H := Unit)) (w.heap.size + 1) i D rfl HM5.out (by simp [maxLen]; omega) (.agg (Kp.kv (X i).n (X i).pt)) (.agg #[]) (Kp.kl (X i).n (X i).pt) rfl rfl (Kp.keyOfS HZ.out.2 HZ.out.1) (.agg []) [] unitElem_mk ?_; intro u6 hm6 hg6) | fail)
   have HD6 : Hid (Kp.BkD (D.put (Kp.kl (X i).n (X i).pt) (.agg [])) (ptsL X (i + 1))) := BkD_pts HD.out (HM.out.tidy Kp.lawS) HZ.out.2 HZ.out.1 _
   have hb6 : Below w.heap.size w u6 := (hb.trans (hb5.mono hb.size)).grown hg6 (by have := hb.size; have := hb5.size; omega) (fun j hj => by cases hj; omega)
   go_roundw
   case rel => exact ⟨i + 1, _, by omega, by go_num, hm6, HD6.out, hb6⟩
   case measure => simp [intOf]; omega
  ·obtain rfl : i = n := by omega
   have hnn : ¬ ((i : Int) < i) := by omega
   go_wp2
   go_ret
   exact ⟨⟨_, rfl, D, _, HM.out, HD.out.size⟩, hb⟩
end Go.Proofs.YtjnepkggdkccaaaGreatDoor
/- build.spend: inputs that spend points. -/
namespace Go.Proofs.YtjnepkggdkccaaaGreatDoor
open Go.RowKit

/-- n points lie at an address. -/
structure PtAt (w : World) (ad : Option Addr) (n : Nat) (Z : Nat → (Nat → Int) × Int) : Prop where
 at_ : 0 < n → ∃ b off, ad = some ⟨b, off, none⟩ ∧ ∀ i, i < n → w.rangeAt b (off + i * 33) (ptl (Z i).1 (Z i).2)
theorem PtAt.below {w w' : World} {ad : Option Addr} {n : Nat} {Z : Nat → (Nat → Int) × Int} (h : PtAt w ad n Z) (hb : Below w.heap.size w w') : PtAt w' ad n Z := by
 refine ⟨fun hn => ?_⟩
 obtain ⟨b, off, e, hr⟩ := h.at_ hn
 exact ⟨b, off, e, fun i hi => range_below (hr i hi) hb⟩
def tiOf (z : (Nat → Int) × Int) : Ti := ⟨z.1, z.2, 0, 0⟩
def ptv (z : (Nat → Int) × Int) : Array Value := (ptl z.1 z.2).toArray
theorem ptv_size (z : (Nat → Int) × Int) : (ptv z).size = 33 := by simp [ptv, ptl_length]
theorem ptl_one (z : Nat → Int) (n : Int) : ∀ u ∈ ptl z n, u.oneCell' = true := by
 intro u hu
 simp only [ptl, List.mem_append, List.mem_singleton] at hu
 rcases hu with hu | rfl
 ·exact bl_one _ _ _ hu
 ·rfl
theorem ptv_one (z : (Nat → Int) × Int) : (ptv z).all (·.oneCell') = true := all_oneCell_toArray (ptl_one _ _)
theorem run_allocPt (w : World) : (Instr.alloc 38 true (.tuple #[])).run Tryz.prog w = .ok (.pointer (some ⟨w.heap.size, 0, none⟩)) (w.alloc (.cells (ptv (nz, 0)) 38)) := by kernel_rfl
theorem build_ti (z : (Nat → Int) × Int) (w : World) : (Instr.build 130 #[(0, .agg (ptl z.1 z.2).toArray)]).run Tryz.prog w = .ok (.agg (tiv (tiOf z) none 0)) w := by kernel_rfl
theorem slice_ti (x : Ti) (sa : Option Addr) (sc : Nat) (w : World) : (Instr.buildSlice 47 1 #[(0, .agg (tiv x sa sc))]).run Tryz.prog w = .ok (.slice (some ⟨w.heap.size, 0, none⟩) 1 1) (w.alloc (.cells (tiv x sa sc) 130)) := by kernel_rfl
theorem infoTi : (Tryz.prog.info? 130).map (fun i => (i.zero, i.size, i.bytes)) = some (some (.agg (tiv ti0 none 0)), 35, 72) := by kernel_rfl
def tiR (Z : Nat → (Nat → Int) × Int) : Nat → List Value := fun i => til (tiOf (Z i)) none 0
theorem run_append_Ti (w : World) (B q : Nat) (ty : TypeId) (v : Value) (i : Nat) (xs : List Value) (x : Ti) (sa : Option Addr) (sc : Nat) (hown : w.ownsRow B 130 35 v i xs) (hB : B ≤ w.heap.size) (hq : w.heap[q]? = some (.cells (tiv x sa sc) 130 (0, 0))) (hi : i ≤ 1000000) :
  ∃ va vc w1, (Builtin.append_ #[47, 47] ty #[v, .slice (some ⟨q, 0, none⟩) 1 1]).run Tryz.prog w = .ok (.slice va (i + 1) vc) w1 ∧ w1.ownsRow B 130 35 (.slice va (i + 1) vc) (i + 1) (xs ++ til x sa sc) ∧ w.grownBy w1 v.ownBlock := by
 obtain ⟨i0, hi0, hz0, hz1, hz2⟩ := info_parts infoTi
 obtain ⟨v', w1, hr, h2, h3, _, h5⟩ := run_append_own_at (P := Tryz.prog) w B 47 ty 130 i0 (.agg (tiv ti0 none 0)) 35 72 Tryz.underlying47 hi0 hz0 hz1 hz2 (by simp [Value.cells, tiv_size]) (by omega) v i xs hown ⟨q, 0, none⟩ 1 1 (til x sa sc) (by rw [til_length]) (fun j u hj => by
   rw [Addr.add_lit, Nat.zero_add, cell_of_row _ _ j _ _ _ hq]
   simpa [tiv] using hj) (til_one _ _ _) (by unfold maxLen; omega) (by omega) hB
 obtain ⟨va, vc, rfl, _, _⟩ := own_frmV h2
 exact ⟨va, vc, w1, hr, h2, h3⟩
section
variable {ops : Array Oper} {rest : List Oper} {o : Oper} {a : Act} {w : World} {Q : Exit → Act → World → Prop}
theorem wpList_buildTi (z : (Nat → Int) × Int) (hgd : o.guard = none) (x : Operand) (ho : o.op = .build 130 #[(0, x)]) (hx : a.eval x = .agg (ptl z.1 z.2).toArray)
  (h : wpList Tryz.prog ops Q rest (a.put o.dst (.agg (tiv (tiOf z) none 0))) w) : wpList Tryz.prog ops Q (o :: rest) a w := by
 refine wpList_plain hgd fun K hK => ?_
 unfold Oper.wp execOp
 simp only [ho, List.map_toArray, List.map_cons, List.map_nil, hx, Sem.run_bind, build_ti, Result.andThen]
 exact hK _ _ h
theorem wpList_sliceTi (y : Ti) (sa : Option Addr) (sc : Nat) (hgd : o.guard = none) (x : Operand) (ho : o.op = .buildSlice 47 1 #[(0, x)]) (hx : a.eval x = .agg (tiv y sa sc))
  (h : wpList Tryz.prog ops Q rest (a.put o.dst (.slice (some ⟨w.heap.size, 0, none⟩) 1 1)) (w.alloc (.cells (tiv y sa sc) 130))) : wpList Tryz.prog ops Q (o :: rest) a w := by
 refine wpList_plain hgd fun K hK => ?_
 unfold Oper.wp execOp
 simp only [ho, List.map_toArray, List.map_cons, List.map_nil, hx, Sem.run_bind, slice_ti, Result.andThen]
 exact hK _ _ h
theorem wpList_kapp1 (hgd : o.guard = none) (s x : Operand) (t : TypeId) (ho : o.op = .call { callee := .builtin .append, args := #[s, x], argTypes := #[t, t] }) (v u : Value) (hs : a.eval s = v) (hx : a.eval x = u) (R : Value → World → Prop)
  (hr : ∀ ty, ∃ v' w1, (Builtin.append_ #[t, t] ty #[v, u]).run Tryz.prog w = .ok v' w1 ∧ R v' w1) (h : ∀ v' w1, R v' w1 → wpList Tryz.prog ops Q rest (a.put o.dst v') w1) : wpList Tryz.prog ops Q (o :: rest) a w := by
 obtain ⟨v', w1, hr1, h1⟩ := hr o.type
 refine wpList_plain hgd fun K hK => ?_
 unfold Oper.wp execOp
 simp only [ho, resolve, invoke, builtin, Sem.run_bind, Sem.run_pure, Result.andThen_ok, List.map_toArray, List.map_cons, List.map_nil, hs, hx, hr1]
 exact hK _ _ (h v' w1 h1)
end
set_option maxRecDepth 100000 in
set_option maxHeartbeats 3200000 in
theorem spend_any (ad : Option Addr) (n cap : Nat) (Z : Nat → (Nat → Int) × Int) (w : World) (h : PtAt w ad n Z) (hn : n ≤ 1000000) :
  Calls Tryz.prog 28 #[.slice ad n cap] w fun e w' => (∃ va vc, e = .returned (.slice va n vc) ∧ w'.ownsRow w.heap.size 130 35 (.slice va n vc) n (flatL (tiR Z) n)) ∧ Below w.heap.size w w' := by
 have HT : Hid (PtAt w ad n Z) := h
 have hb0 := Below.refl w.heap.size w
 have ho0 : w.ownsRow w.heap.size 130 35 (.slice none 0 0) 0 (flatL (tiR Z) 0) := World.ownsRow_nil _ _ _ _
 clear h
 go_enter Tryz.func28, Tryz.ntmps28
 go_wp2
 go_loopw [3, 5, 8] (fun sv _ iv wr => ∃ (i : Nat) (va : Option Addr) (vc : Nat), i ≤ n ∧ iv = .int .i64 i ∧ sv = .slice va i vc ∧ wr.ownsRow w.heap.size 130 35 (.slice va i vc) i (flatL (tiR Z) i) ∧ Below w.heap.size w wr) (fun _ _ iv _ => n + 1 - (intOf iv).toNat)
 case atStart => exact ⟨0, none, 0, by omega, rfl, rfl, ho0, hb0⟩
 case round =>
  clear hb0 ho0
  obtain ⟨i, va, vc, hi, rfl, rfl, ho, hb⟩ := hrel
  have HO : Hid (wr.ownsRow w.heap.size 130 35 (.slice va i vc) i (flatL (tiR Z) i)) := ho
  clear ho
  by_cases hlt : i < n
  ·have hlt' : (i : Int) < n := by omega
   obtain ⟨b, off, rfl, hc⟩ := HT.out.at_ (by omega)
   have HR : Hid (wr.rangeAt b (off + i * 33) (ptl (Z i).1 (Z i).2)) := range_below (hc i hlt) hb
   clear hc
   have hbs := hb.size
   go_wp2_with (first | (refine wpList_load_mid rfl 38 _ rfl b (off + i * 33) rfl (ptl (Z i).1 (Z i).2) _ HR.out Tryz.underlying38 rfl (szPtl _ _) ?_) | (refine wpList_allocG 38 (ptv (nz, 0)) run_allocPt rfl rfl ?_) | (refine wpList_storeG 38 szPt rfl _ _ rfl wr.heap.size rfl (ptv (Z i)) (ptv (nz, 0)) (ptv_size _) (ptv_size _) (ptv_one _) 38 rfl (heap_alloc_new wr _) ?_; intro z5 hg5 hf5; have hb5 := kfrm_new hf5; have HP : Hid (z5.rangeAt wr.heap.size 0 (ptl (Z i).1 (Z i).2)) := (fun j v hv => by rw [Nat.zero_add, cell_of_row _ _ j _ _ _ hg5]; simpa [ptv] using hv); have HO5 : Hid (z5.ownsRow w.heap.size 130 35 (.slice va i vc) i (flatL (tiR Z) i)) := own_below HO.out hb5; clear hg5 hf5) | (refine wpList_load_mid rfl 38 _ rfl wr.heap.size 0 rfl (ptl (Z i).1 (Z i).2) _ HP.out Tryz.underlying38 rfl (szPtl _ _) ?_) | (refine wpList_buildTi (Z i) rfl _ rfl rfl ?_) | (refine wpList_sliceTi (tiOf (Z i)) none 0 rfl _ rfl rfl ?_; have hb6 : Below z5.heap.size z5 (z5.alloc (.cells (tiv (tiOf (Z i)) none 0) 130)) := (Below.refl _ _).alloc (Nat.le_refl _) _; have hq6 := heap_alloc_new z5 (.cells (tiv (tiOf (Z i)) none 0) 130); have HO6 := (own_below HO5.out hb6); generalize z5.alloc (.cells (tiv (tiOf (Z i)) none 0) 130) = z6 at *) | (at_builtin; refine wpList_kapp1 rfl _ _ 47 rfl (.slice va i vc) (.slice (some ⟨z5.heap.size, 0, none⟩) 1 1) rfl rfl (fun v' w1 => ∃ ua uc, v' = .slice ua (i + 1) uc ∧ w1.ownsRow w.heap.size 130 35 (.slice ua (i + 1) uc) (i + 1) (flatL (tiR Z) i ++ til (tiOf (Z i)) none 0) ∧ z6.grownBy w1 (Value.slice va i vc).ownBlock) (fun ty => by obtain ⟨ua, uc, w1, h1, h2, h3⟩ := run_append_Ti z6 w.heap.size z5.heap.size ty (.slice va i vc) i (flatL (tiR Z) i) (tiOf (Z i)) none 0 HO6 (by have := hb6.size; have := hb5.size; omega) hq6 (by omega); exact ⟨_, w1, h1, ua, uc, rfl, h2, h3⟩) ?_; rintro v' z7 ⟨ua, uc, rfl, hown, hgrow⟩) | fail)
   have hb7 : Below w.heap.size w z7 := ((hb.trans (hb5.mono hb.size)).trans (hb6.mono (by have := hb5.size; omega))).grown hgrow (by have := hb6.size; have := hb5.size; omega) (fun k hk => (HO6.lt k hk).1)
   go_roundw
   case rel => exact ⟨i + 1, _, _, by omega, by go_num, rfl, hown, hb7⟩
   case measure => simp [intOf]; omega
  ·obtain rfl : i = n := by omega
   have hnn : ¬ ((i : Int) < i) := by omega
   go_wp2
   go_ret
   exact ⟨⟨va, vc, rfl, HO.out⟩, hb⟩
end Go.Proofs.YtjnepkggdkccaaaGreatDoor
