/- tx.Spends, tx.Clash. -/
import Derived.Test.YtanchjfodcjlmaaGreatDoorOwnShelf07
import Derived.Test.YtanchjfodcjlmaaGreatDoorOwnShelf19
import Derived.Test.YtanchjfodcjlmaaGreatDoorOwnShelf17
import Derived.Test.YtanchjfodcjlmaaGreatDoorOwnShelf13
import Derived.Shelf.Abstract
import Derived.Test.YtanchjfodcjlmaaGreatDoorOwnShelf15
import Derived.Deep.AppendSrc
import Derived.Deep.RegionWith
import Derived.Deep.RegionLaw
import Derived.Deep.DrawnRows
import Derived.Test.YtanchjfodcjlmaaGreatDoorOwnShelf16
namespace Go.Proofs.YtanchjfodcjlmaaGreatDoor
open Go.RowKit

/-- Some one of n. -/
def anyB (n : Nat) (q : Nat → Bool) : Bool := (List.range n).any q
theorem anyB_yes {n i : Nat} {q : Nat → Bool} (hi : i < n) (h : q i = true) : anyB n q = true := List.any_eq_true.2 ⟨i, List.mem_range.2 hi, h⟩
theorem anyB_no {n : Nat} {q : Nat → Bool} (h : ∀ j, j < n → q j = false) : anyB n q = false := List.any_eq_false.2 fun j hj => by rw [h j (List.mem_range.1 hj)]; decide
theorem anyB_iff {n : Nat} {q : Nat → Bool} : anyB n q = true ↔ ∃ i, i < n ∧ q i = true := by
 unfold anyB
 rw [List.any_eq_true]
 exact ⟨fun ⟨i, h1, h2⟩ => ⟨i, List.mem_range.1 h1, h2⟩, fun ⟨i, h1, h2⟩ => ⟨i, List.mem_range.2 h1, h2⟩⟩
/-- Does an input spend a point? -/
def isPt (x : Ti) (z : Nat → Int) (k : Int) : Bool := hq x.pt z && decide (x.n = k)
def spB (X : Nat → Ti) (n : Nat) (z : Nat → Int) (k : Int) : Bool := anyB n fun i => isPt (X i) z k
def clB (X : Nat → Ti) (n : Nat) (Y : Nat → Ti) (m : Nat) : Bool := anyB n fun i => spB Y m (X i).pt (X i).n
theorem isPt_iff {x : Ti} {z : Nat → Int} {k : Int} : isPt x z k = true ↔ (k, ub z) = keyT x := by
 simp only [isPt, hq, keyT, Bool.and_eq_true, beq_iff_eq, decide_eq_true_eq, Prod.mk.injEq]
 exact ⟨fun ⟨a, b⟩ => ⟨b.symm, a.symm⟩, fun ⟨a, b⟩ => ⟨b.symm, a.symm⟩⟩
theorem bool_iff {a b : Bool} (h : a = true ↔ b = true) : a = b := by cases a <;> cases b <;> simp_all
theorem clB_iff {X : Nat → Ti} {n : Nat} {Y : Nat → Ti} {m : Nat} : clB X n Y m = true ↔ ∃ i, i < n ∧ ∃ j, j < m ∧ keyT (X i) = keyT (Y j) := by
 unfold clB spB
 rw [anyB_iff]
 refine exists_congr fun i => and_congr_right fun _ => ?_
 rw [anyB_iff]
 refine exists_congr fun j => and_congr_right fun _ => ?_
 rw [isPt_iff]
 rfl
theorem clB_comm (X : Nat → Ti) (n : Nat) (Y : Nat → Ti) (m : Nat) : clB X n Y m = clB Y m X n := bool_iff (by
 rw [clB_iff, clB_iff]
 exact ⟨fun ⟨i, hi, j, hj, e⟩ => ⟨j, hj, i, hi, e.symm⟩, fun ⟨i, hi, j, hj, e⟩ => ⟨j, hj, i, hi, e.symm⟩⟩)
theorem cl_pts (X : Nat → Ti) (n : Nat) (Y : Nat → Ti) (m : Nat) : (anyB m fun j => (ptsL X n).contains (keyT (Y j))) = clB X n Y m := bool_iff (by
 rw [clB_iff, anyB_iff]
 constructor
 ·rintro ⟨j, hj, h⟩
  obtain ⟨i, hi, e⟩ := (ptsL_mem X _ n).1 h
  exact ⟨i, hi, j, hj, e⟩
 ·rintro ⟨i, hi, j, hj, e⟩
  exact ⟨j, hj, (ptsL_mem X _ n).2 ⟨i, hi, e⟩⟩)
/-- A map that holds just the points of n inputs. -/
def PtD (w : World) (b : Nat) (X : Nat → Ti) (n : Nat) : Prop := ∃ (D : DataW Unit) (k : Nat), w.ownsMap Tryz.prog 47 (unitElem (H := Unit)) b k D ∧ Kp.BkD D (ptsL X n)
theorem PtD.keep {w w' : World} {b n : Nat} {X : Nat → Ti} (h : PtD w b X n) (hb : Below w.heap.size w w') : PtD w' b X n := by
 obtain ⟨D, k, h1, h2⟩ := h
 exact ⟨D, k, kowns_keep h1 (hb.block _ h1.lt), h2⟩
theorem zero_unitP (w : World) : (zeroValue 91).run Tryz.prog w = .ok (.agg #[]) w := by kernel_rfl
section
variable {ops : Array Oper} {rest : List Oper} {o : Oper} {a : Act} {w : World} {Q : Exit → Act → World → Prop}
theorem wpList_eqPtP (hgd : o.guard = none) (x y : Operand) (ho : o.op = .binOp .eql 47 x y 47) {z u : Nat → Int} {n m : Int} (hz : Hb z) (hu : Hb u) (hn : Kp.Ib n) (hm : Kp.Ib m) (b : Bool) (hb : (hq z u && decide (n = m)) = b) (hx : a.eval x = .agg (ptv z n)) (hy : a.eval y = .agg (ptv u m))
  (h : wpList Tryz.prog ops Q rest (a.put o.dst (.bool b)) w) : wpList Tryz.prog ops Q (o :: rest) a w := by
 refine wpList_plain hgd fun K hK => ?_
 unfold Oper.wp
 rw [exec_eqPtO x y ho hz hu hn hm b hb hx hy w]
 exact hK _ _ h
end
set_option maxRecDepth 100000 in
set_option maxHeartbeats 3200000 in
theorem pointsD_any (lk : Int) (ia : Option Addr) (n ic : Nat) (oa : Option Addr) (m oc : Nat) (X : Nat → Ti) (S : Nat → Option Addr × Nat) (w : World) (h : TiAt w ia n X S) (hI : ∀ i, i < n → Kp.Ib (X i).n) (hn : n ≤ 1000000) :
  Calls Tryz.prog 31 #[.agg (txv lk ia n ic oa m oc)] w fun e w' => (∃ b, e = .returned (.map (some b)) ∧ PtD w' b X n) ∧ Below w.heap.size w w' := by
 have hb0 : Below w.heap.size w ((w.alloc (.cells #[.int .i64 lk, .slice ia n ic, .slice oa m oc] 35)).alloc (.map #[] 0)) := ((Below.refl _ w).alloc (Nat.le_refl _) _).alloc (by simp) _
 have hM0 : ((w.alloc (.cells #[.int .i64 lk, .slice ia n ic, .slice oa m oc] 35)).alloc (.map #[] 0)).ownsMap Tryz.prog 47 (unitElem (H := Unit)) (w.heap.size + 1) 0 (.map []) := by
  have := World.ownsMap_made (w.alloc (.cells #[.int .i64 lk, .slice ia n ic, .slice oa m oc] 35)) Tryz.prog 47 (unitElem (H := Unit))
  simpa using this
 have k1 := run_makeMap (P := Tryz.prog) 87
 have HT : Hid (TiAt w ia n X S) := h
 clear h
 unfold txv
 go_enter Tryz.func31, Tryz.ntmps31
 go_wp2
 generalize (w.alloc (.cells #[.int .i64 lk, .slice ia n ic, .slice oa m oc] 35)).alloc (.map #[] 0) = W0 at *
 go_loopw [5, 10] (fun _ iv wr => ∃ (i : Nat) (D : DataW Unit), i ≤ n ∧ iv = .int .i64 i ∧ wr.ownsMap Tryz.prog 47 (unitElem (H := Unit)) (w.heap.size + 1) i D ∧ Kp.BkD D (ptsL X i) ∧ Below w.heap.size w wr) (fun _ iv _ => n + 1 - (intOf iv).toNat)
 case atStart => exact ⟨0, _, by omega, rfl, hM0, Kp.BkD.nil, hb0⟩
 case round =>
  clear hb0 hM0 k1
  obtain ⟨i, D, hi, rfl, hM, hD, hb⟩ := hrel
  have HD : Hid (Kp.BkD D (ptsL X i)) := hD
  have HM : Hid (wr.ownsMap Tryz.prog 47 (unitElem (H := Unit)) (w.heap.size + 1) i D) := hM
  clear hD hM
  by_cases hlt : i < n
  ·have hlt' : (i : Int) < n := by omega
   obtain ⟨b, off, rfl, hc⟩ := HT.out.at_ (by omega)
   have HR : Hid (wr.rangeAt b (off + i * 35) (til (X i) (S i).1 (S i).2)) := range_below (hc i hlt) hb
   have HZ : Hid (Hb (X i).pt ∧ Kp.Ib (X i).n) := ⟨HT.out.pt i hlt, hI i hlt⟩
   have k2 := build_unit
   clear hc
   go_wp2_with (first | (refine wpList_load_mid rfl 59 _ rfl b (off + i * 35) rfl (til (X i) (S i).1 (S i).2) _ HR.out Tryz.underlying59 rfl (szTil _ _ _) ?_) | (refine wpList_allocG 59 (tiv ti0 none 0) run_allocTi rfl rfl ?_) | (refine wpList_storeG 59 szTi rfl _ _ rfl wr.heap.size rfl (tiv (X i) (S i).1 (S i).2) (tiv ti0 none 0) (tiv_size _ _ _) (tiv_size _ _ _) (tiv_one _ _ _) 59 rfl (heap_alloc_new wr _) ?_; intro u5 hg5 hf5; have hb5 := kfrm_new hf5; have HP : Hid (u5.rangeAt wr.heap.size 0 (ptl (X i).pt (X i).n)) := pt_range (til_range hg5); have HM5 : Hid (u5.ownsMap Tryz.prog 47 (unitElem (H := Unit)) (w.heap.size + 1) i D) := kowns_keep HM.out (hb5.block _ HM.out.lt); clear hg5 hf5) | (refine wpList_load_mid rfl 47 _ rfl wr.heap.size 0 rfl (ptl (X i).pt (X i).n) _ HP.out Tryz.underlying47 rfl (szPtl _ _) ?_) | (at_mapUpdate; refine wpList_mapUpdate_own u5 rfl _ _ _ 87 rfl 47 91 Kp.lawS Tryz.underlying87 (unitElem (H := Unit)) (w.heap.size + 1) i D rfl HM5.out (by simp [maxLen]; omega) (.agg (Kp.kv (X i).n (X i).pt)) (.agg #[]) (Kp.kl (X i).n (X i).pt) rfl rfl (Kp.keyOfS HZ.out.2 HZ.out.1) (.agg []) [] unitElem_mk ?_; intro u6 hm6 hg6) | fail)
   have HD6 : Hid (Kp.BkD (D.put (Kp.kl (X i).n (X i).pt) (.agg [])) (ptsL X (i + 1))) := BkD_pts HD.out (HM.out.tidy Kp.lawS) HZ.out.2 HZ.out.1 _
   have hb6 : Below w.heap.size w u6 := (hb.trans (hb5.mono hb.size)).grown hg6 (by have := hb.size; have := hb5.size; omega) (fun j hj => by cases hj; omega)
   go_roundw
   case rel => exact ⟨i + 1, _, by omega, by go_num, hm6, HD6.out, hb6⟩
   case measure => simp [intOf]; omega
  ·obtain rfl : i = n := by omega
   have hnn : ¬ ((i : Int) < i) := by omega
   go_wp2
   go_ret
   exact ⟨⟨_, rfl, D, _, HM.out, HD.out⟩, hb⟩
set_option maxHeartbeats 1600000 in
theorem kidxS_any (ad : Option Addr) (n cap : Nat) (X : Nat → Ti) (S : Nat → Option Addr × Nat) (P : Nat) (q : Nat → Bool) (w : World) (h : TiAt w ad n X S) (hn : n ≤ 1000000)
  (hq : ∀ i, i < n → ∀ w' : World, Below w.heap.size w w' → Calls Tryz.prog 34 #[.agg (tiv (X i) (S i).1 (S i).2), .pointer (some ⟨P, 0, none⟩)] w' fun e w'' => e = .returned (.bool (q i)) ∧ Below w'.heap.size w' w'') :
  Calls Tryz.prog 50 #[.slice ad n cap, .func (.func 34) #[] #[.pointer (some ⟨P, 0, none⟩)]] w fun e w' => (∃ r : Int, e = .returned (.int .i64 r) ∧ decide (r ≥ 0) = anyB n q) ∧ Below w.heap.size w w' := by
 have HB : Hid (TiAt w ad n X S) := h
 have HQ := hidV hq
 have hb0 := Below.refl w.heap.size w
 have eg : ∀ args w, (callFunc 34 args).run Tryz.prog w = .ok (.enter 34 args) w := enters_of Tryz.func34 (by kernel_rfl) rfl
 clear h hq
 go_enter Tryz.func50, Tryz.ntmps50
 go_wp2
 go_loopw [5, 8] (fun _ iv wr => ∃ i : Nat, i ≤ n ∧ iv = .int .i64 i ∧ (∀ j, j < i → q j = false) ∧ Below w.heap.size w wr) (fun _ iv _ => n + 1 - (intOf iv).toNat)
 case atStart => exact ⟨0, by omega, rfl, fun j hj => by omega, hb0⟩
 case round =>
  clear hb0
  obtain ⟨i, hi, rfl, hk, hb⟩ := hrel
  have HK : Hid (∀ j, j < i → q j = false) := hk
  clear hk
  by_cases hlt : i < n
  ·have hlt' : (i : Int) < n := by omega
   obtain ⟨b, off, rfl, hc⟩ := HB.out.at_ (by omega)
   have HR : Hid (wr.rangeAt b (off + i * 35) (til (X i) (S i).1 (S i).2)) := range_below (hc i hlt) hb
   have hcall := HQ.out i hlt wr hb
   unfold tiv at hcall
   clear hc
   cases hqi : q i with
   | false =>
    rw [hqi] at hcall
    have HN : Hid (∀ j, j < i + 1 → q j = false) := fun j hj => by
     by_cases e : j = i
     ·subst e; exact hqi
     ·exact HK.out j (by omega)
    clear hqi
    go_wp2_with (first | (refine wpList_load_mid rfl 59 _ rfl b (off + i * 35) rfl (til (X i) (S i).1 (S i).2) _ HR.out Tryz.underlying59 rfl (szTil _ _ _) ?_) | (go_at_fn 34; refine hcall.mono ?_; rintro e w1 ⟨rfl, hb1⟩) | fail)
    go_roundw
    case rel => exact ⟨i + 1, by omega, by go_num, HN.out, hb.trans (hb1.mono hb.size)⟩
    case measure => simp [intOf]; omega
   | true =>
    rw [hqi] at hcall
    have HN : Hid (anyB n q = true) := anyB_yes hlt hqi
    clear hqi
    go_wp2_with (first | (refine wpList_load_mid rfl 59 _ rfl b (off + i * 35) rfl (til (X i) (S i).1 (S i).2) _ HR.out Tryz.underlying59 rfl (szTil _ _ _) ?_) | (go_at_fn 34; refine hcall.mono ?_; rintro e w1 ⟨rfl, hb1⟩) | fail)
    go_ret
    refine ⟨⟨_, rfl, ?_⟩, hb.trans (hb1.mono hb.size)⟩
    have := HN.out
    simp [this]
  ·obtain rfl : i = n := by omega
   have hnn : ¬ ((i : Int) < i) := by omega
   have hk := anyB_no HK.out
   go_wp2
   go_ret
   refine ⟨⟨_, rfl, ?_⟩, hb⟩
   first | decide | (rw [hk]; simp)
set_option maxHeartbeats 800000 in
theorem kconS_any (ad : Option Addr) (n cap : Nat) (X : Nat → Ti) (S : Nat → Option Addr × Nat) (P : Nat) (q : Nat → Bool) (w : World) (h : TiAt w ad n X S) (hn : n ≤ 1000000)
  (hq : ∀ i, i < n → ∀ w' : World, Below w.heap.size w w' → Calls Tryz.prog 34 #[.agg (tiv (X i) (S i).1 (S i).2), .pointer (some ⟨P, 0, none⟩)] w' fun e w'' => e = .returned (.bool (q i)) ∧ Below w'.heap.size w' w'') :
  Calls Tryz.prog 30 #[.slice ad n cap, .func (.func 34) #[] #[.pointer (some ⟨P, 0, none⟩)]] w fun e w' => e = .returned (.bool (anyB n q)) ∧ Below w.heap.size w w' := by
 have hi := kidxS_any ad n cap X S P q w h hn hq
 clear h hq
 generalize anyB n q = r at *
 go_enter Tryz.func30, Tryz.ntmps30
 go_wp2_with (go_at_call 50; refine hi.mono ?_; rintro e w1 ⟨⟨q, rfl, hq⟩, hb1⟩)
 all_goals (go_ret; exact ⟨by simp_all, hb1⟩)
set_option maxHeartbeats 1600000 in
theorem kidxC_any (ad : Option Addr) (n cap : Nat) (X : Nat → Ti) (S : Nat → Option Addr × Nat) (P : Nat) (q : Nat → Bool) (w : World) (h : TiAt w ad n X S) (hn : n ≤ 1000000)
  (hq : ∀ i, i < n → ∀ w' : World, Below w.heap.size w w' → Calls Tryz.prog 35 #[.agg (tiv (X i) (S i).1 (S i).2), .pointer (some ⟨P, 0, none⟩)] w' fun e w'' => e = .returned (.bool (q i)) ∧ Below w'.heap.size w' w'') :
  Calls Tryz.prog 50 #[.slice ad n cap, .func (.func 35) #[] #[.pointer (some ⟨P, 0, none⟩)]] w fun e w' => (∃ r : Int, e = .returned (.int .i64 r) ∧ decide (r ≥ 0) = anyB n q) ∧ Below w.heap.size w w' := by
 have HB : Hid (TiAt w ad n X S) := h
 have HQ := hidV hq
 have hb0 := Below.refl w.heap.size w
 have eg : ∀ args w, (callFunc 35 args).run Tryz.prog w = .ok (.enter 35 args) w := enters_of Tryz.func35 (by kernel_rfl) rfl
 clear h hq
 go_enter Tryz.func50, Tryz.ntmps50
 go_wp2
 go_loopw [5, 8] (fun _ iv wr => ∃ i : Nat, i ≤ n ∧ iv = .int .i64 i ∧ (∀ j, j < i → q j = false) ∧ Below w.heap.size w wr) (fun _ iv _ => n + 1 - (intOf iv).toNat)
 case atStart => exact ⟨0, by omega, rfl, fun j hj => by omega, hb0⟩
 case round =>
  clear hb0
  obtain ⟨i, hi, rfl, hk, hb⟩ := hrel
  have HK : Hid (∀ j, j < i → q j = false) := hk
  clear hk
  by_cases hlt : i < n
  ·have hlt' : (i : Int) < n := by omega
   obtain ⟨b, off, rfl, hc⟩ := HB.out.at_ (by omega)
   have HR : Hid (wr.rangeAt b (off + i * 35) (til (X i) (S i).1 (S i).2)) := range_below (hc i hlt) hb
   have hcall := HQ.out i hlt wr hb
   unfold tiv at hcall
   clear hc
   cases hqi : q i with
   | false =>
    rw [hqi] at hcall
    have HN : Hid (∀ j, j < i + 1 → q j = false) := fun j hj => by
     by_cases e : j = i
     ·subst e; exact hqi
     ·exact HK.out j (by omega)
    clear hqi
    go_wp2_with (first | (refine wpList_load_mid rfl 59 _ rfl b (off + i * 35) rfl (til (X i) (S i).1 (S i).2) _ HR.out Tryz.underlying59 rfl (szTil _ _ _) ?_) | (go_at_fn 35; refine hcall.mono ?_; rintro e w1 ⟨rfl, hb1⟩) | fail)
    go_roundw
    case rel => exact ⟨i + 1, by omega, by go_num, HN.out, hb.trans (hb1.mono hb.size)⟩
    case measure => simp [intOf]; omega
   | true =>
    rw [hqi] at hcall
    have HN : Hid (anyB n q = true) := anyB_yes hlt hqi
    clear hqi
    go_wp2_with (first | (refine wpList_load_mid rfl 59 _ rfl b (off + i * 35) rfl (til (X i) (S i).1 (S i).2) _ HR.out Tryz.underlying59 rfl (szTil _ _ _) ?_) | (go_at_fn 35; refine hcall.mono ?_; rintro e w1 ⟨rfl, hb1⟩) | fail)
    go_ret
    refine ⟨⟨_, rfl, ?_⟩, hb.trans (hb1.mono hb.size)⟩
    have := HN.out
    simp [this]
  ·obtain rfl : i = n := by omega
   have hnn : ¬ ((i : Int) < i) := by omega
   have hk := anyB_no HK.out
   go_wp2
   go_ret
   refine ⟨⟨_, rfl, ?_⟩, hb⟩
   first | decide | (rw [hk]; simp)
set_option maxHeartbeats 800000 in
theorem kconC_any (ad : Option Addr) (n cap : Nat) (X : Nat → Ti) (S : Nat → Option Addr × Nat) (P : Nat) (q : Nat → Bool) (w : World) (h : TiAt w ad n X S) (hn : n ≤ 1000000)
  (hq : ∀ i, i < n → ∀ w' : World, Below w.heap.size w w' → Calls Tryz.prog 35 #[.agg (tiv (X i) (S i).1 (S i).2), .pointer (some ⟨P, 0, none⟩)] w' fun e w'' => e = .returned (.bool (q i)) ∧ Below w'.heap.size w' w'') :
  Calls Tryz.prog 30 #[.slice ad n cap, .func (.func 35) #[] #[.pointer (some ⟨P, 0, none⟩)]] w fun e w' => e = .returned (.bool (anyB n q)) ∧ Below w.heap.size w w' := by
 have hi := kidxC_any ad n cap X S P q w h hn hq
 clear h hq
 generalize anyB n q = r at *
 go_enter Tryz.func30, Tryz.ntmps30
 go_wp2_with (go_at_call 50; refine hi.mono ?_; rintro e w1 ⟨⟨q, rfl, hq⟩, hb1⟩)
 all_goals (go_ret; exact ⟨by simp_all, hb1⟩)
set_option maxRecDepth 100000 in
set_option maxHeartbeats 1600000 in
theorem ksp1_any (x : Ti) (sa : Option Addr) (sc : Nat) (P : Nat) (z : Nat → Int) (k : Int) (w : World) (hP : w.rangeAt P 0 (ptl z k)) (hx : Hb x.pt) (hxn : Kp.Ib x.n) (hz : Hb z) (hk : Kp.Ib k) :
  Calls Tryz.prog 34 #[.agg (tiv x sa sc), .pointer (some ⟨P, 0, none⟩)] w fun e w' => e = .returned (.bool (isPt x z k)) ∧ Below w.heap.size w w' := by
 have hb0 : Below w.heap.size w (w.alloc (.cells (tiv x sa sc) 59)) := (Below.refl _ w).alloc (Nat.le_refl _) _
 have hr0 := heap_alloc_new w (.cells (tiv x sa sc) 59)
 have HB := hidV hb0
 have HR : Hid ((w.alloc (.cells (tiv x sa sc) 59)).rangeAt w.heap.size 0 (ptl x.pt x.n) ∧ (w.alloc (.cells (tiv x sa sc) 59)).rangeAt P 0 (ptl z k)) := ⟨pt_range (til_range hr0), range_below hP hb0⟩
 have HZ := hidV (And.intro hx (And.intro hxn (And.intro hz hk)))
 clear hr0 hb0 hP hx hxn hz hk
 go_enter Tryz.func34, Tryz.ntmps34
 go_wp2_with (first | (refine Go.Great.wpList_boxTo rfl _ _ rfl _ rfl _ rfl (tiv x sa sc) rfl ?_) | (refine wpList_load_mid rfl 47 _ rfl w.heap.size 0 rfl (ptl x.pt x.n) _ HR.out.1 Tryz.underlying47 rfl (szPtl _ _) ?_) | (refine wpList_load_mid rfl 47 _ rfl P 0 rfl (ptl z k) _ HR.out.2 Tryz.underlying47 rfl (szPtl _ _) ?_) | (refine wpList_eqPtP rfl _ _ rfl HZ.out.1 HZ.out.2.2.1 HZ.out.2.1 HZ.out.2.2.2 (isPt x z k) rfl rfl rfl ?_) | fail)
 go_ret
 exact ⟨rfl, HB.out⟩
set_option maxRecDepth 100000 in
set_option maxHeartbeats 1600000 in
theorem kcl1_any (x : Ti) (sa : Option Addr) (sc : Nat) (P b : Nat) (Y : Nat → Ti) (m : Nat) (w : World) (hP : w.cell? ⟨P, 0, none⟩ = some (.map (some b))) (hM : PtD w b Y m) (hx : Hb x.pt) (hxn : Kp.Ib x.n) :
  Calls Tryz.prog 35 #[.agg (tiv x sa sc), .pointer (some ⟨P, 0, none⟩)] w fun e w' => e = .returned (.bool ((ptsL Y m).contains (keyT x))) ∧ Below w.heap.size w w' := by
 have hb0 : Below w.heap.size w (w.alloc (.cells (tiv x sa sc) 59)) := (Below.refl _ w).alloc (Nat.le_refl _) _
 have hr0 := heap_alloc_new w (.cells (tiv x sa sc) 59)
 have HB := hidV hb0
 have HR : Hid ((w.alloc (.cells (tiv x sa sc) 59)).rangeAt w.heap.size 0 (ptl x.pt x.n)) := pt_range (til_range hr0)
 have c0 : (w.alloc (.cells (tiv x sa sc) 59)).cell? ⟨P, 0, none⟩ = some (.map (some b)) := by rw [World.cell?_of_block (a := ⟨P, 0, none⟩) (hb0.block _ (World.block_lt_of_cell? w _ hP))]; exact hP
 obtain ⟨D, kd, hm, hD⟩ := hM.keep hb0
 have HM := hidV hm
 have HK := hidV (Kp.keyOfS hxn hx)
 have hv : Maps.has D (Kp.kl x.n x.pt) = (ptsL Y m).contains (keyT x) := hD.has _ _ hxn hx
 clear hr0 hb0 hP hM hx hxn hm hD
 rw [← hv]
 obtain ⟨r, hr⟩ : ∃ r, Maps.has D (Kp.kl x.n x.pt) = r := ⟨_, rfl⟩
 rw [hr]
 have HRR := hidV hr
 clear hr hv
 go_enter Tryz.func35, Tryz.ntmps35
 go_wp2_with (first | (refine Go.Great.wpList_boxTo rfl _ _ rfl _ rfl _ rfl (tiv x sa sc) rfl ?_) | (refine wpList_load_mid rfl 47 _ rfl w.heap.size 0 rfl (ptl x.pt x.n) _ HR.out Tryz.underlying47 rfl (szPtl _ _) ?_) | (at_lookup; refine wpList_lookup_own_unit _ rfl _ _ 87 rfl 47 91 Kp.lawS Tryz.underlying87 (zero_unitP _) b kd D rfl HM.out (.agg (Kp.kv x.n x.pt)) (Kp.kl x.n x.pt) rfl HK.out ?_; rw [HRR.out]) | fail)
 go_ret
 exact ⟨rfl, HB.out.alloc HB.out.size _⟩
/-- What the closures are handed. -/
theorem spB_eq (X : Nat → Ti) (n : Nat) (z : Nat → Int) (k : Int) : spB X n z k = anyB n fun i => isPt (X i) z k := rfl
set_option maxRecDepth 100000 in
set_option maxHeartbeats 1600000 in
theorem kspends_any (lk : Int) (ia : Option Addr) (n ic : Nat) (oa : Option Addr) (m oc : Nat) (X : Nat → Ti) (S : Nat → Option Addr × Nat) (z : Nat → Int) (k : Int) (w : World) (h : TiAt w ia n X S) (hn : n ≤ 1000000) (hX : ∀ i, i < n → Kp.Ib (X i).n) (hz : Hb z) (hk : Kp.Ib k) :
  Calls Tryz.prog 14 #[.agg (txv lk ia n ic oa m oc), .agg (ptv z k)] w fun e w' => e = .returned (.bool (spB X n z k)) ∧ Below w.heap.size w w' := by
 have HI := hidV (And.intro h (And.intro hX (And.intro hz hk)))
 clear h hX hz hk
 go_enter Tryz.func14, Tryz.ntmps14
 go_upto_region 1 with (first | (refine wpList_boxN rfl _ _ rfl (txv lk ia n ic oa m oc) rfl ?_; intro v1 N1) | (refine wpList_boxN rfl _ _ rfl (ptv z k) rfl ?_; intro v2 N2) | fail)
 have HB : Hid (Below w.heap.size w v2) := Below.transS N1.below N2.below
 have HP : Hid (v2.rangeAt v1.heap.size 0 (ptl z k)) := ptl_range N2.blk
 have c1 : v2.cell? ⟨w.heap.size, 1, none⟩ = some (.slice ia n ic) := by rw [cell_of_row _ _ 1 _ _ _ (N2.old N1.blk)]; rfl
 clear N1 N2
 have hcall := kconS_any ia n ic X S v1.heap.size (fun i => isPt (X i) z k) v2 (HI.out.1.below HB.out) hn (fun i hi w' hb => ksp1_any (X i) (S i).1 (S i).2 v1.heap.size z k w' (range_below HP.out hb) (HI.out.1.pt i hi) (HI.out.2.1 i hi) HI.out.2.2.1 HI.out.2.2.2)
 rw [← spB_eq] at hcall
 generalize v1.heap.size = P at *
 go_wp2_with (first | (go_at_call 30; refine hcall.mono ?_; rintro e w1 ⟨rfl, hb1⟩) | fail)
 go_ret
 exact ⟨rfl, Below.transS HB.out hb1⟩
set_option maxRecDepth 100000 in
set_option maxHeartbeats 1600000 in
theorem kclash_any (lk : Int) (ia : Option Addr) (n ic : Nat) (oa : Option Addr) (m oc : Nat) (X : Nat → Ti) (S : Nat → Option Addr × Nat) (lk' : Int) (ja : Option Addr) (n' jc : Nat) (pa : Option Addr) (m' pc : Nat) (Y : Nat → Ti) (S' : Nat → Option Addr × Nat) (w : World)
  (h : TiAt w ia n X S) (h' : TiAt w ja n' Y S') (hn : n ≤ 1000000) (hn' : n' ≤ 1000000) (hX : ∀ i, i < n → Kp.Ib (X i).n) (hY : ∀ i, i < n' → Kp.Ib (Y i).n) :
  Calls Tryz.prog 16 #[.agg (txv lk ia n ic oa m oc), .agg (txv lk' ja n' jc pa m' pc)] w fun e w' => e = .returned (.bool (clB X n Y n')) ∧ Below w.heap.size w w' := by
 have HI := hidV (And.intro h (And.intro h' (And.intro hX hY)))
 clear h h' hX hY
 go_enter Tryz.func16, Tryz.ntmps16
 go_upto_region 1 with (first | (refine wpList_boxN rfl _ _ rfl (txv lk ia n ic oa m oc) rfl ?_; intro v1 N1) | (refine wpList_boxN rfl _ _ rfl (txv lk' ja n' jc pa m' pc) rfl ?_; intro v2 N2) | fail)
 have HB : Hid (Below w.heap.size w v2) := Below.transS N1.below N2.below
 have HX : Hid (v2.rangeAt w.heap.size 0 (txl lk ia n ic oa m oc) ∧ v2.rangeAt v1.heap.size 0 (txl lk' ja n' jc pa m' pc)) := ⟨txl_range (N2.old N1.blk), txl_range N2.blk⟩
 clear N1 N2
 generalize v1.heap.size = P at *
 have hp := pointsD_any lk ia n ic oa m oc X S v2 (HI.out.1.below HB.out) HI.out.2.2.1 hn
 unfold txv at hp
 go_upto_region 2 with (first | (refine wpList_load_mid rfl 35 _ rfl w.heap.size 0 rfl (txl lk ia n ic oa m oc) _ HX.out.1 Tryz.underlying35 rfl szTx ?_) | (go_at_call 31; refine hp.mono ?_; rintro e w1 ⟨⟨b, rfl, hM⟩, hb1⟩) | fail)
 have ha : Below w1.heap.size w1 (w1.alloc (.cells #[.map (some b)] 87)) := (Below.refl _ w1).alloc (Nat.le_refl _) _
 have cm : (w1.alloc (.cells #[.map (some b)] 87)).cell? ⟨w1.heap.size, 0, none⟩ = some (.map (some b)) := by rw [cell_of_row _ _ 0 _ _ _ (heap_alloc_new w1 _)]; rfl
 have cP : (w1.alloc (.cells #[.map (some b)] 87)).cell? ⟨P, 1, none⟩ = some (.slice ja n' jc) := by simpa using range_below (range_below HX.out.2 hb1) ha 1 _ rfl
 have HW : Hid (Below w.heap.size w (w1.alloc (.cells #[.map (some b)] 87)) ∧ PtD (w1.alloc (.cells #[.map (some b)] 87)) b X n) := ⟨Below.transS (Below.transS HB.out hb1) ha, hM.keep ha⟩
 clear hp hM hb1 ha HX HB
 generalize w1.alloc (.cells #[.map (some b)] 87) = W1 at *
 generalize w1.heap.size = V at *
 have hcall := kconC_any ja n' jc Y S' V (fun j => (ptsL X n).contains (keyT (Y j))) W1 (HI.out.2.1.below HW.out.1) hn' (fun i hi w' hb => kcl1_any (Y i) (S' i).1 (S' i).2 V b X n w' (by rw [World.cell?_of_block (a := ⟨V, 0, none⟩) (hb.block _ (World.block_lt_of_cell? W1 _ cm))]; exact cm) (HW.out.2.keep hb) (HI.out.2.1.pt i hi) (HI.out.2.2.2 i hi))
 rw [cl_pts] at hcall
 go_wp2_with (first | (go_at_call 30; refine hcall.mono ?_; rintro e w1 ⟨rfl, hb1⟩) | fail)
 go_ret
 exact ⟨rfl, Below.transS HW.out.1 hb1⟩
end Go.Proofs.YtanchjfodcjlmaaGreatDoor
/- What several texts share. -/
namespace Go.Proofs.YtanchjfodcjlmaaGreatDoor
open Go.RowKit

/-- A slice of its own that holds bytes. -/
def Fresh (w w' : World) (ad : Option Addr) (cap : Nat) (l : List Int) : Prop :=
 l.length ≤ cap ∧ SlAt w' ad l.length (fn l) ∧ (ad = none → l.length = 0 ∧ cap = 0) ∧ (∀ a, ad = some a → w.heap.size ≤ a.block) ∧ Below w.heap.size w w'
theorem Fresh.nil {w w' : World} (h : Below w.heap.size w w') : Fresh w w' none 0 [] := ⟨Nat.le_refl _, SlAt.zero _ _, (fun _ => ⟨rfl, rfl⟩), (fun _ h => by cases h), h⟩

theorem fn_bd {l : List Int} (h : ∀ x, x ∈ l → 0 ≤ x ∧ x ≤ 255) : ∀ j, j < l.length → 0 ≤ fn l j ∧ fn l j ≤ 255 := fun j hj => by rw [fn_get l j hj]; exact h _ (List.getElem_mem hj)
theorem own_fresh {w w' : World} {ad : Option Addr} {cp : Nat} {l : List Int} (h : w'.ownsRow w.heap.size 5 1 (.slice ad l.length cp) l.length (l.map (Value.int .u8))) (hx : ∀ x, x ∈ l → 0 ≤ x ∧ x ≤ 255) (hb : Below w.heap.size w w') : Fresh w w' ad cp l := by
 rw [map_bl] at h
 obtain ⟨ad', cap', e, h1, h2, h3, h4⟩ := own_SlAt (fn_bd hx) h
 cases e
 exact ⟨h1, h2, h3, h4, hb⟩

theorem one_src (w : World) (x : Int) : BSrc (w.alloc (.cells #[.int .u8 x] 5)) (.slice (some ⟨w.heap.size, 0, none⟩) 1 1) [x] :=
 ⟨_, 1, rfl, .inr ⟨_, rfl, World.news_of_block (cs := #[.int .u8 x]) (t := 5) (fr := (0, 0)) (heap_alloc_new w _)⟩⟩
theorem hash_src {w : World} {g : Nat} {z : Nat → Int} {t : TypeId} {l : List Int} (hl : l.map (Value.int .u8) = bl z 32) (hg : w.heap[g]? = some (.cells (bl z 32).toArray t (0, 0))) : BSrc w (.slice (some ⟨g, 0, none⟩) 32 32) l := by
 have h32 : l.length = 32 := by have := congrArg List.length hl; simpa [bl_length] using this
 refine ⟨_, 32, by rw [h32], .inr ⟨_, rfl, ?_⟩⟩
 rw [hl]
 have := World.news_of_block hg
 simpa using this


section
variable {ops : Array Oper} {rest : List Oper} {o : Oper} {a : Act} {w : World} {Q : Exit → Act → World → Prop}
end
theorem Ow.fresh {w0 w : World} {ad : Option Addr} {cp : Nat} {L : List Int} (h : Ow w0 w (.slice ad L.length cp) L) : Fresh w0 w ad cp L := own_fresh h.own h.bd h.below

set_option maxHeartbeats 400000 in
theorem refOwn_any (ad : Option Addr) (l : List Int) (cap : Nat) (w : World) (hs : SlAt w ad l.length (fn l)) (hnil : ad = none → l.length = 0 ∧ cap = 0) (hn : l.length ≤ 140737488355328) :
  Calls Tryz.prog 76 #[.slice ad l.length cap] w fun e w' => ∃ v, e = .returned v ∧ Ow w w' v l := by
 have HS : Hid (BSrc w (.slice ad l.length cap) l) := SlAt.src hs hnil
 have HB : Hid (∀ x, x ∈ l → 0 ≤ x ∧ x ≤ 255) := fun x hx => by
  obtain ⟨j, hj, rfl⟩ := List.mem_iff_getElem.1 hx
  have := hs.1 j hj
  rwa [fn_get l j hj] at this
 clear hs hnil
 go_enter Tryz.func76, Tryz.ntmps76
 go_wp2_with (at_builtin; refine wpList_append_B rfl _ _ rfl w _ _ [] l rfl rfl (Ow.nil w) HS.out HB.out (by simpa using hn) ?_; intro v w1 hO)
 go_ret
 exact ⟨v, rfl, by simpa using hO⟩
end Go.Proofs.YtanchjfodcjlmaaGreatDoor

namespace Go.Proofs.YtanchjfodcjlmaaGreatDoor
open Go.RowKit

/-- The last q digits of a number, the highest first. -/
def lastD (n : Int) (q : Nat) : List Int := (List.range q).map fun j => n / 256 ^ (q - 1 - j) % 256
theorem lastD_length (n : Int) (q : Nat) : (lastD n q).length = q := by simp [lastD]
theorem lastD_succ (n : Int) (q : Nat) : lastD n (q + 1) = (n / 256 ^ q % 256) :: lastD n q := by
 unfold lastD
 rw [List.range_succ_eq_map, List.map_cons, List.map_map]
 congr 1
 apply List.map_congr_left
 intro j hj
 have : j < q := by simpa using hj
 show n / 256 ^ (q + 1 - 1 - (j + 1)) % 256 = _
 rw [show q + 1 - 1 - (j + 1) = q - 1 - j from by omega]
theorem lastD_bd (n : Int) (q : Nat) : ∀ x, x ∈ lastD n q → 0 ≤ x ∧ x ≤ 255 := by
 intro x hx
 simp only [lastD, List.mem_map] at hx
 obtain ⟨j, _, rfl⟩ := hx
 omega
theorem lastD_dgs (n : Int) : lastD n (sz n) = dgs false n (sz n) (sz n) := by
 unfold lastD dgs
 apply List.map_congr_left
 intro j _
 simp [dgt, trn]
theorem sz_is (n : Int) (q : Nat) (h0 : 0 ≤ n) (h8 : q ≤ 8) (hz : n / 256 ^ q = 0) (hp : q = 0 ∨ 0 < n / 256 ^ (q - 1)) : sz n = q := by
 have hc : q = 0 ∨ q = 1 ∨ q = 2 ∨ q = 3 ∨ q = 4 ∨ q = 5 ∨ q = 6 ∨ q = 7 ∨ q = 8 := by omega
 rcases hc with h | h | h | h | h | h | h | h | h <;> subst h <;> simp only [Nat.reduceSub, Int.reducePow, Nat.reduceEqDiff, false_or, true_or] at hz hp <;> unfold sz <;> repeat' split
 all_goals omega
theorem div_step (n : Int) (q : Nat) : n / 256 ^ q / 256 = n / 256 ^ (q + 1) := by
 rw [Int.pow_succ, Int.ediv_ediv_of_nonneg (Int.le_of_lt (Int.pow_pos (by decide)))]
theorem div_bd (n : Int) (q : Nat) (h0 : 0 ≤ n) (h1 : n ≤ 18446744073709551615) : 0 ≤ n / 256 ^ q ∧ n / 256 ^ q ≤ 18446744073709551615 := by
 have hp : (0 : Int) < 256 ^ q := Int.pow_pos (by decide)
 refine ⟨Int.ediv_nonneg h0 (Int.le_of_lt hp), ?_⟩
 exact Int.le_trans (Int.ediv_le_self _ h0) h1
theorem div_8 (n : Int) (q : Nat) (h0 : 0 ≤ n) (h1 : n ≤ 18446744073709551615) (hq : q ≤ 8) (hp : 0 < n / 256 ^ q) : q < 8 := by
 rcases Nat.lt_or_ge q 8 with h | h
 ·exact h
 ·have : q = 8 := by omega
  subst this
  simp only [Int.reducePow] at hp
  omega

set_option maxRecDepth 100000 in
set_option maxHeartbeats 1600000 in
theorem refDigits_own (n : Int) (w : World) (h0 : 0 ≤ n) (h1 : n ≤ 18446744073709551615) :
  Calls Tryz.prog 75 #[.int .u64 n] w fun e w' => ∃ v, e = .returned v ∧ Ow w w' v (dgs false n (sz n) (sz n)) := by
 have H0 : Hid (0 ≤ n ∧ n ≤ 18446744073709551615) := ⟨h0, h1⟩
 clear h0 h1
 go_enter Tryz.func75, Tryz.ntmps75
 go_wp2
 go_loopw [0, 3] (fun nv v wr => ∃ (q : Nat) (vo : Value), q ≤ 8 ∧ (q = 0 ∨ 0 < n / 256 ^ (q - 1)) ∧ nv = .int .u64 (n / 256 ^ q) ∧ v = vo ∧ Ow w wr vo (lastD n q)) (fun nv _ _ => (intOf nv).toNat)
 case atStart => exact ⟨0, _, by omega, .inl rfl, by simp, rfl, Ow.nil w⟩
 case round =>
  obtain ⟨q, vo, hq, hp, rfl, hv, hO⟩ := hrel
  have hv' := hv.symm
  subst hv'
  clear hv
  have hb := div_bd n q H0.out.1 H0.out.2
  have hst := div_step n q
  have HP8 := fun h => div_8 n q H0.out.1 H0.out.2 hq h
  generalize hm : n / 256 ^ q = m at *
  have HM : Hid (n / 256 ^ q = m) := hm
  have HP : Hid (q = 0 ∨ 0 < n / 256 ^ (q - 1)) := hp
  have HST : Hid (m / 256 = n / 256 ^ (q + 1)) := hst
  have HO : Hid (Ow w wr vo (lastD n q)) := hO
  have hlen := lastD_length n q
  clear hm hp hst hO
  by_cases hpos : 0 < m
  ·have hq8 := HP8 hpos
   have hg : decide (m > 0) = true := by simpa using hpos
   have hr : m.tmod 256 = m % 256 := Int.tmod_eq_emod_of_nonneg hb.1
   have hd : m.tdiv 256 = m / 256 := Int.tdiv_eq_ediv_of_nonneg hb.1
   clear HP8
   go_wp2_with (first
    | (at_builtin; refine wpList_append_B rfl (.tmp 7) (.tmp 11) rfl wr _ _ [] [m % 256] rfl rfl ((Ow.nil wr).alloc _) (one_src wr _) (by intro y hy; rw [List.mem_singleton.1 hy]; omega) (by simp) ?_; intro v1 w1 hO1)
    | (at_builtin; refine wpList_append_B rfl (.tmp 12) (.tmp 13) rfl wr _ _ _ (lastD n q) rfl rfl hO1 (HO.out.src hO1.below) (lastD_bd n q) (by rw [hlen]; simp; omega) ?_; intro v2 w2 hO2)
    | fail)
   go_roundw
   case rel =>
    refine ⟨q + 1, _, by omega, .inr (by rw [Nat.add_sub_cancel, HM.out]; exact hpos), by rw [← HST.out], rfl, ?_⟩
    rw [lastD_succ, HM.out]
    exact hO2.mono HO.out.below
   case measure => simp [intOf]; omega
  ·have hg : decide (m > 0) = false := by simpa using hpos
   have hm0 : n / 256 ^ q = 0 := by rw [HM.out]; omega
   have HSZ : Hid (sz n = q) := sz_is n q H0.out.1 hq hm0 HP.out
   clear hm0
   go_wp2
   go_ret
   refine ⟨vo, rfl, ?_⟩
   rw [← lastD_dgs, HSZ.out]
   exact HO.out
theorem refDigits_any (n : Int) (w : World) (h0 : 0 ≤ n) (h1 : n ≤ 18446744073709551615) :
  Calls Tryz.prog 75 #[.int .u64 n] w fun e w' => ∃ da dc, e = .returned (.slice da (sz n) dc) ∧ Ow w w' (.slice da (sz n) dc) (dgs false n (sz n) (sz n)) := by
 refine (refDigits_own n w h0 h1).mono fun e w' ⟨v, h, hO⟩ => ?_
 obtain ⟨da, dc, e1⟩ := hO.form
 rw [dgs_length] at e1
 subst e1
 exact ⟨da, dc, h, hO⟩
theorem dgs_bd (t : Bool) (n : Int) (k q : Nat) : ∀ x, x ∈ dgs t n k q → 0 ≤ x ∧ x ≤ 255 := by
 intro x hx
 simp only [dgs, List.mem_map] at hx
 obtain ⟨j, _, rfl⟩ := hx
 exact dgt_bd t n k j

set_option maxRecDepth 100000 in
set_option maxHeartbeats 1600000 in
theorem refUint_any (ad : Option Addr) (l : List Int) (cap : Nat) (n : Int) (w : World) (hs : SlAt w ad l.length (fn l)) (hnil : ad = none → l.length = 0 ∧ cap = 0) (hn : l.length + 64 ≤ 140737488351232) (h0 : 0 ≤ n) (h1 : n ≤ 18446744073709551615) :
  Calls Tryz.prog 54 #[.slice ad l.length cap, .int .u64 n] w fun e w' => ∃ v, e = .returned v ∧ Ow w w' v (l ++ uB n) := by
 have HS : Hid (SlAt w ad l.length (fn l)) := hs
 have HU : Hid (uB n = (sz n : Int) :: dgs false n (sz n) (sz n)) := rfl
 have hlen := dgs_length false n (sz n) (sz n)
 have hk := sz_le n
 clear hs
 go_enter Tryz.func54, Tryz.ntmps54
 go_wp2_with (first
  | (go_at_call 75; refine (refDigits_any n _ h0 h1).mono ?_; rintro e w1 ⟨da, dc, rfl, hD⟩)
  | (go_at_call 76; refine (refOwn_any ad l cap _ (HS.out.below hD.below) hnil (by omega)).mono ?_; rintro e w2 ⟨vo, rfl, hO⟩)
  | (at_builtin; refine wpList_append_B rfl (.tmp 9) (.tmp 13) rfl w1 _ _ l [(sz n : Int)] rfl rfl (hO.alloc _) (one_src w2 _) (by intro y hy; rw [List.mem_singleton.1 hy]; omega) (by simp; omega) ?_; intro v1 w3 hO1)
  | (at_builtin; refine wpList_append_B rfl (.tmp 14) (.tmp 15) rfl w1 _ _ _ (dgs false n (sz n) (sz n)) rfl rfl hO1 (hD.src hO1.below) (dgs_bd _ _ _ _) (by rw [hlen]; simp; omega) ?_; intro v2 w4 hO2)
  | fail)
 go_ret
 refine ⟨v2, rfl, ?_⟩
 rw [HU.out]
 simpa using hO2.mono hD.below

end Go.Proofs.YtanchjfodcjlmaaGreatDoor

namespace Go.Proofs.YtanchjfodcjlmaaGreatDoor
open Go.RowKit
attribute [local go_sem ↓] Go.wp_at_zero Go.wp_at_succ
theorem step_append_B {ops : Array Oper} {o : Oper} {a : Act} {w : World} {K : Act → World → Prop} {Q : Exit → Act → World → Prop} {E : Prop} (hgd : o.guard = none) (s x : Operand) (ho : o.op = .call { callee := .builtin .append, args := #[s, x], argTypes := #[57, 57] })
  (w0 : World) (v u : Value) (L ys : List Int) (hs : a.eval s = v) (hx : a.eval x = u) (hown : Ow w0 w v L) (hu : BSrc w u ys) (hy : ∀ y, y ∈ ys → 0 ≤ y ∧ y ≤ 255) (hlen : L.length + ys.length ≤ 140737488355328)
  (h : ∀ v' w1, Ow w0 w1 v' (L ++ ys) → K (a.put o.dst v') w1) : if Region.wanted o (yielded ops a.tmps) = true then Oper.wp Tryz.prog o a w K Q else E := by
 have hw : Region.wanted o (yielded ops a.tmps) = true := by simp [Region.wanted, hgd]
 rw [if_pos hw]
 obtain ⟨v', w1, hr, h2⟩ := run_append_B w w0 o.type v u L ys hown hu hy hlen
 unfold Oper.wp execOp
 simp only [ho, resolve, invoke, builtin, Sem.run_bind, Sem.run_pure, Result.andThen_ok, List.map_toArray, List.map_cons, List.map_nil, hs, hx, hr]
 exact h v' w1 h2
theorem Ow.old {w0 w : World} {v : Value} {L : List Int} (h : Ow w0 w v L) {k : Nat} {ob : Obj} (hk : w0.heap[k]? = some ob) : w.heap[k]? = some ob := by
 rw [h.below.block k (lt_of_block hk)]; exact hk
set_option maxRecDepth 100000 in
set_option maxHeartbeats 1600000 in
theorem refHash_any (ad : Option Addr) (l : List Int) (cap : Nat) (z : Nat → Int) (w : World) (hs : SlAt w ad l.length (fn l)) (hnil : ad = none → l.length = 0 ∧ cap = 0) (hn : l.length + 64 ≤ 140737488351232) (hz : ∀ j, j < 32 → 0 ≤ z j ∧ z j ≤ 255) :
  Calls Tryz.prog 55 #[.slice ad l.length cap, .agg (hv z)] w fun e w' => ∃ v, e = .returned v ∧ Ow w w' v (l ++ hB z) := by
 have HS : Hid (SlAt w ad l.length (fn l)) := hs
 have HN : Hid ((w.alloc (.cells (hv z) 43)).heap[w.heap.size]? = some (.cells (hv z) 43 (0, 0))) := heap_alloc_new w (.cells (hv z) 43)
 have HZ : Hid (∀ y, y ∈ hB z → 0 ≤ y ∧ y ≤ 255) := by
  intro y hy
  simp [hB] at hy
  obtain ⟨j, hj, rfl⟩ := hy
  exact hz j hj
 have hbl : Below w.heap.size w (w.alloc (.cells (hv z) 43)) := (Below.refl _ w).alloc (Nat.le_refl _) _
 clear hs hz
 go_enter Tryz.func55, Tryz.ntmps55
 go_wp2_with (first | (refine Go.Great.wpList_boxTo rfl _ _ rfl _ rfl _ rfl (hv z) rfl ?_) | fail)
 go_region_law (first
  | (refine step_append_B rfl (.tmp 6) (.tmp 7) rfl (w.alloc (.cells (hv z) 43)).drew _ _ l (hB z) (by rfl) (by rfl) hO (hash_src (hB_bl z) (hO.old HN.out)) HZ.out (by rw [hB_length]; omega) ?_; intro v2 w3 hO2)
  | (go_simp; go_at_call 76; refine (refOwn_any ad l cap _ ((HS.out.below hbl).below (Below.refl _ _).drew) hnil (by omega)).mono ?_; rintro e w2 ⟨vo, rfl, hO⟩))
 all_goals
  have hR := (hO2.mono (Below.refl _ _).drew).mono hbl
  clear hO hO2
  go_wp2
  go_ret
  exact ⟨v2, rfl, hR⟩
end Go.Proofs.YtanchjfodcjlmaaGreatDoor
/- The document's Put. -/
namespace Go.Proofs.YtanchjfodcjlmaaGreatDoor.Cd
open Go.RowKit

theorem refUint_ow (W0 w : World) (v : Value) (L : List Int) (n : Int) (h : Ow W0 w v L) (hl : L.length + 64 ≤ 140737488351232) :
  Calls Tryz.prog 54 #[v, .int .u64 (u64 n)] w fun e w' => ∃ v', e = .returned v' ∧ Ow W0 w' v' (L ++ uB (u64 n)) ∧ Below w.heap.size w w' := by
 obtain ⟨ad, cp, rfl⟩ := h.form
 obtain ⟨_, hs, hn, _, _⟩ := h.fresh
 have hb := u64_bd n
 refine (refUint_any ad L cp (u64 n) w hs hn hl hb.1 hb.2).mono ?_
 rintro e w' ⟨v', rfl, hO⟩
 exact ⟨v', rfl, hO.mono h.below, hO.below⟩
theorem refHash_ow (W0 w : World) (v : Value) (L : List Int) (z : Nat → Int) (h : Ow W0 w v L) (hl : L.length + 64 ≤ 140737488351232) (hz : Zb z) :
  Calls Tryz.prog 55 #[v, .agg (hv z)] w fun e w' => ∃ v', e = .returned v' ∧ Ow W0 w' v' (L ++ hB z) ∧ Below w.heap.size w w' := by
 obtain ⟨ad, cp, rfl⟩ := h.form
 obtain ⟨_, hs, hn, _, _⟩ := h.fresh
 refine (refHash_any ad L cp z w hs hn hl hz).mono ?_
 rintro e w' ⟨v', rfl, hO⟩
 exact ⟨v', rfl, hO.mono h.below, hO.below⟩
theorem _root_.Go.Proofs.YtanchjfodcjlmaaGreatDoor.Ow.keep {w0 w w' : World} {v : Value} {L : List Int} (h : Ow w0 w v L) (hb : Below w.heap.size w w') : Ow w0 w' v L := by
 refine ⟨⟨h.own.1, ?_⟩, h.below.trans (hb.mono h.below.size), h.bd⟩
 rcases h.own.2 with hn | ⟨g, cap, cur, e, hbs, hg, rest⟩
 ·exact .inl hn
 ·exact .inr ⟨g, cap, cur, e, hbs, by rw [hb.block _ (lt_of_block hg)]; exact hg, rest⟩
theorem laidK_one (n : Int) : laidK (fun _ => n) 1 = uB (u64 n) := by simp [laidK]
theorem laidK_two (z : Nat → Int) : laidK z 2 = uB (u64 (z 0)) ++ uB (u64 (z 1)) := by simp [laidK]

set_option maxRecDepth 100000 in
set_option maxHeartbeats 3200000 in
theorem rput_any (bd : Option Addr) (lb : List Int) (bc : Nat) (ad : Option Addr) (n cap : Nat) (X : Nat → Bv) (w : World) (hs : SlAt w bd lb.length (fn lb)) (hnil : bd = none → lb.length = 0 ∧ bc = 0) (h : BrAt w ad n X) (hn : n ≤ 1000) (hx : ∀ i, i < n → (X i).n ≤ 1048576) (hlb : lb.length ≤ 70368744177664) :
  Calls Tryz.prog 57 #[.slice bd lb.length bc, .agg #[.slice ad n cap]] w fun e w' => ∃ v, e = .returned v ∧ Ow w w' v (lb ++ laidC X n) := by
 have hb0 : Below w.heap.size w (w.alloc (.cells #[.slice ad n cap] 68)) := (Below.refl _ w).alloc (Nat.le_refl _) _
 have hc0 : (w.alloc (.cells #[.slice ad n cap] 68)).cell? ⟨w.heap.size, 0, none⟩ = some (.slice ad n cap) := by simp
 have HS : Hid (SlAt (w.alloc (.cells #[.slice ad n cap] 68)) bd lb.length (fn lb) ∧ (bd = none → lb.length = 0 ∧ bc = 0)) := ⟨hs.below hb0, hnil⟩
 have HB : Hid (BrAt (w.alloc (.cells #[.slice ad n cap] 68)) ad n X) := h.below hb0
 clear hs hnil h
 go_enter Tryz.func57, Tryz.ntmps57
 go_wp2_with fail
 generalize w.alloc (.cells #[.slice ad n cap] 68) = W0 at *
 have hp0 := World.block_lt_of_cell? W0 ⟨w.heap.size, 0, none⟩ hc0
 have S1 : W0.drew.cell? ⟨w.heap.size, 0, none⟩ = some (.slice ad n cap) := hc0
 have hsrc : BSrc W0.drew (.slice bd lb.length bc) lb := SlAt.src (HS.out.1.below (Below.refl _ W0).drew) HS.out.2
 have hy := bd_of HS.out.1
 refine wp_region_noPanic ?_
 refine wp_region_held_drew (S := fun w' => w'.cell? ⟨w.heap.size, 0, none⟩ = some (.slice ad n cap)) (by kernel_rfl) S1 (fun hHeld => ?_)
 have ew : IntKind.u64.wrap (n : Int) = n := u64_nat n (by omega)
 refine wpT (i := 0) (oi := ⟨some 9, .move (.tmp 5), 57, _, _, none⟩) (v := ?_) rfl (by kernel_rfl) (fun _ _ _ h => h) (Or.inl ⟨by rfl, ?_⟩) (by assumption) ?_
 rotate_left
 ·intro wz hSw; (try dsimp only at hSw); go_simp; (try with_reducible rfl)
 try simp only [Act.put, sqA, sqB, sqC]
 refine wpT (i := 1) (oi := ⟨some 10, .move (.tmp 0), 57, _, _, none⟩) (v := ?_) rfl (by kernel_rfl) (fun _ _ _ h => h) (Or.inl ⟨by rfl, ?_⟩) (by assumption) ?_
 rotate_left
 ·intro wz hSw; (try dsimp only at hSw); go_simp; (try with_reducible rfl)
 try simp only [Act.put, sqA, sqB, sqC]
 refine wpT (i := 3) (oi := ⟨some 12, .fieldAddr 68 (.tmp 3) 0, 0, _, _, none⟩) (v := ?_) rfl (by kernel_rfl) (fun _ _ _ h => h) (Or.inl ⟨by rfl, ?_⟩) (by assumption) ?_
 rotate_left
 ·intro wz hSw; (try dsimp only at hSw); go_simp; (try with_reducible rfl)
 try simp only [Act.put, sqA, sqB, sqC]
 refine wpT (i := 4) (oi := ⟨some 13, .load 66 (.tmp 12), 66, _, _, none⟩) (v := ?_) rfl (by kernel_rfl) (fun _ _ _ h => h) (Or.inl ⟨by rfl, ?_⟩) (by assumption) ?_
 rotate_left
 ·intro wz hSw; (try dsimp only at hSw); go_simp; (try with_reducible rfl)
 try simp only [Act.put, sqA, sqB, sqC]
 refine wpT (i := 5) (oi := ⟨some 14, .call { callee := Go.Callee.builtin Go.Builtin.len, args := #[.tmp 13], argTypes := #[66] }, 3, _, _, none⟩) (v := ?_) rfl (by kernel_rfl) (fun _ _ _ h => h) (Or.inl ⟨by rfl, ?_⟩) (by assumption) ?_
 rotate_left
 ·intro wz hSw; (try dsimp only at hSw); go_simp; (try with_reducible rfl)
 try simp only [Act.put, sqA, sqB, sqC]
 refine wpT (i := 6) (oi := ⟨some 15, .convert 3 119 (.tmp 14), 119, _, _, none⟩) (v := .int .u64 (n : Int)) rfl (by kernel_rfl) (fun _ _ _ h => h) (Or.inl ⟨by rfl, ?_⟩) (by assumption) ?_
 ·intro wz hSw; (try dsimp only at hSw); go_simp; try (rw [ew]); try rfl
 try simp only [Act.put, sqA, sqB, sqC]
 refine wpAnyH_ready (rs := [2]) (by kernel_rfl) (by simp) ?_
 refine (AllReadyH.cons (o := ⟨some 11, .call { callee := Go.Callee.builtin Go.Builtin.append, args := #[.tmp 9, .tmp 10], argTypes := #[57, 57] }, 57, _, _, none⟩) rfl (fun K hK => ?_) AllReadyH.nil)
 refine step_append_B rfl (.tmp 9) (.tmp 10) rfl W0.drew _ _ [] lb (by rfl) (by rfl) (Ow.nil _) hsrc hy (by simp; omega) ?_
 intro v1 w1 hO1
 have hO1' : Ow W0 w1 v1 lb := by simpa using hO1.mono (Below.refl _ W0).drew
 have S2 : w1.cell? ⟨w.heap.size, 0, none⟩ = some (.slice ad n cap) := by rw [hO1'.below.cell (p := ⟨w.heap.size, 0, none⟩) hp0]; exact hc0
 have HO1 : Hid (Ow W0 w1 v1 lb) := hO1'
 clear hO1 hO1' hsrc hy S1
 refine hK.out _ _ S2 (fun _ => ?_)
 clear hK K
 refine wpAnyH_ready (rs := [7]) (by kernel_rfl) (by simp) ?_
 refine (AllReadyH.cons (o := ⟨some 16, .call { callee := Go.Callee.value (.func 54), args := #[.tmp 11, .tmp 15], argTypes := #[57, 119] }, 57, _, _, none⟩) rfl (fun K hK => ?_) AllReadyH.nil)
 go_simp
 have hcall := refUint_ow W0 w1 v1 lb n HO1.out (by omega)
 have en0 := u64_nat n (by omega)
 rw [en0] at hcall
 refine hcall.mono ?_
 rintro e w2 ⟨v2, rfl, hO2, hb2⟩
 have S3 : w2.cell? ⟨w.heap.size, 0, none⟩ = some (.slice ad n cap) := by rw [hO2.below.cell (p := ⟨w.heap.size, 0, none⟩) hp0]; exact hc0
 have HO2 : Hid (Ow W0 w2 v2 (lb ++ (laidK (fun _ => (n : Int)) 1 ++ laidBrs X 0))) := by
  show Ow _ _ _ _
  rw [laidK_one, en0]
  simpa [laidBrs] using hO2
 clear hcall hO2 hb2 HO1 S2 ew en0
 refine hK.out _ _ S3 (fun _ => ?_)
 clear hK K
 refine wpT (i := 8) (oi := ⟨some 5, .assign (.tmp 16), 57, _, _, none⟩) (v := ?_) rfl (by kernel_rfl) (fun _ _ _ h => h) (Or.inl ⟨by rfl, ?_⟩) (by assumption) ?_
 rotate_left
 ·intro wz hSw; (try dsimp only at hSw); go_simp; (try with_reducible rfl)
 try simp only [Act.put, sqA, sqB, sqC]
 refine wpAnyH_done (by kernel_rfl) (NoPanic.normal ?_) _
 try simp only [Act.put, sqA, sqB, sqC]
 clear hHeld
 go_wp2
 have hO2 := HO2.out
 go_loopw [5, 6, 7, 8] (fun sv iv _ _ wr => ∃ (i : Nat) (v : Value), i ≤ n ∧ v = sv ∧ iv = .int .i64 i ∧ Ow W0 wr v (lb ++ (laidK (fun _ => (n : Int)) 1 ++ laidBrs X i))) (fun _ iv _ _ _ => n + 1 - (intOf iv).toNat)
 case atStart => exact ⟨0, _, by omega, rfl, rfl, hO2⟩
 case round =>
  clear hO2 HO2 S3
  obtain ⟨i, v, hi, rfl, rfl, hO⟩ := hrel
  have HO : Hid (Ow W0 wr v (lb ++ (laidK (fun _ => (n : Int)) 1 ++ laidBrs X i))) := hO
  have cb : wr.cell? ⟨w.heap.size, 0, none⟩ = some (.slice ad n cap) := by rw [hO.below.cell (p := ⟨w.heap.size, 0, none⟩) hp0]; exact hc0
  have hLn : (lb ++ (laidK (fun _ => (n : Int)) 1 ++ laidBrs X i)).length ≤ 70368744177664 + 9437284 * 1000 + 9 := by
   have h1 := laidK_len (fun _ => (n : Int)) 1
   have h2 := laidBrs_len X i (fun j hj => hx j (by omega))
   simp only [List.length_append]
   omega
  clear hO
  by_cases hlt : i < n
  ·have hlt' : (i : Int) < n := by omega
   obtain ⟨b, off, rfl, hc⟩ := HB.out.at_ (by omega)
   obtain ⟨ka, kc, hr0, hI0⟩ := hc i hlt
   have hxi := hx i hlt
   have hok := HB.out.ok i hlt
   have HR : Hid (wr.rangeAt b (off + i * 35) (brl (X i) ka kc)) := range_below hr0 HO.out.below
   have HI : Hid (IsAt W0 ka (X i).n (X i).z) := hI0
   obtain ⟨L, hL⟩ : ∃ L, L = lb ++ (laidK (fun _ => (n : Int)) 1 ++ laidBrs X i) := ⟨_, rfl⟩
   rw [← hL] at HO hLn
   have HS1 : Hid (∀ w' : World, w'.heap[wr.heap.size]? = some (.cells (bv (X i) ka kc) 73 (0, 0)) → Frm [wr.heap.size] (wr.alloc (.cells (bv b0 none 0) 73)) w' → Ow W0 w' v L) := by
    intro w' h1 h2
    have h3 : Below wr.heap.size (wr.alloc (.cells (bv b0 none 0) 73)) w' := h2.below (by simp) (by simp)
    exact HO.out.keep (((Below.refl _ wr).alloc (Nat.le_refl _) _).trans h3)
   clear hc hr0 hI0
   go_wp2_with (first | (refine wpList_load_mid rfl 73 _ rfl b (off + i * 35) rfl (brl (X i) ka kc) _ HR.out Tryz.underlying73 rfl (szRl _ _ _) ?_) | (refine wpList_allocR rfl rfl ?_) | (refine wpList_storeR _ szR rfl _ _ rfl wr.heap.size rfl (X i) b0 ka none kc 0 73 rfl (heap_alloc_new wr _) ?_; intro w3 hg3 hf3; have HO3 : Hid (Ow W0 w3 v L ∧ w3.heap[wr.heap.size]? = some (.cells (bv (X i) ka kc) 73 (0, 0))) := ⟨HS1.out w3 hg3 hf3, hg3⟩; obtain ⟨c30, c333, c334⟩ := bbox_of hg3; clear hg3 hf3) | fail)
   have hcall := refUint_ow W0 w3 v L (X i).n HO3.out.1 (by omega)
   have en := u64_nat (X i).n (by omega)
   rw [en] at hcall
   refine hcall.mono ?_
   rintro e w4 ⟨v4, rfl, hO4, hb4⟩
   have l4 := laidK_len (fun _ => ((X i).n : Int)) 1
   obtain ⟨L4, hL4⟩ : ∃ L4, L4 = L ++ laidK (fun _ => ((X i).n : Int)) 1 := ⟨_, rfl⟩
   have e4 : L ++ uB ((X i).n : Int) = L4 := by rw [hL4, laidK_one, en]
   rw [e4] at hO4
   have hLn4 : L4.length ≤ 70368744177664 + 9437284 * 1000 + 18 := by rw [hL4]; simp only [List.length_append]; omega
   have hg4 : w4.heap[wr.heap.size]? = some (.cells (bv (X i) ka kc) 73 (0, 0)) := by rw [hb4.block _ (lt_of_block HO3.out.2)]; exact HO3.out.2
   have HO4 : Hid (Ow W0 w4 v4 L4 ∧ w4.heap[wr.heap.size]? = some (.cells (bv (X i) ka kc) 73 (0, 0))) := ⟨hO4, hg4⟩
   have hl4 := lt_of_block hg4
   clear hcall e4 hO4 hb4 hg4 HO3 c30 c333 c334 en
   go_wp2_with fail
   have hO4 : Ow W0 w4 v4 (L4 ++ laidK (X i).z 0) ∧ Below w4.heap.size w4 w4 := ⟨by simpa [laidK] using HO4.out.1, Below.refl _ _⟩
   go_loopw [5, 8] (fun sv kv wq => ∃ (k : Nat) (vq : Value), k ≤ (X i).n ∧ vq = sv ∧ kv = .int .i64 k ∧ Ow W0 wq vq (L4 ++ laidK (X i).z k) ∧ Below w4.heap.size w4 wq) (fun _ kv _ => (X i).n + 1 - (intOf kv).toNat)
   case atStart => exact ⟨0, _, by omega, rfl, rfl, hO4⟩
   case round =>
    clear hO4
    rename World => wq
    obtain ⟨k, vq, hk, rfl, rfl, hOq, hbq⟩ := hrel
    have hgq : wq.heap[wr.heap.size]? = some (.cells (bv (X i) ka kc) 73 (0, 0)) := by rw [hbq.block _ hl4]; exact HO4.out.2
    have cq := (bbox_of hgq).c0
    have lq := laidK_len (X i).z k
    have HOq : Hid (Ow W0 wq vq (L4 ++ laidK (X i).z k) ∧ Below w4.heap.size w4 wq ∧ wq.heap[wr.heap.size]? = some (.cells (bv (X i) ka kc) 73 (0, 0))) := ⟨hOq, hbq, hgq⟩
    clear hOq hbq hgq
    by_cases hkl : k < (X i).n
    ·have hkl' : (k : Int) < (X i).n := by omega
     obtain ⟨b2, off2, rfl, hc2⟩ := (HI.out.below HOq.out.1.below) (by omega)
     have hck := hc2 k hkl
     have hcall := refUint_ow W0 wq vq (L4 ++ laidK (X i).z k) ((X i).z k) HOq.out.1 (by simp only [List.length_append]; omega)
     unfold u64 at hcall
     clear hc2
     go_wp2_with (go_at_call 54; refine hcall.mono ?_; rintro e w5 ⟨v5, rfl, hO5, hb5⟩)
     have HN : Hid (Ow W0 w5 v5 (L4 ++ laidK (X i).z (k + 1)) ∧ Below w4.heap.size w4 w5) := ⟨by
      have := hO5
      rw [List.append_assoc] at this
      exact this, HOq.out.2.1.trans (hb5.mono HOq.out.2.1.size)⟩
     clear hO5 hb5 hcall
     go_roundw
     case rel => exact ⟨k + 1, v5, by omega, rfl, by go_num, HN.out⟩
     case measure => simp [intOf]; omega
    ·obtain rfl : k = (X i).n := by omega
     have hnn : ¬ (((X i).n : Int) < (X i).n) := by omega
     go_wp2_with fail
     have hq : wq.drew.heap[wr.heap.size]? = some (.cells (bv (X i) ka kc) 73 (0, 0)) := HOq.out.2.2
     have Hq : Hid (Ow W0 wq.drew vq (L4 ++ laidK (X i).z (X i).n) ∧ wq.drew.heap[wr.heap.size]? = some (.cells (bv (X i) ka kc) 73 (0, 0))) := ⟨HOq.out.1.drew, hq⟩
     have S12 : wq.drew.rangeAt wr.heap.size 1 (bl (X i).lk 32) ∧ wq.drew.cell? ⟨wr.heap.size, 33, none⟩ = some (.int .i64 (X i).af) ∧ wq.drew.cell? ⟨wr.heap.size, 34, none⟩ = some (.int .i64 (X i).ol) := ⟨brl_lock (X i) ka kc hq, (bbox_of hq).c33, (bbox_of hq).c34⟩
     have lh := hB_length (X i).lk
     have la := uB_len (u64 (X i).af)
     have ca := u64_bd (X i).af
     clear hq
     refine wp_region_noPanic ?_
     refine wp_region_held_drew (S := fun w' => w'.rangeAt wr.heap.size 1 (bl (X i).lk 32) ∧ w'.cell? ⟨wr.heap.size, 33, none⟩ = some (.int .i64 (X i).af) ∧ w'.cell? ⟨wr.heap.size, 34, none⟩ = some (.int .i64 (X i).ol)) (by kernel_rfl) S12 (fun hHeld => ?_)
     refine wpT (i := 0) (oi := ⟨some 50, .move (.tmp 5), 57, _, _, none⟩) (v := ?_) rfl (by kernel_rfl) (fun _ _ _ h => h) (Or.inl ⟨by rfl, ?_⟩) (by assumption) ?_
     rotate_left
     ·intro wz hSw; (try dsimp only at hSw); go_simp; (try with_reducible rfl)
     try simp only [Act.put, sqA, sqB, sqC]
     refine wpT (i := 1) (oi := ⟨some 51, .fieldAddr 73 (.tmp 7) 1, 0, _, _, none⟩) (v := ?_) rfl (by kernel_rfl) (fun _ _ _ h => h) (Or.inl ⟨by rfl, ?_⟩) (by assumption) ?_
     rotate_left
     ·intro wz hSw; (try dsimp only at hSw); go_simp; (try with_reducible rfl)
     try simp only [Act.put, sqA, sqB, sqC]
     refine wpAnyH_take (i := 2) (oi := ⟨some 52, .load 43 (.tmp 51), 43, _, _, none⟩) rfl (by kernel_rfl) (by kernel_rfl) (by kernel_rfl) (fun _ _ _ h => h) (yieldsIf_load_mid (by rfl) _ _ rfl wr.heap.size 1 rfl (bl (X i).lk 32) _ (fun _ h => h.1) Tryz.underlying43 rfl (szHl _)) (by assumption) ?_
     try simp only [Act.put, sqA, sqB, sqC]
     refine wpT (i := 4) (oi := ⟨some 54, .fieldAddr 73 (.tmp 7) 2, 0, _, _, none⟩) (v := ?_) rfl (by kernel_rfl) (fun _ _ _ h => h) (Or.inl ⟨by rfl, ?_⟩) (by assumption) ?_
     rotate_left
     ·intro wz hSw; (try dsimp only at hSw); go_simp; (try with_reducible rfl)
     try simp only [Act.put, sqA, sqB, sqC]
     refine wpT (i := 5) (oi := ⟨some 55, .load 3 (.tmp 54), 3, _, _, none⟩) (v := ?_) rfl (by kernel_rfl) (fun _ _ _ h => h) (Or.inl ⟨by rfl, ?_⟩) (by assumption) ?_
     rotate_left
     ·intro wz hSw; (try dsimp only at hSw); go_simp; (try with_reducible rfl)
     try simp only [Act.put, sqA, sqB, sqC]
     refine wpT (i := 6) (oi := ⟨some 56, .convert 3 119 (.tmp 55), 119, _, _, none⟩) (v := ?_) rfl (by kernel_rfl) (fun _ _ _ h => h) (Or.inl ⟨by rfl, ?_⟩) (by assumption) ?_
     rotate_left
     ·intro wz hSw; (try dsimp only at hSw); go_simp; (try with_reducible rfl)
     try simp only [Act.put, sqA, sqB, sqC]
     refine wpT (i := 8) (oi := ⟨some 58, .fieldAddr 73 (.tmp 7) 3, 0, _, _, none⟩) (v := ?_) rfl (by kernel_rfl) (fun _ _ _ h => h) (Or.inl ⟨by rfl, ?_⟩) (by assumption) ?_
     rotate_left
     ·intro wz hSw; (try dsimp only at hSw); go_simp; (try with_reducible rfl)
     try simp only [Act.put, sqA, sqB, sqC]
     refine wpT (i := 9) (oi := ⟨some 59, .load 3 (.tmp 58), 3, _, _, none⟩) (v := ?_) rfl (by kernel_rfl) (fun _ _ _ h => h) (Or.inl ⟨by rfl, ?_⟩) (by assumption) ?_
     rotate_left
     ·intro wz hSw; (try dsimp only at hSw); go_simp; (try with_reducible rfl)
     try simp only [Act.put, sqA, sqB, sqC]
     refine wpT (i := 10) (oi := ⟨some 60, .convert 3 119 (.tmp 59), 119, _, _, none⟩) (v := ?_) rfl (by kernel_rfl) (fun _ _ _ h => h) (Or.inl ⟨by rfl, ?_⟩) (by assumption) ?_
     rotate_left
     ·intro wz hSw; (try dsimp only at hSw); go_simp; (try with_reducible rfl)
     try simp only [Act.put, sqA, sqB, sqC]
     refine wpAnyH_ready (rs := [3]) (by kernel_rfl) (by simp) ?_
     refine (AllReadyH.cons (o := ⟨some 53, .call { callee := Go.Callee.value (.func 55), args := #[.tmp 50, .tmp 52], argTypes := #[57, 43] }, 57, _, _, none⟩) rfl (fun K hK => ?_) AllReadyH.nil)
     go_simp
     refine (refHash_ow W0 _ vq _ (X i).lk Hq.out.1 (by simp only [List.length_append]; omega) hok.lk).mono ?_
     rintro e w6 ⟨v6, rfl, hO, hb⟩
     have Hw6 : Hid (Ow W0 w6 v6 ((L4 ++ laidK (X i).z (X i).n) ++ hB (X i).lk) ∧ w6.heap[wr.heap.size]? = some (.cells (bv (X i) ka kc) 73 (0, 0))) := ⟨hO, by rw [hb.block _ (lt_of_block Hq.out.2)]; exact Hq.out.2⟩
     clear hO hb Hq
     refine hK.out _ _ ⟨brl_lock (X i) ka kc Hw6.out.2, (bbox_of Hw6.out.2).c33, (bbox_of Hw6.out.2).c34⟩ (fun _ => ?_)
     clear hK K
     refine wpAnyH_ready (rs := [7]) (by kernel_rfl) (by simp) ?_
     refine (AllReadyH.cons (o := ⟨some 57, .call { callee := Go.Callee.value (.func 54), args := #[.tmp 53, .tmp 56], argTypes := #[57, 119] }, 57, _, _, none⟩) rfl (fun K hK => ?_) AllReadyH.nil)
     go_simp
     refine (refUint_ow W0 _ v6 _ (X i).af Hw6.out.1 (by simp only [List.length_append]; omega)).mono ?_
     rintro e w7 ⟨v7, rfl, hO, hb⟩
     have Hw7 : Hid (Ow W0 w7 v7 (((L4 ++ laidK (X i).z (X i).n) ++ hB (X i).lk) ++ uB (u64 (X i).af)) ∧ w7.heap[wr.heap.size]? = some (.cells (bv (X i) ka kc) 73 (0, 0))) := ⟨hO, by rw [hb.block _ (lt_of_block Hw6.out.2)]; exact Hw6.out.2⟩
     clear hO hb Hw6
     refine hK.out _ _ ⟨brl_lock (X i) ka kc Hw7.out.2, (bbox_of Hw7.out.2).c33, (bbox_of Hw7.out.2).c34⟩ (fun _ => ?_)
     clear hK K
     refine wpAnyH_ready (rs := [11]) (by kernel_rfl) (by simp) ?_
     refine (AllReadyH.cons (o := ⟨some 61, .call { callee := Go.Callee.value (.func 54), args := #[.tmp 57, .tmp 60], argTypes := #[57, 119] }, 57, _, _, none⟩) rfl (fun K hK => ?_) AllReadyH.nil)
     go_simp
     refine (refUint_ow W0 _ v7 _ (X i).ol Hw7.out.1 (by simp only [List.length_append]; omega)).mono ?_
     rintro e w8 ⟨v8, rfl, hO, hb⟩
     have Hw8 : Hid (Ow W0 w8 v8 ((((L4 ++ laidK (X i).z (X i).n) ++ hB (X i).lk) ++ uB (u64 (X i).af)) ++ uB (u64 (X i).ol)) ∧ w8.heap[wr.heap.size]? = some (.cells (bv (X i) ka kc) 73 (0, 0))) := ⟨hO, by rw [hb.block _ (lt_of_block Hw7.out.2)]; exact Hw7.out.2⟩
     clear hO hb Hw7
     refine hK.out _ _ ⟨brl_lock (X i) ka kc Hw8.out.2, (bbox_of Hw8.out.2).c33, (bbox_of Hw8.out.2).c34⟩ (fun _ => ?_)
     clear hK K
     refine wpT (i := 12) (oi := ⟨some 5, .assign (.tmp 61), 57, _, _, none⟩) (v := ?_) rfl (by kernel_rfl) (fun _ _ _ h => h) (Or.inl ⟨by rfl, ?_⟩) (by assumption) ?_
     rotate_left
     ·intro wz hSw; (try dsimp only at hSw); go_simp; (try with_reducible rfl)
     try simp only [Act.put, sqA, sqB, sqC]
     refine wpAnyH_done (by kernel_rfl) (NoPanic.normal ?_) _
     try simp only [Act.put, sqA, sqB, sqC]
     have HN : Hid (Ow W0 w8 v8 (lb ++ (laidK (fun _ => (n : Int)) 1 ++ laidBrs X (i + 1)))) := by
      have h8 := Hw8.out.1
      have e8 : lb ++ (laidK (fun _ => (n : Int)) 1 ++ laidBrs X (i + 1)) = (((L4 ++ laidK (X i).z (X i).n) ++ hB (X i).lk) ++ uB (u64 (X i).af)) ++ uB (u64 (X i).ol) := by
       rw [hL4, hL]
       simp only [laidBrs, laidBr, List.append_assoc]
       rw [laidK_two]
       rfl
      show Ow _ _ _ _
      rw [e8]; exact h8
     clear hHeld Hw8
     go_wp2
     go_roundw
     case rel => exact ⟨i + 1, v8, by omega, rfl, by go_num, HN.out⟩
     case measure => simp [intOf]; omega
  ·obtain rfl : i = n := by omega
   have hnn : ¬ ((i : Int) < i) := by omega
   have HE : Hid (Ow w wr v (lb ++ laidC X i)) := HO.out.mono hb0
   go_wp2
   go_ret
   exact ⟨_, rfl, HE.out⟩
end Go.Proofs.YtanchjfodcjlmaaGreatDoor.Cd
