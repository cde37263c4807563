/- tx.Check of any transaction, whatever its keys are. -/
import Derived.Test.YtjnepkggdkccaaaGreatDoorOwnShelf19
import Derived.Test.YtjnepkggdkccaaaGreatDoorOwnShelf39
import Derived.Test.YtjnepkggdkccaaaGreatDoorOwnShelf20
import Derived.Test.YtjnepkggdkccaaaGreatDoorOwnShelf15
import Derived.Test.YtjnepkggdkccaaaGreatDoorOwnShelf35
namespace Go.Proofs.YtjnepkggdkccaaaGreatDoor
open Go.RowKit

set_option maxRecDepth 100000 in
set_option maxHeartbeats 3200000 in
theorem kcheck_anyX (lk : Int) (ia : Option Addr) (n ic : Nat) (oa : Option Addr) (m oc : Nat) (X : Nat → Ti) (S : Nat → Option Addr × Nat) (O : Nat → To) (w : World) (h : TiAt w ia n X S) (ho : ToAt w oa m O) (hs : ∀ i, i < m → (O i).Big) (hn : n ≤ 1000000) (hm : m ≤ 1000000) :
  Calls Tryz.prog 51 #[.agg (txv lk ia n ic oa m oc)] w fun e w' => e = .returned (errV (txE lk n X m O)) ∧ Below w.heap.size w w' := by
 have hb0 : Below w.heap.size w (w.alloc (.cells #[.int .i64 lk, .slice ia n ic, .slice oa m oc] 50)) := (Below.refl _ w).alloc (Nat.le_refl _) _
 have hr0 := heap_alloc_new w (.cells #[.int .i64 lk, .slice ia n ic, .slice oa m oc] 50)
 have HH : Hid (TiAt w ia n X S ∧ ToAt w oa m O ∧ ∀ i, i < m → (O i).Big) := ⟨h, ho, hs⟩
 clear h ho hs
 unfold txv
 by_cases hN : NumOk lk n m
 ·obtain ⟨hl, hnn, hmm⟩ := hN
  have HN : Hid (NumOk lk n m) := ⟨hl, hnn, hmm⟩
  have d1 : decide (0 ≤ lk ∧ lk ≤ 1099511627776) = true := by simpa using hl
  have d2 : decide ((1 : Int) ≤ (n : Int) ∧ (n : Int) ≤ 64) = true := by simp; omega
  have d3 : decide ((1 : Int) ≤ (m : Int) ∧ (m : Int) ≤ 64) = true := by simp; omega
  go_enter Tryz.func51, Tryz.ntmps51
  go_wp2_with fail
  generalize w.alloc (.cells #[.int .i64 lk, .slice ia n ic, .slice oa m oc] 50) = W0 at *
  have c1 : W0.cell? ⟨w.heap.size, 1, none⟩ = some (.slice ia n ic) := by rw [cell_of_row _ _ 1 _ _ _ hr0]; rfl
  have c2 : W0.cell? ⟨w.heap.size, 2, none⟩ = some (.slice oa m oc) := by rw [cell_of_row _ _ 2 _ _ _ hr0]; rfl
  refine (kwithin_any lk 0 1099511627776 _).mono ?_
  rintro e w1 ⟨rfl, hW⟩
  rw [hW, d1]
  clear hW
  go_wp2_with fail
  refine (kwithin_any n 1 64 _).mono ?_
  rintro e w1 ⟨rfl, hW⟩
  rw [hW, d2]
  clear hW
  go_wp2_with fail
  refine (kwithin_any m 1 64 _).mono ?_
  rintro e w1 ⟨rfl, hW⟩
  rw [hW, d3]
  clear hW d1 d2 d3 hl hnn hmm
  go_wp2_with fail
  refine (kcontains_any ia n ic X S W0 (HH.out.1.below hb0) hn).mono ?_
  rintro e w2 ⟨rfl, hb2⟩
  by_cases hI : InsOk X n
  ·have d4 : (!decide (InsOk X n)) = false := by simpa using hI
   rw [d4]
   clear d4
   have HI : Hid (InsOk X n) := hI
   clear hI
   have HB2 : Hid (Below w.heap.size w w2) := hb0.trans (hb2.mono hb0.size)
   have hr2 : w2.heap[w.heap.size]? = some (.cells #[.int .i64 lk, .slice ia n ic, .slice oa m oc] 50 (0, 0)) := by rw [hb2.block _ (lt_of_block hr0)]; exact hr0
   have HR2 : Hid (∀ w', Below w2.heap.size w2 w' → w'.heap[w.heap.size]? = some (.cells #[.int .i64 lk, .slice ia n ic, .slice oa m oc] 50 (0, 0))) := fun w' hb => by rw [hb.block _ (lt_of_block hr2)]; exact hr2
   clear hb2 hr2 hr0 hb0 c1 c2
   go_wp2_with fail
   have HS : Hid (∀ w', Below w2.heap.size w2 w' → w'.rangeAt w.heap.size 0 (txl lk ia n ic oa m oc) ∧ w'.cell? ⟨w.heap.size, 1, none⟩ = some (.slice ia n ic)) := fun w' hb => ⟨txl_range (HR2.out w' hb), by rw [cell_of_row _ _ 1 _ _ _ (HR2.out w' hb)]; rfl⟩
   have S0 := HS.out w2.drew (Below.refl _ w2).drew
   refine wp_region_noPanic ?_
   refine wp_region_held_drew (S := fun w' => w'.rangeAt w.heap.size 0 (txl lk ia n ic oa m oc) ∧ w'.cell? ⟨w.heap.size, 1, none⟩ = some (.slice ia n ic)) (by kernel_rfl) S0 (fun hHeld => ?_)
   refine wpAnyH_take (i := 0) (oi := ⟨some 32, .load 50 (.tmp 1), 50, _, _, none⟩) rfl (by kernel_rfl) (by kernel_rfl) (by kernel_rfl) (fun _ _ _ h => h) (yieldsIf_load_mid (by rfl) _ _ rfl w.heap.size 0 rfl (txl lk ia n ic oa m oc) _ (fun _ h => h.1) Tryz.underlying50 rfl szTx) (by assumption) ?_
   try simp only [Act.put, zA, zB, zC]
   refine wpAnyH_take (i := 3) (oi := ⟨some 35, .fieldAddr 50 (.tmp 1) 1, 0, _, _, none⟩) (v := ?_) rfl (by kernel_rfl) (by kernel_rfl) (by kernel_rfl) (fun _ _ _ h => h) (Or.inl ⟨by rfl, ?_⟩) (by assumption) ?_
   rotate_left
   ·intro wz hSw; (try dsimp only at hSw); go_simp; (try with_reducible rfl)
   try simp only [Act.put, zA, zB, zC]
   refine wpAnyH_take (i := 4) (oi := ⟨some 36, .load 47 (.tmp 35), 47, _, _, none⟩) (v := ?_) rfl (by kernel_rfl) (by kernel_rfl) (by kernel_rfl) (fun _ _ _ h => h) (Or.inl ⟨by rfl, ?_⟩) (by assumption) ?_
   rotate_left
   ·intro wz hSw; (try dsimp only at hSw); go_simp; (try with_reducible rfl)
   try simp only [Act.put, zA, zB, zC]
   refine wpAnyH_take (i := 5) (oi := ⟨some 37, .call { callee := Go.Callee.builtin Go.Builtin.len, args := #[.tmp 36], argTypes := #[47] }, 3, _, _, none⟩) (v := ?_) rfl (by kernel_rfl) (by kernel_rfl) (by kernel_rfl) (fun _ _ _ h => h) (Or.inl ⟨by rfl, ?_⟩) (by assumption) ?_
   rotate_left
   ·intro wz hSw; (try dsimp only at hSw); go_simp; (try with_reducible rfl)
   try simp only [Act.put, zA, zB, zC]
   refine wpAnyH_ready (rs := [1]) (by kernel_rfl) (by simp) ?_
   refine (AllReadyH.cons (o := ⟨some 33, .call { callee := Go.Callee.value (.func 82), args := #[.tmp 32], argTypes := #[50] }, 172, _, _, none⟩) rfl (fun K hK => ?_) AllReadyH.nil)
   go_simp
   refine (points_any lk ia n ic oa m oc X S w2.drew (HH.out.1.below HB2.out.drew) (fun i hi => by have := (HI.out i hi).1; exact ⟨by omega, by omega⟩) hn).mono ?_
   rintro e w3 ⟨⟨pb, rfl, hpm⟩, hb3⟩
   have HB3 : Hid (Below w2.heap.size w2 w3) := (Below.refl _ w2).drew.trans hb3
   clear hb3
   obtain ⟨D, kk, hD, hDs⟩ := hpm
   have hlen : ∀ ty, (Builtin.len_ #[172] ty #[.map (some pb)]).run Tryz.prog w3 = .ok (.int .i64 ((ptsL X n).length : Nat)) w3 := fun ty => by rw [← hDs]; exact hD.len (t := 172) (e := 211) Tryz.underlying172 ty
   clear hD hDs
   refine hK.out _ _ (HS.out w3 HB3.out) (fun _ => ?_)
   clear hK K
   refine wpAnyH_ready (rs := [2]) (by kernel_rfl) (by simp) ?_
   refine (AllReadyH.cons (o := ⟨some 34, .call { callee := Go.Callee.builtin Go.Builtin.len, args := #[.tmp 33], argTypes := #[172] }, 3, _, _, none⟩) rfl (fun K hK => ?_) AllReadyH.nil)
   go_simp
   refine hK.out _ _ (HS.out w3 HB3.out) (fun _ => ?_)
   clear hK K hlen
   try simp only [Act.put, zA, zB, zC]
   refine wpAnyH_take (i := 6) (oi := ⟨some 38, .binOp .lss 3 (.tmp 34) (.tmp 37) 3, 4, _, _, none⟩) (v := ?_) rfl (by kernel_rfl) (by kernel_rfl) (by kernel_rfl) (fun _ _ _ h => h) (Or.inl ⟨by rfl, ?_⟩) (by assumption) ?_
   rotate_left
   ·intro wz hSw; (try dsimp only at hSw); go_simp; (try with_reducible rfl)
   try simp only [Act.put, zA, zB, zC]
   refine wpAnyH_take (i := 7) (oi := ⟨some 31, .assign (.tmp 38), 4, _, _, none⟩) (v := ?_) rfl (by kernel_rfl) (by kernel_rfl) (by kernel_rfl) (fun _ _ _ h => h) (Or.inl ⟨by rfl, ?_⟩) (by assumption) ?_
   rotate_left
   ·intro wz hSw; (try dsimp only at hSw); go_simp; (try with_reducible rfl)
   try simp only [Act.put, zA, zB, zC]
   refine wpAnyH_done (by kernel_rfl) (NoPanic.normal ?_) _
   try simp only [Act.put, zA, zB, zC]
   clear hHeld S0
   by_cases hA : Apart X n
   ·have hl : (ptsL X n).length = n := (ptsL_full X n).2 hA
    have hl' : decide ((ptsL X n).length < n) = false := by simp; omega
    rw [hl']
    clear hl'
    have HE : Hid (txE lk n X m O = if outsE O m ≠ 0 then outsE O m else totE O m) := by unfold txE; rw [if_neg (by simpa using HN.out), if_neg (by simpa using HI.out), if_neg (by simpa using hA)]; exact rfl
    have hb3 : Below w.heap.size w w3 := HB2.out.trans (HB3.out.mono HB2.out.size)
    have hr3 := HR2.out w3 HB3.out
    have c2 : w3.cell? ⟨w.heap.size, 2, none⟩ = some (.slice oa m oc) := by rw [cell_of_row _ _ 2 _ _ _ hr3]; rfl
    clear hA hl HS HB3 HB2 HR2 HI HN
    go_wp2
    clear c2
    go_loopw [2, 5, 6, 43] (fun _ _ _ iv wr => ∃ i : Nat, i ≤ m ∧ iv = .int .i64 i ∧ outsE O i = 0 ∧ Below w.heap.size w wr ∧ wr.heap[w.heap.size]? = some (.cells #[.int .i64 lk, .slice ia n ic, .slice oa m oc] 50 (0, 0))) (fun _ _ _ iv _ => m + 1 - (intOf iv).toNat)
    case atStart => exact ⟨0, by omega, rfl, rfl, hb3, hr3⟩
    case round =>
     clear hb3 hr3
     obtain ⟨i, hi, rfl, hz, hb, hr⟩ := hrel
     have HZ : Hid (outsE O i = 0) := hz
     clear hz
     by_cases hlt : i < m
     ·have hlt' : (i : Int) < m := by omega
      obtain ⟨b, off, rfl, hc⟩ := HH.out.2.1.at_ (by omega)
      obtain ⟨ca, cc, hr0, hbr, _⟩ := hc i hlt
      have hr1 := range_below hr0 hb
      have c0 : wr.cell? ⟨b, off + i * 2, none⟩ = some (.int .i64 (O i).am) := by simpa using hr1 0 _ rfl
      have c1 : wr.cell? ⟨b, off + i * 2 + 1, none⟩ = some (.slice ca (O i).cn cc) := hr1 1 _ rfl
      have hb1 : Below w.heap.size w (wr.alloc (.cells #[.int .i64 (O i).am, .slice ca (O i).cn cc] 95)) := hb.alloc hb.size _
      have hk := checkOut_anyX (O i) ca cc (wr.alloc (.cells #[.int .i64 (O i).am, .slice ca (O i).cn cc] 95)) (hbr.below hb1) (HH.out.2.2 i hlt)
      have hrA : (wr.alloc (.cells #[.int .i64 (O i).am, .slice ca (O i).cn cc] 95)).heap[w.heap.size]? = some (.cells #[.int .i64 lk, .slice ia n ic, .slice (some ⟨b, off, none⟩) m oc] 50 (0, 0)) := by rw [Below.heap_alloc _ _ _ (lt_of_block hr)]; exact hr
      unfold tov at hk
      clear hc hr0 hbr hr1
      by_cases hq : outE (O i) = 0
      ·rw [hq, kerrV_0] at hk
       have HN : Hid (outsE O (i + 1) = 0) := by rw [outsE, if_pos HZ.out]; exact hq
       clear hq
       go_wp2_with fail
       generalize wr.alloc (.cells #[.int .i64 (O i).am, .slice ca (O i).cn cc] 95) = q1 at *
       refine hk.mono ?_
       rintro e q2 ⟨rfl, hb2⟩
       have hrB : q2.heap[w.heap.size]? = some (.cells #[.int .i64 lk, .slice ia n ic, .slice (some ⟨b, off, none⟩) m oc] 50 (0, 0)) := by rw [hb2.block _ (lt_of_block hrA)]; exact hrA
       have hbB : Below w.heap.size w q2 := hb1.trans (hb2.mono hb1.size)
       clear hk hrA hb1 hb2 c0 c1 hr hb
       go_wp2
       go_roundw
       case rel => exact ⟨i + 1, by omega, by go_num, HN.out, hbB, hrB⟩
       case measure => simp [intOf]; omega
      ·rw [kerrV_ne hq] at hk
       have HE2 : Hid (errV (txE lk n X m O) = .iface 101 (.int .i64 (outE (O i)))) := by
        have e1 : outsE O (i + 1) = outE (O i) := by rw [outsE, if_pos HZ.out]
        have e2 : outsE O m = outE (O i) := by rw [← e1]; exact outsE_stop (by rw [e1]; exact hq) m (by omega)
        rw [HE.out, e2, if_pos hq, kerrV_ne hq]; exact rfl
       clear hq
       go_wp2_with fail
       generalize wr.alloc (.cells #[.int .i64 (O i).am, .slice ca (O i).cn cc] 95) = q1 at *
       refine hk.mono ?_
       rintro e q2 ⟨rfl, hb2⟩
       have hbB : Below w.heap.size w q2 := hb1.trans (hb2.mono hb1.size)
       clear hk hrA hb1 hb2 c0 c1 hr hb
       go_wp2
       go_ret
       exact ⟨by rw [HE2.out]; rfl, hbB⟩
     ·obtain rfl : i = m := by omega
      have hnn : ¬ ((i : Int) < i) := by omega
      have HE3 : Hid (txE lk n X i O = totE O i) := by rw [HE.out, if_neg (by simpa using HZ.out)]; exact rfl
      have hk := ktotal_any lk ia n ic oa i oc O wr (HH.out.2.1.below hb) hm
      unfold txv at hk
      obtain ⟨c0, c1, c2⟩ : wr.cell? ⟨w.heap.size, 0, none⟩ = some (.int .i64 lk) ∧ wr.cell? ⟨w.heap.size, 1, none⟩ = some (.slice ia n ic) ∧ wr.cell? ⟨w.heap.size, 2, none⟩ = some (.slice oa i oc) := ⟨by rw [cell_of_row _ _ 0 _ _ _ hr]; rfl, by rw [cell_of_row _ _ 1 _ _ _ hr]; rfl, by rw [cell_of_row _ _ 2 _ _ _ hr]; rfl⟩
      go_wp2_with fail
      refine hk.mono ?_
      rintro e q2 ⟨rfl, hb2⟩
      have hbB : Below w.heap.size w q2 := hb.trans (hb2.mono hb.size)
      clear hk c0 c1 c2 hr hb hb2
      go_wp2
      go_ret
      exact ⟨by rw [HE3.out]; rfl, hbB⟩
   ·have hl' : ((ptsL X n).length : Int) < (n : Int) := by have h1 := ptsL_le X n; have h2 : (ptsL X n).length ≠ n := fun h => hA ((ptsL_full X n).1 h); omega
    have HE : Hid (txE lk n X m O = 9) := by unfold txE; rw [if_neg (by simpa using HN.out), if_neg (by simpa using HI.out), if_pos hA]; exact rfl
    have HBE : Hid (Below w.heap.size w w3) := HB2.out.trans (HB3.out.mono HB2.out.size)
    clear hA
    go_wp2
    go_ret
    exact ⟨by rw [HE.out]; rfl, HBE.out⟩
  ·have d4 : (!decide (InsOk X n)) = true := by simpa using hI
   rw [d4]
   have HE : Hid (txE lk n X m O = 4) := by unfold txE; rw [if_neg (by simpa using HN.out), if_pos hI]; exact rfl
   have HBE : Hid (Below w.heap.size w w2) := hb0.trans (hb2.mono hb0.size)
   clear d4 hI hr0 hb2 c1 c2 hb0
   go_wp2
   go_ret
   exact ⟨by rw [HE.out]; rfl, HBE.out⟩
 ·have HE : Hid (txE lk n X m O = 4) := if_pos hN
  by_cases h1 : 0 ≤ lk ∧ lk ≤ 1099511627776
  ·have d1 : decide (0 ≤ lk ∧ lk ≤ 1099511627776) = true := by simpa using h1
   by_cases h2 : 1 ≤ n ∧ n ≤ 64
   ·have d2 : decide ((1 : Int) ≤ (n : Int) ∧ (n : Int) ≤ 64) = true := by simp; omega
    have d3 : decide ((1 : Int) ≤ (m : Int) ∧ (m : Int) ≤ 64) = false := by
     have : ¬ (1 ≤ m ∧ m ≤ 64) := fun h => hN ⟨h1, h2, h⟩
     rw [decide_eq_false_iff_not]; omega
    clear hN h1 h2
    go_enter Tryz.func51, Tryz.ntmps51
    go_wp2_with fail
    generalize w.alloc (.cells #[.int .i64 lk, .slice ia n ic, .slice oa m oc] 50) = W0 at *
    have c1 : W0.cell? ⟨w.heap.size, 1, none⟩ = some (.slice ia n ic) := by rw [cell_of_row _ _ 1 _ _ _ hr0]; rfl
    have c2 : W0.cell? ⟨w.heap.size, 2, none⟩ = some (.slice oa m oc) := by rw [cell_of_row _ _ 2 _ _ _ hr0]; rfl
    refine (kwithin_any lk 0 1099511627776 _).mono ?_
    rintro e w1 ⟨rfl, hW⟩
    rw [hW, d1]
    clear hW
    go_wp2_with fail
    refine (kwithin_any n 1 64 _).mono ?_
    rintro e w1 ⟨rfl, hW⟩
    rw [hW, d2]
    clear hW
    go_wp2_with fail
    refine (kwithin_any m 1 64 _).mono ?_
    rintro e w1 ⟨rfl, hW⟩
    rw [hW, d3]
    clear hW
    go_wp2
    go_ret
    exact ⟨by rw [HE.out]; rfl, hb0⟩
   ·have d2 : decide ((1 : Int) ≤ (n : Int) ∧ (n : Int) ≤ 64) = false := by rw [decide_eq_false_iff_not]; omega
    clear hN h1 h2
    go_enter Tryz.func51, Tryz.ntmps51
    go_wp2_with fail
    generalize w.alloc (.cells #[.int .i64 lk, .slice ia n ic, .slice oa m oc] 50) = W0 at *
    have c1 : W0.cell? ⟨w.heap.size, 1, none⟩ = some (.slice ia n ic) := by rw [cell_of_row _ _ 1 _ _ _ hr0]; rfl
    refine (kwithin_any lk 0 1099511627776 _).mono ?_
    rintro e w1 ⟨rfl, hW⟩
    rw [hW, d1]
    clear hW
    go_wp2_with fail
    refine (kwithin_any n 1 64 _).mono ?_
    rintro e w1 ⟨rfl, hW⟩
    rw [hW, d2]
    clear hW
    go_wp2
    go_ret
    exact ⟨by rw [HE.out]; rfl, hb0⟩
  ·have d1 : decide (0 ≤ lk ∧ lk ≤ 1099511627776) = false := by simpa using h1
   clear hN h1
   go_enter Tryz.func51, Tryz.ntmps51
   go_wp2_with fail
   refine (kwithin_any lk 0 1099511627776 _).mono ?_
   rintro e w1 ⟨rfl, hW⟩
   rw [hW, d1]
   clear hW
   go_wp2
   go_ret
   exact ⟨by rw [HE.out]; rfl, hb0⟩
end Go.Proofs.YtjnepkggdkccaaaGreatDoor
/- build.finish, where the transaction can not be, whatever its keys are. -/
namespace Go.Proofs.YtjnepkggdkccaaaGreatDoor
open Go.RowKit

set_option maxRecDepth 100000 in
set_option maxHeartbeats 3200000 in
theorem finish_badX (lk : Int) (B : Nat) (ia : Option Addr) (ic n : Nat) (Z : Nat → (Nat → Int) × Int) (oa : Option Addr) (oc : Nat) (os : List To) (A : Nat → Option Addr × Nat) (w : World) (h : FinR w B ia ic n Z oa oc os A) (hz : ∀ i, i < n → Hb (Z i).1) (hs : ∀ j, j < os.length → (oF os j).Big) (hn : n ≤ 1000000) (hm : os.length ≤ 1000000) (he : finE n Z os lk ≠ 0) :
  Calls Tryz.prog 27 #[.agg (txv lk ia n ic oa os.length oc)] w fun e w' => e = .returned (.tuple #[.agg #[.int .i64 0, .slice none 0 0, .slice none 0 0], errV (finE n Z os lk)]) ∧ Below w.heap.size w w' := by
 have HH : Hid (FinR w B ia ic n Z oa oc os A ∧ (∀ i, i < n → Hb (Z i).1) ∧ (∀ j, j < os.length → (oF os j).Big)) := ⟨h, hz, hs⟩
 clear h hz hs
 unfold txv
 have hev : errV (finE n Z os lk) = .iface 101 (.int .i64 (finE n Z os lk)) := kerrV_ne he
 go_enter Tryz.func27, Tryz.ntmps27
 go_wp2_with (first | (refine wpList_boxN rfl _ _ rfl #[.int .i64 lk, .slice ia n ic, .slice oa os.length oc] rfl ?_; intro v1 N1) | (refine wpList_allocN 50 #[.int .i64 0, .slice none 0 0, .slice none 0 0] run_allocTx rfl rfl ?_; intro v2 N2; have HR2 := hidV (txl_range (N2.old N1.blk)); have HX2 := hidV (And.intro N2.blk (Below.transS N1.below N2.below)); have HQ : Hid (w.heap.size < v1.heap.size ∧ v1.heap.size < v2.heap.size) := ⟨by have := N1.size; omega, by have := N2.size; omega⟩; clear N1 N2) | (refine wpList_load_mid rfl 50 _ rfl w.heap.size 0 rfl (txl lk ia n ic oa os.length oc) _ HR2.out Tryz.underlying50 rfl szTx ?_) | fail)
 have hf := HH.out.1.below HX2.out.2
 refine (kcheck_anyX lk ia n ic oa os.length oc (tF Z) (fun _ => (none, 0)) (oF os) v2 (hf.tin HH.out.2.1) hf.tout HH.out.2.2 hn hm).mono ?_
 rintro e v3 ⟨rfl, hb3⟩
 change Hid _ at HH
 rw [show errV (txE lk n (tF Z) os.length (oF os)) = .iface 101 (.int .i64 (finE n Z os lk)) from hev]
 have hg3 := heap_below hb3 HX2.out.1
 have hb := Below.transS HX2.out.2 hb3
 have HE := hidV (And.intro hg3 hb)
 have HV := hidV hev
 clear hf hg3 hb hb3 HX2 HR2 hev he
 go_wp2_with (first | (refine wpList_storeG 50 szTx rfl _ _ rfl v1.heap.size rfl #[.int .i64 0, .slice none 0 0, .slice none 0 0] #[.int .i64 0, .slice none 0 0, .slice none 0 0] rfl rfl (by kernel_rfl) 50 rfl HE.out.1 ?_; intro v4 hg4 hf4) | fail)
 refine bodyPost_ret (results_T2 Tryz.results27 _ v4 v1.heap.size 50 _ _ _ (0, 0) rfl hg4) rfl ⟨?_, HE.out.2.trans (hf4.below HE.out.2.size (by have := HQ.out; simp; omega))⟩
 rw [HV.out]
 rfl
end Go.Proofs.YtjnepkggdkccaaaGreatDoor
/- What build.Fund's outputs are; what a transaction that can be is. -/
namespace Go.Proofs.YtjnepkggdkccaaaGreatDoor
open Go.RowKit

def kz2 (k0 k1 : Int) : Nat → Int := fun j => if j = 0 then k0 else k1
def fndO (am k0 k1 : Int) : To := ⟨am, 1, fun _ => Cd.kb (Cd.insL (kz2 k0 k1) 2)⟩
/-- Fund's outputs: the channel's, and the others. -/
def fndL (am k0 k1 : Int) (m : Nat) (O : Nat → To) : List To := fndO am k0 k1 :: (List.range m).map O
theorem fndL_len (am k0 k1 : Int) (m : Nat) (O : Nat → To) : (fndL am k0 k1 m O).length = 1 + m := by simp [fndL]; omega
theorem fnd_0 (am k0 k1 : Int) (m : Nat) (O : Nat → To) : (fndL am k0 k1 m O).getD 0 default = fndO am k0 k1 := rfl
theorem fnd_S (am k0 k1 : Int) (m : Nat) (O : Nat → To) (j : Nat) (hj : j < m) : (fndL am k0 k1 m O).getD (j + 1) default = O j := by simp [fndL, List.getD, hj]
/-- Each of the first outputs may be, where no error is told of them. -/
theorem outsE_ok {O : Nat → To} : ∀ {m : Nat}, outsE O m = 0 → ∀ j, j < m → outE (O j) = 0
 | 0, _, j, hj => by omega
 | m + 1, h, j, hj => by
  rw [outsE] at h
  by_cases h0 : outsE O m = 0
  ·rw [if_pos h0] at h
   by_cases e : j = m
   ·subst e; exact h
   ·exact outsE_ok h0 j (by omega)
  ·rw [if_neg h0] at h; exact absurd h h0
theorem outE_ok {x : To} (h : outE x = 0) : Cd.COk x.X x.cn := by
 unfold outE at h
 split at h
 ·simp at h
 ·split at h
  ·simp at h
  ·unfold Cd.chkE at h
   split at h
   ·assumption
   ·simp at h
theorem kok_few {z : Nat → Int} {n : Nat} (h : Cd.KOk z n) : n ≤ 16 := by
 have hp : ∀ j, j < n → (j : Int) ≤ z j := by
  intro j
  induction j with
  | zero => intro hj; have := (h 0 hj).1; simp [Cd.lastK] at this; omega
  | succ j ih => intro hj; have h5 := (h (j + 1) hj).1; have h6 := ih (by omega); rw [Cd.lastK_succ] at h5; omega
 rcases Nat.lt_or_ge 16 n with h1 | h1
 ·have h7 := hp 16 h1; have h8 := (h 16 h1).2; omega
 ·exact h1
theorem txE_ok {lk : Int} {n : Nat} {X : Nat → Ti} {m : Nat} {O : Nat → To} (h : txE lk n X m O = 0) : NumOk lk n m ∧ ∀ j, j < m → Cd.COk (O j).X (O j).cn := by
 unfold txE at h
 by_cases h1 : NumOk lk n m
 ·rw [if_neg (by simpa using h1)] at h
  by_cases h2 : InsOk X n
  ·rw [if_neg (by simpa using h2)] at h
   by_cases h3 : Apart X n
   ·rw [if_neg (by simpa using h3)] at h
    by_cases h4 : outsE O m = 0
    ·exact ⟨h1, fun j hj => outE_ok (outsE_ok h4 j hj)⟩
    ·rw [if_pos h4] at h; exact absurd h h4
   ·rw [if_pos h3] at h; simp at h
  ·rw [if_pos h2] at h; simp at h
 ·rw [if_pos h1] at h; simp at h
theorem cok_few {x : To} (h : Cd.COk x.X x.cn) : x.cn ≤ 8 ∧ ∀ j, j < x.cn → (x.X j).n ≤ 16 := ⟨h.1.2, fun j hj => kok_few (h.2 j hj).1.1⟩
theorem txE_small {lk : Int} {n : Nat} {X : Nat → Ti} {m : Nat} {O : Nat → To} (h : txE lk n X m O = 0) : ∀ j, j < m → (O j).Small := fun j hj => by
 have h1 := cok_few ((txE_ok h).2 j hj)
 exact ⟨by omega, fun i hi => by have := h1.2 i hi; omega⟩
theorem txE_few {lk : Int} {n : Nat} {X : Nat → Ti} {m : Nat} {O : Nat → To} (h : txE lk n X m O = 0) : Few n m O := by
 have h1 := txE_ok h
 refine ⟨by have := h1.1.2.1.2; omega, by have := h1.1.2.2.2; omega, fun j hj => ?_⟩
 have h2 := cok_few (h1.2 j hj)
 exact ⟨by omega, fun i hi => by have := h2.2 i hi; omega⟩
/-- A condition that lies stays where its blocks do. -/
theorem brAt_eq {w w' : World} {ad : Option Addr} {n : Nat} {X : Nat → Cd.Bv} (h : Cd.BrAt w ad n X) (hw : ∀ k, k < w.heap.size → w'.heap[k]? = w.heap[k]?) : Cd.BrAt w' ad n X := by
 refine ⟨h.ok, fun hn => ?_⟩
 obtain ⟨b, off, e, hr⟩ := h.at_ hn
 refine ⟨b, off, e, fun i hi => ?_⟩
 obtain ⟨ka, kc, h1, h2⟩ := hr i hi
 have K : ∀ g o v, w.cell? ⟨g, o, none⟩ = some v → w'.cell? ⟨g, o, none⟩ = some v := fun g o v hc => by
  rw [World.cell?_of_block (a := ⟨g, o, none⟩) (hw g (World.block_lt_of_cell? w ⟨g, o, none⟩ hc))]
  exact hc
 refine ⟨ka, kc, fun j v hv => K _ _ _ (h1 j v hv), fun hq => ?_⟩
 obtain ⟨g, o, e2, hc⟩ := h2 hq
 exact ⟨g, o, e2, fun j hj => K _ _ _ (hc j hj)⟩
theorem tol_one5 (x : To) (ca : Option Addr) (cc : Nat) : ∀ u ∈ tol x ca cc, u.oneCell' = true := by
 intro u hu
 simp only [tol, List.mem_cons, List.not_mem_nil, or_false] at hu
 rcases hu with rfl | rfl <;> rfl
/-- Outputs that lie somewhere: their cells, where their conditions are. -/
theorem ToAt.src {w : World} {ad : Option Addr} {m : Nat} {O : Nat → To} (h : ToAt w ad m O) (c : Nat) : ∃ A : Nat → Option Addr × Nat, OuSrc w (.slice ad m c) m (flatL (toS5 O A) m) ∧ ∀ j, j < m → Cd.BrAt w (A j).1 (O j).cn (O j).X ∧ ((A j).1 = none → (O j).cn = 0 ∧ (A j).2 = 0) := by
 have hone : ∀ A : Nat → Option Addr × Nat, ∀ x ∈ flatL (toS5 O A) m, x.oneCell' = true := fun A x hx => by
  obtain ⟨i, _, h1⟩ := flatL_mem m hx
  exact tol_one5 _ _ _ _ h1
 rcases Nat.eq_zero_or_pos m with h0 | hp
 ·subst h0
  refine ⟨fun _ => (none, 0), ⟨ad, c, rfl, rfl, hone _, ?_⟩, fun j hj => by omega⟩
  cases ad with
  | none => exact .inl ⟨rfl, rfl⟩
  | some a => exact .inr ⟨a, rfl, fun j v hj => by cases hj⟩
 ·obtain ⟨b, off, rfl, hrow⟩ := h.at_ hp
  have each : ∀ i, i < m → ∃ t : Option Addr × Nat, w.rangeAt b (off + i * 2) (tol (O i) t.1 t.2) ∧ Cd.BrAt w t.1 (O i).cn (O i).X ∧ (t.1 = none → (O i).cn = 0 ∧ t.2 = 0) := fun i hi => by
   obtain ⟨ca, cc, h1, h2, h3⟩ := hrow i hi
   exact ⟨(ca, cc), h1, h2, h3⟩
  obtain ⟨A, hA⟩ := Go.Deep.choose_lt each
  refine ⟨A, ⟨_, c, rfl, flatL_length m (fun _ _ => rfl), hone A, .inr ⟨_, rfl, fun j v hj => ?_⟩⟩, fun j hj => (hA j hj).2⟩
  have hr := (flatL_range m (f := toS5 O A) (k := 2) (b := b) (off := off) (w := w) (fun _ _ => rfl)).2 (fun i hi => (hA i hi).1)
  rw [Addr.add_lit]
  exact hr j v hj
theorem flat_fnd (am k0 k1 : Int) (O : Nat → To) (M : Nat) (A : Nat → Option Addr × Nat) (ca : Option Addr) (cc : Nat) : ∀ m, m ≤ M → flatL (oL (fndL am k0 k1 M O) (fun j => if j = 0 then (ca, cc) else A (j - 1))) (1 + m) = tol (fndO am k0 k1) ca cc ++ flatL (toS5 O A) m
 | 0, _ => rfl
 | m + 1, h => by
  rw [← Nat.add_assoc, flatL, flat_fnd am k0 k1 O M A ca cc m (by omega), List.append_assoc, flatL]
  congr 2
  simp only [oL, toS5, show ¬ (1 + m = 0) by omega, if_false, show 1 + m - 1 = m by omega]
  rw [show 1 + m = m + 1 by omega, fnd_S am k0 k1 M O m (by omega)]
end Go.Proofs.YtjnepkggdkccaaaGreatDoor
