/- The document's Check of layer 14. -/
import Derived.Test.YtjnepkggdkccaaaGreatDoorOwnShelf06
import Derived.Test.YtjnepkggdkccaaaGreatDoorOwnShelf22
namespace Go.Proofs.YtjnepkggdkccaaaGreatDoor
open Go.RowKit

theorem rparty_any (n : Int) (w : World) :
  Calls Tryz.prog 37 #[.int .i64 n] w fun e w' => e = .returned (.bool (decide (0 ≤ n ∧ n ≤ 15))) ∧ w' = w := by
 by_cases h : 0 ≤ n
 ·have e : decide (0 ≤ n ∧ n ≤ 15) = decide (n < 16) := by simp [h]; omega
  rw [e]
  go_enter Tryz.func37, Tryz.ntmps37
  go_wp2
  go_ret
  exact ⟨rfl, rfl⟩
 ·have e : decide (0 ≤ n ∧ n ≤ 15) = false := by simp; omega
  rw [e]
  go_enter Tryz.func37, Tryz.ntmps37
  go_wp2
  go_ret
  exact ⟨rfl, rfl⟩
set_option maxRecDepth 100000 in
set_option maxHeartbeats 3200000 in
theorem rbcheck_any (P : Pm) (s : Sv) (p : Pl) (w : World) (h : SvAt w s p) (hs : s.Small) :
  Calls Tryz.prog 17 #[.agg (pmv P), .agg (svv s p)] w fun e w' => e = .returned (.int .i64 (bchkE P s)) ∧ Below w.heap.size w w' := by
 have HH : Hid (SvAt w s p ∧ s.Small) := ⟨h, hs⟩
 clear h hs
 go_enter Tryz.func17, Tryz.ntmps17
 go_upto_region 1 with (first | (refine wpList_boxN rfl _ _ rfl (pmv P) rfl ?_; intro v1 N1) | (refine wpList_boxN rfl _ _ rfl (svv s p) rfl ?_; intro v4 N2) | fail)
 have HX : Hid (Below w.heap.size w v4 ∧ (∀ w' : World, Below v4.heap.size v4 w' → w'.rangeAt w.heap.size 0 (pml P) ∧ w'.rangeAt v1.heap.size 0 (svv s p).toList)) :=
  ⟨Below.transS N1.below N2.below, fun w' hb => ⟨pml_range (heap_below hb (N2.old N1.blk)), sv_range (heap_below hb N2.blk)⟩⟩
 clear N1 N2
 generalize v1.heap.size = bs at *
 have HS4 := hidV (HX.out.2 v4 (Below.refl _ _)).2
 go_wp2_with (first | (refine wpList_load_mid rfl 32 _ rfl bs 0 rfl (svv s p).toList _ HS4.out Tryz.underlying32 rfl szSr ?_) | fail)
 refine (rcheck_any s p v4 (HH.out.1.below HX.out.1) HH.out.2).mono ?_
 rintro e v5 ⟨rfl, hb5⟩
 have HB5 := hidV hb5
 have hpm := pmBox (HX.out.2 v5 hb5).1
 have c36 : v5.cell? ⟨w.heap.size, 36, none⟩ = some (.int .i64 P.dl) := by simpa using hpm.dl
 have c37 : v5.cell? ⟨w.heap.size, 37, none⟩ = some (.int .i64 P.fe) := by simpa using hpm.fe
 have c34 : v5.cell? ⟨w.heap.size, 34, none⟩ = some (.int .i64 P.k0) := by simpa using hpm.k0
 have c35 : v5.cell? ⟨w.heap.size, 35, none⟩ = some (.int .i64 P.k1) := by simpa using hpm.k1
 clear hb5 hpm HS4
 by_cases h1 : SOk s ∧ PmOk P
 ·obtain ⟨hs, hp⟩ := h1
  have e0 : chkE s = 0 := if_pos hs
  obtain ⟨⟨d1, d2⟩, ⟨f1, f2⟩⟩ := id hp
  have HSO : Hid (SOk s ∧ PmOk P) := ⟨hs, hp⟩
  rw [e0]
  have n1 : ¬ P.dl < 1 := by omega
  have n2 : ¬ 65536 < P.dl := by omega
  have n3 : ¬ P.fe < 0 := by omega
  have n4 : ¬ 1125899906842624 < P.fe := by omega
  clear hs hp e0
  by_cases hk : KeyOk P
  ·obtain ⟨hk0, hk1, hkn⟩ := id hk
   have HKK := hidV hk
   have e1 : decide (0 ≤ P.k0 ∧ P.k0 ≤ 15) = true := by simpa using hk0
   have e2 : decide (0 ≤ P.k1 ∧ P.k1 ≤ 15) = true := by simpa using hk1
   have e3 : (P.k0 == P.k1) = false := by simpa using hkn
   clear hk hk0 hk1 hkn
   go_wp2_with fail
   refine (rparty_any P.k0 _).mono ?_
   rintro e q1 ⟨rfl, hW⟩
   rw [hW, e1]
   clear hW
   go_wp2_with fail
   refine (rparty_any P.k1 _).mono ?_
   rintro e q1 ⟨rfl, hW⟩
   rw [hW, e2]
   clear hW e1 e2
   go_upto_region 5 with fail
   clear c34 c35 c36 c37 n1 n2 n3 n4 d1 d2 f1 f2 e3
   have HS : Hid (∀ w' : World, Below v5.heap.size v5 w' → w'.rangeAt bs 0 (svv s p).toList ∧ w'.cell? ⟨w.heap.size, 33, none⟩ = some (.int .i64 P.am)) := fun w' hb => by
    have h1 := HX.out.2 w' (Below.transS HB5.out hb)
    exact ⟨h1.2, by have := (pmBox h1.1).am; simpa using this⟩
   refine wp_region_noPanic ?_
   refine wp_region_held_drew (S := fun w' => w'.rangeAt bs 0 (svv s p).toList ∧ w'.cell? ⟨w.heap.size, 33, none⟩ = some (.int .i64 P.am)) (by kernel_rfl) (HS.out v5.drew (Below.refl _ _).drew) (fun hHeld => ?_)
   have HB6 : Hid (Below v5.heap.size v5 v5.drew) := (Below.refl _ _).drew
   generalize v5.drew = v6 at *
   refine wpAnyH_take (i := 2) (oi := ⟨some 51, .fieldAddr 28 (.tmp 2) 1, 0, _, _, none⟩) (v := ?_) rfl (by kernel_rfl) (by kernel_rfl) (by kernel_rfl) (fun _ _ _ h => h) (Or.inl ⟨by rfl, ?_⟩) (by assumption) ?_
   rotate_left
   ·intro wz hSw; (try dsimp only at hSw); go_simp; (try with_reducible rfl)
   try simp only [Act.put, zA, zB, zC]
   refine wpAnyH_take (i := 3) (oi := ⟨some 52, .load 3 (.tmp 51), 3, _, _, none⟩) (v := ?_) rfl (by kernel_rfl) (by kernel_rfl) (by kernel_rfl) (fun _ _ _ h => h) (Or.inl ⟨by rfl, ?_⟩) (by assumption) ?_
   rotate_left
   ·intro wz hSw; (try dsimp only at hSw); go_simp; (try with_reducible rfl)
   try simp only [Act.put, zA, zB, zC]
   refine wpAnyH_take (i := 0) (oi := ⟨some 49, .load 32 (.tmp 3), 32, _, _, none⟩) rfl (by kernel_rfl) (by kernel_rfl) (by kernel_rfl) (fun _ _ _ h => h) (yieldsIf_load_mid (by rfl) _ _ rfl bs 0 rfl (svv s p).toList _ (fun _ h => h.1) Tryz.underlying32 rfl szSr) (by assumption) ?_
   try simp only [Act.put, zA, zB, zC]
   refine wpAnyH_ready (rs := [1]) (by kernel_rfl) (by simp) ?_
   refine (AllReadyH.cons (o := ⟨some 50, .call { callee := Go.Callee.value (.func 38), args := #[.tmp 49], argTypes := #[32] }, 3, _, _, none⟩) rfl (fun K hK => ?_) AllReadyH.nil)
   go_simp
   refine (rtotal_any s p v6 (((HH.out.1.below HX.out.1).below HB5.out).below HB6.out) HH.out.2).mono ?_
   rintro e v7 ⟨rfl, hb7⟩
   have HB7 : Hid (Below v5.heap.size v5 v7) := Below.transS HB6.out hb7
   clear hb7
   refine hK.out _ _ (HS.out v7 HB7.out) (fun _ => ?_)
   clear hK K
   try simp only [Act.put, zA, zB, zC]
   refine wpAnyH_take (i := 4) (oi := ⟨some 53, .binOp .neq 3 (.tmp 50) (.tmp 52) 3, 4, _, _, none⟩) (v := ?_) rfl (by kernel_rfl) (by kernel_rfl) (by kernel_rfl) (fun _ _ _ h => h) (Or.inl ⟨by rfl, ?_⟩) (by assumption) ?_
   rotate_left
   ·intro wz hSw; (try dsimp only at hSw); go_simp; (try with_reducible rfl)
   try simp only [Act.put, zA, zB, zC]
   refine wpAnyH_done (by kernel_rfl) (NoPanic.normal ?_) _
   try simp only [Act.put, zA, zB, zC]
   clear hHeld
   have e4 : totF s = tot s := if_pos HSO.out.1
   rw [e4]
   clear e4
   have hpm := pmBox (HX.out.2 v7 (Below.transS HB5.out HB7.out)).1
   have c37 : v7.cell? ⟨w.heap.size, 37, none⟩ = some (.int .i64 P.fe) := by simpa using hpm.fe
   have ca : v7.cell? ⟨bs, 1, none⟩ = some (.int .i64 s.a) := (HS.out v7 HB7.out).1 1 _ rfl
   have HBE : Hid (Below w.heap.size w v7) := Below.transS HX.out.1 (Below.transS HB5.out HB7.out)
   clear hpm
   by_cases ht : tot s = P.am
   ·have e5 : (tot s == P.am) = true := by simpa using ht
    by_cases hf : s.a < P.fe
    ·have HE : Hid (bchkE P s = 26) := by unfold bchkE; rw [if_neg (by simpa using HSO.out), if_neg (by simpa using HKK.out), if_neg (by simpa using ht), if_pos hf]; exact rfl
     rw [ht]
     clear ht e5
     go_wp2
     go_ret
     exact ⟨by rw [HE.out]; rfl, HBE.out⟩
    ·have HE : Hid (bchkE P s = 0) := by unfold bchkE; rw [if_neg (by simpa using HSO.out), if_neg (by simpa using HKK.out), if_neg (by simpa using ht), if_neg hf]; exact rfl
     rw [ht]
     clear ht e5
     go_wp2
     go_ret
     exact ⟨by rw [HE.out]; rfl, HBE.out⟩
   ·have HE : Hid (bchkE P s = 20) := by unfold bchkE; rw [if_neg (by simpa using HSO.out), if_neg (by simpa using HKK.out), if_pos (by simpa using ht)]; exact rfl
    have e5 : (tot s == P.am) = false := by simpa using ht
    clear ht
    go_wp2
    go_ret
    exact ⟨by rw [HE.out]; rfl, HBE.out⟩
  ·have HE : Hid (bchkE P s = 33) := by unfold bchkE; rw [if_neg (by simpa using HSO.out), if_pos hk]; exact rfl
   have HBE : Hid (Below w.heap.size w v5) := Below.transS HX.out.1 HB5.out
   by_cases hk0 : 0 ≤ P.k0 ∧ P.k0 ≤ 15
   ·have e1 : decide (0 ≤ P.k0 ∧ P.k0 ≤ 15) = true := by simpa using hk0
    by_cases hk1 : 0 ≤ P.k1 ∧ P.k1 ≤ 15
    ·have e2 : decide (0 ≤ P.k1 ∧ P.k1 ≤ 15) = true := by simpa using hk1
     have e3 : P.k0 = P.k1 := by
      rcases Int.lt_trichotomy P.k0 P.k1 with h | h | h
      ·exact absurd (show KeyOk P from ⟨hk0, hk1, by omega⟩) hk
      ·exact h
      ·exact absurd (show KeyOk P from ⟨hk0, hk1, by omega⟩) hk
     rw [e3] at c34
     clear hk hk0 hk1
     go_wp2_with fail
     refine (rparty_any P.k1 _).mono ?_
     rintro e q1 ⟨rfl, hW⟩
     rw [hW, e2]
     clear hW
     go_wp2_with fail
     refine (rparty_any P.k1 _).mono ?_
     rintro e q1 ⟨rfl, hW⟩
     rw [hW, e2]
     clear hW e1 e2 e3
     go_wp2
     go_ret
     exact ⟨by rw [HE.out]; rfl, HBE.out⟩
    ·have e2 : decide (0 ≤ P.k1 ∧ P.k1 ≤ 15) = false := by simpa using hk1
     clear hk hk0 hk1
     go_wp2_with fail
     refine (rparty_any P.k0 _).mono ?_
     rintro e q1 ⟨rfl, hW⟩
     rw [hW, e1]
     clear hW
     go_wp2_with fail
     refine (rparty_any P.k1 _).mono ?_
     rintro e q1 ⟨rfl, hW⟩
     rw [hW, e2]
     clear hW e1 e2
     go_wp2
     go_ret
     exact ⟨by rw [HE.out]; rfl, HBE.out⟩
   ·have e1 : decide (0 ≤ P.k0 ∧ P.k0 ≤ 15) = false := by simpa using hk0
    clear hk hk0
    go_wp2_with fail
    refine (rparty_any P.k0 _).mono ?_
    rintro e q1 ⟨rfl, hW⟩
    rw [hW, e1]
    clear hW e1
    go_wp2
    go_ret
    exact ⟨by rw [HE.out]; rfl, HBE.out⟩
 ·have HE : Hid (bchkE P s = 1) := by unfold bchkE; rw [if_pos h1]; exact rfl
  by_cases hs : SOk s
  ·have hp : ¬ PmOk P := fun h => h1 ⟨hs, h⟩
   have e0 : chkE s = 0 := if_pos hs
   rw [e0]
   clear h1 e0 hs
   by_cases d1 : P.dl < 1
   ·clear hp
    go_wp2
    go_ret
    exact ⟨by rw [HE.out]; rfl, Below.transS HX.out.1 HB5.out⟩
   ·by_cases d2 : 65536 < P.dl
    ·clear hp
     go_wp2
     go_ret
     exact ⟨by rw [HE.out]; rfl, Below.transS HX.out.1 HB5.out⟩
    ·by_cases f1 : P.fe < 0
     ·clear hp
      go_wp2
      go_ret
      exact ⟨by rw [HE.out]; rfl, Below.transS HX.out.1 HB5.out⟩
     ·have f2 : 1125899906842624 < P.fe := by
       rcases Int.lt_or_le 1125899906842624 P.fe with h | h
       ·exact h
       ·exact absurd (show PmOk P from ⟨⟨by omega, by omega⟩, by omega, h⟩) hp
      clear hp
      go_wp2
      go_ret
      exact ⟨by rw [HE.out]; rfl, Below.transS HX.out.1 HB5.out⟩
  ·have e0 : chkE s = 1 := if_neg hs
   rw [e0]
   clear h1 e0 hs
   go_wp2
   go_ret
   exact ⟨by rw [HE.out]; rfl, Below.transS HX.out.1 HB5.out⟩
end Go.Proofs.YtjnepkggdkccaaaGreatDoor
/- build: what must come whatever the input is. -/
namespace Go.Proofs.YtjnepkggdkccaaaGreatDoor
open Go.RowKit

def P1 : Pm := ⟨nz, 0, 100, 1, 2, 3, 5⟩
def s1 : Sv := ⟨0, 50, 50, 0, fun _ => p0, 0, fun _ => default⟩
def lk1 : Nat → Int := fun j => if j = 0 then 1 else 0
theorem cmt1 : cmtE P1 s1 1 lk1 = 0 := by kernel_rfl
theorem out1 : (outsO (cm0 P1 1 lk1) s1 s1.hn).length = 2 ∧ (oF (outsO (cm0 P1 1 lk1) s1 s1.hn) 0).am = 50 ∧ (oF (outsO (cm0 P1 1 lk1) s1 s1.hn) 1).am = 45 := ⟨by kernel_rfl, by kernel_rfl, by kernel_rfl⟩
theorem run_allocPm (w : World) : (Instr.alloc 40 true (.tuple #[])).run Tryz.prog w = .ok (.pointer (some ⟨w.heap.size, 0, none⟩)) (w.alloc (.cells (pmv ⟨nz, 0, 0, 0, 0, 0, 0⟩) 40)) := by kernel_rfl
set_option maxRecDepth 100000 in
set_option maxHeartbeats 1600000 in
theorem sure_any (w : World) :
  Calls Tryz.prog 8 #[] w fun e w' => e = .returned (.bool true) ∧ Below w.heap.size w w' := by
 have hS : SvAt w s1 pl0 := ⟨PyAt.nil _ _ _, HdAt.nil _ _ _, Nat.le_refl _, Nat.le_refl _, fun _ => ⟨rfl, rfl⟩, fun _ => ⟨rfl, rfl⟩⟩
 have HS : Hid (SvAt w s1 pl0 ∧ s1.Small ∧ Zb lk1 ∧ Hb P1.pt) := ⟨hS, ⟨by simp [s1], fun i hi => by simp [s1] at hi⟩, fun j _ => by unfold lk1; split <;> omega, fun j _ => by simp [P1, nz]⟩
 clear hS
 go_enter Tryz.func8, Tryz.ntmps8
 go_wp2_with (first | (refine wpList_allocN 40 (pmv ⟨nz, 0, 0, 0, 0, 0, 0⟩) run_allocPm rfl rfl ?_; intro v1 N1) | (refine wpList_storeG 40 szPm rfl _ _ rfl w.heap.size rfl (pmv P1) (pmv ⟨nz, 0, 0, 0, 0, 0, 0⟩) (pmv_size _) (pmv_size _) (all_oneCell_toArray (pml_one _)) 40 rfl N1.blk ?_; intro v2 hg2 hf2; have H2 := hidV (And.intro (pml_range hg2) (N1.below.trans (hf2.below N1.below.size (by simp)))); clear hg2 hf2 N1) | (refine wpList_load_mid rfl 40 _ rfl w.heap.size 0 rfl (pml P1) _ H2.out.1 Tryz.underlying40 rfl (szPml P1) ?_) | fail)
 refine (commit_any P1 s1 pl0 1 lk1 v2 (HS.out.1.below H2.out.2) HS.out.2.1 HS.out.2.2.1 HS.out.2.2.2).mono ?_
 rintro e v3 hC
 obtain ⟨ia, ic, oa, oc, rfl, hT⟩ := hC.ok cmt1
 have hB3 := hC.below
 have ho := hT.tout
 have h50 := out1.2.1
 have h45 := out1.2.2
 rw [out1.1] at ho ⊢
 obtain ⟨b, off, rfl, hr⟩ := ho.at_ (by decide)
 obtain ⟨ca0, cc0, hr0, -⟩ := hr 0 (by decide)
 obtain ⟨ca1, cc1, hr1, -⟩ := hr 1 (by decide)
 have H0 : Hid (∀ w', Below v3.heap.size v3 w' → w'.cell? ⟨b, off, none⟩ = some (.int .i64 50) ∧ w'.cell? ⟨b, off + 2, none⟩ = some (.int .i64 45)) := fun w' hb => by
  have c0 := range_below hr0 hb 0 _ rfl
  have c1 := range_below hr1 hb 0 _ rfl
  rw [h50] at c0
  rw [h45] at c1
  exact ⟨by simpa using c0, by simpa using c1⟩
 have HB3 : Hid (Below w.heap.size w v3) := Below.transS H2.out.2 hB3
 clear hC hB3 ho h50 h45 hr hr0 hr1 hT H2 HS
 unfold txv
 go_wp2_with (first | (refine wpList_allocN 50 #[.int .i64 0, .slice none 0 0, .slice none 0 0] run_allocTx rfl rfl ?_; intro v4 N4) | (refine wpList_storeG 50 szTx rfl _ _ rfl v3.heap.size rfl #[.int .i64 0, .slice ia 1 ic, .slice (some ⟨b, off, none⟩) 2 oc] #[.int .i64 0, .slice none 0 0, .slice none 0 0] rfl rfl (by kernel_rfl) 50 rfl N4.blk ?_; intro v5 hg5 hf5; have c2 : v5.cell? ⟨v3.heap.size, 2, none⟩ = some (.slice (some ⟨b, off, none⟩) 2 oc) := (by rw [cell_of_row _ _ 2 _ _ _ hg5]; rfl); have hb5 : Below v3.heap.size v3 v5 := N4.below.trans (hf5.below N4.below.size (by simp)); obtain ⟨c50, c45⟩ := H0.out v5 hb5; have HE : Hid (Below w.heap.size w v5) := Below.transS HB3.out hb5; clear hg5 hf5 N4 hb5) | fail)
 go_ret
 exact ⟨rfl, HE.out⟩
end Go.Proofs.YtjnepkggdkccaaaGreatDoor
