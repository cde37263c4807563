/- The document's Places of layer 14. -/
import Derived.Test.YtbafipjiaeoinaaGreatDoorOwnShelf30
import Derived.Test.YtbafipjiaeoinaaGreatDoorOwnShelf31
import Derived.Test.YtbafipjiaeoinaaGreatDoorOwnShelf32
import Derived.Test.YtbafipjiaeoinaaGreatDoorOwnShelf29
namespace Go.Proofs.YtbafipjiaeoinaaGreatDoor
open Go.RowKit

structure RPlR (P : Pm) (s : Sv) (o : Int) (w : World) (e : Ending) (w' : World) : Prop where
  bad : ownE P s o ≠ 0 → e = .returned (.tuple #[.slice none 0 0, .int .i64 (ownE P s o)])
  ok : ownE P s o = 0 → ∃ ua uc, e = .returned (.tuple #[.slice ua (outsZ (cm0 P o nz) s s.hn).length uc, .int .i64 0]) ∧ PlAt w' ua (outsZ (cm0 P o nz) s s.hn)
  below : Below w.heap.size w w'
theorem routs_any (P : Pm) (s : Sv) (p : Pl) (o : Int) (lk : Nat → Int) (w : World) (hc : CmOk (cm0 P o lk)) (h : SvAt w s p) (hs : SOk s) (hn : ∀ i, i < s.hn → (s.H i).n ≤ 300) :
    Calls Tryz.prog 29 #[.agg (pmv P), .agg (svv s p), .int .i64 o, .agg (hv lk)] w (OutsD w (outsO (cm0 P o lk) s s.hn).length (outsZ (cm0 P o lk) s s.hn).length (outsO (cm0 P o lk) s s.hn) (outsZ (cm0 P o lk) s s.hn) (keyS P (1 - o))) := by
  rcases hc.o with e | e
  · have e : o = 0 := e
    subst e
    exact routs_0 P s p lk w hc h hs hn
  · have e : o = 1 := e
    subst e
    exact routs_1 P s p lk w hc h hs hn
set_option maxRecDepth 100000 in
set_option maxHeartbeats 3200000 in
theorem rplaces_any (P : Pm) (s : Sv) (p : Pl) (o : Int) (w : World) (h : SvAt w s p) (hs : s.Small) :
    Calls Tryz.prog 14 #[.agg (pmv P), .agg (svv s p), .int .i64 o] w (RPlR P s o w) := by
  have HH : Hid (SvAt w s p ∧ s.Small) := ⟨h, hs⟩
  clear h hs
  go_enter Tryz.func14, Tryz.ntmps14
  go_upto_region 1 with (first | (refine wpList_boxN rfl _ _ rfl (pmv P) rfl ?_; intro v1 N1) | (refine wpList_boxN rfl _ _ rfl (svv s p) rfl ?_; intro v4 N2) | fail)
  have HX : Hid (Below w.heap.size w v4 ∧ (∀ w' : World, Below v4.heap.size v4 w' → w'.rangeAt w.heap.size 0 (pml P) ∧ w'.rangeAt v1.heap.size 0 (svv s p).toList)) :=
    ⟨Below.transS N1.below N2.below, fun w' hb => ⟨pml_range (heap_below hb (N2.old N1.blk)), sv_range (heap_below hb N2.blk)⟩⟩
  clear N1 N2
  generalize v1.heap.size = bs at *
  have HP4 := hidV (HX.out.2 v4 (Below.refl _ _)).1
  have HS4 := hidV (HX.out.2 v4 (Below.refl _ _)).2
  go_wp2_with (first | (refine wpList_load_mid rfl 28 _ rfl w.heap.size 0 rfl (pml P) _ HP4.out Tryz.underlying28 rfl (szPmrl P) ?_) | (refine wpList_load_mid rfl 32 _ rfl bs 0 rfl (svv s p).toList _ HS4.out Tryz.underlying32 rfl szSr ?_) | fail)
  refine (rbcheck_any P s p v4 (HH.out.1.below HX.out.1) HH.out.2).mono ?_
  rintro e v5 ⟨rfl, hb5⟩
  have HB5 := hidV hb5
  clear hb5 HP4 HS4
  by_cases h0 : bchkE P s = 0
  · rw [h0]
    by_cases ho : 0 ≤ o ∧ o ≤ 1
    · have h1 : ownE P s o = 0 := by unfold ownE; rw [if_neg (by simpa using h0), if_pos ho]
      have HC := hidV (cm0_ok h1 (lk := nz) nz_zb)
      have HSO := hidV (ownE_ok h1).1
      have HZ := hidV h1
      have HP5 := hidV (HX.out.2 v5 HB5.out).1
      have HS5 := hidV (HX.out.2 v5 HB5.out).2
      obtain ⟨o1, o2⟩ := id ho
      have n1 : ¬ o < 0 := by omega
      have n2 : ¬ 1 < o := by omega
      clear h0 h1 ho o1 o2
      go_wp2_with (first | (refine wpList_load_mid rfl 28 _ rfl w.heap.size 0 rfl (pml P) _ HP5.out Tryz.underlying28 rfl (szPmrl P) ?_) | (refine wpList_load_mid rfl 32 _ rfl bs 0 rfl (svv s p).toList _ HS5.out Tryz.underlying32 rfl szSr ?_) | (refine wpList_buildHG (by rfl) rfl ?_) | fail)
      refine (routs_any P s p o nz v5 HC.out ((HH.out.1.below HX.out.1).below HB5.out) HSO.out HH.out.2.k).mono ?_
      rintro e v6 ⟨va, vc, ua, uc, B, kx, A, I, rfl, hO, hkx, hb6⟩
      have HE : Hid (RPlR P s o w (.returned (.tuple #[.slice ua (outsZ (cm0 P o nz) s s.hn).length uc, .int .i64 0])) v6) := ⟨fun h => absurd HZ.out h, fun _ => ⟨ua, uc, rfl, plAt_own hO.pls⟩, Below.transS (Below.transS HX.out.1 HB5.out) hb6⟩
      clear hO hb6 hkx HP5 HS5
      go_wp2
      go_ret2
      exact HE.out
    · have h1 : ownE P s o = 1 := by unfold ownE; rw [if_neg (by simpa using h0), if_neg ho]
      have HE : Hid (RPlR P s o w (.returned (.tuple #[.slice none 0 0, .int .i64 1])) v5) := ⟨fun _ => by rw [h1], fun h => by rw [h1] at h; simp at h, Below.transS HX.out.1 HB5.out⟩
      clear h0 h1
      by_cases o1 : o < 0
      · clear ho
        go_wp2
        go_ret2
        exact HE.out
      · have o2 : 1 < o := by omega
        clear ho
        go_wp2
        go_ret2
        exact HE.out
  · have h1 : ownE P s o = bchkE P s := if_pos h0
    have HE : Hid (RPlR P s o w (.returned (.tuple #[.slice none 0 0, .int .i64 (bchkE P s)])) v5) := ⟨fun _ => by rw [h1], fun h => by rw [h1] at h; exact absurd h h0, Below.transS HX.out.1 HB5.out⟩
    have e1 : (bchkE P s == 0) = false := by simpa using h0
    clear h1
    generalize bchkE P s = ec at *
    clear h0
    go_wp2
    go_ret2
    exact HE.out
end Go.Proofs.YtbafipjiaeoinaaGreatDoor
/- build: what must come whatever the input is. -/
namespace Go.Proofs.YtbafipjiaeoinaaGreatDoor
open Go.RowKit

def P1 : Pm := ⟨nz, 0, 100, 1, 2, 3, 5⟩
def s1 : Sv := ⟨0, 50, 50, 0, fun _ => p0, 0, fun _ => default⟩
def lk1 : Nat → Int := fun j => if j = 0 then 1 else 0
theorem build_H1 (w : World) : (Instr.build 23 #[(0, .int .u8 1)]).run Tryz.prog w = .ok (.agg (hv lk1)) w := by kernel_rfl
theorem build_P1 (w : World) : (Instr.build 40 #[(1, .int .i64 100), (2, .agg #[.int .i64 1, .int .i64 2]), (3, .int .i64 3), (4, .int .i64 5)]).run Tryz.prog w = .ok (.agg (pmv P1)) w := by kernel_rfl
theorem build_S1 (w : World) : (Instr.build 45 #[(1, .agg #[.int .i64 50, .int .i64 50])]).run Tryz.prog w = .ok (.agg (svv s1 pl0)) w := by kernel_rfl
theorem cmt1 : cmtE P1 s1 1 lk1 = 0 := by kernel_rfl
theorem out1 : (outsO (cm0 P1 1 lk1) s1 s1.hn).length = 2 ∧ (oF (outsO (cm0 P1 1 lk1) s1 s1.hn) 0).am = 50 ∧ (oF (outsO (cm0 P1 1 lk1) s1 s1.hn) 1).am = 45 := ⟨by kernel_rfl, by kernel_rfl, by kernel_rfl⟩
theorem run_allocPm (w : World) : (Instr.alloc 40 true (.tuple #[])).run Tryz.prog w = .ok (.pointer (some ⟨w.heap.size, 0, none⟩)) (w.alloc (.cells (pmv ⟨nz, 0, 0, 0, 0, 0, 0⟩) 40)) := by kernel_rfl
set_option maxRecDepth 100000 in
set_option maxHeartbeats 1600000 in
theorem sure_any (w : World) :
    Calls Tryz.prog 8 #[] w fun e w' => e = .returned (.bool true) ∧ Below w.heap.size w w' := by
  have hS : SvAt w s1 pl0 := ⟨PyAt.nil _ _ _, HdAt.nil _ _ _, Nat.le_refl _, Nat.le_refl _, fun _ => ⟨rfl, rfl⟩, fun _ => ⟨rfl, rfl⟩⟩
  have HS : Hid (SvAt w s1 pl0 ∧ s1.Small ∧ Zb lk1 ∧ Hb P1.pt) := ⟨hS, ⟨by simp [s1], fun i hi => by simp [s1] at hi⟩, fun j _ => by unfold lk1; split <;> omega, fun j _ => by simp [P1, nz]⟩
  clear hS
  go_enter Tryz.func8, Tryz.ntmps8
  go_wp2_with (first | (refine wpList_allocN 40 (pmv ⟨nz, 0, 0, 0, 0, 0, 0⟩) run_allocPm rfl rfl ?_; intro v1 N1) | (refine wpList_storeG 40 szPm rfl _ _ rfl w.heap.size rfl (pmv P1) (pmv ⟨nz, 0, 0, 0, 0, 0, 0⟩) (pmv_size _) (pmv_size _) (all_oneCell_toArray (pml_one _)) 40 rfl N1.blk ?_; intro v2 hg2 hf2; have H2 := hidV (And.intro (pml_range hg2) (N1.below.trans (hf2.below N1.below.size (by simp)))); clear hg2 hf2 N1) | (refine wpList_load_mid rfl 40 _ rfl w.heap.size 0 rfl (pml P1) _ H2.out.1 Tryz.underlying40 rfl (szPml P1) ?_) | fail)
  refine (commit_any P1 s1 pl0 1 lk1 v2 (HS.out.1.below H2.out.2) HS.out.2.1 HS.out.2.2.1 HS.out.2.2.2).mono ?_
  rintro e v3 hC
  obtain ⟨ia, ic, oa, oc, rfl, hT⟩ := hC.ok cmt1
  have hB3 := hC.below
  have ho := hT.tout
  have h50 := out1.2.1
  have h45 := out1.2.2
  rw [out1.1] at ho ⊢
  obtain ⟨b, off, rfl, hr⟩ := ho.at_ (by decide)
  obtain ⟨ca0, cc0, hr0, -⟩ := hr 0 (by decide)
  obtain ⟨ca1, cc1, hr1, -⟩ := hr 1 (by decide)
  have H0 : Hid (∀ w', Below v3.heap.size v3 w' → w'.cell? ⟨b, off, none⟩ = some (.int .i64 50) ∧ w'.cell? ⟨b, off + 2, none⟩ = some (.int .i64 45)) := fun w' hb => by
    have c0 := range_below hr0 hb 0 _ rfl
    have c1 := range_below hr1 hb 0 _ rfl
    rw [h50] at c0
    rw [h45] at c1
    exact ⟨by simpa using c0, by simpa using c1⟩
  have HB3 : Hid (Below w.heap.size w v3) := Below.transS H2.out.2 hB3
  clear hC hB3 ho h50 h45 hr hr0 hr1 hT H2 HS
  unfold txv
  go_wp2_with (first | (refine wpList_allocN 50 #[.int .i64 0, .slice none 0 0, .slice none 0 0] run_allocTx rfl rfl ?_; intro v4 N4) | (refine wpList_storeG 50 szTx rfl _ _ rfl v3.heap.size rfl #[.int .i64 0, .slice ia 1 ic, .slice (some ⟨b, off, none⟩) 2 oc] #[.int .i64 0, .slice none 0 0, .slice none 0 0] rfl rfl (by kernel_rfl) 50 rfl N4.blk ?_; intro v5 hg5 hf5; have c2 : v5.cell? ⟨v3.heap.size, 2, none⟩ = some (.slice (some ⟨b, off, none⟩) 2 oc) := (by rw [cell_of_row _ _ 2 _ _ _ hg5]; rfl); have hb5 : Below v3.heap.size v3 v5 := N4.below.trans (hf5.below N4.below.size (by simp)); obtain ⟨c50, c45⟩ := H0.out v5 hb5; have HE : Hid (Below w.heap.size w v5) := Below.transS HB3.out hb5; clear hg5 hf5 N4 hb5) | fail)
  go_ret
  exact ⟨rfl, HE.out⟩
end Go.Proofs.YtbafipjiaeoinaaGreatDoor
