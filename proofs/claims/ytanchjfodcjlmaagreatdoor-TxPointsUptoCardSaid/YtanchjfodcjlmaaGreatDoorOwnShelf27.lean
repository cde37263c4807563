/- TxPoints: the walk. -/
import Derived.Test.YtanchjfodcjlmaaGreatDoorOwnShelf26
import Derived.Test.YtanchjfodcjlmaaGreatDoorOwnShelf19
import Derived.Test.YtanchjfodcjlmaaGreatDoorOwnShelf15
import Derived.Test.YtanchjfodcjlmaaGreatDoorOwnShelf13
import Derived.Deep.DeepCutAuto
namespace Go.Proofs.YtanchjfodcjlmaaGreatDoor
open Go.RowKit

theorem szTxr : (Tryz.prog.info? 25).map (·.size) = some 3 := by kernel_rfl
set_option maxRecDepth 100000 in
set_option maxHeartbeats 12800000 in
theorem lpoints_any (t u : Tc5) (S1 S2 : Nat → Option Addr × Nat) (z : Nat → Int) (n : Int) (y : Nat → Int) (m : Int) (w : World) (hg : Cd.Glob w) (hT : Tab w) (h : TxIn w t S1) (h' : TxIn w u S2) (hz : Hb z ∧ Kp.Ib n) (hy : Hb y ∧ Kp.Ib m) :
  Calls Tryz.prog 4 #[.agg (txv t.lk t.ia t.n t.ic t.oa t.m t.oc), .agg (txv u.lk u.ia u.n u.ic u.oa u.m u.oc), .agg (ppv z n y m)] w fun e w' => e = .returned (.bool true) ∧ Below w.heap.size w w' := by
 have hgl := hT.size
 have hpos := hg.pos
 have HI := hidV (And.intro h (And.intro h' (And.intro hz hy)))
 have HF : Hid (∀ w', Below w.heap.size w w' → Cd.Glob w' ∧ Tab w' ∧ 4 ≤ w'.heap.size) := fun w' hb => ⟨hg.below hb hpos, hT.frm (S := []) (Frm.ofBelow hb) (fun k hk => by cases hk), by have := hb.size; omega⟩
 have HA : Hid (∀ w', Below w.heap.size w w' → TiAt w' t.ia t.n t.X S1 ∧ ToAt w' t.oa t.m t.O ∧ ∀ k, k < t.n → SlAt w' (S1 k).1 (t.X k).sn (t.Z k)) := fun w' hb => ⟨h.ti.below hb, h.ou.below hb, fun k hk => (h.sc k hk).below hb⟩
 have HB : Hid (∀ w', Below w.heap.size w w' → TiAt w' u.ia u.n u.X S2 ∧ ToAt w' u.oa u.m u.O ∧ ∀ k, k < u.n → SlAt w' (S2 k).1 (u.X k).sn (u.Z k)) := fun w' hb => ⟨h'.ti.below hb, h'.ou.below hb, fun k hk => (h'.sc k hk).below hb⟩
 have HEND : Hid (∀ w', Below w.heap.size w w' → Calls Tryz.prog 7 #[] w' fun e w'' => e = .returned (.bool true) ∧ Below w'.heap.size w' w'') := fun w' hb => sure_any w' (HF.out w' hb).1 (HF.out w' hb).2.1 (HF.out w' hb).2.2
 clear h h' hg hT hgl hz hy
 go_enter Tryz.func4, Tryz.ntmps4
 go_upto_region 1 with (first | (refine wpList_boxN rfl _ _ rfl (txv t.lk t.ia t.n t.ic t.oa t.m t.oc) rfl ?_; intro v1 N1) | (refine wpList_boxN rfl _ _ rfl (txv u.lk u.ia u.n u.ic u.oa u.m u.oc) rfl ?_; intro v2 N2) | (refine wpList_boxN rfl _ _ rfl (ppv z n y m) rfl ?_; intro v3 N3) | fail)
 have HX0 : Hid (Below w.heap.size w v3 ∧ (∀ w' : World, Below v3.heap.size v3 w' → w'.rangeAt w.heap.size 0 (txl t.lk t.ia t.n t.ic t.oa t.m t.oc) ∧ w'.rangeAt v1.heap.size 0 (txl u.lk u.ia u.n u.ic u.oa u.m u.oc) ∧ w'.rangeAt v2.heap.size 0 (ptl z n) ∧ w'.rangeAt v2.heap.size 33 (ptl y m))) := by
  refine ⟨Below.transS N1.below (Below.transS N2.below N3.below), fun w' hb => ?_⟩
  have h3 := ppl_range (heap_below hb N3.blk)
  exact ⟨txl_range (heap_below hb (N3.old (N2.old N1.blk))), txl_range (heap_below hb (N3.old N2.blk)), h3.1, h3.2⟩
 clear N1 N2 N3
 generalize v1.heap.size = T4 at *
 generalize v2.heap.size = T5 at *
 have HP := hidV (HX0.out.2 v3 (Below.refl _ _))
 go_wp2_with (first | (refine wpList_load_mid rfl 25 _ rfl w.heap.size 0 rfl (txl t.lk t.ia t.n t.ic t.oa t.m t.oc) _ HP.out.1 Tryz.underlying25 rfl szTxr ?_) | fail)
 refine (longTx_any t.lk t.ia t.n t.ic t.oa t.m t.oc t.X S1 t.O v3 (HA.out v3 HX0.out.1).1 (HA.out v3 HX0.out.1).2.1 HI.out.1.bn.1 HI.out.1.bn.2 HI.out.1.bs (fun i hi => ⟨(HI.out.1.bo i hi).1, fun j hj => by have := (HI.out.1.bo i hi).2 j hj; omega⟩)).mono ?_
 rintro e v4 ⟨b, rfl, hNo, hb4⟩
 have HB4 := hidV (And.intro (Below.transS HX0.out.1 hb4) hb4)
 clear hb4 HP
 cases b with
 | true =>
  clear hNo
  go_wp2_with fail
  refine (HEND.out v4 HB4.out.1).mono ?_
  rintro e v5 ⟨rfl, hb5⟩
  have HE := hidV (Below.transS HB4.out.1 hb5)
  clear hb5
  go_wp2
  go_ret
  exact ⟨rfl, HE.out⟩
 | false =>
  have HN1 := hidV (hNo rfl)
  have hnm1 := HN1.out.nm
  clear hNo
  have HP := hidV (HX0.out.2 v4 HB4.out.2)
  go_wp2_with (first | (refine wpList_loadWq (by rfl) 25 _ rfl T4 0 rfl (txl u.lk u.ia u.n u.ic u.oa u.m u.oc) _ HP.out.2.1 Tryz.underlying25 rfl szTxr ?_) | fail)
  refine (longTx_any u.lk u.ia u.n u.ic u.oa u.m u.oc u.X S2 u.O v4 (HB.out v4 HB4.out.1).1 (HB.out v4 HB4.out.1).2.1 HI.out.2.1.bn.1 HI.out.2.1.bn.2 HI.out.2.1.bs (fun i hi => ⟨(HI.out.2.1.bo i hi).1, fun j hj => by have := (HI.out.2.1.bo i hi).2 j hj; omega⟩)).mono ?_
  rintro e v5 ⟨b, rfl, hNo, hb5⟩
  have HB5 := hidV (And.intro (Below.transS HB4.out.1 hb5) (Below.transS HB4.out.2 hb5))
  clear hb5 HP HB4
  cases b with
  | true =>
   clear hNo
   go_wp2_with fail
   refine (HEND.out v5 HB5.out.1).mono ?_
   rintro e v6 ⟨rfl, hb6⟩
   have HE := hidV (Below.transS HB5.out.1 hb6)
   clear hb6
   go_wp2
   go_ret
   exact ⟨rfl, HE.out⟩
  | false =>
  have HN2 := hidV (hNo rfl)
  have hnm2 := HN2.out.nm
  clear hNo
  have HKT : Hid (∀ i, i < t.m → ∀ j, j < (t.O i).cn → ((t.O i).X j).n ≤ 17592186043904) := fun i hi j hj => by have := (HI.out.1.bo i hi).2 j hj; omega
  have HKU : Hid (∀ i, i < u.m → ∀ j, j < (u.O i).cn → ((u.O i).X j).n ≤ 17592186043904) := fun i hi j hj => by have := (HI.out.2.1.bo i hi).2 j hj; omega
  have HS : Hid (∀ w' : World, Below v5.heap.size v5 w' → w'.rangeAt w.heap.size 0 (txl t.lk t.ia t.n t.ic t.oa t.m t.oc) ∧ w'.rangeAt T4 0 (txl u.lk u.ia u.n u.ic u.oa u.m u.oc) ∧ w'.rangeAt T5 0 (ptl z n) ∧ w'.rangeAt T5 33 (ptl y m)) := fun w' hb => HX0.out.2 w' (Below.transS HB5.out.2 hb)
  have HW : Hid (∀ w' : World, Below v5.heap.size v5 w' → Below w.heap.size w w') := fun w' hb => Below.transS HB5.out.1 hb
  have HLT : Hid (TxLim t ∧ TxLim u) := ⟨fun k hk => ⟨HI.out.1.ti.pt k hk, by have := HN1.out.sn k hk; omega⟩, fun k hk => ⟨HI.out.2.1.ti.pt k hk, by have := HN2.out.sn k hk; omega⟩⟩
  clear HB5 HX0
  go_upto_region 3 with fail
  go_cut [7, 8] (fun x x' wc => ∃ (A B : Nat) (p q : Gt), x = .pointer (some ⟨A, 0, none⟩) ∧ x' = .pointer (some ⟨B, 0, none⟩) ∧ SyQ t u v5 wc A B p q)
  case first =>
   refine wp_region_noPanic ?_
   refine wp_region_held_drew (S := fun w' => w'.rangeAt w.heap.size 0 (txl t.lk t.ia t.n t.ic t.oa t.m t.oc) ∧ w'.rangeAt T4 0 (txl u.lk u.ia u.n u.ic u.oa u.m u.oc) ∧ w'.rangeAt T5 0 (ptl z n) ∧ w'.rangeAt T5 33 (ptl y m)) (by kernel_rfl) (HS.out v5.drew (Below.refl _ _).drew) (fun hHeld => ?_)
   have M0 : Hid (SyW t u v5 v5.drew none none none none) := SyW.init t u v5
   generalize v5.drew = z0 at *
   refine wpAnyH_take (i := 0) (oi := ⟨some 18, .load 25 (.tmp 3), 25, _, _, none⟩) rfl (by kernel_rfl) (by kernel_rfl) (by kernel_rfl) (fun _ _ _ h => h) (yieldsIf_load_mid (by rfl) _ _ rfl w.heap.size 0 rfl (txl t.lk t.ia t.n t.ic t.oa t.m t.oc) _ (fun _ h => h.1) Tryz.underlying25 rfl szTxr) (by assumption) ?_
   try simp only [Act.put, sqA, sqB, sqC]
   refine wpAnyH_take (i := 2) (oi := ⟨some 20, .load 25 (.tmp 4), 25, _, _, none⟩) rfl (by kernel_rfl) (by kernel_rfl) (by kernel_rfl) (fun _ _ _ h => h) (yieldsIf_load_mid (by rfl) _ _ rfl T4 0 rfl (txl u.lk u.ia u.n u.ic u.oa u.m u.oc) _ (fun _ h => h.2.1) Tryz.underlying25 rfl szTxr) (by assumption) ?_
   try simp only [Act.put, sqA, sqB, sqC]
   refine name_any (fun G toG ofG => ?_)
   have st2_11 : ∀ (A B : Nat) (p q : Gt) (w1 : World), SyW t u v5 w1 (some A) (some B) (some p) (some q) → G 2 #[true, true, true, true, true, true, false, false] { tmps := #[.agg (txv t.lk t.ia t.n t.ic t.oa t.m t.oc), .agg (txv u.lk u.ia u.n u.ic u.oa u.m u.oc), .agg (ppv z n y m), .pointer (some ⟨w.heap.size, 0, none⟩), .pointer (some ⟨T4, 0, none⟩), .pointer (some ⟨T5, 0, none⟩), .bool false, .pointer (some ⟨A, 0, none⟩), .pointer (some ⟨B, 0, none⟩), undef, undef, .agg (txl t.lk t.ia t.n t.ic t.oa t.m t.oc).toArray, .bool false, .bool false, .agg (txl u.lk u.ia u.n u.ic u.oa u.m u.oc).toArray, .bool false, .bool false, undef, .agg (txl t.lk t.ia t.n t.ic t.oa t.m t.oc).toArray, .agg (txv t.lk p.ia t.n p.ic p.oa t.m p.oc), .agg (txl u.lk u.ia u.n u.ic u.oa u.m u.oc).toArray, .agg (txv u.lk q.ia u.n q.ic q.oa u.m q.oc), undef, undef, undef, undef, undef, undef, undef, undef, undef, undef, undef, undef, undef, undef, undef, undef, undef, undef, undef, undef, undef, undef, undef, undef, undef, undef, undef, undef, undef, undef, undef, undef, undef, undef, undef, undef, undef, undef, undef, undef, undef, undef, undef, undef, undef, undef, undef, undef, undef, undef, undef, undef, undef, undef, undef, undef, undef, undef], defers := [] } w1 := by
    intro A B p q w1 M
    have M := hidV M
    refine toG _ _ _ _ ?_
    refine wpAnyH_ready (rs := [6]) (by kernel_rfl) (by simp) ?_
    refine (AllReadyH.cons (o := ⟨none, .store 35 (.tmp 7) (.tmp 19), 0, _, _, none⟩) rfl (fun K hK => ?_) AllReadyH.nil)
    refine step_storeTP rfl _ _ rfl A rfl t t.lk p rfl (M.out.bx A (.inl rfl)).1 ?_
    intro y1 hg1 hf1
    have hb1 : Below v5.heap.size v5 y1 := M.out.below.trans (hf1.below M.out.below.size (by have := (M.out.bx A (.inl rfl)).2; simp; omega))
    refine hK.out _ _ (HS.out y1 hb1) (fun _ => ?_)
    clear hK K
    try simp only [Act.put]
    refine wpAnyH_ready (rs := [7]) (by kernel_rfl) (by simp) ?_
    refine (AllReadyH.cons (o := ⟨none, .store 35 (.tmp 8) (.tmp 21), 0, _, _, none⟩) rfl (fun K hK => ?_) AllReadyH.nil)
    refine step_storeTP rfl _ _ rfl B rfl u u.lk q rfl (hf1.heap (M.out.bx B (.inr rfl)).1 (by have := M.out.ab A B rfl rfl; simp; omega)) ?_
    intro y2 hg2 hf2
    have hb2 : Below v5.heap.size v5 y2 := hb1.trans (hf2.below hb1.size (by have := (M.out.bx B (.inr rfl)).2; simp; omega))
    refine hK.out _ _ (HS.out y2 hb2) (fun _ => ?_)
    clear hK K
    try simp only [Act.put]
    have HQ := hidV (M.out.stored HLT.out.1 HLT.out.2 hg1 hf1 hg2 hf2)
    clear hg1 hf1 hg2 hf2 hb1 hb2 M toG ofG
    refine wpAnyH_done (by kernel_rfl) (NoPanic.normal ?_) _
    try simp only [Act.put, sqA, sqB, sqC]
    clear hHeld
    go_wp2
    go_meet
    case rel => exact ⟨A, B, p, q, rfl, rfl, HQ.out⟩
   have st1_11 : ∀ (A B : Nat) (p : Gt) (w1 : World), SyW t u v5 w1 (some A) (some B) (some p) none → G 3 #[true, true, true, false, true, true, false, false] { tmps := #[.agg (txv t.lk t.ia t.n t.ic t.oa t.m t.oc), .agg (txv u.lk u.ia u.n u.ic u.oa u.m u.oc), .agg (ppv z n y m), .pointer (some ⟨w.heap.size, 0, none⟩), .pointer (some ⟨T4, 0, none⟩), .pointer (some ⟨T5, 0, none⟩), .bool false, .pointer (some ⟨A, 0, none⟩), .pointer (some ⟨B, 0, none⟩), undef, undef, .agg (txl t.lk t.ia t.n t.ic t.oa t.m t.oc).toArray, .bool false, .bool false, .agg (txl u.lk u.ia u.n u.ic u.oa u.m u.oc).toArray, .bool false, .bool false, undef, .agg (txl t.lk t.ia t.n t.ic t.oa t.m t.oc).toArray, .agg (txv t.lk p.ia t.n p.ic p.oa t.m p.oc), .agg (txl u.lk u.ia u.n u.ic u.oa u.m u.oc).toArray, undef, undef, undef, undef, undef, undef, undef, undef, undef, undef, undef, undef, undef, undef, undef, undef, undef, undef, undef, undef, undef, undef, undef, undef, undef, undef, undef, undef, undef, undef, undef, undef, undef, undef, undef, undef, undef, undef, undef, undef, undef, undef, undef, undef, undef, undef, undef, undef, undef, undef, undef, undef, undef, undef, undef, undef, undef, undef, undef], defers := [] } w1 := by
    intro A B p w1 M
    have M := hidV M
    refine toG _ _ _ _ ?_
    refine wpAnyH_ready (rs := [3]) (by kernel_rfl) (by simp) ?_
    refine (AllReadyH.cons (o := ⟨some 21, .call { callee := Go.Callee.value (.func 9), args := #[.tmp 20], argTypes := #[25] }, 35, _, _, none⟩) rfl (fun K hK => ?_) AllReadyH.nil)
    go_simp
    refine (giveTx_any u S2 w1 (HB.out w1 (HW.out w1 M.out.below)).1 (HB.out w1 (HW.out w1 M.out.below)).2.1 (HB.out w1 (HW.out w1 M.out.below)).2.2 HN2.out HKU.out).mono ?_
    rintro e w2 ⟨ia, ic, oa, oc, S', rfl, -, hb, hO⟩
    have M2 := M.out.giveQ (TxIv.of (oc := oc) hO) rfl rfl hb
    refine hK.out _ _ (HS.out w2 M2.below) (fun _ => ?_)
    clear hK K
    try simp only [List.setIfInBounds_toArray, List.set_cons_zero, List.set_cons_succ]
    exact ofG _ _ _ _ (st2_11 A B p ⟨w1.heap.size, w2.heap.size, ia, ic, oa, oc, S'⟩ w2 M2)
   have st2_01 : ∀ (B : Nat) (p q : Gt) (w1 : World), SyW t u v5 w1 none (some B) (some p) (some q) → G 3 #[true, true, true, true, false, true, false, false] { tmps := #[.agg (txv t.lk t.ia t.n t.ic t.oa t.m t.oc), .agg (txv u.lk u.ia u.n u.ic u.oa u.m u.oc), .agg (ppv z n y m), .pointer (some ⟨w.heap.size, 0, none⟩), .pointer (some ⟨T4, 0, none⟩), .pointer (some ⟨T5, 0, none⟩), .bool false, undef, .pointer (some ⟨B, 0, none⟩), undef, undef, .agg (txl t.lk t.ia t.n t.ic t.oa t.m t.oc).toArray, .bool false, .bool false, .agg (txl u.lk u.ia u.n u.ic u.oa u.m u.oc).toArray, .bool false, .bool false, undef, .agg (txl t.lk t.ia t.n t.ic t.oa t.m t.oc).toArray, .agg (txv t.lk p.ia t.n p.ic p.oa t.m p.oc), .agg (txl u.lk u.ia u.n u.ic u.oa u.m u.oc).toArray, .agg (txv u.lk q.ia u.n q.ic q.oa u.m q.oc), undef, undef, undef, undef, undef, undef, undef, undef, undef, undef, undef, undef, undef, undef, undef, undef, undef, undef, undef, undef, undef, undef, undef, undef, undef, undef, undef, undef, undef, undef, undef, undef, undef, undef, undef, undef, undef, undef, undef, undef, undef, undef, undef, undef, undef, undef, undef, undef, undef, undef, undef, undef, undef, undef, undef, undef, undef, undef], defers := [] } w1 := by
    intro B p q w1 M
    have M := hidV M
    refine toG _ _ _ _ ?_
    refine wpAnyH_ready (rs := [4]) (by kernel_rfl) (by simp) ?_
    refine (AllReadyH.cons (o := ⟨some 7, .alloc 35, 0, _, _, none⟩) rfl (fun K hK => ?_) AllReadyH.nil)
    refine step_allocTP rfl rfl ?_
    intro k w2 hk hl hb
    have M2 := M.out.newA hk hl hb
    refine hK.out _ _ (HS.out w2 M2.below) (fun _ => ?_)
    clear hK K
    try simp only [Act.put, sqA, sqB, sqC]
    exact ofG _ _ _ _ (st2_11 k B p q w2 M2)
   have st2_10 : ∀ (A : Nat) (p q : Gt) (w1 : World), SyW t u v5 w1 (some A) none (some p) (some q) → G 3 #[true, true, true, true, true, false, false, false] { tmps := #[.agg (txv t.lk t.ia t.n t.ic t.oa t.m t.oc), .agg (txv u.lk u.ia u.n u.ic u.oa u.m u.oc), .agg (ppv z n y m), .pointer (some ⟨w.heap.size, 0, none⟩), .pointer (some ⟨T4, 0, none⟩), .pointer (some ⟨T5, 0, none⟩), .bool false, .pointer (some ⟨A, 0, none⟩), undef, undef, undef, .agg (txl t.lk t.ia t.n t.ic t.oa t.m t.oc).toArray, .bool false, .bool false, .agg (txl u.lk u.ia u.n u.ic u.oa u.m u.oc).toArray, .bool false, .bool false, undef, .agg (txl t.lk t.ia t.n t.ic t.oa t.m t.oc).toArray, .agg (txv t.lk p.ia t.n p.ic p.oa t.m p.oc), .agg (txl u.lk u.ia u.n u.ic u.oa u.m u.oc).toArray, .agg (txv u.lk q.ia u.n q.ic q.oa u.m q.oc), undef, undef, undef, undef, undef, undef, undef, undef, undef, undef, undef, undef, undef, undef, undef, undef, undef, undef, undef, undef, undef, undef, undef, undef, undef, undef, undef, undef, undef, undef, undef, undef, undef, undef, undef, undef, undef, undef, undef, undef, undef, undef, undef, undef, undef, undef, undef, undef, undef, undef, undef, undef, undef, undef, undef, undef, undef, undef], defers := [] } w1 := by
    intro A p q w1 M
    have M := hidV M
    refine toG _ _ _ _ ?_
    refine wpAnyH_ready (rs := [5]) (by kernel_rfl) (by simp) ?_
    refine (AllReadyH.cons (o := ⟨some 8, .alloc 35, 0, _, _, none⟩) rfl (fun K hK => ?_) AllReadyH.nil)
    refine step_allocTP rfl rfl ?_
    intro k w2 hk hl hb
    have M2 := M.out.newB hk hl hb
    refine hK.out _ _ (HS.out w2 M2.below) (fun _ => ?_)
    clear hK K
    try simp only [Act.put, sqA, sqB, sqC]
    exact ofG _ _ _ _ (st2_11 A k p q w2 M2)
   have st0_11 : ∀ (A B : Nat) (w1 : World), SyW t u v5 w1 (some A) (some B) none none → G 4 #[true, false, true, false, true, true, false, false] { tmps := #[.agg (txv t.lk t.ia t.n t.ic t.oa t.m t.oc), .agg (txv u.lk u.ia u.n u.ic u.oa u.m u.oc), .agg (ppv z n y m), .pointer (some ⟨w.heap.size, 0, none⟩), .pointer (some ⟨T4, 0, none⟩), .pointer (some ⟨T5, 0, none⟩), .bool false, .pointer (some ⟨A, 0, none⟩), .pointer (some ⟨B, 0, none⟩), undef, undef, .agg (txl t.lk t.ia t.n t.ic t.oa t.m t.oc).toArray, .bool false, .bool false, .agg (txl u.lk u.ia u.n u.ic u.oa u.m u.oc).toArray, .bool false, .bool false, undef, .agg (txl t.lk t.ia t.n t.ic t.oa t.m t.oc).toArray, undef, .agg (txl u.lk u.ia u.n u.ic u.oa u.m u.oc).toArray, undef, undef, undef, undef, undef, undef, undef, undef, undef, undef, undef, undef, undef, undef, undef, undef, undef, undef, undef, undef, undef, undef, undef, undef, undef, undef, undef, undef, undef, undef, undef, undef, undef, undef, undef, undef, undef, undef, undef, undef, undef, undef, undef, undef, undef, undef, undef, undef, undef, undef, undef, undef, undef, undef, undef, undef, undef, undef, undef], defers := [] } w1 := by
    intro A B w1 M
    have M := hidV M
    refine toG _ _ _ _ ?_
    refine wpAnyH_ready (rs := [1]) (by kernel_rfl) (by simp) ?_
    refine (AllReadyH.cons (o := ⟨some 19, .call { callee := Go.Callee.value (.func 9), args := #[.tmp 18], argTypes := #[25] }, 35, _, _, none⟩) rfl (fun K hK => ?_) AllReadyH.nil)
    go_simp
    refine (giveTx_any t S1 w1 (HA.out w1 (HW.out w1 M.out.below)).1 (HA.out w1 (HW.out w1 M.out.below)).2.1 (HA.out w1 (HW.out w1 M.out.below)).2.2 HN1.out HKT.out).mono ?_
    rintro e w2 ⟨ia, ic, oa, oc, S', rfl, -, hb, hO⟩
    have M2 := M.out.giveP (TxIv.of (oc := oc) hO) rfl rfl hb
    refine hK.out _ _ (HS.out w2 M2.below) (fun _ => ?_)
    clear hK K
    try simp only [List.setIfInBounds_toArray, List.set_cons_zero, List.set_cons_succ]
    exact ofG _ _ _ _ (st1_11 A B ⟨w1.heap.size, w2.heap.size, ia, ic, oa, oc, S'⟩ w2 M2)
   have st1_01 : ∀ (B : Nat) (p : Gt) (w1 : World), SyW t u v5 w1 none (some B) (some p) none → G 4 #[true, true, true, false, false, true, false, false] { tmps := #[.agg (txv t.lk t.ia t.n t.ic t.oa t.m t.oc), .agg (txv u.lk u.ia u.n u.ic u.oa u.m u.oc), .agg (ppv z n y m), .pointer (some ⟨w.heap.size, 0, none⟩), .pointer (some ⟨T4, 0, none⟩), .pointer (some ⟨T5, 0, none⟩), .bool false, undef, .pointer (some ⟨B, 0, none⟩), undef, undef, .agg (txl t.lk t.ia t.n t.ic t.oa t.m t.oc).toArray, .bool false, .bool false, .agg (txl u.lk u.ia u.n u.ic u.oa u.m u.oc).toArray, .bool false, .bool false, undef, .agg (txl t.lk t.ia t.n t.ic t.oa t.m t.oc).toArray, .agg (txv t.lk p.ia t.n p.ic p.oa t.m p.oc), .agg (txl u.lk u.ia u.n u.ic u.oa u.m u.oc).toArray, undef, undef, undef, undef, undef, undef, undef, undef, undef, undef, undef, undef, undef, undef, undef, undef, undef, undef, undef, undef, undef, undef, undef, undef, undef, undef, undef, undef, undef, undef, undef, undef, undef, undef, undef, undef, undef, undef, undef, undef, undef, undef, undef, undef, undef, undef, undef, undef, undef, undef, undef, undef, undef, undef, undef, undef, undef, undef, undef], defers := [] } w1 := by
    intro B p w1 M
    have M := hidV M
    refine toG _ _ _ _ ?_
    refine wpAnyH_ready (rs := [3, 4]) (by kernel_rfl) (by simp) ?_
    refine (AllReadyH.cons (o := ⟨some 21, .call { callee := Go.Callee.value (.func 9), args := #[.tmp 20], argTypes := #[25] }, 35, _, _, none⟩) rfl (fun K hK => ?_) (AllReadyH.cons (o := ⟨some 7, .alloc 35, 0, _, _, none⟩) rfl (fun K hK => ?_) AllReadyH.nil))
    ·go_simp
     refine (giveTx_any u S2 w1 (HB.out w1 (HW.out w1 M.out.below)).1 (HB.out w1 (HW.out w1 M.out.below)).2.1 (HB.out w1 (HW.out w1 M.out.below)).2.2 HN2.out HKU.out).mono ?_
     rintro e w2 ⟨ia, ic, oa, oc, S', rfl, -, hb, hO⟩
     have M2 := M.out.giveQ (TxIv.of (oc := oc) hO) rfl rfl hb
     refine hK.out _ _ (HS.out w2 M2.below) (fun _ => ?_)
     clear hK K
     try simp only [List.setIfInBounds_toArray, List.set_cons_zero, List.set_cons_succ]
     exact ofG _ _ _ _ (st2_01 B p ⟨w1.heap.size, w2.heap.size, ia, ic, oa, oc, S'⟩ w2 M2)
    ·refine step_allocTP rfl rfl ?_
     intro k w2 hk hl hb
     have M2 := M.out.newA hk hl hb
     refine hK.out _ _ (HS.out w2 M2.below) (fun _ => ?_)
     clear hK K
     try simp only [Act.put, sqA, sqB, sqC]
     exact ofG _ _ _ _ (st1_11 k B p w2 M2)
   have st1_10 : ∀ (A : Nat) (p : Gt) (w1 : World), SyW t u v5 w1 (some A) none (some p) none → G 4 #[true, true, true, false, true, false, false, false] { tmps := #[.agg (txv t.lk t.ia t.n t.ic t.oa t.m t.oc), .agg (txv u.lk u.ia u.n u.ic u.oa u.m u.oc), .agg (ppv z n y m), .pointer (some ⟨w.heap.size, 0, none⟩), .pointer (some ⟨T4, 0, none⟩), .pointer (some ⟨T5, 0, none⟩), .bool false, .pointer (some ⟨A, 0, none⟩), undef, undef, undef, .agg (txl t.lk t.ia t.n t.ic t.oa t.m t.oc).toArray, .bool false, .bool false, .agg (txl u.lk u.ia u.n u.ic u.oa u.m u.oc).toArray, .bool false, .bool false, undef, .agg (txl t.lk t.ia t.n t.ic t.oa t.m t.oc).toArray, .agg (txv t.lk p.ia t.n p.ic p.oa t.m p.oc), .agg (txl u.lk u.ia u.n u.ic u.oa u.m u.oc).toArray, undef, undef, undef, undef, undef, undef, undef, undef, undef, undef, undef, undef, undef, undef, undef, undef, undef, undef, undef, undef, undef, undef, undef, undef, undef, undef, undef, undef, undef, undef, undef, undef, undef, undef, undef, undef, undef, undef, undef, undef, undef, undef, undef, undef, undef, undef, undef, undef, undef, undef, undef, undef, undef, undef, undef, undef, undef, undef, undef], defers := [] } w1 := by
    intro A p w1 M
    have M := hidV M
    refine toG _ _ _ _ ?_
    refine wpAnyH_ready (rs := [3, 5]) (by kernel_rfl) (by simp) ?_
    refine (AllReadyH.cons (o := ⟨some 21, .call { callee := Go.Callee.value (.func 9), args := #[.tmp 20], argTypes := #[25] }, 35, _, _, none⟩) rfl (fun K hK => ?_) (AllReadyH.cons (o := ⟨some 8, .alloc 35, 0, _, _, none⟩) rfl (fun K hK => ?_) AllReadyH.nil))
    ·go_simp
     refine (giveTx_any u S2 w1 (HB.out w1 (HW.out w1 M.out.below)).1 (HB.out w1 (HW.out w1 M.out.below)).2.1 (HB.out w1 (HW.out w1 M.out.below)).2.2 HN2.out HKU.out).mono ?_
     rintro e w2 ⟨ia, ic, oa, oc, S', rfl, -, hb, hO⟩
     have M2 := M.out.giveQ (TxIv.of (oc := oc) hO) rfl rfl hb
     refine hK.out _ _ (HS.out w2 M2.below) (fun _ => ?_)
     clear hK K
     try simp only [List.setIfInBounds_toArray, List.set_cons_zero, List.set_cons_succ]
     exact ofG _ _ _ _ (st2_10 A p ⟨w1.heap.size, w2.heap.size, ia, ic, oa, oc, S'⟩ w2 M2)
    ·refine step_allocTP rfl rfl ?_
     intro k w2 hk hl hb
     have M2 := M.out.newB hk hl hb
     refine hK.out _ _ (HS.out w2 M2.below) (fun _ => ?_)
     clear hK K
     try simp only [Act.put, sqA, sqB, sqC]
     exact ofG _ _ _ _ (st1_11 A k p w2 M2)
   have st2_00 : ∀ (p q : Gt) (w1 : World), SyW t u v5 w1 none none (some p) (some q) → G 4 #[true, true, true, true, false, false, false, false] { tmps := #[.agg (txv t.lk t.ia t.n t.ic t.oa t.m t.oc), .agg (txv u.lk u.ia u.n u.ic u.oa u.m u.oc), .agg (ppv z n y m), .pointer (some ⟨w.heap.size, 0, none⟩), .pointer (some ⟨T4, 0, none⟩), .pointer (some ⟨T5, 0, none⟩), .bool false, undef, undef, undef, undef, .agg (txl t.lk t.ia t.n t.ic t.oa t.m t.oc).toArray, .bool false, .bool false, .agg (txl u.lk u.ia u.n u.ic u.oa u.m u.oc).toArray, .bool false, .bool false, undef, .agg (txl t.lk t.ia t.n t.ic t.oa t.m t.oc).toArray, .agg (txv t.lk p.ia t.n p.ic p.oa t.m p.oc), .agg (txl u.lk u.ia u.n u.ic u.oa u.m u.oc).toArray, .agg (txv u.lk q.ia u.n q.ic q.oa u.m q.oc), undef, undef, undef, undef, undef, undef, undef, undef, undef, undef, undef, undef, undef, undef, undef, undef, undef, undef, undef, undef, undef, undef, undef, undef, undef, undef, undef, undef, undef, undef, undef, undef, undef, undef, undef, undef, undef, undef, undef, undef, undef, undef, undef, undef, undef, undef, undef, undef, undef, undef, undef, undef, undef, undef, undef, undef, undef, undef], defers := [] } w1 := by
    intro p q w1 M
    have M := hidV M
    refine toG _ _ _ _ ?_
    refine wpAnyH_ready (rs := [4, 5]) (by kernel_rfl) (by simp) ?_
    refine (AllReadyH.cons (o := ⟨some 7, .alloc 35, 0, _, _, none⟩) rfl (fun K hK => ?_) (AllReadyH.cons (o := ⟨some 8, .alloc 35, 0, _, _, none⟩) rfl (fun K hK => ?_) AllReadyH.nil))
    ·refine step_allocTP rfl rfl ?_
     intro k w2 hk hl hb
     have M2 := M.out.newA hk hl hb
     refine hK.out _ _ (HS.out w2 M2.below) (fun _ => ?_)
     clear hK K
     try simp only [Act.put, sqA, sqB, sqC]
     exact ofG _ _ _ _ (st2_10 k p q w2 M2)
    ·refine step_allocTP rfl rfl ?_
     intro k w2 hk hl hb
     have M2 := M.out.newB hk hl hb
     refine hK.out _ _ (HS.out w2 M2.below) (fun _ => ?_)
     clear hK K
     try simp only [Act.put, sqA, sqB, sqC]
     exact ofG _ _ _ _ (st2_01 k p q w2 M2)
   have st0_01 : ∀ (B : Nat) (w1 : World), SyW t u v5 w1 none (some B) none none → G 5 #[true, false, true, false, false, true, false, false] { tmps := #[.agg (txv t.lk t.ia t.n t.ic t.oa t.m t.oc), .agg (txv u.lk u.ia u.n u.ic u.oa u.m u.oc), .agg (ppv z n y m), .pointer (some ⟨w.heap.size, 0, none⟩), .pointer (some ⟨T4, 0, none⟩), .pointer (some ⟨T5, 0, none⟩), .bool false, undef, .pointer (some ⟨B, 0, none⟩), undef, undef, .agg (txl t.lk t.ia t.n t.ic t.oa t.m t.oc).toArray, .bool false, .bool false, .agg (txl u.lk u.ia u.n u.ic u.oa u.m u.oc).toArray, .bool false, .bool false, undef, .agg (txl t.lk t.ia t.n t.ic t.oa t.m t.oc).toArray, undef, .agg (txl u.lk u.ia u.n u.ic u.oa u.m u.oc).toArray, undef, undef, undef, undef, undef, undef, undef, undef, undef, undef, undef, undef, undef, undef, undef, undef, undef, undef, undef, undef, undef, undef, undef, undef, undef, undef, undef, undef, undef, undef, undef, undef, undef, undef, undef, undef, undef, undef, undef, undef, undef, undef, undef, undef, undef, undef, undef, undef, undef, undef, undef, undef, undef, undef, undef, undef, undef, undef, undef], defers := [] } w1 := by
    intro B w1 M
    have M := hidV M
    refine toG _ _ _ _ ?_
    refine wpAnyH_ready (rs := [1, 4]) (by kernel_rfl) (by simp) ?_
    refine (AllReadyH.cons (o := ⟨some 19, .call { callee := Go.Callee.value (.func 9), args := #[.tmp 18], argTypes := #[25] }, 35, _, _, none⟩) rfl (fun K hK => ?_) (AllReadyH.cons (o := ⟨some 7, .alloc 35, 0, _, _, none⟩) rfl (fun K hK => ?_) AllReadyH.nil))
    ·go_simp
     refine (giveTx_any t S1 w1 (HA.out w1 (HW.out w1 M.out.below)).1 (HA.out w1 (HW.out w1 M.out.below)).2.1 (HA.out w1 (HW.out w1 M.out.below)).2.2 HN1.out HKT.out).mono ?_
     rintro e w2 ⟨ia, ic, oa, oc, S', rfl, -, hb, hO⟩
     have M2 := M.out.giveP (TxIv.of (oc := oc) hO) rfl rfl hb
     refine hK.out _ _ (HS.out w2 M2.below) (fun _ => ?_)
     clear hK K
     try simp only [List.setIfInBounds_toArray, List.set_cons_zero, List.set_cons_succ]
     exact ofG _ _ _ _ (st1_01 B ⟨w1.heap.size, w2.heap.size, ia, ic, oa, oc, S'⟩ w2 M2)
    ·refine step_allocTP rfl rfl ?_
     intro k w2 hk hl hb
     have M2 := M.out.newA hk hl hb
     refine hK.out _ _ (HS.out w2 M2.below) (fun _ => ?_)
     clear hK K
     try simp only [Act.put, sqA, sqB, sqC]
     exact ofG _ _ _ _ (st0_11 k B w2 M2)
   have st0_10 : ∀ (A : Nat) (w1 : World), SyW t u v5 w1 (some A) none none none → G 5 #[true, false, true, false, true, false, false, false] { tmps := #[.agg (txv t.lk t.ia t.n t.ic t.oa t.m t.oc), .agg (txv u.lk u.ia u.n u.ic u.oa u.m u.oc), .agg (ppv z n y m), .pointer (some ⟨w.heap.size, 0, none⟩), .pointer (some ⟨T4, 0, none⟩), .pointer (some ⟨T5, 0, none⟩), .bool false, .pointer (some ⟨A, 0, none⟩), undef, undef, undef, .agg (txl t.lk t.ia t.n t.ic t.oa t.m t.oc).toArray, .bool false, .bool false, .agg (txl u.lk u.ia u.n u.ic u.oa u.m u.oc).toArray, .bool false, .bool false, undef, .agg (txl t.lk t.ia t.n t.ic t.oa t.m t.oc).toArray, undef, .agg (txl u.lk u.ia u.n u.ic u.oa u.m u.oc).toArray, undef, undef, undef, undef, undef, undef, undef, undef, undef, undef, undef, undef, undef, undef, undef, undef, undef, undef, undef, undef, undef, undef, undef, undef, undef, undef, undef, undef, undef, undef, undef, undef, undef, undef, undef, undef, undef, undef, undef, undef, undef, undef, undef, undef, undef, undef, undef, undef, undef, undef, undef, undef, undef, undef, undef, undef, undef, undef, undef], defers := [] } w1 := by
    intro A w1 M
    have M := hidV M
    refine toG _ _ _ _ ?_
    refine wpAnyH_ready (rs := [1, 5]) (by kernel_rfl) (by simp) ?_
    refine (AllReadyH.cons (o := ⟨some 19, .call { callee := Go.Callee.value (.func 9), args := #[.tmp 18], argTypes := #[25] }, 35, _, _, none⟩) rfl (fun K hK => ?_) (AllReadyH.cons (o := ⟨some 8, .alloc 35, 0, _, _, none⟩) rfl (fun K hK => ?_) AllReadyH.nil))
    ·go_simp
     refine (giveTx_any t S1 w1 (HA.out w1 (HW.out w1 M.out.below)).1 (HA.out w1 (HW.out w1 M.out.below)).2.1 (HA.out w1 (HW.out w1 M.out.below)).2.2 HN1.out HKT.out).mono ?_
     rintro e w2 ⟨ia, ic, oa, oc, S', rfl, -, hb, hO⟩
     have M2 := M.out.giveP (TxIv.of (oc := oc) hO) rfl rfl hb
     refine hK.out _ _ (HS.out w2 M2.below) (fun _ => ?_)
     clear hK K
     try simp only [List.setIfInBounds_toArray, List.set_cons_zero, List.set_cons_succ]
     exact ofG _ _ _ _ (st1_10 A ⟨w1.heap.size, w2.heap.size, ia, ic, oa, oc, S'⟩ w2 M2)
    ·refine step_allocTP rfl rfl ?_
     intro k w2 hk hl hb
     have M2 := M.out.newB hk hl hb
     refine hK.out _ _ (HS.out w2 M2.below) (fun _ => ?_)
     clear hK K
     try simp only [Act.put, sqA, sqB, sqC]
     exact ofG _ _ _ _ (st0_11 A k w2 M2)
   have st1_00 : ∀ (p : Gt) (w1 : World), SyW t u v5 w1 none none (some p) none → G 5 #[true, true, true, false, false, false, false, false] { tmps := #[.agg (txv t.lk t.ia t.n t.ic t.oa t.m t.oc), .agg (txv u.lk u.ia u.n u.ic u.oa u.m u.oc), .agg (ppv z n y m), .pointer (some ⟨w.heap.size, 0, none⟩), .pointer (some ⟨T4, 0, none⟩), .pointer (some ⟨T5, 0, none⟩), .bool false, undef, undef, undef, undef, .agg (txl t.lk t.ia t.n t.ic t.oa t.m t.oc).toArray, .bool false, .bool false, .agg (txl u.lk u.ia u.n u.ic u.oa u.m u.oc).toArray, .bool false, .bool false, undef, .agg (txl t.lk t.ia t.n t.ic t.oa t.m t.oc).toArray, .agg (txv t.lk p.ia t.n p.ic p.oa t.m p.oc), .agg (txl u.lk u.ia u.n u.ic u.oa u.m u.oc).toArray, undef, undef, undef, undef, undef, undef, undef, undef, undef, undef, undef, undef, undef, undef, undef, undef, undef, undef, undef, undef, undef, undef, undef, undef, undef, undef, undef, undef, undef, undef, undef, undef, undef, undef, undef, undef, undef, undef, undef, undef, undef, undef, undef, undef, undef, undef, undef, undef, undef, undef, undef, undef, undef, undef, undef, undef, undef, undef, undef], defers := [] } w1 := by
    intro p w1 M
    have M := hidV M
    refine toG _ _ _ _ ?_
    refine wpAnyH_ready (rs := [3, 4, 5]) (by kernel_rfl) (by simp) ?_
    refine (AllReadyH.cons (o := ⟨some 21, .call { callee := Go.Callee.value (.func 9), args := #[.tmp 20], argTypes := #[25] }, 35, _, _, none⟩) rfl (fun K hK => ?_) (AllReadyH.cons (o := ⟨some 7, .alloc 35, 0, _, _, none⟩) rfl (fun K hK => ?_) (AllReadyH.cons (o := ⟨some 8, .alloc 35, 0, _, _, none⟩) rfl (fun K hK => ?_) AllReadyH.nil)))
    ·go_simp
     refine (giveTx_any u S2 w1 (HB.out w1 (HW.out w1 M.out.below)).1 (HB.out w1 (HW.out w1 M.out.below)).2.1 (HB.out w1 (HW.out w1 M.out.below)).2.2 HN2.out HKU.out).mono ?_
     rintro e w2 ⟨ia, ic, oa, oc, S', rfl, -, hb, hO⟩
     have M2 := M.out.giveQ (TxIv.of (oc := oc) hO) rfl rfl hb
     refine hK.out _ _ (HS.out w2 M2.below) (fun _ => ?_)
     clear hK K
     try simp only [List.setIfInBounds_toArray, List.set_cons_zero, List.set_cons_succ]
     exact ofG _ _ _ _ (st2_00 p ⟨w1.heap.size, w2.heap.size, ia, ic, oa, oc, S'⟩ w2 M2)
    ·refine step_allocTP rfl rfl ?_
     intro k w2 hk hl hb
     have M2 := M.out.newA hk hl hb
     refine hK.out _ _ (HS.out w2 M2.below) (fun _ => ?_)
     clear hK K
     try simp only [Act.put, sqA, sqB, sqC]
     exact ofG _ _ _ _ (st1_10 k p w2 M2)
    ·refine step_allocTP rfl rfl ?_
     intro k w2 hk hl hb
     have M2 := M.out.newB hk hl hb
     refine hK.out _ _ (HS.out w2 M2.below) (fun _ => ?_)
     clear hK K
     try simp only [Act.put, sqA, sqB, sqC]
     exact ofG _ _ _ _ (st1_01 k p w2 M2)
   have st0_00 : ∀ (w1 : World), SyW t u v5 w1 none none none none → G 6 #[true, false, true, false, false, false, false, false] { tmps := #[.agg (txv t.lk t.ia t.n t.ic t.oa t.m t.oc), .agg (txv u.lk u.ia u.n u.ic u.oa u.m u.oc), .agg (ppv z n y m), .pointer (some ⟨w.heap.size, 0, none⟩), .pointer (some ⟨T4, 0, none⟩), .pointer (some ⟨T5, 0, none⟩), .bool false, undef, undef, undef, undef, .agg (txl t.lk t.ia t.n t.ic t.oa t.m t.oc).toArray, .bool false, .bool false, .agg (txl u.lk u.ia u.n u.ic u.oa u.m u.oc).toArray, .bool false, .bool false, undef, .agg (txl t.lk t.ia t.n t.ic t.oa t.m t.oc).toArray, undef, .agg (txl u.lk u.ia u.n u.ic u.oa u.m u.oc).toArray, undef, undef, undef, undef, undef, undef, undef, undef, undef, undef, undef, undef, undef, undef, undef, undef, undef, undef, undef, undef, undef, undef, undef, undef, undef, undef, undef, undef, undef, undef, undef, undef, undef, undef, undef, undef, undef, undef, undef, undef, undef, undef, undef, undef, undef, undef, undef, undef, undef, undef, undef, undef, undef, undef, undef, undef, undef, undef, undef], defers := [] } w1 := by
    intro  w1 M
    have M := hidV M
    refine toG _ _ _ _ ?_
    refine wpAnyH_ready (rs := [1, 4, 5]) (by kernel_rfl) (by simp) ?_
    refine (AllReadyH.cons (o := ⟨some 19, .call { callee := Go.Callee.value (.func 9), args := #[.tmp 18], argTypes := #[25] }, 35, _, _, none⟩) rfl (fun K hK => ?_) (AllReadyH.cons (o := ⟨some 7, .alloc 35, 0, _, _, none⟩) rfl (fun K hK => ?_) (AllReadyH.cons (o := ⟨some 8, .alloc 35, 0, _, _, none⟩) rfl (fun K hK => ?_) AllReadyH.nil)))
    ·go_simp
     refine (giveTx_any t S1 w1 (HA.out w1 (HW.out w1 M.out.below)).1 (HA.out w1 (HW.out w1 M.out.below)).2.1 (HA.out w1 (HW.out w1 M.out.below)).2.2 HN1.out HKT.out).mono ?_
     rintro e w2 ⟨ia, ic, oa, oc, S', rfl, -, hb, hO⟩
     have M2 := M.out.giveP (TxIv.of (oc := oc) hO) rfl rfl hb
     refine hK.out _ _ (HS.out w2 M2.below) (fun _ => ?_)
     clear hK K
     try simp only [List.setIfInBounds_toArray, List.set_cons_zero, List.set_cons_succ]
     exact ofG _ _ _ _ (st1_00 ⟨w1.heap.size, w2.heap.size, ia, ic, oa, oc, S'⟩ w2 M2)
    ·refine step_allocTP rfl rfl ?_
     intro k w2 hk hl hb
     have M2 := M.out.newA hk hl hb
     refine hK.out _ _ (HS.out w2 M2.below) (fun _ => ?_)
     clear hK K
     try simp only [Act.put, sqA, sqB, sqC]
     exact ofG _ _ _ _ (st0_10 k w2 M2)
    ·refine step_allocTP rfl rfl ?_
     intro k w2 hk hl hb
     have M2 := M.out.newB hk hl hb
     refine hK.out _ _ (HS.out w2 M2.below) (fun _ => ?_)
     clear hK K
     try simp only [Act.put, sqA, sqB, sqC]
     exact ofG _ _ _ _ (st0_01 k w2 M2)
   exact st0_00 _ M0.out
  case rest =>
   obtain ⟨A, B, p, q, rfl, rfl, hQ⟩ := hcut
   have HQ := hidV hQ
   clear hQ
   go_upto_region 4 with fail
   generalize wc = wq at *
   go_cut [9, 10] (fun x x' wd => ∃ (C D : Nat), x = .pointer (some ⟨C, 0, none⟩) ∧ x' = .pointer (some ⟨D, 0, none⟩) ∧ Below wq.heap.size wq wd ∧ wd.rangeAt C 0 (ptl z n) ∧ wd.rangeAt D 0 (ptl y m))
   case first =>
    have HSQ : Hid (∀ w' : World, Below wq.heap.size wq w' → w'.rangeAt T5 0 (ptl z n) ∧ w'.rangeAt T5 33 (ptl y m)) := fun w' hb => (HS.out w' (Below.transS HQ.out.below hb)).2.2
    refine wp_region_noPanic ?_
    refine wp_region_held_drew (S := fun w' => w'.rangeAt T5 0 (ptl z n) ∧ w'.rangeAt T5 33 (ptl y m)) (by kernel_rfl) (HSQ.out wq.drew (Below.refl _ _).drew) (fun hHeld => ?_)
    have M0 : Hid (PzW wq wq.drew none none) := PzW.init wq
    generalize wq.drew = z0 at *
    refine wpT (i := 0) (oi := ⟨some 22, .indexAddr 46 (.tmp 5) (.const (.int .i64 0)), 0, _, _, none⟩) (v := ?_) rfl (by kernel_rfl) (fun _ _ _ h => h) (Or.inl ⟨by rfl, ?_⟩) (by assumption) ?_
    rotate_left
    ·intro wz hSw; (try dsimp only at hSw); go_simp; (try with_reducible rfl)
    try simp only [Act.put, sqA, sqB, sqC]
    refine wpT (i := 2) (oi := ⟨some 24, .indexAddr 46 (.tmp 5) (.const (.int .i64 1)), 0, _, _, none⟩) (v := ?_) rfl (by kernel_rfl) (fun _ _ _ h => h) (Or.inl ⟨by rfl, ?_⟩) (by assumption) ?_
    rotate_left
    ·intro wz hSw; (try dsimp only at hSw); go_simp; (try with_reducible rfl)
    try simp only [Act.put, sqA, sqB, sqC]
    refine wpAnyH_take (i := 1) (oi := ⟨some 23, .load 45 (.tmp 22), 45, _, _, none⟩) rfl (by kernel_rfl) (by kernel_rfl) (by kernel_rfl) (fun _ _ _ h => h) (yieldsIf_load_mid (by rfl) _ _ rfl T5 0 rfl (ptl z n) _ (fun _ h => h.1) Tryz.underlying45 rfl (szPtS _ _)) (by assumption) ?_
    try simp only [Act.put, sqA, sqB, sqC]
    refine wpAnyH_take (i := 3) (oi := ⟨some 25, .load 45 (.tmp 24), 45, _, _, none⟩) rfl (by kernel_rfl) (by kernel_rfl) (by kernel_rfl) (fun _ _ _ h => h) (yieldsIf_load_mid (by rfl) _ _ rfl T5 33 rfl (ptl y m) _ (fun _ h => h.2) Tryz.underlying45 rfl (szPtS _ _)) (by assumption) ?_
    try simp only [Act.put, sqA, sqB, sqC]
    refine name_any (fun G toG ofG => ?_)
    have sp_11 : ∀ (C D : Nat) (w1 : World), PzW wq w1 (some C) (some D) → G 2 #[true, true, true, true, true, true, false, false] { tmps := #[.agg (txv t.lk t.ia t.n t.ic t.oa t.m t.oc), .agg (txv u.lk u.ia u.n u.ic u.oa u.m u.oc), .agg (ppv z n y m), .pointer (some ⟨w.heap.size, 0, none⟩), .pointer (some ⟨T4, 0, none⟩), .pointer (some ⟨T5, 0, none⟩), .bool false, .pointer (some ⟨A, 0, none⟩), .pointer (some ⟨B, 0, none⟩), .pointer (some ⟨C, 0, none⟩), .pointer (some ⟨D, 0, none⟩), u11, u12, u13, u14, u15, u16, u17, u18, u19, u20, u21, .pointer (some ⟨T5, 0, none⟩), .agg (ptl z n).toArray, .pointer (some ⟨T5, 33, none⟩), .agg (ptl y m).toArray, u26, u27, u28, u29, u30, u31, u32, u33, u34, u35, u36, u37, u38, u39, u40, u41, u42, u43, u44, u45, u46, u47, u48, u49, u50, u51, u52, u53, u54, u55, u56, u57, u58, u59, u60, u61, u62, u63, u64, u65, u66, u67, u68, u69, u70, u71, u72, u73, u74, u75, u76, u77, u78, u79], defers := [] } w1 := by
     intro C D w1 M
     have M := hidV M
     refine toG _ _ _ _ ?_
     refine wpAnyH_ready (rs := [6]) (by kernel_rfl) (by simp) ?_
     refine (AllReadyH.cons (o := ⟨none, .store 47 (.tmp 9) (.tmp 23), 0, _, _, none⟩) rfl (fun K hK => ?_) AllReadyH.nil)
     refine step_storePP rfl _ _ rfl C rfl z n rfl (M.out.bx C (.inl rfl)).1 ?_
     intro y1 hg1 hf1
     have hb1 : Below wq.heap.size wq y1 := M.out.below.trans (hf1.below M.out.below.size (by have := (M.out.bx C (.inl rfl)).2; simp; omega))
     refine hK.out _ _ (HSQ.out y1 hb1) (fun _ => ?_)
     clear hK K
     try simp only [Act.put]
     refine wpAnyH_ready (rs := [7]) (by kernel_rfl) (by simp) ?_
     refine (AllReadyH.cons (o := ⟨none, .store 47 (.tmp 10) (.tmp 25), 0, _, _, none⟩) rfl (fun K hK => ?_) AllReadyH.nil)
     refine step_storePP rfl _ _ rfl D rfl y m rfl (hf1.heap (M.out.bx D (.inr rfl)).1 (by have := M.out.ab C D rfl rfl; simp; omega)) ?_
     intro y2 hg2 hf2
     have hb2 : Below wq.heap.size wq y2 := hb1.trans (hf2.below hb1.size (by have := (M.out.bx D (.inr rfl)).2; simp; omega))
     refine hK.out _ _ (HSQ.out y2 hb2) (fun _ => ?_)
     clear hK K
     try simp only [Act.put]
     have HZ := hidV (M.out.stored hg1 hf1 hg2 hf2)
     clear hg1 hf1 hg2 hf2 hb1 hb2 M toG ofG
     refine wpAnyH_done (by kernel_rfl) (NoPanic.normal ?_) _
     try simp only [Act.put, sqA, sqB, sqC]
     clear hHeld
     go_wp2
     go_meet
     case rel => exact ⟨C, D, rfl, rfl, HZ.out⟩
    have sp_01 : ∀ (D : Nat) (w1 : World), PzW wq w1 none (some D) → G 3 #[true, true, true, true, false, true, false, false] { tmps := #[.agg (txv t.lk t.ia t.n t.ic t.oa t.m t.oc), .agg (txv u.lk u.ia u.n u.ic u.oa u.m u.oc), .agg (ppv z n y m), .pointer (some ⟨w.heap.size, 0, none⟩), .pointer (some ⟨T4, 0, none⟩), .pointer (some ⟨T5, 0, none⟩), .bool false, .pointer (some ⟨A, 0, none⟩), .pointer (some ⟨B, 0, none⟩), undef, .pointer (some ⟨D, 0, none⟩), u11, u12, u13, u14, u15, u16, u17, u18, u19, u20, u21, .pointer (some ⟨T5, 0, none⟩), .agg (ptl z n).toArray, .pointer (some ⟨T5, 33, none⟩), .agg (ptl y m).toArray, u26, u27, u28, u29, u30, u31, u32, u33, u34, u35, u36, u37, u38, u39, u40, u41, u42, u43, u44, u45, u46, u47, u48, u49, u50, u51, u52, u53, u54, u55, u56, u57, u58, u59, u60, u61, u62, u63, u64, u65, u66, u67, u68, u69, u70, u71, u72, u73, u74, u75, u76, u77, u78, u79], defers := [] } w1 := by
     intro D w1 M
     have M := hidV M
     refine toG _ _ _ _ ?_
     refine wpAnyH_ready (rs := [4]) (by kernel_rfl) (by simp) ?_
     refine (AllReadyH.cons (o := ⟨some 9, .alloc 47, 0, _, _, none⟩) rfl (fun K hK => ?_) AllReadyH.nil)
     refine step_allocPP rfl rfl ?_
     intro k w2 hk hl hb
     have M2 := M.out.newA hk hl hb
     refine hK.out _ _ (HSQ.out w2 M2.below) (fun _ => ?_)
     clear hK K
     try simp only [Act.put, sqA, sqB, sqC]
     exact ofG _ _ _ _ (sp_11 k D w2 M2)
    have sp_10 : ∀ (C : Nat) (w1 : World), PzW wq w1 (some C) none → G 3 #[true, true, true, true, true, false, false, false] { tmps := #[.agg (txv t.lk t.ia t.n t.ic t.oa t.m t.oc), .agg (txv u.lk u.ia u.n u.ic u.oa u.m u.oc), .agg (ppv z n y m), .pointer (some ⟨w.heap.size, 0, none⟩), .pointer (some ⟨T4, 0, none⟩), .pointer (some ⟨T5, 0, none⟩), .bool false, .pointer (some ⟨A, 0, none⟩), .pointer (some ⟨B, 0, none⟩), .pointer (some ⟨C, 0, none⟩), undef, u11, u12, u13, u14, u15, u16, u17, u18, u19, u20, u21, .pointer (some ⟨T5, 0, none⟩), .agg (ptl z n).toArray, .pointer (some ⟨T5, 33, none⟩), .agg (ptl y m).toArray, u26, u27, u28, u29, u30, u31, u32, u33, u34, u35, u36, u37, u38, u39, u40, u41, u42, u43, u44, u45, u46, u47, u48, u49, u50, u51, u52, u53, u54, u55, u56, u57, u58, u59, u60, u61, u62, u63, u64, u65, u66, u67, u68, u69, u70, u71, u72, u73, u74, u75, u76, u77, u78, u79], defers := [] } w1 := by
     intro C w1 M
     have M := hidV M
     refine toG _ _ _ _ ?_
     refine wpAnyH_ready (rs := [5]) (by kernel_rfl) (by simp) ?_
     refine (AllReadyH.cons (o := ⟨some 10, .alloc 47, 0, _, _, none⟩) rfl (fun K hK => ?_) AllReadyH.nil)
     refine step_allocPP rfl rfl ?_
     intro k w2 hk hl hb
     have M2 := M.out.newB hk hl hb
     refine hK.out _ _ (HSQ.out w2 M2.below) (fun _ => ?_)
     clear hK K
     try simp only [Act.put, sqA, sqB, sqC]
     exact ofG _ _ _ _ (sp_11 C k w2 M2)
    have sp_00 : ∀ (w1 : World), PzW wq w1 none none → G 4 #[true, true, true, true, false, false, false, false] { tmps := #[.agg (txv t.lk t.ia t.n t.ic t.oa t.m t.oc), .agg (txv u.lk u.ia u.n u.ic u.oa u.m u.oc), .agg (ppv z n y m), .pointer (some ⟨w.heap.size, 0, none⟩), .pointer (some ⟨T4, 0, none⟩), .pointer (some ⟨T5, 0, none⟩), .bool false, .pointer (some ⟨A, 0, none⟩), .pointer (some ⟨B, 0, none⟩), undef, undef, u11, u12, u13, u14, u15, u16, u17, u18, u19, u20, u21, .pointer (some ⟨T5, 0, none⟩), .agg (ptl z n).toArray, .pointer (some ⟨T5, 33, none⟩), .agg (ptl y m).toArray, u26, u27, u28, u29, u30, u31, u32, u33, u34, u35, u36, u37, u38, u39, u40, u41, u42, u43, u44, u45, u46, u47, u48, u49, u50, u51, u52, u53, u54, u55, u56, u57, u58, u59, u60, u61, u62, u63, u64, u65, u66, u67, u68, u69, u70, u71, u72, u73, u74, u75, u76, u77, u78, u79], defers := [] } w1 := by
     intro  w1 M
     have M := hidV M
     refine toG _ _ _ _ ?_
     refine wpAnyH_ready (rs := [4, 5]) (by kernel_rfl) (by simp) ?_
     refine (AllReadyH.cons (o := ⟨some 9, .alloc 47, 0, _, _, none⟩) rfl (fun K hK => ?_) (AllReadyH.cons (o := ⟨some 10, .alloc 47, 0, _, _, none⟩) rfl (fun K hK => ?_) AllReadyH.nil))
     ·refine step_allocPP rfl rfl ?_
      intro k w2 hk hl hb
      have M2 := M.out.newA hk hl hb
      refine hK.out _ _ (HSQ.out w2 M2.below) (fun _ => ?_)
      clear hK K
      try simp only [Act.put, sqA, sqB, sqC]
      exact ofG _ _ _ _ (sp_10 k w2 M2)
     ·refine step_allocPP rfl rfl ?_
      intro k w2 hk hl hb
      have M2 := M.out.newB hk hl hb
      refine hK.out _ _ (HSQ.out w2 M2.below) (fun _ => ?_)
      clear hK K
      try simp only [Act.put, sqA, sqB, sqC]
      exact ofG _ _ _ _ (sp_01 k w2 M2)
    exact sp_00 _ M0.out
   case rest =>
    obtain ⟨C, D, rfl, rfl, hbc, hc, hd⟩ := hcut
    have HR : Hid (PnR t u z n y m v5 wc w.heap.size T4 T5 A B C D p q) := by
     have hq := HQ.out.keep hbc
     obtain ⟨s1, s2, s3, s4⟩ := HS.out wc hq.below
     exact ⟨hq.below, s1, s2, s3, s4, hq.pa, hq.pb, hc, hd, hq.xa, hq.xb⟩
    clear HQ hbc hc hd
    go_upto_region 5 with fail
    refine wp_region_noPanic ?_
    refine wp_region_held_drew (S := fun w' => PnR t u z n y m v5 w' w.heap.size T4 T5 A B C D p q) (by kernel_rfl) (HR.out.keep (Below.refl _ _).drew) (fun hHeld => ?_)
    have M0 := hidV (HR.out.keep (Below.refl wc.heap.size wc).drew)
    clear HR
    generalize wc.drew = z0 at *
    obtain ⟨b1, hb1⟩ : ∃ b, spB t.X t.n z n = b := ⟨_, rfl⟩
    obtain ⟨b2, hb2⟩ : ∃ b, clB t.X t.n u.X u.n = b := ⟨_, rfl⟩
    obtain ⟨b3, hb3⟩ : ∃ b, lessB z n y m = b := ⟨_, rfl⟩
    obtain ⟨R, hR⟩ : ∃ R, sumF (nb (idB t.lk t.n t.X t.Z t.m t.O)) = R := ⟨_, rfl⟩
    have HB1 := hidV hb1
    have HB2 := hidV hb2
    have HB2' : Hid (clB u.X u.n t.X t.n = b2) := by show _ = _; rw [clB_comm]; exact hb2
    have HB3 := hidV hb3
    have HRE := hidV hR
    have HRB : Hid (Hb (sZ R)) := by show Hb (sZ R); rw [← hR]; exact sZ_bd _
    have HRL : Hid (R.length = 32) := by show _ = _; rw [← hR]; exact endL_len _
    clear hb1 hb2 hb3 hR
    have HFT : Hid (∀ i, i < t.m → (t.O i).cn ≤ 1000 ∧ ∀ j, j < (t.O i).cn → ((t.O i).X j).n ≤ 1048576) := fun i hi => ⟨by have := HN1.out.cn i hi; omega, (HI.out.1.bo i hi).2⟩
    refine wpAnyH_take (i := 0) (oi := ⟨some 26, .load 35 (.tmp 7), 35, _, _, none⟩) rfl (by kernel_rfl) (by kernel_rfl) (by kernel_rfl) (fun _ _ _ h => h) (yieldsIf_load_mid (by rfl) _ _ rfl A 0 rfl (txl t.lk p.ia t.n p.ic p.oa t.m p.oc) _ (fun _ h => h.a) Tryz.underlying35 rfl szTx) (by assumption) ?_
    try simp only [Act.put, sqA, sqB, sqC]
    refine wpAnyH_take (i := 1) (oi := ⟨some 27, .load 47 (.tmp 9), 47, _, _, none⟩) rfl (by kernel_rfl) (by kernel_rfl) (by kernel_rfl) (fun _ _ _ h => h) (yieldsIf_load_mid (by rfl) _ _ rfl C 0 rfl (ptl z n) _ (fun _ h => h.c) Tryz.underlying47 rfl (szPtl _ _)) (by assumption) ?_
    try simp only [Act.put, sqA, sqB, sqC]
    refine wpAnyH_take (i := 3) (oi := ⟨some 29, .load 25 (.tmp 3), 25, _, _, none⟩) rfl (by kernel_rfl) (by kernel_rfl) (by kernel_rfl) (fun _ _ _ h => h) (yieldsIf_load_mid (by rfl) _ _ rfl w.heap.size 0 rfl (txl t.lk t.ia t.n t.ic t.oa t.m t.oc) _ (fun _ h => h.r3) Tryz.underlying25 rfl szTxr) (by assumption) ?_
    try simp only [Act.put, sqA, sqB, sqC]
    refine wpT (i := 4) (oi := ⟨some 30, .indexAddr 46 (.tmp 5) (.const (.int .i64 0)), 0, _, _, none⟩) (v := ?_) rfl (by kernel_rfl) (fun _ _ _ h => h) (Or.inl ⟨by rfl, ?_⟩) (by assumption) ?_
    rotate_left
    ·intro wz hSw; (try dsimp only at hSw); go_simp; (try with_reducible rfl)
    try simp only [Act.put, sqA, sqB, sqC]
    refine wpAnyH_take (i := 5) (oi := ⟨some 31, .load 45 (.tmp 30), 45, _, _, none⟩) rfl (by kernel_rfl) (by kernel_rfl) (by kernel_rfl) (fun _ _ _ h => h) (yieldsIf_load_mid (by rfl) _ _ rfl T5 0 rfl (ptl z n) _ (fun _ h => h.r5) Tryz.underlying45 rfl (szPtS _ _)) (by assumption) ?_
    try simp only [Act.put, sqA, sqB, sqC]
    refine wpAnyH_ready (rs := [2]) (by kernel_rfl) (by simp) ?_
    refine (AllReadyH.cons (o := ⟨some 28, .call { callee := Go.Callee.value (.func 14), args := #[.tmp 26, .tmp 27], argTypes := #[35, 47] }, 4, _, _, none⟩) rfl (fun K hK => ?_) AllReadyH.nil)
    go_simp
    have hk := kspends_any t.lk p.ia t.n p.ic p.oa t.m p.oc t.X p.S z n z0 M0.out.xa.ti (by omega) HI.out.1.ib HI.out.2.2.1.1 HI.out.2.2.1.2
    rw [HB1.out] at hk
    refine hk.mono ?_
    rintro e z1 ⟨rfl, hb⟩
    have M1 := hidV (M0.out.keep hb)
    clear hb hk M0
    refine hK.out _ _ M1.out (fun _ => ?_)
    clear hK K
    try simp only [List.setIfInBounds_toArray, List.set_cons_zero, List.set_cons_succ]
    refine wpAnyH_ready (rs := [6]) (by kernel_rfl) (by simp) ?_
    refine (AllReadyH.cons (o := ⟨some 32, .call { callee := Go.Callee.value (.func 15), args := #[.tmp 29, .tmp 31], argTypes := #[25, 45] }, 4, _, _, none⟩) rfl (fun K hK => ?_) AllReadyH.nil)
    go_simp
    have hk := rspends_any t.lk t.ia t.n t.ic t.oa t.m t.oc t.X S1 z n z1 (HA.out z1 (HW.out z1 M1.out.below)).1 (by omega) HI.out.1.ib HI.out.2.2.1.1 HI.out.2.2.1.2
    rw [HB1.out] at hk
    refine hk.mono ?_
    rintro e z2 ⟨rfl, hb⟩
    have M2 := hidV (M1.out.keep hb)
    clear hb hk M1
    refine hK.out _ _ M2.out (fun _ => ?_)
    clear hK K
    try simp only [List.setIfInBounds_toArray, List.set_cons_zero, List.set_cons_succ]
    refine wpT (i := 7) (oi := ⟨some 33, .binOp .eql 4 (.tmp 28) (.tmp 32) 4, 4, _, _, none⟩) (v := .bool true) rfl (by kernel_rfl) (fun _ _ _ h => h) (Or.inl ⟨by rfl, ?_⟩) (by assumption) ?_
    ·intro wz hSw; (try dsimp only at hSw); go_simp; try simp
    try simp only [Act.put, sqA, sqB, sqC]
    refine wpT (i := 8) (oi := ⟨some 34, .move (.tmp 33), 4, _, _, none⟩) (v := ?_) rfl (by kernel_rfl) (fun _ _ _ h => h) (Or.inl ⟨by rfl, ?_⟩) (by assumption) ?_
    rotate_left
    ·intro wz hSw; (try dsimp only at hSw); go_simp; (try with_reducible rfl)
    try simp only [Act.put, sqA, sqB, sqC]
    refine wpAnyH_take (i := 9) (oi := ⟨some 35, .load 35 (.tmp 7), 35, _, _, some (8, true)⟩) rfl (by kernel_rfl) (by kernel_rfl) (by kernel_rfl) (fun _ _ _ h => h) (yieldsIf_load_mid (by rfl) _ _ rfl A 0 rfl (txl t.lk p.ia t.n p.ic p.oa t.m p.oc) _ (fun _ h => h.a) Tryz.underlying35 rfl szTx) (by assumption) ?_
    try simp only [Act.put, sqA, sqB, sqC]
    refine wpAnyH_take (i := 10) (oi := ⟨some 36, .load 35 (.tmp 8), 35, _, _, some (8, true)⟩) rfl (by kernel_rfl) (by kernel_rfl) (by kernel_rfl) (fun _ _ _ h => h) (yieldsIf_load_mid (by rfl) _ _ rfl B 0 rfl (txl u.lk q.ia u.n q.ic q.oa u.m q.oc) _ (fun _ h => h.b) Tryz.underlying35 rfl szTx) (by assumption) ?_
    try simp only [Act.put, sqA, sqB, sqC]
    refine wpAnyH_take (i := 12) (oi := ⟨some 38, .load 25 (.tmp 3), 25, _, _, some (8, true)⟩) rfl (by kernel_rfl) (by kernel_rfl) (by kernel_rfl) (fun _ _ _ h => h) (yieldsIf_load_mid (by rfl) _ _ rfl w.heap.size 0 rfl (txl t.lk t.ia t.n t.ic t.oa t.m t.oc) _ (fun _ h => h.r3) Tryz.underlying25 rfl szTxr) (by assumption) ?_
    try simp only [Act.put, sqA, sqB, sqC]
    refine wpAnyH_take (i := 13) (oi := ⟨some 39, .load 25 (.tmp 4), 25, _, _, some (8, true)⟩) rfl (by kernel_rfl) (by kernel_rfl) (by kernel_rfl) (fun _ _ _ h => h) (yieldsIf_load_mid (by rfl) _ _ rfl T4 0 rfl (txl u.lk u.ia u.n u.ic u.oa u.m u.oc) _ (fun _ h => h.r4) Tryz.underlying25 rfl szTxr) (by assumption) ?_
    try simp only [Act.put, sqA, sqB, sqC]
    refine wpAnyH_ready (rs := [11]) (by kernel_rfl) (by simp) ?_
    refine (AllReadyH.cons (o := ⟨some 37, .call { callee := Go.Callee.value (.func 16), args := #[.tmp 35, .tmp 36], argTypes := #[35, 35] }, 4, _, _, some (8, true)⟩) rfl (fun K hK => ?_) AllReadyH.nil)
    go_simp
    have hk := kclash_any t.lk p.ia t.n p.ic p.oa t.m p.oc t.X p.S u.lk q.ia u.n q.ic q.oa u.m q.oc u.X q.S z2 M2.out.xa.ti M2.out.xb.ti (by omega) (by omega) HI.out.1.ib HI.out.2.1.ib
    rw [HB2.out] at hk
    refine hk.mono ?_
    rintro e z3 ⟨rfl, hb⟩
    have M3 := hidV (M2.out.keep hb)
    clear hb hk M2
    refine hK.out _ _ M3.out (fun _ => ?_)
    clear hK K
    try simp only [List.setIfInBounds_toArray, List.set_cons_zero, List.set_cons_succ]
    refine wpAnyH_ready (rs := [14]) (by kernel_rfl) (by simp) ?_
    refine (AllReadyH.cons (o := ⟨some 40, .call { callee := Go.Callee.value (.func 17), args := #[.tmp 38, .tmp 39], argTypes := #[25, 25] }, 4, _, _, some (8, true)⟩) rfl (fun K hK => ?_) AllReadyH.nil)
    go_simp
    have hk := rclash_any t.lk t.ia t.n t.ic t.oa t.m t.oc t.X S1 u.lk u.ia u.n u.ic u.oa u.m u.oc u.X S2 z3 (HA.out z3 (HW.out z3 M3.out.below)).1 (HB.out z3 (HW.out z3 M3.out.below)).1 (by omega) (by omega) HI.out.1.ib HI.out.2.1.ib
    rw [HB2.out] at hk
    refine hk.mono ?_
    rintro e z4 ⟨rfl, hb⟩
    have M4 := hidV (M3.out.keep hb)
    clear hb hk M3
    refine hK.out _ _ M4.out (fun _ => ?_)
    clear hK K
    try simp only [List.setIfInBounds_toArray, List.set_cons_zero, List.set_cons_succ]
    refine wpT (i := 15) (oi := ⟨some 41, .binOp .eql 4 (.tmp 37) (.tmp 40) 4, 4, _, _, some (8, true)⟩) (v := .bool true) rfl (by kernel_rfl) (fun _ _ _ h => h) (Or.inl ⟨by rfl, ?_⟩) (by assumption) ?_
    ·intro wz hSw; (try dsimp only at hSw); go_simp; try simp
    try simp only [Act.put, sqA, sqB, sqC]
    refine wpT (i := 16) (oi := ⟨some 42, .pick (.tmp 34) (.tmp 41) (.const (.bool false)), 4, _, _, none⟩) (v := ?_) rfl (by kernel_rfl) (fun _ _ _ h => h) (Or.inl ⟨by rfl, ?_⟩) (by assumption) ?_
    rotate_left
    ·intro wz hSw; (try dsimp only at hSw); go_simp; (try with_reducible rfl)
    try simp only [Act.put, sqA, sqB, sqC]
    refine wpT (i := 17) (oi := ⟨some 43, .move (.tmp 42), 4, _, _, none⟩) (v := ?_) rfl (by kernel_rfl) (fun _ _ _ h => h) (Or.inl ⟨by rfl, ?_⟩) (by assumption) ?_
    rotate_left
    ·intro wz hSw; (try dsimp only at hSw); go_simp; (try with_reducible rfl)
    try simp only [Act.put, sqA, sqB, sqC]
    refine wpAnyH_take (i := 18) (oi := ⟨some 44, .load 35 (.tmp 8), 35, _, _, some (17, true)⟩) rfl (by kernel_rfl) (by kernel_rfl) (by kernel_rfl) (fun _ _ _ h => h) (yieldsIf_load_mid (by rfl) _ _ rfl B 0 rfl (txl u.lk q.ia u.n q.ic q.oa u.m q.oc) _ (fun _ h => h.b) Tryz.underlying35 rfl szTx) (by assumption) ?_
    try simp only [Act.put, sqA, sqB, sqC]
    refine wpAnyH_take (i := 19) (oi := ⟨some 45, .load 35 (.tmp 7), 35, _, _, some (17, true)⟩) rfl (by kernel_rfl) (by kernel_rfl) (by kernel_rfl) (fun _ _ _ h => h) (yieldsIf_load_mid (by rfl) _ _ rfl A 0 rfl (txl t.lk p.ia t.n p.ic p.oa t.m p.oc) _ (fun _ h => h.a) Tryz.underlying35 rfl szTx) (by assumption) ?_
    try simp only [Act.put, sqA, sqB, sqC]
    refine wpAnyH_take (i := 21) (oi := ⟨some 47, .load 35 (.tmp 7), 35, _, _, some (17, true)⟩) rfl (by kernel_rfl) (by kernel_rfl) (by kernel_rfl) (fun _ _ _ h => h) (yieldsIf_load_mid (by rfl) _ _ rfl A 0 rfl (txl t.lk p.ia t.n p.ic p.oa t.m p.oc) _ (fun _ h => h.a) Tryz.underlying35 rfl szTx) (by assumption) ?_
    try simp only [Act.put, sqA, sqB, sqC]
    refine wpAnyH_take (i := 22) (oi := ⟨some 48, .load 35 (.tmp 8), 35, _, _, some (17, true)⟩) rfl (by kernel_rfl) (by kernel_rfl) (by kernel_rfl) (fun _ _ _ h => h) (yieldsIf_load_mid (by rfl) _ _ rfl B 0 rfl (txl u.lk q.ia u.n q.ic q.oa u.m q.oc) _ (fun _ h => h.b) Tryz.underlying35 rfl szTx) (by assumption) ?_
    try simp only [Act.put, sqA, sqB, sqC]
    refine wpAnyH_ready (rs := [20]) (by kernel_rfl) (by simp) ?_
    refine (AllReadyH.cons (o := ⟨some 46, .call { callee := Go.Callee.value (.func 16), args := #[.tmp 44, .tmp 45], argTypes := #[35, 35] }, 4, _, _, some (17, true)⟩) rfl (fun K hK => ?_) AllReadyH.nil)
    go_simp
    have hk := kclash_any u.lk q.ia u.n q.ic q.oa u.m q.oc u.X q.S t.lk p.ia t.n p.ic p.oa t.m p.oc t.X p.S z4 M4.out.xb.ti M4.out.xa.ti (by omega) (by omega) HI.out.2.1.ib HI.out.1.ib
    rw [HB2'.out] at hk
    refine hk.mono ?_
    rintro e z5 ⟨rfl, hb⟩
    have M5 := hidV (M4.out.keep hb)
    clear hb hk M4
    refine hK.out _ _ M5.out (fun _ => ?_)
    clear hK K
    try simp only [List.setIfInBounds_toArray, List.set_cons_zero, List.set_cons_succ]
    refine wpAnyH_ready (rs := [23]) (by kernel_rfl) (by simp) ?_
    refine (AllReadyH.cons (o := ⟨some 49, .call { callee := Go.Callee.value (.func 16), args := #[.tmp 47, .tmp 48], argTypes := #[35, 35] }, 4, _, _, some (17, true)⟩) rfl (fun K hK => ?_) AllReadyH.nil)
    go_simp
    have hk := kclash_any t.lk p.ia t.n p.ic p.oa t.m p.oc t.X p.S u.lk q.ia u.n q.ic q.oa u.m q.oc u.X q.S z5 M5.out.xa.ti M5.out.xb.ti (by omega) (by omega) HI.out.1.ib HI.out.2.1.ib
    rw [HB2.out] at hk
    refine hk.mono ?_
    rintro e z6 ⟨rfl, hb⟩
    have M6 := hidV (M5.out.keep hb)
    clear hb hk M5
    refine hK.out _ _ M6.out (fun _ => ?_)
    clear hK K
    try simp only [List.setIfInBounds_toArray, List.set_cons_zero, List.set_cons_succ]
    refine wpT (i := 24) (oi := ⟨some 50, .binOp .eql 4 (.tmp 46) (.tmp 49) 4, 4, _, _, some (17, true)⟩) (v := .bool true) rfl (by kernel_rfl) (fun _ _ _ h => h) (Or.inl ⟨by rfl, ?_⟩) (by assumption) ?_
    ·intro wz hSw; (try dsimp only at hSw); go_simp; try simp
    try simp only [Act.put, sqA, sqB, sqC]
    refine wpT (i := 25) (oi := ⟨some 51, .pick (.tmp 43) (.tmp 50) (.const (.bool false)), 4, _, _, none⟩) (v := ?_) rfl (by kernel_rfl) (fun _ _ _ h => h) (Or.inl ⟨by rfl, ?_⟩) (by assumption) ?_
    rotate_left
    ·intro wz hSw; (try dsimp only at hSw); go_simp; (try with_reducible rfl)
    try simp only [Act.put, sqA, sqB, sqC]
    refine wpT (i := 26) (oi := ⟨some 52, .move (.tmp 51), 4, _, _, none⟩) (v := ?_) rfl (by kernel_rfl) (fun _ _ _ h => h) (Or.inl ⟨by rfl, ?_⟩) (by assumption) ?_
    rotate_left
    ·intro wz hSw; (try dsimp only at hSw); go_simp; (try with_reducible rfl)
    try simp only [Act.put, sqA, sqB, sqC]
    refine wpAnyH_take (i := 27) (oi := ⟨some 53, .load 47 (.tmp 9), 47, _, _, some (26, true)⟩) rfl (by kernel_rfl) (by kernel_rfl) (by kernel_rfl) (fun _ _ _ h => h) (yieldsIf_load_mid (by rfl) _ _ rfl C 0 rfl (ptl z n) _ (fun _ h => h.c) Tryz.underlying47 rfl (szPtl _ _)) (by assumption) ?_
    try simp only [Act.put, sqA, sqB, sqC]
    refine wpAnyH_take (i := 28) (oi := ⟨some 54, .load 47 (.tmp 10), 47, _, _, some (26, true)⟩) rfl (by kernel_rfl) (by kernel_rfl) (by kernel_rfl) (fun _ _ _ h => h) (yieldsIf_load_mid (by rfl) _ _ rfl D 0 rfl (ptl y m) _ (fun _ h => h.d) Tryz.underlying47 rfl (szPtl _ _)) (by assumption) ?_
    try simp only [Act.put, sqA, sqB, sqC]
    refine wpT (i := 30) (oi := ⟨some 56, .indexAddr 46 (.tmp 5) (.const (.int .i64 0)), 0, _, _, some (26, true)⟩) (v := ?_) rfl (by kernel_rfl) (fun _ _ _ h => h) (Or.inl ⟨by rfl, ?_⟩) (by assumption) ?_
    rotate_left
    ·intro wz hSw; (try dsimp only at hSw); go_simp; (try with_reducible rfl)
    try simp only [Act.put, sqA, sqB, sqC]
    refine wpAnyH_take (i := 31) (oi := ⟨some 57, .load 45 (.tmp 56), 45, _, _, some (26, true)⟩) rfl (by kernel_rfl) (by kernel_rfl) (by kernel_rfl) (fun _ _ _ h => h) (yieldsIf_load_mid (by rfl) _ _ rfl T5 0 rfl (ptl z n) _ (fun _ h => h.r5) Tryz.underlying45 rfl (szPtS _ _)) (by assumption) ?_
    try simp only [Act.put, sqA, sqB, sqC]
    refine wpT (i := 32) (oi := ⟨some 58, .indexAddr 46 (.tmp 5) (.const (.int .i64 1)), 0, _, _, some (26, true)⟩) (v := ?_) rfl (by kernel_rfl) (fun _ _ _ h => h) (Or.inl ⟨by rfl, ?_⟩) (by assumption) ?_
    rotate_left
    ·intro wz hSw; (try dsimp only at hSw); go_simp; (try with_reducible rfl)
    try simp only [Act.put, sqA, sqB, sqC]
    refine wpAnyH_take (i := 33) (oi := ⟨some 59, .load 45 (.tmp 58), 45, _, _, some (26, true)⟩) rfl (by kernel_rfl) (by kernel_rfl) (by kernel_rfl) (fun _ _ _ h => h) (yieldsIf_load_mid (by rfl) _ _ rfl T5 33 rfl (ptl y m) _ (fun _ h => h.r6) Tryz.underlying45 rfl (szPtS _ _)) (by assumption) ?_
    try simp only [Act.put, sqA, sqB, sqC]
    refine wpAnyH_ready (rs := [29]) (by kernel_rfl) (by simp) ?_
    refine (AllReadyH.cons (o := ⟨some 55, .call { callee := Go.Callee.value (.func 18), args := #[.tmp 53, .tmp 54], argTypes := #[47, 47] }, 4, _, _, some (26, true)⟩) rfl (fun K hK => ?_) AllReadyH.nil)
    go_simp
    have hk := kless_any z n y m z6 HI.out.2.2.1.1 HI.out.2.2.2.1
    rw [HB3.out] at hk
    refine hk.mono ?_
    rintro e z7 ⟨rfl, hb⟩
    have M7 := hidV (M6.out.keep hb)
    clear hb hk M6
    refine hK.out _ _ M7.out (fun _ => ?_)
    clear hK K
    try simp only [List.setIfInBounds_toArray, List.set_cons_zero, List.set_cons_succ]
    refine wpAnyH_ready (rs := [34]) (by kernel_rfl) (by simp) ?_
    refine (AllReadyH.cons (o := ⟨some 60, .call { callee := Go.Callee.value (.func 19), args := #[.tmp 57, .tmp 59], argTypes := #[45, 45] }, 4, _, _, some (26, true)⟩) rfl (fun K hK => ?_) AllReadyH.nil)
    go_simp
    have hk := rless_any z n y m z7 HI.out.2.2.1.1 HI.out.2.2.2.1
    rw [HB3.out] at hk
    refine hk.mono ?_
    rintro e z8 ⟨rfl, hb⟩
    have M8 := hidV (M7.out.keep hb)
    clear hb hk M7
    refine hK.out _ _ M8.out (fun _ => ?_)
    clear hK K
    try simp only [List.setIfInBounds_toArray, List.set_cons_zero, List.set_cons_succ]
    refine wpT (i := 35) (oi := ⟨some 61, .binOp .eql 4 (.tmp 55) (.tmp 60) 4, 4, _, _, some (26, true)⟩) (v := .bool true) rfl (by kernel_rfl) (fun _ _ _ h => h) (Or.inl ⟨by rfl, ?_⟩) (by assumption) ?_
    ·intro wz hSw; (try dsimp only at hSw); go_simp; try simp
    try simp only [Act.put, sqA, sqB, sqC]
    refine wpT (i := 36) (oi := ⟨some 62, .pick (.tmp 52) (.tmp 61) (.const (.bool false)), 4, _, _, none⟩) (v := ?_) rfl (by kernel_rfl) (fun _ _ _ h => h) (Or.inl ⟨by rfl, ?_⟩) (by assumption) ?_
    rotate_left
    ·intro wz hSw; (try dsimp only at hSw); go_simp; (try with_reducible rfl)
    try simp only [Act.put, sqA, sqB, sqC]
    refine wpT (i := 37) (oi := ⟨some 63, .move (.tmp 62), 4, _, _, none⟩) (v := ?_) rfl (by kernel_rfl) (fun _ _ _ h => h) (Or.inl ⟨by rfl, ?_⟩) (by assumption) ?_
    rotate_left
    ·intro wz hSw; (try dsimp only at hSw); go_simp; (try with_reducible rfl)
    try simp only [Act.put, sqA, sqB, sqC]
    refine wpAnyH_take (i := 38) (oi := ⟨some 64, .load 35 (.tmp 7), 35, _, _, some (37, true)⟩) rfl (by kernel_rfl) (by kernel_rfl) (by kernel_rfl) (fun _ _ _ h => h) (yieldsIf_load_mid (by rfl) _ _ rfl A 0 rfl (txl t.lk p.ia t.n p.ic p.oa t.m p.oc) _ (fun _ h => h.a) Tryz.underlying35 rfl szTx) (by assumption) ?_
    try simp only [Act.put, sqA, sqB, sqC]
    refine wpT (i := 39) (oi := ⟨some 65, .indexAddr 46 (.tmp 5) (.const (.int .i64 0)), 0, _, _, some (37, true)⟩) (v := ?_) rfl (by kernel_rfl) (fun _ _ _ h => h) (Or.inl ⟨by rfl, ?_⟩) (by assumption) ?_
    rotate_left
    ·intro wz hSw; (try dsimp only at hSw); go_simp; (try with_reducible rfl)
    try simp only [Act.put, sqA, sqB, sqC]
    refine wpT (i := 40) (oi := ⟨some 66, .fieldAddr 45 (.tmp 65) 1, 0, _, _, some (37, true)⟩) (v := ?_) rfl (by kernel_rfl) (fun _ _ _ h => h) (Or.inl ⟨by rfl, ?_⟩) (by assumption) ?_
    rotate_left
    ·intro wz hSw; (try dsimp only at hSw); go_simp; (try with_reducible rfl)
    try simp only [Act.put, sqA, sqB, sqC]
    refine wpT (i := 41) (oi := ⟨some 67, .load 3 (.tmp 66), 3, _, _, some (37, true)⟩) (v := .int .i64 n) rfl (by kernel_rfl) (fun _ _ _ h => h) (Or.inl ⟨by rfl, ?_⟩) (by assumption) ?_
    ·intro wz hSw; (try dsimp only at hSw); have h1 := num_cell hSw.r5; go_simp; try rfl
    try simp only [Act.put, sqA, sqB, sqC]
    refine wpAnyH_take (i := 43) (oi := ⟨some 69, .load 25 (.tmp 3), 25, _, _, some (37, true)⟩) rfl (by kernel_rfl) (by kernel_rfl) (by kernel_rfl) (fun _ _ _ h => h) (yieldsIf_load_mid (by rfl) _ _ rfl w.heap.size 0 rfl (txl t.lk t.ia t.n t.ic t.oa t.m t.oc) _ (fun _ h => h.r3) Tryz.underlying25 rfl szTxr) (by assumption) ?_
    try simp only [Act.put, sqA, sqB, sqC]
    refine wpT (i := 45) (oi := ⟨some 71, .indexAddr 46 (.tmp 5) (.const (.int .i64 0)), 0, _, _, some (37, true)⟩) (v := ?_) rfl (by kernel_rfl) (fun _ _ _ h => h) (Or.inl ⟨by rfl, ?_⟩) (by assumption) ?_
    rotate_left
    ·intro wz hSw; (try dsimp only at hSw); go_simp; (try with_reducible rfl)
    try simp only [Act.put, sqA, sqB, sqC]
    refine wpT (i := 46) (oi := ⟨some 72, .fieldAddr 45 (.tmp 71) 1, 0, _, _, some (37, true)⟩) (v := ?_) rfl (by kernel_rfl) (fun _ _ _ h => h) (Or.inl ⟨by rfl, ?_⟩) (by assumption) ?_
    rotate_left
    ·intro wz hSw; (try dsimp only at hSw); go_simp; (try with_reducible rfl)
    try simp only [Act.put, sqA, sqB, sqC]
    refine wpT (i := 47) (oi := ⟨some 73, .load 3 (.tmp 72), 3, _, _, some (37, true)⟩) (v := .int .i64 n) rfl (by kernel_rfl) (fun _ _ _ h => h) (Or.inl ⟨by rfl, ?_⟩) (by assumption) ?_
    ·intro wz hSw; (try dsimp only at hSw); have h1 := num_cell hSw.r5; go_simp; try rfl
    try simp only [Act.put, sqA, sqB, sqC]
    refine wpAnyH_ready (rs := [42]) (by kernel_rfl) (by simp) ?_
    refine (AllReadyH.cons (o := ⟨some 68, .call { callee := Go.Callee.value (.func 20), args := #[.tmp 64, .tmp 67], argTypes := #[35, 3] }, 47, _, _, some (37, true)⟩) rfl (fun K hK => ?_) AllReadyH.nil)
    go_simp
    have hk := kat_any t.lk p.ia t.n p.ic p.oa t.m p.oc t.X p.S t.Z t.O n z8 M8.out.xa.ti M8.out.xa.ou M8.out.xa.sc HFT.out (by omega) (by omega) (HF.out z8 (HW.out z8 M8.out.below)).2.1 (HF.out z8 (HW.out z8 M8.out.below)).2.2
    rw [HRE.out] at hk
    refine hk.mono ?_
    rintro e z9 ⟨rfl, hb⟩
    have M9 := hidV (M8.out.keep hb)
    clear hb hk M8
    refine hK.out _ _ M9.out (fun _ => ?_)
    clear hK K
    try simp only [List.setIfInBounds_toArray, List.set_cons_zero, List.set_cons_succ]
    refine wpAnyH_ready (rs := [44]) (by kernel_rfl) (by simp) ?_
    refine (AllReadyH.cons (o := ⟨some 70, .call { callee := Go.Callee.value (.func 21), args := #[.tmp 69], argTypes := #[25] }, 43, _, _, some (37, true)⟩) rfl (fun K hK => ?_) AllReadyH.nil)
    go_simp
    have hk := rid_any t.lk t.ia t.n t.ic t.oa t.m t.oc t.X S1 t.Z t.O z9 (HA.out z9 (HW.out z9 M9.out.below)).1 (HA.out z9 (HW.out z9 M9.out.below)).2.1 (fun i hi => ⟨(HA.out z9 (HW.out z9 M9.out.below)).2.2 i hi, (HLT.out.1 i hi).2⟩) HFT.out (by omega) (by omega)
    rw [HRE.out, sv_sZ HRL.out] at hk
    refine hk.mono ?_
    rintro e z10 ⟨rfl, hb⟩
    have M10 := hidV (M9.out.keep hb)
    clear hb hk M9
    refine hK.out _ _ M10.out (fun _ => ?_)
    clear hK K
    try simp only [List.setIfInBounds_toArray, List.set_cons_zero, List.set_cons_succ]
    refine wpT (i := 48) (oi := ⟨some 74, .build 47 #[(0, .tmp 70), (1, .tmp 73)], 47, _, _, some (37, true)⟩) (v := .agg (ptv (sZ R) n)) rfl (by kernel_rfl) (fun _ _ _ h => h) (Or.inl ⟨by rfl, ?_⟩) (by assumption) ?_
    ·intro wz hSw; (try dsimp only at hSw); kernel_rfl
    try simp only [Act.put, sqA, sqB, sqC]
    refine wpT (i := 49) (oi := ⟨some 75, .binOp .eql 47 (.tmp 68) (.tmp 74) 47, 4, _, _, some (37, true)⟩) (v := .bool true) rfl (by kernel_rfl) (fun _ _ _ h => h) (Or.inl ⟨by rfl, ?_⟩) (by assumption) ?_
    ·intro wz hSw; (try dsimp only at hSw); exact exec_eqPtO _ _ rfl HRB.out HRB.out HI.out.2.2.1.2 HI.out.2.2.1.2 true (by rw [hq_same]; simp) rfl rfl wz
    try simp only [Act.put, sqA, sqB, sqC]
    refine wpT (i := 50) (oi := ⟨some 76, .pick (.tmp 63) (.tmp 75) (.const (.bool false)), 4, _, _, none⟩) (v := ?_) rfl (by kernel_rfl) (fun _ _ _ h => h) (Or.inl ⟨by rfl, ?_⟩) (by assumption) ?_
    rotate_left
    ·intro wz hSw; (try dsimp only at hSw); go_simp; (try with_reducible rfl)
    try simp only [Act.put, sqA, sqB, sqC]
    refine wpT (i := 51) (oi := ⟨some 77, .move (.tmp 76), 4, _, _, none⟩) (v := ?_) rfl (by kernel_rfl) (fun _ _ _ h => h) (Or.inl ⟨by rfl, ?_⟩) (by assumption) ?_
    rotate_left
    ·intro wz hSw; (try dsimp only at hSw); go_simp; (try with_reducible rfl)
    try simp only [Act.put, sqA, sqB, sqC]
    refine wpAnyH_ready (rs := [52]) (by kernel_rfl) (by simp) ?_
    refine (AllReadyH.cons (o := ⟨some 78, .call { callee := Go.Callee.value (.func 7), args := #[], argTypes := #[] }, 4, _, _, some (51, true)⟩) rfl (fun K hK => ?_) AllReadyH.nil)
    go_simp
    have hk := HEND.out z10 (HW.out z10 M10.out.below)
    refine hk.mono ?_
    rintro e z11 ⟨rfl, hb⟩
    have M11 := hidV (M10.out.keep hb)
    clear hb hk M10
    refine hK.out _ _ M11.out (fun _ => ?_)
    clear hK K
    try simp only [List.setIfInBounds_toArray, List.set_cons_zero, List.set_cons_succ]
    refine wpT (i := 53) (oi := ⟨some 79, .pick (.tmp 77) (.tmp 78) (.const (.bool false)), 4, _, _, none⟩) (v := ?_) rfl (by kernel_rfl) (fun _ _ _ h => h) (Or.inl ⟨by rfl, ?_⟩) (by assumption) ?_
    rotate_left
    ·intro wz hSw; (try dsimp only at hSw); go_simp; (try with_reducible rfl)
    try simp only [Act.put, sqA, sqB, sqC]
    refine wpT (i := 54) (oi := ⟨some 6, .assign (.tmp 79), 4, _, _, none⟩) (v := ?_) rfl (by kernel_rfl) (fun _ _ _ h => h) (Or.inl ⟨by rfl, ?_⟩) (by assumption) ?_
    rotate_left
    ·intro wz hSw; (try dsimp only at hSw); go_simp; (try with_reducible rfl)
    try simp only [Act.put, sqA, sqB, sqC]
    refine wpAnyH_done (by kernel_rfl) (NoPanic.normal ?_) _
    try simp only [Act.put, sqA, sqB, sqC]
    clear hHeld
    have HZ := hidV (HW.out z11 M11.out.below)
    go_wp2
    go_ret
    exact ⟨rfl, HZ.out⟩
end Go.Proofs.YtanchjfodcjlmaaGreatDoor
