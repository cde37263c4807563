/- build.Close's answer on both sides, as one transaction that lies; it stays when the block of noughts beside it is overwritten. -/
import Derived.Test.YtjnepkggdkccaaaGreatDoorOwnShelf35
import Derived.Test.YtjnepkggdkccaaaGreatDoorOwnShelf37
import Derived.Test.YtjnepkggdkccaaaGreatDoorOwnShelf24
namespace Go.Proofs.YtjnepkggdkccaaaGreatDoor
open Go.RowKit

def clN (P : Pm) (s : Sv) : Nat := if clsE P s = 0 then 1 else 0
def clM (P : Pm) (s : Sv) : Nat := if clsE P s = 0 then (outsC P s 2).length else 0
def clX (P : Pm) : Nat → Ti := tF (fun _ => (P.pt, P.n))
def clO (P : Pm) (s : Sv) : Nat → To := oF (outsC P s 2)
/-- What Close answers lies in w. -/
def ClAt (w : World) (P : Pm) (s : Sv) (ia oa : Option Addr) : Prop := TxAt w 0 (clN P s) (clX P) (fun _ _ => 0) (clM P s) (clO P s) ia oa (fun _ => (none, 0))
theorem ClAt.below {w w' : World} {P : Pm} {s : Sv} {ia oa : Option Addr} (h : ClAt w P s ia oa) (hb : Below w.heap.size w w') : ClAt w' P s ia oa := TxAt.below h hb
theorem clAt_mk {w : World} {P : Pm} {s : Sv} {ia oa : Option Addr} (h0 : clsE P s = 0) (h1 : TiAt w ia 1 (tF (fun _ => (P.pt, P.n))) (fun _ => (none, 0))) (h2 : ToAt w oa (outsC P s 2).length (oF (outsC P s 2))) : ClAt w P s ia oa := by
 have hn : clN P s = 1 := if_pos h0
 have hm : clM P s = (outsC P s 2).length := if_pos h0
 unfold ClAt
 rw [hn, hm]
 exact ⟨h1, h2, fun i _ => ⟨SlAt.zero _ _, Nat.zero_le _⟩⟩
theorem clAt_no {w : World} {P : Pm} {s : Sv} (h0 : clsE P s ≠ 0) : ClAt w P s none none := by
 have hn : clN P s = 0 := if_neg h0
 have hm : clM P s = 0 := if_neg h0
 unfold ClAt
 rw [hn, hm]
 exact ⟨TiAt.nil _ _ _ _, ToAt.nil _ _ _, fun i hi => by omega⟩
theorem cls_tx {P : Pm} {s : Sv} {w w' : World} {e : Ending} (h : ClsP P s w e w') : ∃ ia ic oa oc, e = .returned (.tuple #[.agg (txv 0 ia (clN P s) ic oa (clM P s) oc), errV (clsE P s)]) ∧ ClAt w' P s ia oa := by
 by_cases h0 : clsE P s = 0
 ·obtain ⟨ia, ic, oa, oc, rfl, hT⟩ := h.ok h0
  exact ⟨ia, ic, oa, oc, by rw [show clN P s = 1 from if_pos h0, show clM P s = (outsC P s 2).length from if_pos h0, h0]; rfl, clAt_mk h0 hT.tin hT.tout⟩
 ·exact ⟨none, 0, none, 0, by rw [show clN P s = 0 from if_neg h0, show clM P s = 0 from if_neg h0]; exact h.bad h0, clAt_no h0⟩
theorem rcls_tx {P : Pm} {s : Sv} {w w' : World} {e : Ending} (h : RClsP P s w e w') : ∃ ia ic oa oc, e = .returned (.tuple #[.agg (txv 0 ia (clN P s) ic oa (clM P s) oc), .int .i64 (clsE P s)]) ∧ ClAt w' P s ia oa := by
 by_cases h0 : clsE P s = 0
 ·obtain ⟨ia, ic, oa, oc, rfl, h1, h2⟩ := h.ok h0
  exact ⟨ia, ic, oa, oc, by rw [show clN P s = 1 from if_pos h0, show clM P s = (outsC P s 2).length from if_pos h0, h0], clAt_mk h0 h1 h2⟩
 ·exact ⟨none, 0, none, 0, by rw [show clN P s = 0 from if_neg h0, show clM P s = 0 from if_neg h0]; exact h.bad h0, clAt_no h0⟩
theorem outsC_1 (P : Pm) (s : Sv) : ∀ i, ∀ x ∈ outsC P s i, x.cn = 1 ∧ ∀ j, (x.X j).n = 1
 | 0, x, h => by simp [outsC] at h
 | i + 1, x, h => by
  simp only [outsC, List.mem_append] at h
  rcases h with h | h
  ·exact outsC_1 P s i x h
  ·simp only [ifL] at h
   split at h
   ·obtain rfl := by simpa using h
    exact ⟨by simp [clsO], fun i => by simp [clsO, Cd.kb]⟩
   ·simp at h
theorem clO_1 (P : Pm) (s : Sv) (i : Nat) (hi : i < clM P s) : (clO P s i).cn = 1 ∧ ∀ j, ((clO P s i).X j).n = 1 := by
 have hj : i < (outsC P s 2).length := by unfold clM at hi; split at hi <;> omega
 refine outsC_1 P s 2 _ ?_
 simp only [clO, oF, List.getD_eq_getElem?_getD, List.getElem?_eq_getElem hj, Option.getD_some]
 exact List.getElem_mem hj
theorem cls_few (P : Pm) (s : Sv) : Few (clN P s) (clM P s) (clO P s) := by
 have h2 := outsC_len P s 2
 refine ⟨by unfold clN; split <;> omega, by unfold clM; split <;> omega, fun i hi => ?_⟩
 obtain ⟨h3, h4⟩ := clO_1 P s i hi
 exact ⟨by omega, fun j _ => by rw [h4 j]; omega⟩
/-- A block of noughts becomes a transaction of Lock 0: what the answer says of its own blocks stays. -/
theorem ClAt.over {w w' : World} {P : Pm} {s : Sv} {ia oa : Option Addr} {tb : Nat} {t : TypeId} {v1 v2 : Value} {fr fr' : Nat × Nat} (h : ClAt w P s ia oa) (hb : w.heap[tb]? = some (.cells #[.int .i64 0, .slice none 0 0, .slice none 0 0] t fr)) (hg : w'.heap[tb]? = some (.cells #[.int .i64 0, v1, v2] t fr')) (hf : ∀ k, k < w.heap.size → k ≠ tb → w'.heap[k]? = w.heap[k]?) : ClAt w' P s ia oa := by
 have K : ∀ b o v, w.cell? ⟨b, o, none⟩ = some v → v ≠ .slice none 0 0 → w'.cell? ⟨b, o, none⟩ = some v := by
  intro b o v hc hv
  by_cases e : b = tb
  ·subst e
   rw [cell_of_row _ _ o _ _ _ hb] at hc
   rw [cell_of_row _ _ o _ _ _ hg]
   match o, hc with
   | 0, hc => exact hc
   | 1, hc => exact absurd (Option.some.inj hc).symm hv
   | 2, hc => exact absurd (Option.some.inj hc).symm hv
   | o + 3, hc => simp at hc
  ·rw [World.cell?_of_block (a := ⟨b, o, none⟩) (hf b (World.block_lt_of_cell? w ⟨b, o, none⟩ hc) e)]
   exact hc
 have KR : ∀ b o l, w.rangeAt b o l → (∀ v ∈ l, v ≠ .slice none 0 0) → w'.rangeAt b o l := fun b o l hr hl j v hj => K b (o + j) v (hr j v hj) (hl v (List.mem_of_getElem? hj))
 refine ⟨⟨h.ti.pt, fun hn => ?_⟩, ⟨fun hm => ?_⟩, fun i hi => ⟨?_, (h.sc i hi).2⟩⟩
 ·obtain ⟨b, off, e, hr⟩ := h.ti.at_ hn
  refine ⟨b, off, e, fun i hi => ?_⟩
  have h1 := hr i hi
  have hu : (til (clX P i) none 0)[0]? = some (.int .u8 ((clX P i).pt 0)) := rfl
  have h2 := h1 0 _ hu
  have hne : b ≠ tb := fun e2 => by
   subst e2
   rw [cell_of_row _ _ _ _ _ _ hb] at h2
   generalize off + i * 35 + 0 = q at h2
   match q, h2 with
   | 0, h2 => cases h2
   | 1, h2 => cases h2
   | 2, h2 => cases h2
   | q + 3, h2 => simp at h2
  have hbk := hf b (World.block_lt_of_cell? w ⟨b, _, none⟩ h2) hne
  intro j v hj
  rw [World.cell?_of_block (a := ⟨b, off + i * 35 + j, none⟩) hbk]
  exact h1 j v hj
 ·obtain ⟨b, off, e, hr⟩ := h.ou.at_ hm
  refine ⟨b, off, e, fun i hi => ?_⟩
  obtain ⟨ca, cc, h1, h2, h3⟩ := hr i hi
  obtain ⟨q1, q2⟩ := clO_1 P s i hi
  refine ⟨ca, cc, KR _ _ _ h1 (fun v hv => ?_), ?_, h3⟩
  ·simp only [tol, List.mem_cons, List.not_mem_nil, or_false] at hv
   rcases hv with rfl | rfl
   ·exact fun e => by cases e
   ·rw [q1]; exact fun e => by cases e
  ·refine ⟨h2.ok, fun hp => ?_⟩
   obtain ⟨b2, o2, e2, hr2⟩ := h2.at_ hp
   refine ⟨b2, o2, e2, fun j hj => ?_⟩
   obtain ⟨ka, kc, g1, g2⟩ := hr2 j hj
   refine ⟨ka, kc, KR _ _ _ g1 (fun v hv => ?_), fun hq => ?_⟩
   ·simp only [Cd.brl, List.mem_append, List.mem_cons, List.not_mem_nil, or_false] at hv
    have hbl : ∀ z k, v ∈ bl z k → v ≠ .slice none 0 0 := fun z k hz e => by
     subst e
     simp [bl] at hz
    simp only [q2 j] at hv
    rcases hv with rfl | hv
    ·exact fun e => by cases e
    ·rcases hv with hv | hv
     ·exact hbl _ _ hv
     ·rcases hv with rfl | rfl <;> exact fun e => by cases e
   ·obtain ⟨b3, o3, e3, hr3⟩ := g2 hq
    exact ⟨b3, o3, e3, fun k hk => K _ _ _ (hr3 k hk) (fun e => by cases e)⟩
 ·exact SlAt.zero _ _
end Go.Proofs.YtjnepkggdkccaaaGreatDoor
/- The law BuildCloses. -/
namespace Go.Proofs.YtjnepkggdkccaaaGreatDoor
open Go.RowKit

structure ClW (v w : World) (tb : Option Nat) : Prop where
 below : Below v.heap.size v w
 tb : ∀ k, tb = some k → w.heap[k]? = some (.cells #[.int .i64 0, .slice none 0 0, .slice none 0 0] 50 (0, 0)) ∧ v.heap.size ≤ k
theorem ClW.keep {v w w1 : World} {tb : Option Nat} (h : ClW v w tb) (hb : Below w.heap.size w w1) : ClW v w1 tb := ⟨Below.transS h.below hb, fun k e => ⟨heap_below hb (h.tb k e).1, (h.tb k e).2⟩⟩
theorem ClW.new {v w w1 : World} {k : Nat} (h : ClW v w none) (hk : w1.heap[k]? = some (.cells #[.int .i64 0, .slice none 0 0, .slice none 0 0] 50 (0, 0))) (hl : w.heap.size ≤ k) (hb : Below w.heap.size w w1) : ClW v w1 (some k) :=
 ⟨Below.transS h.below hb, fun q e => by cases e; exact ⟨hk, by have := h.below.size; omega⟩⟩
theorem txv_one (lk : Int) (ia : Option Addr) (n ic : Nat) (oa : Option Addr) (m oc : Nat) : (txv lk ia n ic oa m oc).all (·.oneCell') = true := by simp [txv, Value.oneCell']
set_option maxRecDepth 100000 in
set_option maxHeartbeats 6400000 in
theorem lcloses_any (P : Pm) (s : Sv) (p : Pl) (w : World) (hg : Cd.Glob w) (h : StIn w s p) (hpt : Hb P.pt) :
  Calls Tryz.prog 6 #[.agg (pmv P), .agg (svv s p)] w fun e w' => e = .returned (.bool true) ∧ Below w.heap.size w w' := by
 have HH := hidV (And.intro h hg)
 have HPT := hidV hpt
 clear h hg hpt
 go_enter Tryz.func6, Tryz.ntmps6
 go_upto_region 1 with (first | (refine wpList_boxN rfl _ _ rfl (pmv P) rfl ?_; intro v1 N1) | (refine wpList_boxN rfl _ _ rfl (svv s p) rfl ?_; intro v4 N2) | fail)
 have HX : Hid (Below w.heap.size w v4 ∧ (∀ w' : World, Below v4.heap.size v4 w' → w'.rangeAt w.heap.size 0 (pml P) ∧ w'.rangeAt v1.heap.size 0 (svv s p).toList)) :=
  ⟨Below.transS N1.below N2.below, fun w' hb => ⟨pml_range (heap_below hb (N2.old N1.blk)), sv_range (heap_below hb N2.blk)⟩⟩
 clear N1 N2
 generalize v1.heap.size = bs at *
 have HS4 := hidV (HX.out.2 v4 (Below.refl _ _)).2
 go_wp2_with (first | (refine wpList_load_mid rfl 32 _ rfl bs 0 rfl (svv s p).toList _ HS4.out Tryz.underlying32 rfl szSr ?_) | fail)
 refine (long_any s p v4 (HH.out.1.at_.below HX.out.1) HH.out.1.pn HH.out.1.hn HH.out.1.ks).mono ?_
 rintro e v5 ⟨rfl, hb5⟩
 have HB5 := hidV hb5
 clear hb5 HS4
 by_cases hl : lngS s = true
 ·rw [hl]
  clear hl
  go_wp2_with fail
  refine (sure_any v5).mono ?_
  rintro e v6 ⟨rfl, hb6⟩
  have HE : Hid (Below w.heap.size w v6) := Below.transS (Below.transS HX.out.1 HB5.out) hb6
  clear hb6
  go_wp2
  go_ret
  exact ⟨rfl, HE.out⟩
 ·have hlf : lngS s = false := by simpa using hl
  have HSM := hidV (lngS_no hlf)
  rw [hlf]
  clear hl hlf
  have HS : Hid (∀ w' : World, Below v5.heap.size v5 w' → w'.rangeAt w.heap.size 0 (pml P) ∧ w'.rangeAt bs 0 (svv s p).toList) := fun w' hb => HX.out.2 w' (Below.transS HB5.out hb)
  have HST : Hid (∀ w' : World, Below v5.heap.size v5 w' → SvAt w' s p) := fun w' hb => ((HH.out.1.at_.below HX.out.1).below HB5.out).below hb
  go_upto_region 3 with fail
  refine wp_region_noPanic ?_
  refine wp_region_held_drew (S := fun w' => w'.rangeAt w.heap.size 0 (pml P) ∧ w'.rangeAt bs 0 (svv s p).toList) (by kernel_rfl) (HS.out v5.drew (Below.refl _ _).drew) (fun hHeld => ?_)
  have HB6 : Hid (Below v5.heap.size v5 v5.drew) := (Below.refl _ _).drew
  have M0 : Hid (ClW v5 v5.drew none) := ⟨HB6.out, fun _ h => by cases h⟩
  generalize v5.drew = z0 at *
  clear HB6
  refine wpAnyH_take (i := 0) (oi := ⟨some 13, .load 28 (.tmp 2), 28, _, _, none⟩) rfl (by kernel_rfl) (by kernel_rfl) (by kernel_rfl) (fun _ _ _ h => h) (yieldsIf_load_mid (by rfl) _ _ rfl w.heap.size 0 rfl (pml P) _ (fun _ h => h.1) Tryz.underlying28 rfl (szPmrl P)) (by assumption) ?_
  try simp only [Act.put, zA, zB, zC]
  refine wpAnyH_take (i := 2) (oi := ⟨some 15, .load 32 (.tmp 3), 32, _, _, none⟩) rfl (by kernel_rfl) (by kernel_rfl) (by kernel_rfl) (fun _ _ _ h => h) (yieldsIf_load_mid (by rfl) _ _ rfl bs 0 rfl (svv s p).toList _ (fun _ h => h.2) Tryz.underlying32 rfl szSr) (by assumption) ?_
  try simp only [Act.put, zA, zB, zC]
  refine wpAnyH_ready (rs := [1, 8]) (by kernel_rfl) (by simp) ?_
  refine (AllReadyH.cons (o := ⟨some 14, .call { callee := Go.Callee.value (.func 9), args := #[.tmp 13], argTypes := #[28] }, 40, _, _, none⟩) rfl (fun K hK => ?_) (AllReadyH.cons (o := ⟨some 5, .alloc 50, 0, _, _, none⟩) rfl (fun K hK => ?_) AllReadyH.nil))
  focus
   go_simp
   refine (giveParams_any P z0).mono ?_
   rintro e z1 ⟨rfl, hb⟩
   have M1 := hidV (M0.out.keep hb)
   clear hb M0
   refine hK.out _ _ (HS.out z1 M1.out.below) (fun _ => ?_)
   clear hK K
   try simp only [Act.put, zA, zB, zC]
   refine wpAnyH_ready (rs := [3, 8]) (by kernel_rfl) (by simp) ?_
   refine (AllReadyH.cons (o := ⟨some 16, .call { callee := Go.Callee.value (.func 10), args := #[.tmp 15], argTypes := #[32] }, 45, _, _, none⟩) rfl (fun K hK => ?_) (AllReadyH.cons (o := ⟨some 5, .alloc 50, 0, _, _, none⟩) rfl (fun K hK => ?_) AllReadyH.nil))
   focus
    go_simp
    refine (give_any s p z1 (HST.out z1 M1.out.below) HSM.out).mono ?_
    rintro e z2 ⟨⟨p', A, rfl, hO⟩, hb⟩
    have HV2 := hidV hO.at
    have M2 := hidV (M1.out.keep hb)
    clear hO hb M1
    refine hK.out _ _ (HS.out z2 M2.out.below) (fun _ => ?_)
    clear hK K
    try simp only [Act.put, zA, zB, zC]
    refine wpAnyH_ready (rs := [4, 8]) (by kernel_rfl) (by simp) ?_
    refine (AllReadyH.cons (o := ⟨some 17, .call { callee := Go.Callee.value (.func 23), args := #[.tmp 14, .tmp 16], argTypes := #[40, 45] }, 53, _, _, none⟩) rfl (fun K hK => ?_) (AllReadyH.cons (o := ⟨some 5, .alloc 50, 0, _, _, none⟩) rfl (fun K hK => ?_) AllReadyH.nil))
    focus
     go_simp
     refine (close_any P s p' z2 HV2.out HSM.out HPT.out).mono ?_
     intro e z3 hR
     have M3 := hidV (M2.out.keep hR.below)
     obtain ⟨ia, ic, oa, oc, rfl, hT⟩ := cls_tx hR
     have HT3 := hidV hT
     clear hR hT HV2 M2
     refine hK.out _ _ (HS.out z3 M3.out.below) (fun _ => ?_)
     clear hK K
     try simp only [Act.put, zA, zB, zC]
     refine wpAnyH_take (i := 5) (oi := ⟨some 12, .move (.tmp 17), 53, _, _, none⟩) (v := ?_) rfl (by kernel_rfl) (by kernel_rfl) (by kernel_rfl) (fun _ _ _ h => h) (Or.inl ⟨by rfl, ?_⟩) (by assumption) ?_
     rotate_left
     ·intro wz hSw; (try dsimp only at hSw); go_simp; (try with_reducible rfl)
     try simp only [Act.put, zA, zB, zC]
     refine wpAnyH_take (i := 6) (oi := ⟨some 18, .extract (.tmp 12) 0, 50, _, _, none⟩) (v := ?_) rfl (by kernel_rfl) (by kernel_rfl) (by kernel_rfl) (fun _ _ _ h => h) (Or.inl ⟨by rfl, ?_⟩) (by assumption) ?_
     rotate_left
     ·intro wz hSw; (try dsimp only at hSw); go_simp; (try with_reducible rfl)
     try simp only [Act.put, zA, zB, zC]
     refine wpAnyH_take (i := 7) (oi := ⟨some 19, .extract (.tmp 12) 1, 52, _, _, none⟩) (v := ?_) rfl (by kernel_rfl) (by kernel_rfl) (by kernel_rfl) (fun _ _ _ h => h) (Or.inl ⟨by rfl, ?_⟩) (by assumption) ?_
     rotate_left
     ·intro wz hSw; (try dsimp only at hSw); go_simp; (try with_reducible rfl)
     try simp only [Act.put, zA, zB, zC]
     refine wpAnyH_ready (rs := [8]) (by kernel_rfl) (by simp) ?_
     refine (AllReadyH.cons (o := ⟨some 5, .alloc 50, 0, _, _, none⟩) rfl (fun K hK => ?_) AllReadyH.nil)
     refine step_allocP 50 #[.int .i64 0, .slice none 0 0, .slice none 0 0] run_allocTx rfl rfl ?_
     intro tb z4 hk hl hb
     have M4 := hidV (M3.out.new hk hl hb)
     have HT4 := hidV (HT3.out.below hb)
     clear hk hl hb M3 HT3
     refine hK.out _ _ (HS.out z4 M4.out.below) (fun _ => ?_)
     clear hK K
     try simp only [Act.put, zA, zB, zC]
     have HZ := hidV (And.intro M4.out HT4.out)
     clear M4 HT4
    rotate_left 1
    focus
     refine step_allocP 50 #[.int .i64 0, .slice none 0 0, .slice none 0 0] run_allocTx rfl rfl ?_
     intro tb z3 hk hl hb
     have M3 := hidV (M2.out.new hk hl hb)
     have HV3 := hidV (HV2.out.below hb)
     clear hk hl hb M2 HV2
     refine hK.out _ _ (HS.out z3 M3.out.below) (fun _ => ?_)
     clear hK K
     try simp only [Act.put, zA, zB, zC]
     refine wpAnyH_ready (rs := [4]) (by kernel_rfl) (by simp) ?_
     refine (AllReadyH.cons (o := ⟨some 17, .call { callee := Go.Callee.value (.func 23), args := #[.tmp 14, .tmp 16], argTypes := #[40, 45] }, 53, _, _, none⟩) rfl (fun K hK => ?_) AllReadyH.nil)
     go_simp
     refine (close_any P s p' z3 HV3.out HSM.out HPT.out).mono ?_
     intro e z4 hR
     have M4 := hidV (M3.out.keep hR.below)
     obtain ⟨ia, ic, oa, oc, rfl, hT⟩ := cls_tx hR
     have HT4 := hidV hT
     clear hR hT HV3 M3
     refine hK.out _ _ (HS.out z4 M4.out.below) (fun _ => ?_)
     clear hK K
     try simp only [Act.put, zA, zB, zC]
     refine wpAnyH_take (i := 5) (oi := ⟨some 12, .move (.tmp 17), 53, _, _, none⟩) (v := ?_) rfl (by kernel_rfl) (by kernel_rfl) (by kernel_rfl) (fun _ _ _ h => h) (Or.inl ⟨by rfl, ?_⟩) (by assumption) ?_
     rotate_left
     ·intro wz hSw; (try dsimp only at hSw); go_simp; (try with_reducible rfl)
     try simp only [Act.put, zA, zB, zC]
     refine wpAnyH_take (i := 6) (oi := ⟨some 18, .extract (.tmp 12) 0, 50, _, _, none⟩) (v := ?_) rfl (by kernel_rfl) (by kernel_rfl) (by kernel_rfl) (fun _ _ _ h => h) (Or.inl ⟨by rfl, ?_⟩) (by assumption) ?_
     rotate_left
     ·intro wz hSw; (try dsimp only at hSw); go_simp; (try with_reducible rfl)
     try simp only [Act.put, zA, zB, zC]
     refine wpAnyH_take (i := 7) (oi := ⟨some 19, .extract (.tmp 12) 1, 52, _, _, none⟩) (v := ?_) rfl (by kernel_rfl) (by kernel_rfl) (by kernel_rfl) (fun _ _ _ h => h) (Or.inl ⟨by rfl, ?_⟩) (by assumption) ?_
     rotate_left
     ·intro wz hSw; (try dsimp only at hSw); go_simp; (try with_reducible rfl)
     try simp only [Act.put, zA, zB, zC]
     have HZ := hidV (And.intro M4.out HT4.out)
     clear M4 HT4
    rotate_left 1
   rotate_left 2
   focus
    refine step_allocP 50 #[.int .i64 0, .slice none 0 0, .slice none 0 0] run_allocTx rfl rfl ?_
    intro tb z2 hk hl hb
    have M2 := hidV (M1.out.new hk hl hb)
    clear hk hl hb M1
    refine hK.out _ _ (HS.out z2 M2.out.below) (fun _ => ?_)
    clear hK K
    try simp only [Act.put, zA, zB, zC]
    refine wpAnyH_ready (rs := [3]) (by kernel_rfl) (by simp) ?_
    refine (AllReadyH.cons (o := ⟨some 16, .call { callee := Go.Callee.value (.func 10), args := #[.tmp 15], argTypes := #[32] }, 45, _, _, none⟩) rfl (fun K hK => ?_) AllReadyH.nil)
    go_simp
    refine (give_any s p z2 (HST.out z2 M2.out.below) HSM.out).mono ?_
    rintro e z3 ⟨⟨p', A, rfl, hO⟩, hb⟩
    have HV3 := hidV hO.at
    have M3 := hidV (M2.out.keep hb)
    clear hO hb M2
    refine hK.out _ _ (HS.out z3 M3.out.below) (fun _ => ?_)
    clear hK K
    try simp only [Act.put, zA, zB, zC]
    refine wpAnyH_ready (rs := [4]) (by kernel_rfl) (by simp) ?_
    refine (AllReadyH.cons (o := ⟨some 17, .call { callee := Go.Callee.value (.func 23), args := #[.tmp 14, .tmp 16], argTypes := #[40, 45] }, 53, _, _, none⟩) rfl (fun K hK => ?_) AllReadyH.nil)
    go_simp
    refine (close_any P s p' z3 HV3.out HSM.out HPT.out).mono ?_
    intro e z4 hR
    have M4 := hidV (M3.out.keep hR.below)
    obtain ⟨ia, ic, oa, oc, rfl, hT⟩ := cls_tx hR
    have HT4 := hidV hT
    clear hR hT HV3 M3
    refine hK.out _ _ (HS.out z4 M4.out.below) (fun _ => ?_)
    clear hK K
    try simp only [Act.put, zA, zB, zC]
    refine wpAnyH_take (i := 5) (oi := ⟨some 12, .move (.tmp 17), 53, _, _, none⟩) (v := ?_) rfl (by kernel_rfl) (by kernel_rfl) (by kernel_rfl) (fun _ _ _ h => h) (Or.inl ⟨by rfl, ?_⟩) (by assumption) ?_
    rotate_left
    ·intro wz hSw; (try dsimp only at hSw); go_simp; (try with_reducible rfl)
    try simp only [Act.put, zA, zB, zC]
    refine wpAnyH_take (i := 6) (oi := ⟨some 18, .extract (.tmp 12) 0, 50, _, _, none⟩) (v := ?_) rfl (by kernel_rfl) (by kernel_rfl) (by kernel_rfl) (fun _ _ _ h => h) (Or.inl ⟨by rfl, ?_⟩) (by assumption) ?_
    rotate_left
    ·intro wz hSw; (try dsimp only at hSw); go_simp; (try with_reducible rfl)
    try simp only [Act.put, zA, zB, zC]
    refine wpAnyH_take (i := 7) (oi := ⟨some 19, .extract (.tmp 12) 1, 52, _, _, none⟩) (v := ?_) rfl (by kernel_rfl) (by kernel_rfl) (by kernel_rfl) (fun _ _ _ h => h) (Or.inl ⟨by rfl, ?_⟩) (by assumption) ?_
    rotate_left
    ·intro wz hSw; (try dsimp only at hSw); go_simp; (try with_reducible rfl)
    try simp only [Act.put, zA, zB, zC]
    have HZ := hidV (And.intro M4.out HT4.out)
    clear M4 HT4
   rotate_left 1
  rotate_left 3
  focus
   refine step_allocP 50 #[.int .i64 0, .slice none 0 0, .slice none 0 0] run_allocTx rfl rfl ?_
   intro tb z1 hk hl hb
   have M1 := hidV (M0.out.new hk hl hb)
   clear hk hl hb M0
   refine hK.out _ _ (HS.out z1 M1.out.below) (fun _ => ?_)
   clear hK K
   try simp only [Act.put, zA, zB, zC]
   refine wpAnyH_ready (rs := [1]) (by kernel_rfl) (by simp) ?_
   refine (AllReadyH.cons (o := ⟨some 14, .call { callee := Go.Callee.value (.func 9), args := #[.tmp 13], argTypes := #[28] }, 40, _, _, none⟩) rfl (fun K hK => ?_) AllReadyH.nil)
   go_simp
   refine (giveParams_any P z1).mono ?_
   rintro e z2 ⟨rfl, hb⟩
   have M2 := hidV (M1.out.keep hb)
   clear hb M1
   refine hK.out _ _ (HS.out z2 M2.out.below) (fun _ => ?_)
   clear hK K
   try simp only [Act.put, zA, zB, zC]
   refine wpAnyH_ready (rs := [3]) (by kernel_rfl) (by simp) ?_
   refine (AllReadyH.cons (o := ⟨some 16, .call { callee := Go.Callee.value (.func 10), args := #[.tmp 15], argTypes := #[32] }, 45, _, _, none⟩) rfl (fun K hK => ?_) AllReadyH.nil)
   go_simp
   refine (give_any s p z2 (HST.out z2 M2.out.below) HSM.out).mono ?_
   rintro e z3 ⟨⟨p', A, rfl, hO⟩, hb⟩
   have HV3 := hidV hO.at
   have M3 := hidV (M2.out.keep hb)
   clear hO hb M2
   refine hK.out _ _ (HS.out z3 M3.out.below) (fun _ => ?_)
   clear hK K
   try simp only [Act.put, zA, zB, zC]
   refine wpAnyH_ready (rs := [4]) (by kernel_rfl) (by simp) ?_
   refine (AllReadyH.cons (o := ⟨some 17, .call { callee := Go.Callee.value (.func 23), args := #[.tmp 14, .tmp 16], argTypes := #[40, 45] }, 53, _, _, none⟩) rfl (fun K hK => ?_) AllReadyH.nil)
   go_simp
   refine (close_any P s p' z3 HV3.out HSM.out HPT.out).mono ?_
   intro e z4 hR
   have M4 := hidV (M3.out.keep hR.below)
   obtain ⟨ia, ic, oa, oc, rfl, hT⟩ := cls_tx hR
   have HT4 := hidV hT
   clear hR hT HV3 M3
   refine hK.out _ _ (HS.out z4 M4.out.below) (fun _ => ?_)
   clear hK K
   try simp only [Act.put, zA, zB, zC]
   refine wpAnyH_take (i := 5) (oi := ⟨some 12, .move (.tmp 17), 53, _, _, none⟩) (v := ?_) rfl (by kernel_rfl) (by kernel_rfl) (by kernel_rfl) (fun _ _ _ h => h) (Or.inl ⟨by rfl, ?_⟩) (by assumption) ?_
   rotate_left
   ·intro wz hSw; (try dsimp only at hSw); go_simp; (try with_reducible rfl)
   try simp only [Act.put, zA, zB, zC]
   refine wpAnyH_take (i := 6) (oi := ⟨some 18, .extract (.tmp 12) 0, 50, _, _, none⟩) (v := ?_) rfl (by kernel_rfl) (by kernel_rfl) (by kernel_rfl) (fun _ _ _ h => h) (Or.inl ⟨by rfl, ?_⟩) (by assumption) ?_
   rotate_left
   ·intro wz hSw; (try dsimp only at hSw); go_simp; (try with_reducible rfl)
   try simp only [Act.put, zA, zB, zC]
   refine wpAnyH_take (i := 7) (oi := ⟨some 19, .extract (.tmp 12) 1, 52, _, _, none⟩) (v := ?_) rfl (by kernel_rfl) (by kernel_rfl) (by kernel_rfl) (fun _ _ _ h => h) (Or.inl ⟨by rfl, ?_⟩) (by assumption) ?_
   rotate_left
   ·intro wz hSw; (try dsimp only at hSw); go_simp; (try with_reducible rfl)
   try simp only [Act.put, zA, zB, zC]
   have HZ := hidV (And.intro M4.out HT4.out)
   clear M4 HT4
  rotate_left 1
  all_goals
   refine wpAnyH_ready (rs := [9]) (by kernel_rfl) (by simp) ?_
   refine (AllReadyH.cons (o := ⟨none, .store 50 (.tmp 5) (.tmp 18), 0, _, _, none⟩) rfl (fun K hK => ?_) AllReadyH.nil)
   refine step_storeG 50 szTx rfl _ _ rfl tb (by rfl) (txv 0 ia (clN P s) ic oa (clM P s) oc) #[.int .i64 0, .slice none 0 0, .slice none 0 0] rfl rfl (txv_one _ _ _ _ _ _ _) 50 (by rfl) (HZ.out.1.tb _ rfl).1 ?_
   intro z5 hg5 hf5
   have hlb := (HZ.out.1.tb _ rfl).2
   have hb5 : Below v5.heap.size v5 z5 := HZ.out.1.below.trans (hf5.below HZ.out.1.below.size (fun k hk => by rw [List.mem_singleton.1 hk]; exact hlb))
   have hT5 : ClAt z5 P s ia oa := HZ.out.2.over (HZ.out.1.tb _ rfl).1 hg5 (fun k hk hne => hf5.block k hk (by simpa using hne))
   have H5 := hidV (And.intro hg5 (And.intro hb5 hT5))
   clear hg5 hf5 hlb hb5 hT5 HZ
   refine hK.out _ _ (HS.out z5 H5.out.2.1) (fun _ => ?_)
   clear hK K
   try simp only [Act.put]
   refine wpAnyH_take (i := 10) (oi := ⟨some 6, .assign (.tmp 19), 52, _, _, none⟩) (v := ?_) rfl (by kernel_rfl) (by kernel_rfl) (by kernel_rfl) (fun _ _ _ h => h) (Or.inl ⟨by rfl, ?_⟩) (by assumption) ?_
   rotate_left
   ·intro wz hSw; (try dsimp only at hSw); go_simp; (try with_reducible rfl)
   try simp only [Act.put, zA, zB, zC]
   refine wpAnyH_done (by kernel_rfl) (NoPanic.normal ?_) _
   try simp only [Act.put, zA, zB, zC]
   clear hHeld
   have HS5 := hidV (HS.out z5 H5.out.2.1)
   go_wp2_with (first | (refine wpList_load_mid rfl 28 _ rfl w.heap.size 0 rfl (pml P) _ HS5.out.1 Tryz.underlying28 rfl (szPmrl P) ?_) | (refine wpList_load_mid rfl 32 _ rfl bs 0 rfl (svv s p).toList _ HS5.out.2 Tryz.underlying32 rfl szSr ?_) | fail)
   refine (rclose_any P s p z5 (HST.out z5 H5.out.2.1) HSM.out HPT.out).mono ?_
   intro e z6 hR
   have HB6 := hidV hR.below
   obtain ⟨ja, jc, qa, qc, rfl, hT⟩ := rcls_tx hR
   have HT6 := hidV hT
   clear hR hT
   go_wp2_with (first | (refine wpList_allocN 58 #[.int .i64 0, .slice none 0 0, .slice none 0 0] run_allocTxR rfl rfl ?_; intro z7 N7) | (refine wpList_storeG 58 szTxR rfl _ _ rfl z6.heap.size rfl (txv 0 ja (clN P s) jc qa (clM P s) qc) #[.int .i64 0, .slice none 0 0, .slice none 0 0] rfl rfl (txv_one _ _ _ _ _ _ _) 58 rfl N7.blk ?_; intro z8 hg8 hf8; have hb68 : Below z6.heap.size z6 z8 := N7.below.trans (hf8.below N7.below.size (fun k hk => by rw [List.mem_singleton.1 hk]; exact Nat.le_refl _)); have H8 := hidV (And.intro hg8 (And.intro hb68 (And.intro (txl_range (heap_below (Below.transS HB6.out hb68) H5.out.1)) (txl_range hg8)))); clear hg8 hf8 hb68 N7) | (refine wpList_load_mid rfl 50 _ rfl tb 0 rfl (txl 0 ia (clN P s) ic oa (clM P s) oc) _ H8.out.2.2.1 Tryz.underlying50 rfl szTx ?_) | (refine wpList_load_mid rfl 58 _ rfl z6.heap.size 0 rfl (txl 0 ja (clN P s) jc qa (clM P s) qc) _ H8.out.2.2.2 Tryz.underlying58 rfl szTxR ?_) | fail)
   have HE8 : Hid (Below w.heap.size w z8) := Below.transS (Below.transS (Below.transS (Below.transS HX.out.1 HB5.out) H5.out.2.1) HB6.out) H8.out.2.1
   refine (same14_any (clsE P s) 0 (clN P s) (clX P) (fun _ _ => 0) (clM P s) (clO P s) ia oa ic oc (fun _ => (none, 0)) ja qa jc qc (fun _ => (none, 0)) z8 (HH.out.2.below HE8.out HH.out.2.pos) ((H5.out.2.2.below HB6.out).below H8.out.2.1) (HT6.out.below H8.out.2.1) (cls_few P s)).mono ?_
   rintro e z9 ⟨rfl, hb9⟩
   have HE9 := hidV (Below.transS HE8.out hb9)
   clear hb9
   go_wp2_with fail
   refine (sure_any z9).mono ?_
   rintro e z10 ⟨rfl, hb10⟩
   have HE10 := hidV (Below.transS HE9.out hb10)
   clear hb10
   go_wp2
   go_ret
   exact ⟨rfl, HE10.out⟩
theorem lclosesC_any (P : Pm) (s : Sv) (p : Pl) (w : World) (hg : Cd.Glob w) (hz : Hb P.pt) (_hi : Ib P.n ∧ Ib P.am ∧ Ib P.k0 ∧ Ib P.k1 ∧ Ib P.dl ∧ Ib P.fe) (h : StIn w s p) :
  Calls Tryz.prog 6 #[.agg (pmv P), .agg (svv s p)] w fun e w' => e = .returned (.bool true) ∧ Below w.heap.size w w' := lcloses_any P s p w hg h hz
end Go.Proofs.YtjnepkggdkccaaaGreatDoor
