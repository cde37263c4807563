/- The document's outputs of a commitment: the walk, owner 0. -/
import Derived.Test.YtjnepkggdkccaaaGreatDoorOwnShelf22
namespace Go.Proofs.YtjnepkggdkccaaaGreatDoor
open Go.RowKit


set_option maxRecDepth 100000 in
set_option maxHeartbeats 6400000 in
theorem routs_0 (P : Pm) (s : Sv) (p : Pl) (lk : Nat → Int) (w : World) (hc : CmOk (cm0 P 0 lk)) (h : SvAt w s p) (hs : SOk s) (hn : ∀ i, i < s.hn → (s.H i).n ≤ 300) :
  Calls Tryz.prog 29 #[.agg (pmv P), .agg (svv s p), .int .i64 0, .agg (hv lk)] w (OutsD w (outsO (cm0 P 0 lk) s s.hn).length (outsZ (cm0 P 0 lk) s s.hn).length (outsO (cm0 P 0 lk) s s.hn) (outsZ (cm0 P 0 lk) s s.hn) P.k1) := by
 have HC : Hid (CmOk (cm0 P 0 lk)) := hc
 have HSv : Hid (SvAt w s p ∧ SOk s ∧ ∀ i, i < s.hn → (s.H i).n ≤ 300) := ⟨h, hs, hn⟩
 have hwr : IntKind.i64.wrap (s.a - P.fe) = s.a - P.fe := by have h1 := hs.1.2.1; have h2 : 0 ≤ P.fe ∧ P.fe ≤ 1125899906842624 := hc.fe; rw [IntKind.wrap_i64]; omega
 have hp8 : s.pn + s.hn ≤ 8 := hs.2.1.1
 clear hc h hs hn
 have hw1 : IntKind.i64.wrap 1 = 1 := by decide
 have hw0 : IntKind.i64.wrap 0 = 0 := by decide
 go_enter Tryz.func29, Tryz.ntmps29
 go_upto_region 1 with (first | (refine wpList_boxN rfl _ _ rfl (pmv P) rfl ?_; intro v1 N1) | (refine wpList_boxN rfl _ _ rfl (svv s p) rfl ?_; intro v2 N2) | (refine wpList_boxN rfl _ _ rfl (hv lk) rfl ?_; intro v3 N3) | fail)
 have HX : Hid (Below w.heap.size w v3 ∧ (∀ w' : World, Below v3.heap.size v3 w' → w'.rangeAt w.heap.size 0 (pml P) ∧ w'.rangeAt v1.heap.size 0 (svv s p).toList ∧ w'.rangeAt v2.heap.size 0 (bl lk 32))) := by
  refine ⟨Below.transS N1.below (Below.transS N2.below N3.below), fun w' hb => ⟨pml_range (heap_below hb (N3.old (N2.old N1.blk))), sv_range (heap_below hb (N3.old N2.blk)), fun j v h1 => ?_⟩⟩
  rw [Nat.zero_add, cell_of_row _ _ j _ _ _ (heap_below hb N3.blk)]
  simpa [hv] using h1
 clear N1 N2 N3
 generalize v1.heap.size = bs at *
 generalize v2.heap.size = bk at *
 have c34 : v3.cell? ⟨w.heap.size, 34, none⟩ = some (.int .i64 P.k0) := by have := (pmBox (HX.out.2 v3 (Below.refl _ _)).1).k0; simpa using this
 have c35 : v3.cell? ⟨w.heap.size, 35, none⟩ = some (.int .i64 P.k1) := by have := (pmBox (HX.out.2 v3 (Below.refl _ _)).1).k1; simpa using this
 go_quiet (fail)
 have HV : Hid (Below v3.heap.size v3 (v3.drewN nq)) := belowN (Below.refl _ _) _
 clear c34 c35
 generalize v3.drewN nq = v4 at *
 have c37 : v4.cell? ⟨w.heap.size, 37, none⟩ = some (.int .i64 P.fe) := by have := (pmBox (HX.out.2 v4 HV.out).1).fe; simpa using this
 have ca : v4.cell? ⟨bs, 1, none⟩ = some (.int .i64 s.a) := (HX.out.2 v4 HV.out).2.1 1 _ rfl
 have cb : v4.cell? ⟨bs, 2, none⟩ = some (.int .i64 s.b) := (HX.out.2 v4 HV.out).2.1 2 _ rfl
 go_upto_region 3 with (first | (refine wpList_allocN 26 #[.int .i64 0, .int .i64 0] run_alloc2i rfl rfl ?_; intro v5 N5) | (refine wpList_storeG 26 sz2i rfl _ _ rfl v4.heap.size rfl #[.int .i64 (s.a - P.fe), .int .i64 s.b] #[.int .i64 0, .int .i64 0] rfl rfl (by kernel_rfl) 26 rfl N5.blk ?_; intro v6 hg6 hf6) | fail)
 have HB6 : Hid (Below v4.heap.size v4 v6 ∧ v6.heap[v4.heap.size]? = some (.cells #[.int .i64 (s.a - P.fe), .int .i64 s.b] 26 (0, 0))) := ⟨N5.below.trans (hf6.below N5.below.size (by simp)), hg6⟩
 clear N5 hg6 hf6 c37 ca cb hwr
 have HL6 := hidV (HX.out.2 v6 (Below.transS HV.out HB6.out.1)).2.2
 go_upto_region 4 with (first | (refine wpList_kSliceN rfl _ rfl P.k1 rfl ?_; intro v7 N7; have HL7 := hidV (range_below HL6.out N7.below)) | (refine wpList_load_mid rfl 23 _ rfl bk 0 rfl (bl lk 32) _ HL7.out Tryz.underlying23 rfl (szHb _) ?_) | (refine wpList_buildRbL P.k1 lk (some ⟨v6.heap.size, 0, none⟩) rfl _ _ rfl rfl rfl ?_) | (refine wpList_allocN 126 (Cd.bv z0 none 0) run_allocRb rfl rfl ?_; intro v8 N8) | (refine wpList_storeG 126 szRb rfl _ _ rfl v7.heap.size rfl (Cd.bv ⟨1, fun _ => P.k1, lk, 0, 0⟩ (some ⟨v6.heap.size, 0, none⟩) 1) (Cd.bv z0 none 0) (Cd.bv_size _ _ _) (Cd.bv_size _ _ _) (Cd.bv_one _ _ _) 126 rfl N8.blk ?_; intro v hg9 hf9) | fail)
 have hb79 : Below v7.heap.size v7 v := N8.below.trans (hf9.below N8.below.size (by simp))
 have HB : Hid (Below w.heap.size w v ∧ Below v3.heap.size v3 v ∧ w.heap.size ≤ v6.heap.size ∧ v6.heap.size < v.heap.size) := by
  have h1 := Below.transS HV.out (Below.transS HB6.out.1 (Below.transS N7.below hb79))
  exact ⟨Below.transS HX.out.1 h1, h1, by have := HX.out.1.size; have := HV.out.size; have := HB6.out.1.size; omega, by have := N7.size; have := hb79.size; omega⟩
 have HEV : Hid (∀ w' : World, Below v.heap.size v w' → EnvD w' w.heap.size bs v4.heap.size v7.heap.size v6.heap.size P s p (s.a - P.fe) s.b (rvS (cm0 P 0 lk))) := fun w' hb => by
  have h1 := Below.transS HB.out.2.1 hb
  have h2 := heap_below (Below.transS N7.below (Below.transS hb79 hb)) HB6.out.2
  have h3 := heap_below hb hg9
  exact ⟨(HX.out.2 w' h1).1, (HX.out.2 w' h1).2.1, by rw [cell_of_row _ _ 0 _ _ _ h2]; rfl, by rw [cell_of_row _ _ 1 _ _ _ h2]; rfl, br_range h3⟩
 have HL0 : Hid (LaidD v v.heap.size v6.heap.size P.k1 [] [] none 0 none 0) := layD_start (heap_below hb79 N7.blk)
 clear hb79 N7 N8 hg9 hf9 HB6 HV HX HL6 HL7
 generalize v4.heap.size = bh at *
 generalize v7.heap.size = bf at *
 generalize v6.heap.size = kx at *
 have ch : v.cell? ⟨bh, 0, none⟩ = some (.int .i64 (s.a - P.fe)) := (HEV.out v (Below.refl _ _)).h0
 go_upto_if 47 with fail
 clear ch
 go_cut [14, 15] (fun lv pv wc => ∃ va vc ua uc, lv = .slice va (ifL (s.a - P.fe) (ownO (cm0 P 0 lk) s)).length vc ∧ pv = .slice ua (ifL (s.a - P.fe) ((1, 0) : Int × Int)).length uc ∧ LaidD wc v.heap.size kx P.k1 (ifL (s.a - P.fe) (ownO (cm0 P 0 lk) s)) (ifL (s.a - P.fe) (1, 0)) va vc ua uc ∧ Below v.heap.size v wc)
 case first =>
  by_cases h10 : 10 ≤ (s.a - P.fe)
  ·have HI : Hid (ifL (s.a - P.fe) (ownO (cm0 P 0 lk) s) = [ownO (cm0 P 0 lk) s] ∧ ifL (s.a - P.fe) ((1, 0) : Int × Int) = [(1, 0)]) := ⟨if_pos h10, if_pos h10⟩
   have HS : Hid (∀ w' : World, Below v.heap.size v w' → w'.cell? ⟨bh, 0, none⟩ = some (.int .i64 (s.a - P.fe)) ∧ w'.cell? ⟨w.heap.size, 36, none⟩ = some (.int .i64 P.dl) ∧ w'.rangeAt bf 0 (Cd.brl (rvS (cm0 P 0 lk)) (some ⟨kx, 0, none⟩) 1)) := fun w' hb => ⟨(HEV.out w' hb).h0, by have := (pmBox (HEV.out w' hb).pm).dl; simpa using this, (HEV.out w' hb).fn⟩
   go_upto_region 7 with fail
   refine wp_region_noPanic ?_
   refine wp_region_held_drew (S := fun w' => w'.cell? ⟨bh, 0, none⟩ = some (.int .i64 (s.a - P.fe)) ∧ w'.cell? ⟨w.heap.size, 36, none⟩ = some (.int .i64 P.dl) ∧ w'.rangeAt bf 0 (Cd.brl (rvS (cm0 P 0 lk)) (some ⟨kx, 0, none⟩) 1)) (by kernel_rfl) (HS.out v.drew (Below.refl _ _).drew) (fun hHeld => ?_)
   have HB0 : Hid (Below v.heap.size v v.drew) := (Below.refl _ _).drew
   generalize v.drew = z0 at *
   refine wpAnyH_take (i := 0) (oi := ⟨some 48, .move (.tmp 14), 56, _, _, none⟩) (v := ?_) rfl (by kernel_rfl) (by kernel_rfl) (by kernel_rfl) (fun _ _ _ h => h) (Or.inl ⟨by rfl, ?_⟩) (by assumption) ?_
   rotate_left
   ·intro wz hSw; (try dsimp only at hSw); go_simp; (try with_reducible rfl)
   try simp only [Act.put, zA, zB, zC]
   refine wpAnyH_take (i := 1) (oi := ⟨some 49, .move (.tmp 2), 3, _, _, none⟩) (v := ?_) rfl (by kernel_rfl) (by kernel_rfl) (by kernel_rfl) (fun _ _ _ h => h) (Or.inl ⟨by rfl, ?_⟩) (by assumption) ?_
   rotate_left
   ·intro wz hSw; (try dsimp only at hSw); go_simp; (try with_reducible rfl)
   try simp only [Act.put, zA, zB, zC]
   refine wpAnyH_take (i := 2) (oi := ⟨some 50, .indexAddr 26 (.tmp 12) (.tmp 49), 0, _, _, none⟩) (v := ?_) rfl (by kernel_rfl) (by kernel_rfl) (by kernel_rfl) (fun _ _ _ h => h) (Or.inl ⟨by rfl, ?_⟩) (by assumption) ?_
   rotate_left
   ·intro wz hSw; (try dsimp only at hSw); go_simp; (try with_reducible rfl)
   try simp only [Act.put, zA, zB, zC]
   refine wpAnyH_take (i := 3) (oi := ⟨some 51, .load 3 (.tmp 50), 3, _, _, none⟩) (v := ?_) rfl (by kernel_rfl) (by kernel_rfl) (by kernel_rfl) (fun _ _ _ h => h) (Or.inl ⟨by rfl, ?_⟩) (by assumption) ?_
   rotate_left
   ·intro wz hSw; (try dsimp only at hSw); go_simp; (try with_reducible rfl)
   try simp only [Act.put, zA, zB, zC]
   refine wpAnyH_take (i := 4) (oi := ⟨some 52, .move (.tmp 10), 3, _, _, none⟩) (v := ?_) rfl (by kernel_rfl) (by kernel_rfl) (by kernel_rfl) (fun _ _ _ h => h) (Or.inl ⟨by rfl, ?_⟩) (by assumption) ?_
   rotate_left
   ·intro wz hSw; (try dsimp only at hSw); go_simp; (try with_reducible rfl)
   try simp only [Act.put, zA, zB, zC]
   refine wpAnyH_take (i := 6) (oi := ⟨some 54, .fieldAddr 28 (.tmp 4) 3, 0, _, _, none⟩) (v := ?_) rfl (by kernel_rfl) (by kernel_rfl) (by kernel_rfl) (fun _ _ _ h => h) (Or.inl ⟨by rfl, ?_⟩) (by assumption) ?_
   rotate_left
   ·intro wz hSw; (try dsimp only at hSw); go_simp; (try with_reducible rfl)
   try simp only [Act.put, zA, zB, zC]
   refine wpAnyH_take (i := 7) (oi := ⟨some 55, .load 3 (.tmp 54), 3, _, _, none⟩) (v := ?_) rfl (by kernel_rfl) (by kernel_rfl) (by kernel_rfl) (fun _ _ _ h => h) (Or.inl ⟨by rfl, ?_⟩) (by assumption) ?_
   rotate_left
   ·intro wz hSw; (try dsimp only at hSw); go_simp; (try with_reducible rfl)
   try simp only [Act.put, zA, zB, zC]
   refine wpAnyH_take (i := 9) (oi := ⟨some 57, .load 126 (.tmp 13), 126, _, _, none⟩) rfl (by kernel_rfl) (by kernel_rfl) (by kernel_rfl) (fun _ _ _ h => h) (yieldsIf_load_mid (by rfl) _ _ rfl bf 0 rfl (Cd.brl (rvS (cm0 P 0 lk)) (some ⟨kx, 0, none⟩) 1) _ (fun _ h => h.2.2) Tryz.underlying126 rfl (szRbl _ _ _)) (by assumption) ?_
   try simp only [Act.put, zA, zB, zC]
   refine wpAnyH_ready (rs := [5]) (by kernel_rfl) (by simp) ?_
   refine (AllReadyH.cons (o := ⟨some 53, .buildSlice 88 1 #[(0, .tmp 52)], 88, _, _, none⟩) rfl (fun K hK => ?_) AllReadyH.nil)
   refine step_kSliceP rfl (.tmp 52) rfl P.k0 (by rfl) ?_
   intro q1 z1 hq1 hl1 hb1
   have H1 := hidV (And.intro hq1 (And.intro hl1 (And.intro hb1 (Below.transS HB0.out hb1))))
   clear hq1 hl1 hb1
   refine hK.out _ _ (HS.out z1 H1.out.2.2.2) (fun _ => ?_)
   clear hK K
   try simp only [Act.put, zA, zB, zC]
   refine wpAnyH_take (i := 8) (oi := ⟨some 56, .build 126 #[(0, .tmp 53), (3, .tmp 55)], 126, _, _, none⟩) (v := .agg (Cd.bv ⟨1, fun _ => P.k0, nz, 0, P.dl⟩ (some ⟨q1, 0, none⟩) 1)) rfl (by kernel_rfl) (by kernel_rfl) (by kernel_rfl) (fun _ _ _ h => h) (Or.inl ⟨by rfl, ?_⟩) (by assumption) ?_
   ·intro wz hSw; (try dsimp only at hSw); kernel_rfl
   try simp only [Act.put, zA, zB, zC]
   refine wpAnyH_ready (rs := [10]) (by kernel_rfl) (by simp) ?_
   refine (AllReadyH.cons (o := ⟨some 58, .buildSlice 120 2 #[(0, .tmp 56), (1, .tmp 57)], 120, _, _, none⟩) rfl (fun K hK => ?_) AllReadyH.nil)
   refine step_sliceRb2 rfl (.tmp 56) (.tmp 57) rfl ⟨1, fun _ => P.k0, nz, 0, P.dl⟩ (rvS (cm0 P 0 lk)) (some ⟨q1, 0, none⟩) (some ⟨kx, 0, none⟩) 1 1 (by rfl) (by rfl) ?_
   intro q2 z2 hq2 hl2 hb2
   have H2 := hidV (And.intro hq2 (And.intro hl2 (And.intro hb2 (Below.transS H1.out.2.2.2 hb2))))
   clear hq2 hl2 hb2
   refine hK.out _ _ (HS.out z2 H2.out.2.2.2) (fun _ => ?_)
   clear hK K
   try simp only [Act.put, zA, zB, zC]
   refine wpAnyH_take (i := 11) (oi := ⟨some 59, .build 122 #[(0, .tmp 58)], 122, _, _, none⟩) (v := .agg #[.slice (some ⟨q2, 0, none⟩) 2 2]) rfl (by kernel_rfl) (by kernel_rfl) (by kernel_rfl) (fun _ _ _ h => h) (Or.inl ⟨by rfl, ?_⟩) (by assumption) ?_
   ·intro wz hSw; (try dsimp only at hSw); kernel_rfl
   try simp only [Act.put, zA, zB, zC]
   refine wpAnyH_take (i := 12) (oi := ⟨some 60, .build 124 #[(0, .tmp 51), (1, .tmp 59)], 124, _, _, none⟩) (v := .agg #[.int .i64 (s.a - P.fe), .slice (some ⟨q2, 0, none⟩) 2 2]) rfl (by kernel_rfl) (by kernel_rfl) (by kernel_rfl) (fun _ _ _ h => h) (Or.inl ⟨by rfl, ?_⟩) (by assumption) ?_
   ·intro wz hSw; (try dsimp only at hSw); kernel_rfl
   try simp only [Act.put, zA, zB, zC]
   refine wpAnyH_ready (rs := [13]) (by kernel_rfl) (by simp) ?_
   refine (AllReadyH.cons (o := ⟨some 61, .buildSlice 56 1 #[(0, .tmp 60)], 56, _, _, none⟩) rfl (fun K hK => ?_) AllReadyH.nil)
   refine step_sliceTr rfl (.tmp 60) rfl (s.a - P.fe) (some ⟨q2, 0, none⟩) 2 2 (by rfl) ?_
   intro q3 z3 hq3 hl3 hb3
   have H3 := hidV (And.intro hq3 (And.intro hb3 (Below.transS H2.out.2.2.2 hb3)))
   clear hq3 hl3 hb3
   refine hK.out _ _ (HS.out z3 H3.out.2.2) (fun _ => ?_)
   clear hK K
   try simp only [Act.put, zA, zB, zC]
   refine wpAnyH_ready (rs := [14]) (by kernel_rfl) (by simp) ?_
   refine (AllReadyH.cons (o := ⟨some 62, .call { callee := Go.Callee.builtin Go.Builtin.append, args := #[.tmp 48, .tmp 61], argTypes := #[56, 56] }, 56, _, _, none⟩) rfl (fun K hK => ?_) AllReadyH.nil)
   have hbr : brS (cm0 P 0 lk) 0 = ⟨1, fun _ => P.k0, nz, 0, P.dl⟩ := by simp [brS, keyS, cm0]
   obtain ⟨A, I, hL⟩ := HL0.out
   refine step_append_Tr rfl (.tmp 48) (.tmp 61) rfl (hL.below H3.out.2.2) q3 (ownO (cm0 P 0 lk) s) (some ⟨q2, 0, none⟩) 2 z0.heap.size z3.heap.size (by rfl) (by rfl) H3.out.1 (by simp) (fun w' hx hw => ?_) HB0.out.size (Nat.le_refl _) (fun g e => by have := (hL.outs.lt g e).2; have := HB0.out.size; omega) (fun g e => by have := (hL.pls.lt g e).2; have := HB0.out.size; omega) (by simp) ?_
   ·have e1 := heap_below H3.out.2.1 H2.out.1
    have e2 := heap_below (Below.transS H2.out.2.2.1 H3.out.2.1) H1.out.1
    have e3 : z3.heap[kx]? = some (.cells #[.int .i64 P.k1] 3 (0, 0)) := heap_below H3.out.2.2 hL.fx
    rw [← hbr] at e1
    refine brAt2 (by rw [hw q2 (by have := H2.out.2.1; have := H1.out.2.2.1.size; omega) (lt_of_block e1)]; exact e1) rfl rfl (brS_ok HC.out _) (rvS_ok HC.out) ?_ ?_
    ·rw [cell_of_row _ _ 0 _ _ _ (show w'.heap[q1]? = _ by rw [hw q1 (by have := H1.out.2.1; omega) (lt_of_block e2)]; exact e2)]; rfl
    ·rw [cell_of_row _ _ 0 _ _ _ (show w'.heap[kx]? = _ by rw [hx]; exact e3)]; rfl
   intro va vc z4 hL4 hb4
   have H4 : Hid (LaidD z4 v.heap.size kx P.k1 [ownO (cm0 P 0 lk) s] [] va vc none 0 ∧ Below v.heap.size v z4) := ⟨hL4, H3.out.2.2.trans (hb4 _ (Nat.le_refl _))⟩
   clear hL4 hb4 hbr hL
   refine hK.out _ _ (HS.out z4 H4.out.2) (fun _ => ?_)
   clear hK K
   try simp only [Act.put, zA, zB, zC]
   refine wpAnyH_take (i := 15) (oi := ⟨some 14, .assign (.tmp 62), 56, _, _, none⟩) (v := ?_) rfl (by kernel_rfl) (by kernel_rfl) (by kernel_rfl) (fun _ _ _ h => h) (Or.inl ⟨by rfl, ?_⟩) (by assumption) ?_
   rotate_left
   ·intro wz hSw; (try dsimp only at hSw); go_simp; (try with_reducible rfl)
   try simp only [Act.put, zA, zB, zC]
   refine wpAnyH_done (by kernel_rfl) (NoPanic.normal ?_) _
   try simp only [Act.put, zA, zB, zC]
   clear hHeld
   go_wp2_with (first | (refine wpList_slicePr rfl _ rfl 1 0 rfl ?_; intro z5 N5; have H5 := hidV (And.intro (H4.out.1.below N5.below) (And.intro N5.blk (Below.transS H4.out.2 N5.below))); clear N5) | (at_builtin; refine wpList_append_Pr rfl _ _ rfl H5.out.1 z4.heap.size 1 0 rfl rfl H5.out.2.1 (by simp) ?_; intro ua uc z6 hL6 hb6) | fail)
   go_meet
   case rel =>
    rw [HI.out.1, HI.out.2]
    exact ⟨va, vc, ua, uc, rfl, rfl, hL6, H5.out.2.2.trans (hb6 _ (Nat.le_refl _))⟩
  ·have HI : Hid (ifL (s.a - P.fe) (ownO (cm0 P 0 lk) s) = [] ∧ ifL (s.a - P.fe) ((1, 0) : Int × Int) = []) := ⟨if_neg h10, if_neg h10⟩
   go_wp2
   go_meet
   case rel =>
    rw [HI.out.1, HI.out.2]
    exact ⟨none, 0, none, 0, rfl, rfl, HL0.out, Below.refl _ _⟩
 clear HL0
 obtain ⟨va, vc, ua, uc, rfl, rfl, hL, hbc⟩ := hcut
 have HL1 := hidV (And.intro hL hbc)
 clear hL hbc
 generalize wc = y1 at *
 have ch : y1.cell? ⟨bh, 1, none⟩ = some (.int .i64 s.b) := (HEV.out y1 HL1.out.2).h1
 go_upto_if 71 with fail
 clear ch
 have HLN : Hid ((ifL (s.a - P.fe) (ownO (cm0 P 0 lk) s)).length ≤ 1 ∧ (ifL (s.a - P.fe) ((1, 0) : Int × Int)).length ≤ 1) := ⟨ifL_len _ _, ifL_len _ _⟩
 go_cut [14, 15] (fun lv pv wc => ∃ va vc ua uc, lv = .slice va (sideO (cm0 P 0 lk) s).length vc ∧ pv = .slice ua (sideZ (cm0 P 0 lk) s).length uc ∧ LaidD wc v.heap.size kx P.k1 (sideO (cm0 P 0 lk) s) (sideZ (cm0 P 0 lk) s) va vc ua uc ∧ Below v.heap.size v wc)
 case first =>
  have hz1 : sideO (cm0 P 0 lk) s = ifL (s.a - P.fe) (ownO (cm0 P 0 lk) s) ++ ifL s.b (othO (cm0 P 0 lk) s) := rfl
  have hz2 : sideZ (cm0 P 0 lk) s = ifL (s.a - P.fe) (1, 0) ++ ifL s.b (2, 0) := rfl
  by_cases h10 : 10 ≤ s.b
  ·have HI : Hid (sideO (cm0 P 0 lk) s = ifL (s.a - P.fe) (ownO (cm0 P 0 lk) s) ++ [othO (cm0 P 0 lk) s] ∧ sideZ (cm0 P 0 lk) s = ifL (s.a - P.fe) (1, 0) ++ [(2, 0)]) := ⟨by rw [hz1, show ifL s.b (othO (cm0 P 0 lk) s) = [othO (cm0 P 0 lk) s] from if_pos h10], by rw [hz2, show ifL s.b ((2, 0) : Int × Int) = [(2, 0)] from if_pos h10]⟩
   clear hz1 hz2
   have HS : Hid (∀ w' : World, Below v.heap.size v w' → w'.cell? ⟨bh, 1, none⟩ = some (.int .i64 s.b)) := fun w' hb => (HEV.out w' hb).h1
   go_upto_region 10 with fail
   refine wp_region_noPanic ?_
   refine wp_region_held_drew (S := fun w' => w'.cell? ⟨bh, 1, none⟩ = some (.int .i64 s.b)) (by kernel_rfl) (HS.out y1.drew HL1.out.2.drew) (fun hHeld => ?_)
   have HB0 : Hid (Below v.heap.size v y1.drew ∧ Below y1.heap.size y1 y1.drew) := ⟨HL1.out.2.drew, (Below.refl _ _).drew⟩
   generalize y1.drew = z0 at *
   refine wpAnyH_take (i := 0) (oi := ⟨some 72, .move (.tmp 14), 56, _, _, none⟩) (v := ?_) rfl (by kernel_rfl) (by kernel_rfl) (by kernel_rfl) (fun _ _ _ h => h) (Or.inl ⟨by rfl, ?_⟩) (by assumption) ?_
   rotate_left
   ·intro wz hSw; (try dsimp only at hSw); go_simp; (try with_reducible rfl)
   try simp only [Act.put, zA, zB, zC]
   refine wpAnyH_take (i := 1) (oi := ⟨some 73, .move (.tmp 2), 3, _, _, none⟩) (v := ?_) rfl (by kernel_rfl) (by kernel_rfl) (by kernel_rfl) (fun _ _ _ h => h) (Or.inl ⟨by rfl, ?_⟩) (by assumption) ?_
   rotate_left
   ·intro wz hSw; (try dsimp only at hSw); go_simp; (try with_reducible rfl)
   try simp only [Act.put, zA, zB, zC]
   refine wpAnyH_take (i := 2) (oi := ⟨some 74, .binOp .sub 3 (.const (.int .i64 1)) (.tmp 73) 3, 3, _, _, none⟩) (v := ?_) rfl (by kernel_rfl) (by kernel_rfl) (by kernel_rfl) (fun _ _ _ h => h) (Or.inl ⟨by rfl, ?_⟩) (by assumption) ?_
   rotate_left
   ·intro wz hSw; (try dsimp only at hSw); go_simp; (try with_reducible rfl)
   try simp only [Act.put, zA, zB, zC]
   refine wpAnyH_take (i := 3) (oi := ⟨some 75, .indexAddr 26 (.tmp 12) (.tmp 74), 0, _, _, none⟩) (v := ?_) rfl (by kernel_rfl) (by kernel_rfl) (by kernel_rfl) (fun _ _ _ h => h) (Or.inl ⟨by rfl, ?_⟩) (by assumption) ?_
   rotate_left
   ·intro wz hSw; (try dsimp only at hSw); go_simp; (try with_reducible rfl)
   try simp only [Act.put, zA, zB, zC]
   refine wpAnyH_take (i := 4) (oi := ⟨some 76, .load 3 (.tmp 75), 3, _, _, none⟩) (v := ?_) rfl (by kernel_rfl) (by kernel_rfl) (by kernel_rfl) (fun _ _ _ h => h) (Or.inl ⟨by rfl, ?_⟩) (by assumption) ?_
   rotate_left
   ·intro wz hSw; (try dsimp only at hSw); go_simp; (try with_reducible rfl)
   try simp only [Act.put, zA, zB, zC]
   refine wpAnyH_take (i := 5) (oi := ⟨some 77, .move (.tmp 11), 3, _, _, none⟩) (v := ?_) rfl (by kernel_rfl) (by kernel_rfl) (by kernel_rfl) (fun _ _ _ h => h) (Or.inl ⟨by rfl, ?_⟩) (by assumption) ?_
   rotate_left
   ·intro wz hSw; (try dsimp only at hSw); go_simp; (try with_reducible rfl)
   try simp only [Act.put, zA, zB, zC]
   refine wpAnyH_ready (rs := [6]) (by kernel_rfl) (by simp) ?_
   refine (AllReadyH.cons (o := ⟨some 78, .buildSlice 88 1 #[(0, .tmp 77)], 88, _, _, none⟩) rfl (fun K hK => ?_) AllReadyH.nil)
   refine step_kSliceP rfl (.tmp 77) rfl P.k1 (by rfl) ?_
   intro q1 z1 hq1 hl1 hb1
   have H1 := hidV (And.intro hq1 (And.intro hl1 (And.intro hb1 (HB0.out.1.trans (hb1.mono HB0.out.1.size)))))
   clear hq1 hl1 hb1
   refine hK.out _ _ (HS.out z1 H1.out.2.2.2) (fun _ => ?_)
   clear hK K
   try simp only [Act.put, zA, zB, zC]
   refine wpAnyH_ready (rs := [7]) (by kernel_rfl) (by simp) ?_
   refine (AllReadyH.cons (o := ⟨some 79, .call { callee := Go.Callee.value (.func 44), args := #[.tmp 78], argTypes := #[88] }, 122, _, _, none⟩) rfl (fun K hK => ?_) AllReadyH.nil)
   go_simp
   refine (Cd.rall_in (some ⟨q1, 0, none⟩) 1 1 (fun _ => P.k1) z1 (keyAt H1.out.1) (fun _ _ => keyS_ib HC.out 1) (by decide)).mono ?_
   rintro e z2 ⟨q2, rfl, hI2, hb2⟩
   have H2 := hidV (And.intro hI2 (And.intro hb2 (H1.out.2.2.2.trans (hb2.mono H1.out.2.2.2.size))))
   clear hI2 hb2
   refine hK.out _ _ (HS.out z2 H2.out.2.2) (fun _ => ?_)
   clear hK K
   try simp only [Act.put, zA, zB, zC]
   refine wpAnyH_take (i := 8) (oi := ⟨some 80, .build 124 #[(0, .tmp 76), (1, .tmp 79)], 124, _, _, none⟩) (v := .agg #[.int .i64 s.b, .slice (some ⟨q2, 0, none⟩) 1 1]) rfl (by kernel_rfl) (by kernel_rfl) (by kernel_rfl) (fun _ _ _ h => h) (Or.inl ⟨by rfl, ?_⟩) (by assumption) ?_
   ·intro wz hSw; (try dsimp only at hSw); kernel_rfl
   try simp only [Act.put, zA, zB, zC]
   refine wpAnyH_ready (rs := [9]) (by kernel_rfl) (by simp) ?_
   refine (AllReadyH.cons (o := ⟨some 81, .buildSlice 56 1 #[(0, .tmp 80)], 56, _, _, none⟩) rfl (fun K hK => ?_) AllReadyH.nil)
   refine step_sliceTr rfl (.tmp 80) rfl s.b (some ⟨q2, 0, none⟩) 1 1 (by rfl) ?_
   intro q3 z3 hq3 hl3 hb3
   have H3 := hidV (And.intro hq3 (And.intro hb3 (H2.out.2.2.trans (hb3.mono H2.out.2.2.size))))
   clear hq3 hl3 hb3
   refine hK.out _ _ (HS.out z3 H3.out.2.2) (fun _ => ?_)
   clear hK K
   try simp only [Act.put, zA, zB, zC]
   refine wpAnyH_ready (rs := [10]) (by kernel_rfl) (by simp) ?_
   refine (AllReadyH.cons (o := ⟨some 82, .call { callee := Go.Callee.builtin Go.Builtin.append, args := #[.tmp 72, .tmp 81], argTypes := #[56, 56] }, 56, _, _, none⟩) rfl (fun K hK => ?_) AllReadyH.nil)
   obtain ⟨A, I, hL⟩ := HL1.out.1
   have hb03 : Below y1.heap.size y1 z3 := Below.transS HB0.out.2 (Below.transS H1.out.2.2.1 (Below.transS H2.out.2.1 H3.out.2.1))
   refine step_append_Tr rfl (.tmp 72) (.tmp 81) rfl (hL.below hb03) q3 (othO (cm0 P 0 lk) s) (some ⟨q2, 0, none⟩) 1 z0.heap.size z3.heap.size (by rfl) (by rfl) H3.out.1 (by have := HLN.out.1; omega) (fun w' hx hw => ?_) HB0.out.1.size (Nat.le_refl _) (fun g e => by have := (hL.outs.lt g e).2; have := HB0.out.2.size; omega) (fun g e => by have := (hL.pls.lt g e).2; have := HB0.out.2.size; omega) (by simp) ?_
   ·have hh := H2.out.1 w' (fun q h1 h2 => by rw [hw q (by have := H1.out.2.2.1.size; omega) (by have := H3.out.2.1.size; omega)]; exact H3.out.2.1.block q h2)
    rw [insL_one] at hh
    exact hh
   intro va' vc' z4 hL4 hb4
   have H4 : Hid (LaidD z4 v.heap.size kx P.k1 (ifL (s.a - P.fe) (ownO (cm0 P 0 lk) s) ++ [othO (cm0 P 0 lk) s]) (ifL (s.a - P.fe) (1, 0)) va' vc' ua uc ∧ Below v.heap.size v z4) := ⟨hL4, H3.out.2.2.trans (hb4 _ (Nat.le_refl _))⟩
   clear hL4 hb4 hL hb03
   refine hK.out _ _ (HS.out z4 H4.out.2) (fun _ => ?_)
   clear hK K
   try simp only [Act.put, zA, zB, zC]
   refine wpAnyH_take (i := 11) (oi := ⟨some 14, .assign (.tmp 82), 56, _, _, none⟩) (v := ?_) rfl (by kernel_rfl) (by kernel_rfl) (by kernel_rfl) (fun _ _ _ h => h) (Or.inl ⟨by rfl, ?_⟩) (by assumption) ?_
   rotate_left
   ·intro wz hSw; (try dsimp only at hSw); go_simp; (try with_reducible rfl)
   try simp only [Act.put, zA, zB, zC]
   refine wpAnyH_done (by kernel_rfl) (NoPanic.normal ?_) _
   try simp only [Act.put, zA, zB, zC]
   clear hHeld
   go_wp2_with (first | (refine wpList_slicePr rfl _ rfl 2 0 rfl ?_; intro z5 N5; have H5 := hidV (And.intro (H4.out.1.below N5.below) (And.intro N5.blk (H4.out.2.trans (N5.below.mono H4.out.2.size)))); clear N5) | (at_builtin; refine wpList_append_Pr rfl _ _ rfl H5.out.1 z4.heap.size 2 0 rfl rfl H5.out.2.1 (by have := HLN.out.2; omega) ?_; intro ua' uc' z6 hL6 hb6) | fail)
   go_meet
   case rel =>
    rw [HI.out.1, HI.out.2]
    exact ⟨va', vc', ua', uc', by rw [List.length_append]; rfl, by rw [List.length_append]; rfl, hL6, H5.out.2.2.trans (hb6 _ (Nat.le_refl _))⟩
  ·have HI : Hid (sideO (cm0 P 0 lk) s = ifL (s.a - P.fe) (ownO (cm0 P 0 lk) s) ∧ sideZ (cm0 P 0 lk) s = ifL (s.a - P.fe) (1, 0)) := ⟨by rw [hz1, show ifL s.b (othO (cm0 P 0 lk) s) = [] from if_neg h10, List.append_nil], by rw [hz2, show ifL s.b ((2, 0) : Int × Int) = [] from if_neg h10, List.append_nil]⟩
   clear hz1 hz2
   go_wp2
   go_meet
   case rel =>
    rw [HI.out.1, HI.out.2]
    exact ⟨va, vc, ua, uc, rfl, rfl, HL1.out⟩
 clear HL1 HLN
 obtain ⟨va, vc, ua, uc, rfl, rfl, hL, hbc⟩ := hcut
 have HL2 : Hid (LaidD wc v.heap.size kx P.k1 (paysO (cm0 P 0 lk) s 0) (paysZ (cm0 P 0 lk) s 0) va vc ua uc ∧ Below v.heap.size v wc) := by rw [(paysO_zero (cm0 P 0 lk) s).1, (paysO_zero (cm0 P 0 lk) s).2]; exact ⟨hL, hbc⟩
 have HLN : Hid (sideO (cm0 P 0 lk) s = paysO (cm0 P 0 lk) s 0 ∧ sideZ (cm0 P 0 lk) s = paysZ (cm0 P 0 lk) s 0) := ⟨(paysO_zero (cm0 P 0 lk) s).1.symm, (paysO_zero (cm0 P 0 lk) s).2.symm⟩
 clear hL hbc
 rw [HLN.out.1, HLN.out.2]
 generalize wc = y2 at *
 have c3 : y2.cell? ⟨bs, 3, none⟩ = some (.slice p.pa s.pn p.pc) := (HEV.out y2 HL2.out.2).st 3 _ rfl
 go_wp2_with fail
 clear c3
 go_loopw [14, 15, 16, 17, 18, 19] (fun lv pv iv _ _ _ wr => ∃ (i : Nat) (va : Option Addr) (vc : Nat) (ua : Option Addr) (uc : Nat), i ≤ s.pn ∧ iv = .int .i64 i ∧ lv = .slice va (paysO (cm0 P 0 lk) s i).length vc ∧ pv = .slice ua (paysZ (cm0 P 0 lk) s i).length uc ∧ LaidD wr v.heap.size kx P.k1 (paysO (cm0 P 0 lk) s i) (paysZ (cm0 P 0 lk) s i) va vc ua uc ∧ Below v.heap.size v wr) (fun _ _ iv _ _ _ _ => s.pn + 1 - (intOf iv).toNat)
 case atStart => exact ⟨0, va, vc, ua, uc, by omega, rfl, rfl, rfl, HL2.out⟩
 case round =>
  clear HL2 HLN
  obtain ⟨i, va, vc, ua, uc, hi, rfl, rfl, rfl, hL, hbr⟩ := hrel
  have HL3 := hidV (And.intro hL hbr)
  clear hL hbr
  have c3 : wr.cell? ⟨bs, 3, none⟩ = some (.slice p.pa s.pn p.pc) := (HEV.out wr HL3.out.2).st 3 _ rfl
  by_cases hlt : i < s.pn
  ·have hlt' : (i : Int) < s.pn := by omega
   obtain ⟨b, off, hpa, hcc⟩ := HSv.out.1.py.at_ (by omega)
   have HW : Hid (Below w.heap.size w wr) := HB.out.1.trans (HL3.out.2.mono HB.out.1.size)
   have HR : Hid (wr.rangeAt b (off + i * 36) (pyl (s.P i))) := range_below (hcc i hlt) HW.out
   have HY : Hid (Zb (s.P i).lk ∧ POne (s.P i)) := ⟨HSv.out.1.py.lk i hlt, (HSv.out.2.1.2.1.2.1 i hlt).2⟩
   have HPS : Hid (paysO (cm0 P 0 lk) s (i + 1) = paysO (cm0 P 0 lk) s i ++ [payO (cm0 P 0 lk) (s.P i)] ∧ paysZ (cm0 P 0 lk) s (i + 1) = paysZ (cm0 P 0 lk) s i ++ [(3, (s.P i).id)]) := by
    have := paysO_succ (cm0 P 0 lk) s i HY.out.2.2.2.1.1
    rw [show ifL (s.P i).am (payO (cm0 P 0 lk) (s.P i)) = [payO (cm0 P 0 lk) (s.P i)] from if_pos HY.out.2.2.2.1.1, show ifL (s.P i).am ((3, (s.P i).id) : Int × Int) = [(3, (s.P i).id)] from if_pos HY.out.2.2.2.1.1] at this
    exact ⟨this.1.symm, this.2.symm⟩
   clear hcc
   generalize s.P i = Y at *
   rw [hpa] at c3
   go_upto_region 16 with (first | (refine wpList_load_mid rfl 98 _ rfl b (off + i * 36) rfl (pyl Y) _ HR.out Tryz.underlying98 rfl (szPrl _) ?_) | (refine wpList_allocN 98 (pyv p0) run_allocPyr rfl rfl ?_; intro z1 N1) | (refine wpList_storeG 98 szPr rfl _ _ rfl wr.heap.size rfl (pyv Y) (pyv p0) (pyv_size _) (pyv_size _) (pyv_one _) 98 rfl N1.blk ?_; intro z2 hg2 hf2) | fail)
   have HZ2 : Hid (z2.heap[wr.heap.size]? = some (.cells (pyv Y) 98 (0, 0)) ∧ Below wr.heap.size wr z2 ∧ Below v.heap.size v z2) := ⟨hg2, N1.below.trans (hf2.below N1.below.size (by simp)), HL3.out.2.trans ((N1.below.trans (hf2.below N1.below.size (by simp)) : Below wr.heap.size wr z2).mono HL3.out.2.size)⟩
   clear hg2 hf2 N1 c3 hpa HR
   generalize hbp : wr.heap.size = bp at *
   have HBP := hidV hbp
   clear hbp
   have HV2 : Hid (Below v.heap.size v z2) := HZ2.out.2.2
   simp only [Act.put, zA, zB, zC]
   go_cut [18] (fun gv wc => ∃ pg kg, gv = .pointer (some ⟨pg, 0, none⟩) ∧ TwS z2 wc pg kg (keyS P (1 - Y.fr)) ⟨1, fun _ => keyS P (1 - Y.fr), Y.lk, 0, 0⟩)
   case first =>
    obtain hf | hf := HY.out.2.2.1
    ·have HKEY : Hid (keyS P (1 - Y.fr) = P.k1) := by show _ = _; rw [hf]; simp [keyS]
     have HS : Hid (∀ w' : World, Below z2.heap.size z2 w' → w'.cell? ⟨bp, 1, none⟩ = some (.int .i64 0) ∧ w'.cell? ⟨w.heap.size, 35, none⟩ = some (.int .i64 P.k1) ∧ w'.rangeAt bp 4 (bl Y.lk 32)) := fun w' hb => by
      have h1 := pyl_range (heap_below hb HZ2.out.1)
      have h2 := (HEV.out w' (HV2.out.trans (hb.mono HV2.out.size))).pm
      have h3 : w'.cell? ⟨bp, 1, none⟩ = some (.int .i64 Y.fr) := by simpa using h1 1 _ rfl
      rw [hf] at h3
      have h5 : w'.rangeAt bp 0 ([.int .i64 Y.id, .int .i64 Y.fr, .int .i64 Y.am, .int .i64 Y.af] ++ bl Y.lk 32) := h1
      exact ⟨h3, by have := (pmBox h2).k1; simpa using this, (range_app h5).2⟩
     clear hf
     refine wp_region_noPanic ?_
     refine wp_region_held_drew (S := fun w' => w'.cell? ⟨bp, 1, none⟩ = some (.int .i64 0) ∧ w'.cell? ⟨w.heap.size, 35, none⟩ = some (.int .i64 P.k1) ∧ w'.rangeAt bp 4 (bl Y.lk 32)) (by kernel_rfl) (HS.out z2.drew (Below.refl _ _).drew) (fun hHeld => ?_)
     have HB0 : Hid (Below z2.heap.size z2 z2.drew) := (Below.refl _ _).drew
     generalize z2.drew = x0 at *
     refine wpAnyH_take (i := 0) (oi := ⟨some 99, .fieldAddr 98 (.tmp 17) 1, 0, _, _, none⟩) (v := ?_) rfl (by kernel_rfl) (by kernel_rfl) (by kernel_rfl) (fun _ _ _ h => h) (Or.inl ⟨by rfl, ?_⟩) (by assumption) ?_
     rotate_left
     ·intro wz hSw; (try dsimp only at hSw); go_simp; (try with_reducible rfl)
     try simp only [Act.put, zA, zB, zC]
     refine wpAnyH_take (i := 1) (oi := ⟨some 100, .load 3 (.tmp 99), 3, _, _, none⟩) (v := ?_) rfl (by kernel_rfl) (by kernel_rfl) (by kernel_rfl) (fun _ _ _ h => h) (Or.inl ⟨by rfl, ?_⟩) (by assumption) ?_
     rotate_left
     ·intro wz hSw; (try dsimp only at hSw); go_simp; (try with_reducible rfl)
     try simp only [Act.put, zA, zB, zC]
     refine wpAnyH_take (i := 2) (oi := ⟨some 101, .binOp .sub 3 (.const (.int .i64 1)) (.tmp 100) 3, 3, _, _, none⟩) (v := ?_) rfl (by kernel_rfl) (by kernel_rfl) (by kernel_rfl) (fun _ _ _ h => h) (Or.inl ⟨by rfl, ?_⟩) (by assumption) ?_
     rotate_left
     ·intro wz hSw; (try dsimp only at hSw); go_simp; (try with_reducible rfl)
     try simp only [Act.put, zA, zB, zC]
     refine wpAnyH_take (i := 3) (oi := ⟨some 102, .fieldAddr 28 (.tmp 4) 2, 0, _, _, none⟩) (v := ?_) rfl (by kernel_rfl) (by kernel_rfl) (by kernel_rfl) (fun _ _ _ h => h) (Or.inl ⟨by rfl, ?_⟩) (by assumption) ?_
     rotate_left
     ·intro wz hSw; (try dsimp only at hSw); go_simp; (try with_reducible rfl)
     try simp only [Act.put, zA, zB, zC]
     refine wpAnyH_take (i := 4) (oi := ⟨some 103, .indexAddr 26 (.tmp 102) (.tmp 101), 0, _, _, none⟩) (v := ?_) rfl (by kernel_rfl) (by kernel_rfl) (by kernel_rfl) (fun _ _ _ h => h) (Or.inl ⟨by rfl, ?_⟩) (by assumption) ?_
     rotate_left
     ·intro wz hSw; (try dsimp only at hSw); go_simp; (try with_reducible rfl)
     try simp only [Act.put, zA, zB, zC]
     refine wpAnyH_take (i := 5) (oi := ⟨some 104, .load 3 (.tmp 103), 3, _, _, none⟩) (v := ?_) rfl (by kernel_rfl) (by kernel_rfl) (by kernel_rfl) (fun _ _ _ h => h) (Or.inl ⟨by rfl, ?_⟩) (by assumption) ?_
     rotate_left
     ·intro wz hSw; (try dsimp only at hSw); go_simp; (try with_reducible rfl)
     try simp only [Act.put, zA, zB, zC]
     refine wpAnyH_take (i := 7) (oi := ⟨some 106, .fieldAddr 98 (.tmp 17) 4, 0, _, _, none⟩) (v := ?_) rfl (by kernel_rfl) (by kernel_rfl) (by kernel_rfl) (fun _ _ _ h => h) (Or.inl ⟨by rfl, ?_⟩) (by assumption) ?_
     rotate_left
     ·intro wz hSw; (try dsimp only at hSw); go_simp; (try with_reducible rfl)
     try simp only [Act.put, zA, zB, zC]
     refine wpAnyH_take (i := 8) (oi := ⟨some 107, .load 23 (.tmp 106), 23, _, _, none⟩) rfl (by kernel_rfl) (by kernel_rfl) (by kernel_rfl) (fun _ _ _ h => h) (yieldsIf_load_mid (by rfl) _ _ rfl bp 4 rfl (bl Y.lk 32) _ (fun _ h => h.2.2) Tryz.underlying23 rfl (szHb _)) (by assumption) ?_
     try simp only [Act.put, zA, zB, zC]
     refine wpAnyH_ready (rs := [6, 10]) (by kernel_rfl) (by simp) ?_
     refine (AllReadyH.cons (o := ⟨some 105, .buildSlice 88 1 #[(0, .tmp 104)], 88, _, _, none⟩) rfl (fun K hK => ?_) (AllReadyH.cons (o := ⟨some 18, .alloc 126, 0, _, _, none⟩) rfl (fun K hK => ?_) AllReadyH.nil))
     focus
      refine step_kSliceP rfl (.tmp 104) rfl P.k1 (by rfl) ?_
      intro kg x1 hg1 hl1 hb1
      have H1 := hidV (And.intro hg1 (And.intro hl1 hb1))
      clear hg1 hl1 hb1
      refine hK.out _ _ (HS.out x1 (Below.transS HB0.out H1.out.2.2)) (fun _ => ?_)
      clear hK K
      try simp only [Act.put, zA, zB, zC]
      refine wpAnyH_take (i := 9) (oi := ⟨some 108, .build 126 #[(0, .tmp 105), (1, .tmp 107)], 126, _, _, none⟩) (v := .agg (Cd.bv ⟨1, fun _ => P.k1, Y.lk, 0, 0⟩ (some ⟨kg, 0, none⟩) 1)) rfl (by kernel_rfl) (by kernel_rfl) (by kernel_rfl) (fun _ _ _ h => h) (Or.inl ⟨by rfl, ?_⟩) (by assumption) ?_
      ·intro wz hSw; (try dsimp only at hSw); kernel_rfl
      try simp only [Act.put, zA, zB, zC]
      refine wpAnyH_ready (rs := [10]) (by kernel_rfl) (by simp) ?_
      refine (AllReadyH.cons (o := ⟨some 18, .alloc 126, 0, _, _, none⟩) rfl (fun K hK => ?_) AllReadyH.nil)
      refine step_allocP 126 (Cd.bv z0 none 0) run_allocRb rfl rfl ?_
      intro pg x2 hg2 hl2 hb2
      have MM := hidV (TwM.kp H1.out.1 H1.out.2.1 H1.out.2.2 hg2 hl2 hb2)
      clear hg2 hl2 hb2 H1
      refine hK.out _ _ (HS.out x2 (Below.transS HB0.out MM.out.below)) (fun _ => ?_)
      clear hK K
      try simp only [Act.put, zA, zB, zC]
     rotate_left
     focus
      refine step_allocP 126 (Cd.bv z0 none 0) run_allocRb rfl rfl ?_
      intro pg x1 hg1 hl1 hb1
      have H1 := hidV (And.intro hg1 (And.intro hl1 hb1))
      clear hg1 hl1 hb1
      refine hK.out _ _ (HS.out x1 (Below.transS HB0.out H1.out.2.2)) (fun _ => ?_)
      clear hK K
      try simp only [Act.put, zA, zB, zC]
      refine wpAnyH_ready (rs := [6]) (by kernel_rfl) (by simp) ?_
      refine (AllReadyH.cons (o := ⟨some 105, .buildSlice 88 1 #[(0, .tmp 104)], 88, _, _, none⟩) rfl (fun K hK => ?_) AllReadyH.nil)
      refine step_kSliceP rfl (.tmp 104) rfl P.k1 (by rfl) ?_
      intro kg x2 hg2 hl2 hb2
      have MM := hidV (TwM.pk H1.out.1 H1.out.2.1 H1.out.2.2 hg2 hl2 hb2)
      clear hg2 hl2 hb2 H1
      refine hK.out _ _ (HS.out x2 (Below.transS HB0.out MM.out.below)) (fun _ => ?_)
      clear hK K
      try simp only [Act.put, zA, zB, zC]
      refine wpAnyH_take (i := 9) (oi := ⟨some 108, .build 126 #[(0, .tmp 105), (1, .tmp 107)], 126, _, _, none⟩) (v := .agg (Cd.bv ⟨1, fun _ => P.k1, Y.lk, 0, 0⟩ (some ⟨kg, 0, none⟩) 1)) rfl (by kernel_rfl) (by kernel_rfl) (by kernel_rfl) (fun _ _ _ h => h) (Or.inl ⟨by rfl, ?_⟩) (by assumption) ?_
      ·intro wz hSw; (try dsimp only at hSw); kernel_rfl
      try simp only [Act.put, zA, zB, zC]
     all_goals
      refine wpAnyH_ready (rs := [11]) (by kernel_rfl) (by simp) ?_
      refine (AllReadyH.cons (o := ⟨none, .store 126 (.tmp 18) (.tmp 108), 0, _, _, none⟩) rfl (fun K hK => ?_) AllReadyH.nil)
      refine step_storeG 126 szRb rfl (.tmp 18) (.tmp 108) rfl pg (by rfl) (Cd.bv ⟨1, fun _ => P.k1, Y.lk, 0, 0⟩ (some ⟨kg, 0, none⟩) 1) (Cd.bv z0 none 0) (Cd.bv_size _ _ _) (Cd.bv_size _ _ _) (Cd.bv_one _ _ _) 126 (by rfl) MM.out.pb ?_
      intro x3 hg3 hf3
      have HT : Hid (TwS z2 x3 pg kg P.k1 ⟨1, fun _ => P.k1, Y.lk, 0, 0⟩) := ⟨hg3, hf3.heap MM.out.kb (by have := MM.out.low; simp; omega), ⟨by have := MM.out.low; have := HB0.out.size; omega, by have := MM.out.low; have := HB0.out.size; omega, fun e => MM.out.low.2.2 e.symm⟩, (Below.transS HB0.out MM.out.below).trans (hf3.below (by have := HB0.out.size; have := MM.out.below.size; omega) (by have := MM.out.low; have := HB0.out.size; simp; omega))⟩
      clear hg3 hf3
      refine hK.out _ _ (HS.out x3 HT.out.below) (fun _ => ?_)
      clear hK K
      try simp only [Act.put]
      refine wpAnyH_done (by kernel_rfl) (NoPanic.normal ?_) _
      try simp only [Act.put, zA, zB, zC]
      clear hHeld
      go_wp2
      go_meet
      case rel =>
       refine ⟨pg, kg, rfl, ?_⟩
       simp only [HKEY.out]
       exact HT.out
    ·have HKEY : Hid (keyS P (1 - Y.fr) = P.k0) := by show _ = _; rw [hf]; simp [keyS]
     have HS : Hid (∀ w' : World, Below z2.heap.size z2 w' → w'.cell? ⟨bp, 1, none⟩ = some (.int .i64 1) ∧ w'.cell? ⟨w.heap.size, 34, none⟩ = some (.int .i64 P.k0) ∧ w'.rangeAt bp 4 (bl Y.lk 32)) := fun w' hb => by
      have h1 := pyl_range (heap_below hb HZ2.out.1)
      have h2 := (HEV.out w' (HV2.out.trans (hb.mono HV2.out.size))).pm
      have h3 : w'.cell? ⟨bp, 1, none⟩ = some (.int .i64 Y.fr) := by simpa using h1 1 _ rfl
      rw [hf] at h3
      have h5 : w'.rangeAt bp 0 ([.int .i64 Y.id, .int .i64 Y.fr, .int .i64 Y.am, .int .i64 Y.af] ++ bl Y.lk 32) := h1
      exact ⟨h3, by have := (pmBox h2).k0; simpa using this, (range_app h5).2⟩
     clear hf
     refine wp_region_noPanic ?_
     refine wp_region_held_drew (S := fun w' => w'.cell? ⟨bp, 1, none⟩ = some (.int .i64 1) ∧ w'.cell? ⟨w.heap.size, 34, none⟩ = some (.int .i64 P.k0) ∧ w'.rangeAt bp 4 (bl Y.lk 32)) (by kernel_rfl) (HS.out z2.drew (Below.refl _ _).drew) (fun hHeld => ?_)
     have HB0 : Hid (Below z2.heap.size z2 z2.drew) := (Below.refl _ _).drew
     generalize z2.drew = x0 at *
     refine wpAnyH_take (i := 0) (oi := ⟨some 99, .fieldAddr 98 (.tmp 17) 1, 0, _, _, none⟩) (v := ?_) rfl (by kernel_rfl) (by kernel_rfl) (by kernel_rfl) (fun _ _ _ h => h) (Or.inl ⟨by rfl, ?_⟩) (by assumption) ?_
     rotate_left
     ·intro wz hSw; (try dsimp only at hSw); go_simp; (try with_reducible rfl)
     try simp only [Act.put, zA, zB, zC]
     refine wpAnyH_take (i := 1) (oi := ⟨some 100, .load 3 (.tmp 99), 3, _, _, none⟩) (v := ?_) rfl (by kernel_rfl) (by kernel_rfl) (by kernel_rfl) (fun _ _ _ h => h) (Or.inl ⟨by rfl, ?_⟩) (by assumption) ?_
     rotate_left
     ·intro wz hSw; (try dsimp only at hSw); go_simp; (try with_reducible rfl)
     try simp only [Act.put, zA, zB, zC]
     refine wpAnyH_take (i := 2) (oi := ⟨some 101, .binOp .sub 3 (.const (.int .i64 1)) (.tmp 100) 3, 3, _, _, none⟩) (v := ?_) rfl (by kernel_rfl) (by kernel_rfl) (by kernel_rfl) (fun _ _ _ h => h) (Or.inl ⟨by rfl, ?_⟩) (by assumption) ?_
     rotate_left
     ·intro wz hSw; (try dsimp only at hSw); go_simp; (try with_reducible rfl)
     try simp only [Act.put, zA, zB, zC]
     refine wpAnyH_take (i := 3) (oi := ⟨some 102, .fieldAddr 28 (.tmp 4) 2, 0, _, _, none⟩) (v := ?_) rfl (by kernel_rfl) (by kernel_rfl) (by kernel_rfl) (fun _ _ _ h => h) (Or.inl ⟨by rfl, ?_⟩) (by assumption) ?_
     rotate_left
     ·intro wz hSw; (try dsimp only at hSw); go_simp; (try with_reducible rfl)
     try simp only [Act.put, zA, zB, zC]
     refine wpAnyH_take (i := 4) (oi := ⟨some 103, .indexAddr 26 (.tmp 102) (.tmp 101), 0, _, _, none⟩) (v := ?_) rfl (by kernel_rfl) (by kernel_rfl) (by kernel_rfl) (fun _ _ _ h => h) (Or.inl ⟨by rfl, ?_⟩) (by assumption) ?_
     rotate_left
     ·intro wz hSw; (try dsimp only at hSw); go_simp; (try with_reducible rfl)
     try simp only [Act.put, zA, zB, zC]
     refine wpAnyH_take (i := 5) (oi := ⟨some 104, .load 3 (.tmp 103), 3, _, _, none⟩) (v := ?_) rfl (by kernel_rfl) (by kernel_rfl) (by kernel_rfl) (fun _ _ _ h => h) (Or.inl ⟨by rfl, ?_⟩) (by assumption) ?_
     rotate_left
     ·intro wz hSw; (try dsimp only at hSw); go_simp; (try with_reducible rfl)
     try simp only [Act.put, zA, zB, zC]
     refine wpAnyH_take (i := 7) (oi := ⟨some 106, .fieldAddr 98 (.tmp 17) 4, 0, _, _, none⟩) (v := ?_) rfl (by kernel_rfl) (by kernel_rfl) (by kernel_rfl) (fun _ _ _ h => h) (Or.inl ⟨by rfl, ?_⟩) (by assumption) ?_
     rotate_left
     ·intro wz hSw; (try dsimp only at hSw); go_simp; (try with_reducible rfl)
     try simp only [Act.put, zA, zB, zC]
     refine wpAnyH_take (i := 8) (oi := ⟨some 107, .load 23 (.tmp 106), 23, _, _, none⟩) rfl (by kernel_rfl) (by kernel_rfl) (by kernel_rfl) (fun _ _ _ h => h) (yieldsIf_load_mid (by rfl) _ _ rfl bp 4 rfl (bl Y.lk 32) _ (fun _ h => h.2.2) Tryz.underlying23 rfl (szHb _)) (by assumption) ?_
     try simp only [Act.put, zA, zB, zC]
     refine wpAnyH_ready (rs := [6, 10]) (by kernel_rfl) (by simp) ?_
     refine (AllReadyH.cons (o := ⟨some 105, .buildSlice 88 1 #[(0, .tmp 104)], 88, _, _, none⟩) rfl (fun K hK => ?_) (AllReadyH.cons (o := ⟨some 18, .alloc 126, 0, _, _, none⟩) rfl (fun K hK => ?_) AllReadyH.nil))
     focus
      refine step_kSliceP rfl (.tmp 104) rfl P.k0 (by rfl) ?_
      intro kg x1 hg1 hl1 hb1
      have H1 := hidV (And.intro hg1 (And.intro hl1 hb1))
      clear hg1 hl1 hb1
      refine hK.out _ _ (HS.out x1 (Below.transS HB0.out H1.out.2.2)) (fun _ => ?_)
      clear hK K
      try simp only [Act.put, zA, zB, zC]
      refine wpAnyH_take (i := 9) (oi := ⟨some 108, .build 126 #[(0, .tmp 105), (1, .tmp 107)], 126, _, _, none⟩) (v := .agg (Cd.bv ⟨1, fun _ => P.k0, Y.lk, 0, 0⟩ (some ⟨kg, 0, none⟩) 1)) rfl (by kernel_rfl) (by kernel_rfl) (by kernel_rfl) (fun _ _ _ h => h) (Or.inl ⟨by rfl, ?_⟩) (by assumption) ?_
      ·intro wz hSw; (try dsimp only at hSw); kernel_rfl
      try simp only [Act.put, zA, zB, zC]
      refine wpAnyH_ready (rs := [10]) (by kernel_rfl) (by simp) ?_
      refine (AllReadyH.cons (o := ⟨some 18, .alloc 126, 0, _, _, none⟩) rfl (fun K hK => ?_) AllReadyH.nil)
      refine step_allocP 126 (Cd.bv z0 none 0) run_allocRb rfl rfl ?_
      intro pg x2 hg2 hl2 hb2
      have MM := hidV (TwM.kp H1.out.1 H1.out.2.1 H1.out.2.2 hg2 hl2 hb2)
      clear hg2 hl2 hb2 H1
      refine hK.out _ _ (HS.out x2 (Below.transS HB0.out MM.out.below)) (fun _ => ?_)
      clear hK K
      try simp only [Act.put, zA, zB, zC]
     rotate_left
     focus
      refine step_allocP 126 (Cd.bv z0 none 0) run_allocRb rfl rfl ?_
      intro pg x1 hg1 hl1 hb1
      have H1 := hidV (And.intro hg1 (And.intro hl1 hb1))
      clear hg1 hl1 hb1
      refine hK.out _ _ (HS.out x1 (Below.transS HB0.out H1.out.2.2)) (fun _ => ?_)
      clear hK K
      try simp only [Act.put, zA, zB, zC]
      refine wpAnyH_ready (rs := [6]) (by kernel_rfl) (by simp) ?_
      refine (AllReadyH.cons (o := ⟨some 105, .buildSlice 88 1 #[(0, .tmp 104)], 88, _, _, none⟩) rfl (fun K hK => ?_) AllReadyH.nil)
      refine step_kSliceP rfl (.tmp 104) rfl P.k0 (by rfl) ?_
      intro kg x2 hg2 hl2 hb2
      have MM := hidV (TwM.pk H1.out.1 H1.out.2.1 H1.out.2.2 hg2 hl2 hb2)
      clear hg2 hl2 hb2 H1
      refine hK.out _ _ (HS.out x2 (Below.transS HB0.out MM.out.below)) (fun _ => ?_)
      clear hK K
      try simp only [Act.put, zA, zB, zC]
      refine wpAnyH_take (i := 9) (oi := ⟨some 108, .build 126 #[(0, .tmp 105), (1, .tmp 107)], 126, _, _, none⟩) (v := .agg (Cd.bv ⟨1, fun _ => P.k0, Y.lk, 0, 0⟩ (some ⟨kg, 0, none⟩) 1)) rfl (by kernel_rfl) (by kernel_rfl) (by kernel_rfl) (fun _ _ _ h => h) (Or.inl ⟨by rfl, ?_⟩) (by assumption) ?_
      ·intro wz hSw; (try dsimp only at hSw); kernel_rfl
      try simp only [Act.put, zA, zB, zC]
     all_goals
      refine wpAnyH_ready (rs := [11]) (by kernel_rfl) (by simp) ?_
      refine (AllReadyH.cons (o := ⟨none, .store 126 (.tmp 18) (.tmp 108), 0, _, _, none⟩) rfl (fun K hK => ?_) AllReadyH.nil)
      refine step_storeG 126 szRb rfl (.tmp 18) (.tmp 108) rfl pg (by rfl) (Cd.bv ⟨1, fun _ => P.k0, Y.lk, 0, 0⟩ (some ⟨kg, 0, none⟩) 1) (Cd.bv z0 none 0) (Cd.bv_size _ _ _) (Cd.bv_size _ _ _) (Cd.bv_one _ _ _) 126 (by rfl) MM.out.pb ?_
      intro x3 hg3 hf3
      have HT : Hid (TwS z2 x3 pg kg P.k0 ⟨1, fun _ => P.k0, Y.lk, 0, 0⟩) := ⟨hg3, hf3.heap MM.out.kb (by have := MM.out.low; simp; omega), ⟨by have := MM.out.low; have := HB0.out.size; omega, by have := MM.out.low; have := HB0.out.size; omega, fun e => MM.out.low.2.2 e.symm⟩, (Below.transS HB0.out MM.out.below).trans (hf3.below (by have := HB0.out.size; have := MM.out.below.size; omega) (by have := MM.out.low; have := HB0.out.size; simp; omega))⟩
      clear hg3 hf3
      refine hK.out _ _ (HS.out x3 HT.out.below) (fun _ => ?_)
      clear hK K
      try simp only [Act.put]
      refine wpAnyH_done (by kernel_rfl) (NoPanic.normal ?_) _
      try simp only [Act.put, zA, zB, zC]
      clear hHeld
      go_wp2
      go_meet
      case rel =>
       refine ⟨pg, kg, rfl, ?_⟩
       simp only [HKEY.out]
       exact HT.out
   obtain ⟨pg, kg, rfl, hT⟩ := hcut
   have HG := hidV hT
   clear hT HV2
   generalize wc = y3 at *
   have HZ3 : Hid (y3.heap[bp]? = some (.cells (pyv Y) 98 (0, 0))) := heap_below HG.out.below HZ2.out.1
   have HV2 : Hid (Below v.heap.size v y3) := HZ2.out.2.2.trans (HG.out.below.mono HZ2.out.2.2.size)
   go_upto_region 17 with fail
   go_cut [19] (fun gv wc => ∃ pb kb, gv = .pointer (some ⟨pb, 0, none⟩) ∧ TwS y3 wc pb kb (keyS P Y.fr) ⟨1, fun _ => keyS P Y.fr, nz, Y.af, 0⟩)
   case first =>
    obtain hf | hf := HY.out.2.2.1
    ·have HKEY : Hid (keyS P Y.fr = P.k0) := by show _ = _; rw [hf]; simp [keyS]
     have HS : Hid (∀ w' : World, Below y3.heap.size y3 w' → w'.cell? ⟨bp, 1, none⟩ = some (.int .i64 0) ∧ w'.cell? ⟨w.heap.size, 34, none⟩ = some (.int .i64 P.k0) ∧ w'.cell? ⟨bp, 3, none⟩ = some (.int .i64 Y.af)) := fun w' hb => by
      have h1 := pyl_range (heap_below hb HZ3.out)
      have h2 := (HEV.out w' (HV2.out.trans (hb.mono HV2.out.size))).pm
      have h3 : w'.cell? ⟨bp, 1, none⟩ = some (.int .i64 Y.fr) := by simpa using h1 1 _ rfl
      rw [hf] at h3
      exact ⟨h3, by have := (pmBox h2).k0; simpa using this, by simpa using h1 3 _ rfl⟩
     clear hf
     refine wp_region_noPanic ?_
     refine wp_region_held_drew (S := fun w' => w'.cell? ⟨bp, 1, none⟩ = some (.int .i64 0) ∧ w'.cell? ⟨w.heap.size, 34, none⟩ = some (.int .i64 P.k0) ∧ w'.cell? ⟨bp, 3, none⟩ = some (.int .i64 Y.af)) (by kernel_rfl) (HS.out y3.drew (Below.refl _ _).drew) (fun hHeld => ?_)
     have HB0 : Hid (Below y3.heap.size y3 y3.drew) := (Below.refl _ _).drew
     generalize y3.drew = x0 at *
     refine wpAnyH_take (i := 0) (oi := ⟨some 109, .fieldAddr 98 (.tmp 17) 1, 0, _, _, none⟩) (v := ?_) rfl (by kernel_rfl) (by kernel_rfl) (by kernel_rfl) (fun _ _ _ h => h) (Or.inl ⟨by rfl, ?_⟩) (by assumption) ?_
     rotate_left
     ·intro wz hSw; (try dsimp only at hSw); go_simp; (try with_reducible rfl)
     try simp only [Act.put, zA, zB, zC]
     refine wpAnyH_take (i := 1) (oi := ⟨some 110, .load 3 (.tmp 109), 3, _, _, none⟩) (v := ?_) rfl (by kernel_rfl) (by kernel_rfl) (by kernel_rfl) (fun _ _ _ h => h) (Or.inl ⟨by rfl, ?_⟩) (by assumption) ?_
     rotate_left
     ·intro wz hSw; (try dsimp only at hSw); go_simp; (try with_reducible rfl)
     try simp only [Act.put, zA, zB, zC]
     refine wpAnyH_take (i := 2) (oi := ⟨some 111, .fieldAddr 28 (.tmp 4) 2, 0, _, _, none⟩) (v := ?_) rfl (by kernel_rfl) (by kernel_rfl) (by kernel_rfl) (fun _ _ _ h => h) (Or.inl ⟨by rfl, ?_⟩) (by assumption) ?_
     rotate_left
     ·intro wz hSw; (try dsimp only at hSw); go_simp; (try with_reducible rfl)
     try simp only [Act.put, zA, zB, zC]
     refine wpAnyH_take (i := 3) (oi := ⟨some 112, .indexAddr 26 (.tmp 111) (.tmp 110), 0, _, _, none⟩) (v := ?_) rfl (by kernel_rfl) (by kernel_rfl) (by kernel_rfl) (fun _ _ _ h => h) (Or.inl ⟨by rfl, ?_⟩) (by assumption) ?_
     rotate_left
     ·intro wz hSw; (try dsimp only at hSw); go_simp; (try with_reducible rfl)
     try simp only [Act.put, zA, zB, zC]
     refine wpAnyH_take (i := 4) (oi := ⟨some 113, .load 3 (.tmp 112), 3, _, _, none⟩) (v := ?_) rfl (by kernel_rfl) (by kernel_rfl) (by kernel_rfl) (fun _ _ _ h => h) (Or.inl ⟨by rfl, ?_⟩) (by assumption) ?_
     rotate_left
     ·intro wz hSw; (try dsimp only at hSw); go_simp; (try with_reducible rfl)
     try simp only [Act.put, zA, zB, zC]
     refine wpAnyH_take (i := 6) (oi := ⟨some 115, .fieldAddr 98 (.tmp 17) 3, 0, _, _, none⟩) (v := ?_) rfl (by kernel_rfl) (by kernel_rfl) (by kernel_rfl) (fun _ _ _ h => h) (Or.inl ⟨by rfl, ?_⟩) (by assumption) ?_
     rotate_left
     ·intro wz hSw; (try dsimp only at hSw); go_simp; (try with_reducible rfl)
     try simp only [Act.put, zA, zB, zC]
     refine wpAnyH_take (i := 7) (oi := ⟨some 116, .load 3 (.tmp 115), 3, _, _, none⟩) (v := ?_) rfl (by kernel_rfl) (by kernel_rfl) (by kernel_rfl) (fun _ _ _ h => h) (Or.inl ⟨by rfl, ?_⟩) (by assumption) ?_
     rotate_left
     ·intro wz hSw; (try dsimp only at hSw); go_simp; (try with_reducible rfl)
     try simp only [Act.put, zA, zB, zC]
     refine wpAnyH_ready (rs := [5, 9]) (by kernel_rfl) (by simp) ?_
     refine (AllReadyH.cons (o := ⟨some 114, .buildSlice 88 1 #[(0, .tmp 113)], 88, _, _, none⟩) rfl (fun K hK => ?_) (AllReadyH.cons (o := ⟨some 19, .alloc 126, 0, _, _, none⟩) rfl (fun K hK => ?_) AllReadyH.nil))
     focus
      refine step_kSliceP rfl (.tmp 113) rfl P.k0 (by rfl) ?_
      intro kg x1 hg1 hl1 hb1
      have H1 := hidV (And.intro hg1 (And.intro hl1 hb1))
      clear hg1 hl1 hb1
      refine hK.out _ _ (HS.out x1 (Below.transS HB0.out H1.out.2.2)) (fun _ => ?_)
      clear hK K
      try simp only [Act.put, zA, zB, zC]
      refine wpAnyH_take (i := 8) (oi := ⟨some 117, .build 126 #[(0, .tmp 114), (2, .tmp 116)], 126, _, _, none⟩) (v := .agg (Cd.bv ⟨1, fun _ => P.k0, nz, Y.af, 0⟩ (some ⟨kg, 0, none⟩) 1)) rfl (by kernel_rfl) (by kernel_rfl) (by kernel_rfl) (fun _ _ _ h => h) (Or.inl ⟨by rfl, ?_⟩) (by assumption) ?_
      ·intro wz hSw; (try dsimp only at hSw); kernel_rfl
      try simp only [Act.put, zA, zB, zC]
      refine wpAnyH_ready (rs := [9]) (by kernel_rfl) (by simp) ?_
      refine (AllReadyH.cons (o := ⟨some 19, .alloc 126, 0, _, _, none⟩) rfl (fun K hK => ?_) AllReadyH.nil)
      refine step_allocP 126 (Cd.bv z0 none 0) run_allocRb rfl rfl ?_
      intro pg x2 hg2 hl2 hb2
      have MM := hidV (TwM.kp H1.out.1 H1.out.2.1 H1.out.2.2 hg2 hl2 hb2)
      clear hg2 hl2 hb2 H1
      refine hK.out _ _ (HS.out x2 (Below.transS HB0.out MM.out.below)) (fun _ => ?_)
      clear hK K
      try simp only [Act.put, zA, zB, zC]
     rotate_left
     focus
      refine step_allocP 126 (Cd.bv z0 none 0) run_allocRb rfl rfl ?_
      intro pg x1 hg1 hl1 hb1
      have H1 := hidV (And.intro hg1 (And.intro hl1 hb1))
      clear hg1 hl1 hb1
      refine hK.out _ _ (HS.out x1 (Below.transS HB0.out H1.out.2.2)) (fun _ => ?_)
      clear hK K
      try simp only [Act.put, zA, zB, zC]
      refine wpAnyH_ready (rs := [5]) (by kernel_rfl) (by simp) ?_
      refine (AllReadyH.cons (o := ⟨some 114, .buildSlice 88 1 #[(0, .tmp 113)], 88, _, _, none⟩) rfl (fun K hK => ?_) AllReadyH.nil)
      refine step_kSliceP rfl (.tmp 113) rfl P.k0 (by rfl) ?_
      intro kg x2 hg2 hl2 hb2
      have MM := hidV (TwM.pk H1.out.1 H1.out.2.1 H1.out.2.2 hg2 hl2 hb2)
      clear hg2 hl2 hb2 H1
      refine hK.out _ _ (HS.out x2 (Below.transS HB0.out MM.out.below)) (fun _ => ?_)
      clear hK K
      try simp only [Act.put, zA, zB, zC]
      refine wpAnyH_take (i := 8) (oi := ⟨some 117, .build 126 #[(0, .tmp 114), (2, .tmp 116)], 126, _, _, none⟩) (v := .agg (Cd.bv ⟨1, fun _ => P.k0, nz, Y.af, 0⟩ (some ⟨kg, 0, none⟩) 1)) rfl (by kernel_rfl) (by kernel_rfl) (by kernel_rfl) (fun _ _ _ h => h) (Or.inl ⟨by rfl, ?_⟩) (by assumption) ?_
      ·intro wz hSw; (try dsimp only at hSw); kernel_rfl
      try simp only [Act.put, zA, zB, zC]
     all_goals
      refine wpAnyH_ready (rs := [10]) (by kernel_rfl) (by simp) ?_
      refine (AllReadyH.cons (o := ⟨none, .store 126 (.tmp 19) (.tmp 117), 0, _, _, none⟩) rfl (fun K hK => ?_) AllReadyH.nil)
      refine step_storeG 126 szRb rfl (.tmp 19) (.tmp 117) rfl pg (by rfl) (Cd.bv ⟨1, fun _ => P.k0, nz, Y.af, 0⟩ (some ⟨kg, 0, none⟩) 1) (Cd.bv z0 none 0) (Cd.bv_size _ _ _) (Cd.bv_size _ _ _) (Cd.bv_one _ _ _) 126 (by rfl) MM.out.pb ?_
      intro x3 hg3 hf3
      have HT : Hid (TwS y3 x3 pg kg P.k0 ⟨1, fun _ => P.k0, nz, Y.af, 0⟩) := ⟨hg3, hf3.heap MM.out.kb (by have := MM.out.low; simp; omega), ⟨by have := MM.out.low; have := HB0.out.size; omega, by have := MM.out.low; have := HB0.out.size; omega, fun e => MM.out.low.2.2 e.symm⟩, (Below.transS HB0.out MM.out.below).trans (hf3.below (by have := HB0.out.size; have := MM.out.below.size; omega) (by have := MM.out.low; have := HB0.out.size; simp; omega))⟩
      clear hg3 hf3
      refine hK.out _ _ (HS.out x3 HT.out.below) (fun _ => ?_)
      clear hK K
      try simp only [Act.put]
      refine wpAnyH_done (by kernel_rfl) (NoPanic.normal ?_) _
      try simp only [Act.put, zA, zB, zC]
      clear hHeld
      go_wp2
      go_meet
      case rel =>
       refine ⟨pg, kg, rfl, ?_⟩
       simp only [HKEY.out]
       exact HT.out
    ·have HKEY : Hid (keyS P Y.fr = P.k1) := by show _ = _; rw [hf]; simp [keyS]
     have HS : Hid (∀ w' : World, Below y3.heap.size y3 w' → w'.cell? ⟨bp, 1, none⟩ = some (.int .i64 1) ∧ w'.cell? ⟨w.heap.size, 35, none⟩ = some (.int .i64 P.k1) ∧ w'.cell? ⟨bp, 3, none⟩ = some (.int .i64 Y.af)) := fun w' hb => by
      have h1 := pyl_range (heap_below hb HZ3.out)
      have h2 := (HEV.out w' (HV2.out.trans (hb.mono HV2.out.size))).pm
      have h3 : w'.cell? ⟨bp, 1, none⟩ = some (.int .i64 Y.fr) := by simpa using h1 1 _ rfl
      rw [hf] at h3
      exact ⟨h3, by have := (pmBox h2).k1; simpa using this, by simpa using h1 3 _ rfl⟩
     clear hf
     refine wp_region_noPanic ?_
     refine wp_region_held_drew (S := fun w' => w'.cell? ⟨bp, 1, none⟩ = some (.int .i64 1) ∧ w'.cell? ⟨w.heap.size, 35, none⟩ = some (.int .i64 P.k1) ∧ w'.cell? ⟨bp, 3, none⟩ = some (.int .i64 Y.af)) (by kernel_rfl) (HS.out y3.drew (Below.refl _ _).drew) (fun hHeld => ?_)
     have HB0 : Hid (Below y3.heap.size y3 y3.drew) := (Below.refl _ _).drew
     generalize y3.drew = x0 at *
     refine wpAnyH_take (i := 0) (oi := ⟨some 109, .fieldAddr 98 (.tmp 17) 1, 0, _, _, none⟩) (v := ?_) rfl (by kernel_rfl) (by kernel_rfl) (by kernel_rfl) (fun _ _ _ h => h) (Or.inl ⟨by rfl, ?_⟩) (by assumption) ?_
     rotate_left
     ·intro wz hSw; (try dsimp only at hSw); go_simp; (try with_reducible rfl)
     try simp only [Act.put, zA, zB, zC]
     refine wpAnyH_take (i := 1) (oi := ⟨some 110, .load 3 (.tmp 109), 3, _, _, none⟩) (v := ?_) rfl (by kernel_rfl) (by kernel_rfl) (by kernel_rfl) (fun _ _ _ h => h) (Or.inl ⟨by rfl, ?_⟩) (by assumption) ?_
     rotate_left
     ·intro wz hSw; (try dsimp only at hSw); go_simp; (try with_reducible rfl)
     try simp only [Act.put, zA, zB, zC]
     refine wpAnyH_take (i := 2) (oi := ⟨some 111, .fieldAddr 28 (.tmp 4) 2, 0, _, _, none⟩) (v := ?_) rfl (by kernel_rfl) (by kernel_rfl) (by kernel_rfl) (fun _ _ _ h => h) (Or.inl ⟨by rfl, ?_⟩) (by assumption) ?_
     rotate_left
     ·intro wz hSw; (try dsimp only at hSw); go_simp; (try with_reducible rfl)
     try simp only [Act.put, zA, zB, zC]
     refine wpAnyH_take (i := 3) (oi := ⟨some 112, .indexAddr 26 (.tmp 111) (.tmp 110), 0, _, _, none⟩) (v := ?_) rfl (by kernel_rfl) (by kernel_rfl) (by kernel_rfl) (fun _ _ _ h => h) (Or.inl ⟨by rfl, ?_⟩) (by assumption) ?_
     rotate_left
     ·intro wz hSw; (try dsimp only at hSw); go_simp; (try with_reducible rfl)
     try simp only [Act.put, zA, zB, zC]
     refine wpAnyH_take (i := 4) (oi := ⟨some 113, .load 3 (.tmp 112), 3, _, _, none⟩) (v := ?_) rfl (by kernel_rfl) (by kernel_rfl) (by kernel_rfl) (fun _ _ _ h => h) (Or.inl ⟨by rfl, ?_⟩) (by assumption) ?_
     rotate_left
     ·intro wz hSw; (try dsimp only at hSw); go_simp; (try with_reducible rfl)
     try simp only [Act.put, zA, zB, zC]
     refine wpAnyH_take (i := 6) (oi := ⟨some 115, .fieldAddr 98 (.tmp 17) 3, 0, _, _, none⟩) (v := ?_) rfl (by kernel_rfl) (by kernel_rfl) (by kernel_rfl) (fun _ _ _ h => h) (Or.inl ⟨by rfl, ?_⟩) (by assumption) ?_
     rotate_left
     ·intro wz hSw; (try dsimp only at hSw); go_simp; (try with_reducible rfl)
     try simp only [Act.put, zA, zB, zC]
     refine wpAnyH_take (i := 7) (oi := ⟨some 116, .load 3 (.tmp 115), 3, _, _, none⟩) (v := ?_) rfl (by kernel_rfl) (by kernel_rfl) (by kernel_rfl) (fun _ _ _ h => h) (Or.inl ⟨by rfl, ?_⟩) (by assumption) ?_
     rotate_left
     ·intro wz hSw; (try dsimp only at hSw); go_simp; (try with_reducible rfl)
     try simp only [Act.put, zA, zB, zC]
     refine wpAnyH_ready (rs := [5, 9]) (by kernel_rfl) (by simp) ?_
     refine (AllReadyH.cons (o := ⟨some 114, .buildSlice 88 1 #[(0, .tmp 113)], 88, _, _, none⟩) rfl (fun K hK => ?_) (AllReadyH.cons (o := ⟨some 19, .alloc 126, 0, _, _, none⟩) rfl (fun K hK => ?_) AllReadyH.nil))
     focus
      refine step_kSliceP rfl (.tmp 113) rfl P.k1 (by rfl) ?_
      intro kg x1 hg1 hl1 hb1
      have H1 := hidV (And.intro hg1 (And.intro hl1 hb1))
      clear hg1 hl1 hb1
      refine hK.out _ _ (HS.out x1 (Below.transS HB0.out H1.out.2.2)) (fun _ => ?_)
      clear hK K
      try simp only [Act.put, zA, zB, zC]
      refine wpAnyH_take (i := 8) (oi := ⟨some 117, .build 126 #[(0, .tmp 114), (2, .tmp 116)], 126, _, _, none⟩) (v := .agg (Cd.bv ⟨1, fun _ => P.k1, nz, Y.af, 0⟩ (some ⟨kg, 0, none⟩) 1)) rfl (by kernel_rfl) (by kernel_rfl) (by kernel_rfl) (fun _ _ _ h => h) (Or.inl ⟨by rfl, ?_⟩) (by assumption) ?_
      ·intro wz hSw; (try dsimp only at hSw); kernel_rfl
      try simp only [Act.put, zA, zB, zC]
      refine wpAnyH_ready (rs := [9]) (by kernel_rfl) (by simp) ?_
      refine (AllReadyH.cons (o := ⟨some 19, .alloc 126, 0, _, _, none⟩) rfl (fun K hK => ?_) AllReadyH.nil)
      refine step_allocP 126 (Cd.bv z0 none 0) run_allocRb rfl rfl ?_
      intro pg x2 hg2 hl2 hb2
      have MM := hidV (TwM.kp H1.out.1 H1.out.2.1 H1.out.2.2 hg2 hl2 hb2)
      clear hg2 hl2 hb2 H1
      refine hK.out _ _ (HS.out x2 (Below.transS HB0.out MM.out.below)) (fun _ => ?_)
      clear hK K
      try simp only [Act.put, zA, zB, zC]
     rotate_left
     focus
      refine step_allocP 126 (Cd.bv z0 none 0) run_allocRb rfl rfl ?_
      intro pg x1 hg1 hl1 hb1
      have H1 := hidV (And.intro hg1 (And.intro hl1 hb1))
      clear hg1 hl1 hb1
      refine hK.out _ _ (HS.out x1 (Below.transS HB0.out H1.out.2.2)) (fun _ => ?_)
      clear hK K
      try simp only [Act.put, zA, zB, zC]
      refine wpAnyH_ready (rs := [5]) (by kernel_rfl) (by simp) ?_
      refine (AllReadyH.cons (o := ⟨some 114, .buildSlice 88 1 #[(0, .tmp 113)], 88, _, _, none⟩) rfl (fun K hK => ?_) AllReadyH.nil)
      refine step_kSliceP rfl (.tmp 113) rfl P.k1 (by rfl) ?_
      intro kg x2 hg2 hl2 hb2
      have MM := hidV (TwM.pk H1.out.1 H1.out.2.1 H1.out.2.2 hg2 hl2 hb2)
      clear hg2 hl2 hb2 H1
      refine hK.out _ _ (HS.out x2 (Below.transS HB0.out MM.out.below)) (fun _ => ?_)
      clear hK K
      try simp only [Act.put, zA, zB, zC]
      refine wpAnyH_take (i := 8) (oi := ⟨some 117, .build 126 #[(0, .tmp 114), (2, .tmp 116)], 126, _, _, none⟩) (v := .agg (Cd.bv ⟨1, fun _ => P.k1, nz, Y.af, 0⟩ (some ⟨kg, 0, none⟩) 1)) rfl (by kernel_rfl) (by kernel_rfl) (by kernel_rfl) (fun _ _ _ h => h) (Or.inl ⟨by rfl, ?_⟩) (by assumption) ?_
      ·intro wz hSw; (try dsimp only at hSw); kernel_rfl
      try simp only [Act.put, zA, zB, zC]
     all_goals
      refine wpAnyH_ready (rs := [10]) (by kernel_rfl) (by simp) ?_
      refine (AllReadyH.cons (o := ⟨none, .store 126 (.tmp 19) (.tmp 117), 0, _, _, none⟩) rfl (fun K hK => ?_) AllReadyH.nil)
      refine step_storeG 126 szRb rfl (.tmp 19) (.tmp 117) rfl pg (by rfl) (Cd.bv ⟨1, fun _ => P.k1, nz, Y.af, 0⟩ (some ⟨kg, 0, none⟩) 1) (Cd.bv z0 none 0) (Cd.bv_size _ _ _) (Cd.bv_size _ _ _) (Cd.bv_one _ _ _) 126 (by rfl) MM.out.pb ?_
      intro x3 hg3 hf3
      have HT : Hid (TwS y3 x3 pg kg P.k1 ⟨1, fun _ => P.k1, nz, Y.af, 0⟩) := ⟨hg3, hf3.heap MM.out.kb (by have := MM.out.low; simp; omega), ⟨by have := MM.out.low; have := HB0.out.size; omega, by have := MM.out.low; have := HB0.out.size; omega, fun e => MM.out.low.2.2 e.symm⟩, (Below.transS HB0.out MM.out.below).trans (hf3.below (by have := HB0.out.size; have := MM.out.below.size; omega) (by have := MM.out.low; have := HB0.out.size; simp; omega))⟩
      clear hg3 hf3
      refine hK.out _ _ (HS.out x3 HT.out.below) (fun _ => ?_)
      clear hK K
      try simp only [Act.put]
      refine wpAnyH_done (by kernel_rfl) (NoPanic.normal ?_) _
      try simp only [Act.put, zA, zB, zC]
      clear hHeld
      go_wp2
      go_meet
      case rel =>
       refine ⟨pg, kg, rfl, ?_⟩
       simp only [HKEY.out]
       exact HT.out
   obtain ⟨pb, kb, rfl, hT⟩ := hcut
   have HK := hidV hT
   clear hT HV2
   generalize wc = y4 at *
   have HN : Hid (pg ≠ pb ∧ pg ≠ kb ∧ kg ≠ pb ∧ kg ≠ kb ∧ bp < z2.heap.size ∧ pg < y3.heap.size ∧ kg < y3.heap.size) := by
    have h1 := lt_of_block HG.out.pb
    have h2 := lt_of_block HG.out.kb
    have h3 := lt_of_block HZ2.out.1
    have h4 := HK.out.low
    exact ⟨by omega, by omega, by omega, by omega, h3, h1, h2⟩
   have HZ4 : Hid (y4.heap[bp]? = some (.cells (pyv Y) 98 (0, 0)) ∧ Below v.heap.size v y4 ∧ Below z2.heap.size z2 y4) := ⟨heap_below HK.out.below HZ3.out, HZ2.out.2.2.trans ((Below.transS HG.out.below HK.out.below).mono HZ2.out.2.2.size), Below.transS HG.out.below HK.out.below⟩
   have HG4 := hidV (And.intro (heap_below HK.out.below HG.out.pb) (heap_below HK.out.below HG.out.kb))
   have c1 : y4.cell? ⟨bp, 1, none⟩ = some (.int .i64 Y.fr) := by simpa using pyl_range HZ4.out.1 1 _ rfl
   go_upto_if 121 with fail
   clear c1
   go_cut [] (fun wc => wc.heap[pg]? = some (.cells (Cd.bv (toS { (cm0 P 0 lk) with y := Y }) (some ⟨kg, 0, none⟩) 1) 126 (0, 0)) ∧ wc.heap[pb]? = some (.cells (Cd.bv (bkS { (cm0 P 0 lk) with y := Y }) (some ⟨kb, 0, none⟩) 1) 126 (0, 0)) ∧ Frm [pg, pb] y4 wc)
   case first =>
    have cdl : y4.cell? ⟨w.heap.size, 36, none⟩ = some (.int .i64 P.dl) := by have := (pmBox (HEV.out y4 HZ4.out.2.1).pm).dl; simpa using this
    by_cases hf : Y.fr = 0
    ·have HE : Hid (toS { (cm0 P 0 lk) with y := Y } = ⟨1, fun _ => keyS P (1 - Y.fr), Y.lk, 0, 0⟩ ∧ bkS { (cm0 P 0 lk) with y := Y } = ⟨1, fun _ => keyS P Y.fr, nz, Y.af, P.dl⟩) := ⟨by simp [toS, brS, cm0, hf], by simp [bkS, brS, cm0, hf]⟩
     have cx : y4.cell? ⟨pb, 34, none⟩ = some (.int .i64 0) := (Cd.bbox_of HK.out.pb).c34
     have fx : y4.frozen? ⟨pb, 34, none⟩ = false := frozen_of_row _ _ _ _ _ HK.out.pb
     have hg5 := heap_setCell_same y4 pb 34 _ _ (.int .i64 P.dl) HK.out.pb
     rw [bv_s34] at hg5
     have H5 := hidV hg5
     clear hg5
     go_wp2
     go_meet
     case rel =>
      rw [HE.out.1, HE.out.2]
      exact ⟨by rw [Below.heap_setCell _ _ _ _ (show pg ≠ pb from HN.out.1)]; exact HG4.out.1, H5.out, (Frm.refl _ _).setCell _ _ (by simp)⟩
    ·have hx : 1 - Y.fr = 0 := by have := HY.out.2.2.1; omega
     have HE : Hid (toS { (cm0 P 0 lk) with y := Y } = ⟨1, fun _ => keyS P (1 - Y.fr), Y.lk, 0, P.dl⟩ ∧ bkS { (cm0 P 0 lk) with y := Y } = ⟨1, fun _ => keyS P Y.fr, nz, Y.af, 0⟩) := ⟨by simp [toS, brS, cm0, hx], by simp [bkS, brS, cm0, hf]⟩
     clear hx
     have cx : y4.cell? ⟨pg, 34, none⟩ = some (.int .i64 0) := (Cd.bbox_of HG4.out.1).c34
     have fx : y4.frozen? ⟨pg, 34, none⟩ = false := frozen_of_row _ _ _ _ _ HG4.out.1
     have hg5 := heap_setCell_same y4 pg 34 _ _ (.int .i64 P.dl) HG4.out.1
     rw [bv_s34] at hg5
     have H5 := hidV hg5
     clear hg5
     go_wp2
     go_meet
     case rel =>
      rw [HE.out.1, HE.out.2]
      exact ⟨H5.out, by rw [Below.heap_setCell _ _ _ _ (show pb ≠ pg from fun e => HN.out.1 e.symm)]; exact HK.out.pb, (Frm.refl _ _).setCell _ _ (by simp)⟩
   obtain ⟨hgg, hgb, hfr⟩ := hcut
   generalize wc = y5 at *
   have HO := hidV HK.out.low
   have HO2 := hidV HG.out.low
   have HZ5 : Hid (y5.heap[bp]? = some (.cells (pyv Y) 98 (0, 0)) ∧ Below v.heap.size v y5 ∧ Below bp wr y5 ∧ z2.heap.size ≤ y5.heap.size ∧ v.heap.size ≤ z2.heap.size ∧ bp < z2.heap.size) := by
    have hn := HN.out
    have h2 := HZ2.out.2.2.size
    have h3 := HG.out.below.size
    have h4 := HZ4.out.2.2.size
    have h5 := HO.out
    have h6 := HO2.out
    have h7 := hfr.size
    have h8 : bp ≤ z2.heap.size := by omega
    exact ⟨hfr.heap HZ4.out.1 (by simp; omega), HZ4.out.2.1.trans (hfr.below HZ4.out.2.1.size (by simp; omega)), (HZ2.out.2.1.trans (HZ4.out.2.2.mono h8)).trans (hfr.below (by omega) (by simp; omega)), by omega, h2, hn.2.2.2.2.1⟩
   have HK5 : Hid (y5.heap[kg]? = some (.cells #[.int .i64 (keyS P (1 - Y.fr))] 3 (0, 0)) ∧ y5.heap[kb]? = some (.cells #[.int .i64 (keyS P Y.fr)] 3 (0, 0)) ∧ z2.heap.size ≤ kg ∧ z2.heap.size ≤ kb) := by
    have hn := HN.out
    have h5 := HO.out
    have h6 := HO2.out
    have h3 := HG.out.below.size
    exact ⟨hfr.heap HG4.out.2 (by simp; omega), hfr.heap HK.out.kb (by simp; omega), by omega, by omega⟩
   have HPG := hidV (br_range hgg)
   have HPB := hidV (br_range hgb)
   have HFN := hidV (HEV.out y5 HZ5.out.2.1).fn
   have c2 : y5.cell? ⟨bp, 2, none⟩ = some (.int .i64 Y.am) := by simpa using pyl_range HZ5.out.1 2 _ rfl
   clear hgg hgb hfr HG4 HK HG HZ4 HZ3 HN HO HO2
   have HMK : Hid (∀ y6 y7 : World, New y5 y6 (Cd.brl (toS { (cm0 P 0 lk) with y := Y }) (some ⟨kg, 0, none⟩) 1 ++ (Cd.brl (bkS { (cm0 P 0 lk) with y := Y }) (some ⟨kb, 0, none⟩) 1 ++ Cd.brl (rvS (cm0 P 0 lk)) (some ⟨kx, 0, none⟩) 1)).toArray 126 → New y6 y7 #[.int .i64 Y.am, .slice (some ⟨y5.heap.size, 0, none⟩) 3 3] 124 → AppR y7 v.heap.size kx P.k1 (paysO (cm0 P 0 lk) s i) (paysZ (cm0 P 0 lk) s i) va vc ua uc y6.heap.size (payO (cm0 P 0 lk) Y) (some ⟨y5.heap.size, 0, none⟩) 3 ∧ Below v.heap.size v y7 ∧ y7.heap[bp]? = some (.cells (pyv Y) 98 (0, 0)) ∧ (∀ g, (Value.slice va (paysO (cm0 P 0 lk) s i).length vc).ownBlock = some g → g < bp)) := by
    intro y6 y7 N6 N7
    obtain ⟨A, I, hL⟩ := HL3.out.1
    have hbw : Below wr.heap.size wr y5 := by rw [HBP.out]; exact HZ5.out.2.2.1
    have hL7 := ((hL.below hbw).below N6.below).below N7.below
    have hz := HZ5.out
    have e1 := N7.old N6.blk
    have e2 := N7.old (N6.old HK5.out.1)
    have e3 := N7.old (N6.old HK5.out.2.1)
    have s6 := N6.size
    have s7 := N7.size
    have hb := HBP.out
    refine ⟨⟨A, I, z2.heap.size, y7.heap.size, hL7, N7.blk, fun w' hx hw => ?_, hz.2.2.2.2.1, Nat.le_refl _, fun g e => by have := (hL.outs.lt g e).2; omega, fun g e => by have := (hL.pls.lt g e).2; omega, by simp⟩, hz.2.1.trans ((Below.transS N6.below N7.below).mono hz.2.1.size), N7.old (N6.old hz.1), fun g e => by have := (hL.outs.lt g e).2; omega⟩
    have hC' : CmOk { (cm0 P 0 lk) with y := Y } := ⟨HC.out.o, HC.out.k, HC.out.dl, HC.out.fe, HC.out.lk⟩
    refine brAt3 (by rw [hw y5.heap.size (by omega) (by omega)]; exact e1) rfl rfl rfl (toS_ok hC' HY.out.1) (bkS_ok hC' HY.out.2.2.2.2.1) (rvS_ok hC') ?_ ?_ ?_
    ·rw [cell_of_row _ _ 0 _ _ _ (show w'.heap[kg]? = _ by rw [hw kg HK5.out.2.2.1 (lt_of_block e2)]; exact e2)]; rfl
    ·rw [cell_of_row _ _ 0 _ _ _ (show w'.heap[kb]? = _ by rw [hw kb HK5.out.2.2.2 (lt_of_block e3)]; exact e3)]; rfl
    ·rw [cell_of_row _ _ 0 _ _ _ (show w'.heap[kx]? = _ by rw [hx]; exact hL7.fx)]; rfl
   have HLE : Hid ((paysO (cm0 P 0 lk) s i).length ≤ 10 ∧ (paysZ (cm0 P 0 lk) s i).length ≤ 10) := by have := paysO_len (cm0 P 0 lk) s i; show _ ∧ _; omega
   go_wp2_with (first | (refine wpList_load_mid rfl 126 _ rfl pg 0 rfl (Cd.brl (toS { (cm0 P 0 lk) with y := Y }) (some ⟨kg, 0, none⟩) 1) _ HPG.out Tryz.underlying126 rfl (szRbl _ _ _) ?_) | (refine wpList_load_mid rfl 126 _ rfl pb 0 rfl (Cd.brl (bkS { (cm0 P 0 lk) with y := Y }) (some ⟨kb, 0, none⟩) 1) _ HPB.out Tryz.underlying126 rfl (szRbl _ _ _) ?_) | (refine wpList_load_mid rfl 126 _ rfl bf 0 rfl (Cd.brl (rvS (cm0 P 0 lk)) (some ⟨kx, 0, none⟩) 1) _ HFN.out Tryz.underlying126 rfl (szRbl _ _ _) ?_) | (refine wpList_sliceRb3 rfl _ _ _ rfl (toS { (cm0 P 0 lk) with y := Y }) (bkS { (cm0 P 0 lk) with y := Y }) (rvS (cm0 P 0 lk)) (some ⟨kg, 0, none⟩) (some ⟨kb, 0, none⟩) (some ⟨kx, 0, none⟩) 1 1 1 rfl rfl rfl ?_; intro y6 N6; clear c2) | (refine wpList_sliceTr rfl _ rfl Y.am (some ⟨y5.heap.size, 0, none⟩) 3 3 rfl ?_; intro y7 N7; have HA7 := hidV (HMK.out y6 y7 N6 N7); clear N6 N7) | (at_builtin; refine wpList_append_TrS HA7.out.1 rfl _ _ rfl rfl rfl (by have := HLE.out.1; omega) ?_; intro va' vc' y8 hL8 hA8; have c0 : y8.cell? ⟨bp, 0, none⟩ = some (.int .i64 Y.id) := (by have hk : y8.heap[bp]? = some (.cells (pyv Y) 98 (0, 0)) := (by rw [hA8.kept bp (lt_of_block HA7.out.2.2.1) (fun e => by have := HA7.out.2.2.2 bp e; omega)]; exact HA7.out.2.2.1); simpa using pyl_range hk 0 _ rfl); have H8 := hidV (And.intro hL8 (HA7.out.2.1.trans (hA8.below _ (Nat.le_refl _)))); clear hL8 hA8) | (refine wpList_slicePr rfl _ rfl 3 Y.id rfl ?_; intro y9 N9; have H9 := hidV (And.intro (H8.out.1.below N9.below) (And.intro N9.blk (H8.out.2.trans (N9.below.mono H8.out.2.size)))); clear N9 c0) | (at_builtin; refine wpList_append_Pr rfl _ _ rfl H9.out.1 y8.heap.size 3 Y.id rfl rfl H9.out.2.1 (by have := HLE.out.2; omega) ?_; intro ua' uc' y10 hL10 hb10) | fail)
   go_roundw
   case rel =>
    refine ⟨i + 1, va', vc', ua', uc', by omega, by go_num, ?_, ?_, ?_, H9.out.2.2.trans (hb10 _ (Nat.le_refl _))⟩
    ·rw [HPS.out.1, List.length_append]; rfl
    ·rw [HPS.out.2, List.length_append]; rfl
    ·rw [HPS.out.1, HPS.out.2]; exact hL10
   case measure => simp [intOf]; omega
  ·obtain rfl : i = s.pn := by omega
   have hnn : ¬ ((s.pn : Int) < s.pn) := by omega
   have HJ : Hid (LaidD wr v.heap.size kx P.k1 (outsO (cm0 P 0 lk) s 0) (outsZ (cm0 P 0 lk) s 0) va vc ua uc ∧ Below v.heap.size v wr) := by rw [(outsO_zero (cm0 P 0 lk) s).1, (outsO_zero (cm0 P 0 lk) s).2]; exact HL3.out
   have HJN : Hid (paysO (cm0 P 0 lk) s s.pn = outsO (cm0 P 0 lk) s 0 ∧ paysZ (cm0 P 0 lk) s s.pn = outsZ (cm0 P 0 lk) s 0) := ⟨(outsO_zero (cm0 P 0 lk) s).1.symm, (outsO_zero (cm0 P 0 lk) s).2.symm⟩
   clear HL3 hlt
   rw [HJN.out.1, HJN.out.2]
   have c4 : wr.cell? ⟨bs, 4, none⟩ = some (.slice p.ha s.hn p.hc) := (HEV.out wr HJ.out.2).st 4 _ rfl
   go_wp2_with fail
   clear c4 hnn
   generalize wr = y11 at *
   go_loopw [14, 15, 20] (fun lv pv iv wr => ∃ (i : Nat) (va : Option Addr) (vc : Nat) (ua : Option Addr) (uc : Nat), i ≤ s.hn ∧ iv = .int .i64 i ∧ lv = .slice va (outsO (cm0 P 0 lk) s i).length vc ∧ pv = .slice ua (outsZ (cm0 P 0 lk) s i).length uc ∧ LaidD wr v.heap.size kx P.k1 (outsO (cm0 P 0 lk) s i) (outsZ (cm0 P 0 lk) s i) va vc ua uc ∧ Below v.heap.size v wr) (fun _ _ iv _ => s.hn + 1 - (intOf iv).toNat)
   case atStart => exact ⟨0, va, vc, ua, uc, by omega, rfl, rfl, rfl, HJ.out⟩
   case round =>
    clear HJ HJN
    rename World => wr
    obtain ⟨i, va, vc, ua, uc, hi, rfl, rfl, rfl, hL, hbr⟩ := hrel
    have HL3 := hidV (And.intro hL hbr)
    clear hL hbr
    have c4 : wr.cell? ⟨bs, 4, none⟩ = some (.slice p.ha s.hn p.hc) := (HEV.out wr HL3.out.2).st 4 _ rfl
    by_cases hlt : i < s.hn
    ·have hlt' : (i : Int) < s.hn := by omega
     obtain ⟨b, off, hpa, hcc⟩ := HSv.out.1.hd.at_ (by omega)
     obtain ⟨ha, hk, hr0, hi0, hn0⟩ := hcc i hlt
     have HW : Hid (Below w.heap.size w wr) := HB.out.1.trans (HL3.out.2.mono HB.out.1.size)
     have HY : Hid (w.rangeAt b (off + i * 3) (hdl (s.H i) ha hk) ∧ IsAt w ha (s.H i).n (s.H i).z ∧ HOne (s.H i) ∧ (s.H i).n ≤ 300) := ⟨hr0, hi0, (HSv.out.2.1.2.1.2.2 i hlt).2, HSv.out.2.2 i hlt⟩
     have HPS : Hid (outsO (cm0 P 0 lk) s (i + 1) = outsO (cm0 P 0 lk) s i ++ [hldO (s.H i)] ∧ outsZ (cm0 P 0 lk) s (i + 1) = outsZ (cm0 P 0 lk) s i ++ [(4, (s.H i).id)]) := by
      have := outsO_succ (cm0 P 0 lk) s i HY.out.2.2.1.2.1.1
      rw [show ifL (s.H i).am (hldO (s.H i)) = [hldO (s.H i)] from if_pos HY.out.2.2.1.2.1.1, show ifL (s.H i).am ((4, (s.H i).id) : Int × Int) = [(4, (s.H i).id)] from if_pos HY.out.2.2.1.2.1.1] at this
      exact ⟨this.1.symm, this.2.symm⟩
     clear hcc hr0 hi0 hn0
     generalize s.H i = Y at *
     rw [hpa] at c4
     have HS : Hid (∀ w' : World, Below v.heap.size v w' → w'.cell? ⟨bs, 4, none⟩ = some (.slice (some ⟨b, off, none⟩) s.hn p.hc) ∧ w'.cell? ⟨b, off + i * 3 + 1, none⟩ = some (.int .i64 Y.am) ∧ w'.cell? ⟨b, off + i * 3 + 2, none⟩ = some (.slice ha Y.n hk) ∧ w'.cell? ⟨b, off + i * 3, none⟩ = some (.int .i64 Y.id)) := fun w' hb => by
      have h1 := (HEV.out w' hb).st 4 _ rfl
      have h2 := hd_cells (range_below HY.out.1 (HB.out.1.trans (hb.mono HB.out.1.size)))
      rw [hpa] at h1
      exact ⟨h1, h2.2.1, h2.2.2, h2.1⟩
     clear hpa
     go_upto_region 26 with fail
     refine wp_region_noPanic ?_
     refine wp_region_held_drew (S := fun w' => w'.cell? ⟨bs, 4, none⟩ = some (.slice (some ⟨b, off, none⟩) s.hn p.hc) ∧ w'.cell? ⟨b, off + i * 3 + 1, none⟩ = some (.int .i64 Y.am) ∧ w'.cell? ⟨b, off + i * 3 + 2, none⟩ = some (.slice ha Y.n hk) ∧ w'.cell? ⟨b, off + i * 3, none⟩ = some (.int .i64 Y.id)) (by kernel_rfl) (HS.out wr.drew HL3.out.2.drew) (fun hHeld => ?_)
     have HB0 : Hid (Below v.heap.size v wr.drew ∧ Below wr.heap.size wr wr.drew) := ⟨HL3.out.2.drew, (Below.refl _ _).drew⟩
     clear c4
     generalize wr.drew = x0 at *
     refine wpAnyH_take (i := 0) (oi := ⟨some 152, .move (.tmp 14), 56, _, _, none⟩) (v := ?_) rfl (by kernel_rfl) (by kernel_rfl) (by kernel_rfl) (fun _ _ _ h => h) (Or.inl ⟨by rfl, ?_⟩) (by assumption) ?_
     rotate_left
     ·intro wz hSw; (try dsimp only at hSw); go_simp; (try with_reducible rfl)
     try simp only [Act.put, zA, zB, zC]
     refine wpAnyH_take (i := 1) (oi := ⟨some 153, .fieldAddr 32 (.tmp 5) 3, 0, _, _, none⟩) (v := ?_) rfl (by kernel_rfl) (by kernel_rfl) (by kernel_rfl) (fun _ _ _ h => h) (Or.inl ⟨by rfl, ?_⟩) (by assumption) ?_
     rotate_left
     ·intro wz hSw; (try dsimp only at hSw); go_simp; (try with_reducible rfl)
     try simp only [Act.put, zA, zB, zC]
     refine wpAnyH_take (i := 2) (oi := ⟨some 154, .load 30 (.tmp 153), 30, _, _, none⟩) (v := ?_) rfl (by kernel_rfl) (by kernel_rfl) (by kernel_rfl) (fun _ _ _ h => h) (Or.inl ⟨by rfl, ?_⟩) (by assumption) ?_
     rotate_left
     ·intro wz hSw; (try dsimp only at hSw); go_simp; (try with_reducible rfl)
     try simp only [Act.put, zA, zB, zC]
     refine wpAnyH_take (i := 3) (oi := ⟨some 155, .move (.tmp 20), 3, _, _, none⟩) (v := ?_) rfl (by kernel_rfl) (by kernel_rfl) (by kernel_rfl) (fun _ _ _ h => h) (Or.inl ⟨by rfl, ?_⟩) (by assumption) ?_
     rotate_left
     ·intro wz hSw; (try dsimp only at hSw); go_simp; (try with_reducible rfl)
     try simp only [Act.put, zA, zB, zC]
     refine wpAnyH_take (i := 4) (oi := ⟨some 156, .indexAddr 30 (.tmp 154) (.tmp 155), 0, _, _, none⟩) (v := ?_) rfl (by kernel_rfl) (by kernel_rfl) (by kernel_rfl) (fun _ _ _ h => h) (Or.inl ⟨by rfl, ?_⟩) (by assumption) ?_
     rotate_left
     ·intro wz hSw; (try dsimp only at hSw); go_simp; (try with_reducible rfl)
     try simp only [Act.put, zA, zB, zC]
     refine wpAnyH_take (i := 5) (oi := ⟨some 157, .fieldAddr 90 (.tmp 156) 1, 0, _, _, none⟩) (v := ?_) rfl (by kernel_rfl) (by kernel_rfl) (by kernel_rfl) (fun _ _ _ h => h) (Or.inl ⟨by rfl, ?_⟩) (by assumption) ?_
     rotate_left
     ·intro wz hSw; (try dsimp only at hSw); go_simp; (try with_reducible rfl)
     try simp only [Act.put, zA, zB, zC]
     refine wpAnyH_take (i := 6) (oi := ⟨some 158, .load 3 (.tmp 157), 3, _, _, none⟩) (v := ?_) rfl (by kernel_rfl) (by kernel_rfl) (by kernel_rfl) (fun _ _ _ h => h) (Or.inl ⟨by rfl, ?_⟩) (by assumption) ?_
     rotate_left
     ·intro wz hSw; (try dsimp only at hSw); go_simp; (try with_reducible rfl)
     try simp only [Act.put, zA, zB, zC]
     refine wpAnyH_take (i := 7) (oi := ⟨some 159, .fieldAddr 32 (.tmp 5) 3, 0, _, _, none⟩) (v := ?_) rfl (by kernel_rfl) (by kernel_rfl) (by kernel_rfl) (fun _ _ _ h => h) (Or.inl ⟨by rfl, ?_⟩) (by assumption) ?_
     rotate_left
     ·intro wz hSw; (try dsimp only at hSw); go_simp; (try with_reducible rfl)
     try simp only [Act.put, zA, zB, zC]
     refine wpAnyH_take (i := 8) (oi := ⟨some 160, .load 30 (.tmp 159), 30, _, _, none⟩) (v := ?_) rfl (by kernel_rfl) (by kernel_rfl) (by kernel_rfl) (fun _ _ _ h => h) (Or.inl ⟨by rfl, ?_⟩) (by assumption) ?_
     rotate_left
     ·intro wz hSw; (try dsimp only at hSw); go_simp; (try with_reducible rfl)
     try simp only [Act.put, zA, zB, zC]
     refine wpAnyH_take (i := 9) (oi := ⟨some 161, .move (.tmp 20), 3, _, _, none⟩) (v := ?_) rfl (by kernel_rfl) (by kernel_rfl) (by kernel_rfl) (fun _ _ _ h => h) (Or.inl ⟨by rfl, ?_⟩) (by assumption) ?_
     rotate_left
     ·intro wz hSw; (try dsimp only at hSw); go_simp; (try with_reducible rfl)
     try simp only [Act.put, zA, zB, zC]
     refine wpAnyH_take (i := 10) (oi := ⟨some 162, .indexAddr 30 (.tmp 160) (.tmp 161), 0, _, _, none⟩) (v := ?_) rfl (by kernel_rfl) (by kernel_rfl) (by kernel_rfl) (fun _ _ _ h => h) (Or.inl ⟨by rfl, ?_⟩) (by assumption) ?_
     rotate_left
     ·intro wz hSw; (try dsimp only at hSw); go_simp; (try with_reducible rfl)
     try simp only [Act.put, zA, zB, zC]
     refine wpAnyH_take (i := 11) (oi := ⟨some 163, .fieldAddr 90 (.tmp 162) 2, 0, _, _, none⟩) (v := ?_) rfl (by kernel_rfl) (by kernel_rfl) (by kernel_rfl) (fun _ _ _ h => h) (Or.inl ⟨by rfl, ?_⟩) (by assumption) ?_
     rotate_left
     ·intro wz hSw; (try dsimp only at hSw); go_simp; (try with_reducible rfl)
     try simp only [Act.put, zA, zB, zC]
     refine wpAnyH_take (i := 12) (oi := ⟨some 164, .load 88 (.tmp 163), 88, _, _, none⟩) (v := ?_) rfl (by kernel_rfl) (by kernel_rfl) (by kernel_rfl) (fun _ _ _ h => h) (Or.inl ⟨by rfl, ?_⟩) (by assumption) ?_
     rotate_left
     ·intro wz hSw; (try dsimp only at hSw); go_simp; (try with_reducible rfl)
     try simp only [Act.put, zA, zB, zC]
     refine wpAnyH_ready (rs := [13]) (by kernel_rfl) (by simp) ?_
     refine (AllReadyH.cons (o := ⟨some 165, .call { callee := Go.Callee.value (.func 44), args := #[.tmp 164], argTypes := #[88] }, 122, _, _, none⟩) rfl (fun K hK => ?_) AllReadyH.nil)
     go_simp
     refine (Cd.rall_in ha Y.n hk Y.z x0 (HY.out.2.1.below (HB.out.1.trans (HB0.out.1.mono HB.out.1.size))) (fun j hj => ?_) (by have := HY.out.2.2.2; omega)).mono ?_
     ·have h1 := kok_nn HY.out.2.2.1.2.2.1 j hj
      have h2 := (HY.out.2.2.1.2.2.1 j hj).2
      unfold Cd.Ib; omega
     rintro e x1 ⟨q2, rfl, hI2, hb2⟩
     have H2 := hidV (And.intro hI2 (And.intro hb2 (HB0.out.1.trans (hb2.mono HB0.out.1.size))))
     clear hI2 hb2
     refine hK.out _ _ (HS.out x1 H2.out.2.2) (fun _ => ?_)
     clear hK K
     try simp only [Act.put, zA, zB, zC]
     refine wpAnyH_take (i := 14) (oi := ⟨some 166, .build 124 #[(0, .tmp 158), (1, .tmp 165)], 124, _, _, none⟩) (v := .agg #[.int .i64 Y.am, .slice (some ⟨q2, 0, none⟩) 1 1]) rfl (by kernel_rfl) (by kernel_rfl) (by kernel_rfl) (fun _ _ _ h => h) (Or.inl ⟨by rfl, ?_⟩) (by assumption) ?_
     ·intro wz hSw; (try dsimp only at hSw); kernel_rfl
     try simp only [Act.put, zA, zB, zC]
     refine wpAnyH_ready (rs := [15]) (by kernel_rfl) (by simp) ?_
     refine (AllReadyH.cons (o := ⟨some 167, .buildSlice 56 1 #[(0, .tmp 166)], 56, _, _, none⟩) rfl (fun K hK => ?_) AllReadyH.nil)
     refine step_sliceTr rfl (.tmp 166) rfl Y.am (some ⟨q2, 0, none⟩) 1 1 (by rfl) ?_
     intro q3 x2 hq3 hl3 hb3
     have H3 := hidV (And.intro hq3 (And.intro hb3 (H2.out.2.2.trans (hb3.mono H2.out.2.2.size))))
     clear hq3 hl3 hb3
     refine hK.out _ _ (HS.out x2 H3.out.2.2) (fun _ => ?_)
     clear hK K
     try simp only [Act.put, zA, zB, zC]
     refine wpAnyH_ready (rs := [16]) (by kernel_rfl) (by simp) ?_
     refine (AllReadyH.cons (o := ⟨some 168, .call { callee := Go.Callee.builtin Go.Builtin.append, args := #[.tmp 152, .tmp 167], argTypes := #[56, 56] }, 56, _, _, none⟩) rfl (fun K hK => ?_) AllReadyH.nil)
     have HLE : Hid ((outsO (cm0 P 0 lk) s i).length ≤ 20 ∧ (outsZ (cm0 P 0 lk) s i).length ≤ 20) := by have := outsO_len (cm0 P 0 lk) s i; show _ ∧ _; omega
     have HA : Hid (AppR x2 v.heap.size kx P.k1 (outsO (cm0 P 0 lk) s i) (outsZ (cm0 P 0 lk) s i) va vc ua uc q3 (hldO Y) (some ⟨q2, 0, none⟩) 1) := by
      obtain ⟨A, I, hL⟩ := HL3.out.1
      have hb := Below.transS HB0.out.2 (Below.transS H2.out.2.1 H3.out.2.1)
      refine ⟨A, I, x0.heap.size, x2.heap.size, hL.below hb, H3.out.1, fun w' hx hw => ?_, HB0.out.1.size, Nat.le_refl _, fun g e => by have := (hL.outs.lt g e).2; have := HB0.out.2.size; omega, fun g e => by have := (hL.pls.lt g e).2; have := HB0.out.2.size; omega, by simp⟩
      exact H2.out.1 w' (fun q h1 h2 => by rw [hw q h1 (by have := H3.out.2.1.size; omega)]; exact H3.out.2.1.block q h2)
     refine step_append_TrS HA.out rfl (.tmp 152) (.tmp 167) rfl (by rfl) (by rfl) (by have := HLE.out.1; omega) ?_
     intro va' vc' x3 hL4 hA4
     have H4 : Hid (LaidD x3 v.heap.size kx P.k1 (outsO (cm0 P 0 lk) s i ++ [hldO Y]) (outsZ (cm0 P 0 lk) s i) va' vc' ua uc ∧ Below v.heap.size v x3) := ⟨hL4, H3.out.2.2.trans (hA4.below _ (Nat.le_refl _))⟩
     clear hL4 hA4 HA
     refine hK.out _ _ (HS.out x3 H4.out.2) (fun _ => ?_)
     clear hK K
     try simp only [Act.put, zA, zB, zC]
     refine wpAnyH_take (i := 17) (oi := ⟨some 14, .assign (.tmp 168), 56, _, _, none⟩) (v := ?_) rfl (by kernel_rfl) (by kernel_rfl) (by kernel_rfl) (fun _ _ _ h => h) (Or.inl ⟨by rfl, ?_⟩) (by assumption) ?_
     rotate_left
     ·intro wz hSw; (try dsimp only at hSw); go_simp; (try with_reducible rfl)
     try simp only [Act.put, zA, zB, zC]
     refine wpAnyH_done (by kernel_rfl) (NoPanic.normal ?_) _
     try simp only [Act.put, zA, zB, zC]
     clear hHeld
     have c4 := (HS.out x3 H4.out.2).1
     have ci := (HS.out x3 H4.out.2).2.2.2
     go_wp2_with (first | (refine wpList_slicePr rfl _ rfl 4 Y.id rfl ?_; intro x4 N9; have H9 := hidV (And.intro (H4.out.1.below N9.below) (And.intro N9.blk (H4.out.2.trans (N9.below.mono H4.out.2.size)))); clear N9 c4 ci) | (at_builtin; refine wpList_append_Pr rfl _ _ rfl H9.out.1 x3.heap.size 4 Y.id rfl rfl H9.out.2.1 (by have := HLE.out.2; omega) ?_; intro ua' uc' x5 hL10 hb10) | fail)
     go_roundw
     case rel =>
      refine ⟨i + 1, va', vc', ua', uc', by omega, by go_num, ?_, ?_, ?_, H9.out.2.2.trans (hb10 _ (Nat.le_refl _))⟩
      ·rw [HPS.out.1, List.length_append]; rfl
      ·rw [HPS.out.2, List.length_append]; rfl
      ·rw [HPS.out.1, HPS.out.2]; exact hL10
     case measure => simp [intOf]; omega
    ·obtain rfl : i = s.hn := by omega
     have hnn : ¬ ((s.hn : Int) < s.hn) := by omega
     obtain ⟨A, I, hL⟩ := HL3.out.1
     have HE : Hid (OutsD w (outsO (cm0 P 0 lk) s s.hn).length (outsZ (cm0 P 0 lk) s s.hn).length (outsO (cm0 P 0 lk) s s.hn) (outsZ (cm0 P 0 lk) s s.hn) P.k1 (.returned (.tuple #[.slice va (outsO (cm0 P 0 lk) s s.hn).length vc, .slice ua (outsZ (cm0 P 0 lk) s s.hn).length uc])) wr) := ⟨va, vc, ua, uc, v.heap.size, kx, A, I, rfl, hL, HB.out.2.2.1, HB.out.1.trans (HL3.out.2.mono HB.out.1.size)⟩
     clear hL HL3
     go_wp2
     go_ret2
     exact HE.out

end Go.Proofs.YtjnepkggdkccaaaGreatDoor
