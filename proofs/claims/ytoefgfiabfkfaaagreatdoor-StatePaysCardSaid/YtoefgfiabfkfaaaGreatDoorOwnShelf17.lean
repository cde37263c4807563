/- The document's Encode. -/
import Derived.Test.YtoefgfiabfkfaaaGreatDoorOwnShelf15
import Derived.Test.YtoefgfiabfkfaaaGreatDoorOwnShelf16
import Derived.Test.YtoefgfiabfkfaaaGreatDoorOwnShelf01
import Derived.OrdersHeld
namespace Go.Proofs.YtoefgfiabfkfaaaGreatDoor
open Go.RowKit

theorem refUint_ow (W0 w : World) (v : Value) (L : List Int) (n : Int) (h : Ow W0 w v L) (hl : L.length + 64 ≤ 140737488351232) :
  Calls Tryz.prog 36 #[v, .int .u64 (u64 n)] w fun e w' => ∃ v', e = .returned v' ∧ Ow W0 w' v' (L ++ uB (u64 n)) ∧ Below w.heap.size w w' := by
 obtain ⟨ad, cp, rfl⟩ := h.form
 obtain ⟨_, hs, hn, _, _⟩ := h.fresh
 have hb := u64_bd n
 refine (refUint_any ad L cp (u64 n) w hs hn hl hb.1 hb.2).mono ?_
 rintro e w' ⟨v', rfl, hO⟩
 exact ⟨v', rfl, hO.mono h.below, hO.below⟩
theorem refHash_ow (W0 w : World) (v : Value) (L : List Int) (z : Nat → Int) (h : Ow W0 w v L) (hl : L.length + 64 ≤ 140737488351232) (hz : Zb z) :
  Calls Tryz.prog 37 #[v, .agg (hv z)] w fun e w' => ∃ v', e = .returned v' ∧ Ow W0 w' v' (L ++ hB z) ∧ Below w.heap.size w w' := by
 obtain ⟨ad, cp, rfl⟩ := h.form
 obtain ⟨_, hs, hn, _, _⟩ := h.fresh
 refine (refHash_any ad L cp z w hs hn hl hz).mono ?_
 rintro e w' ⟨v', rfl, hO⟩
 exact ⟨v', rfl, hO.mono h.below, hO.below⟩
theorem Ow.keep {w0 w w' : World} {v : Value} {L : List Int} (h : Ow w0 w v L) (hb : Below w.heap.size w w') : Ow w0 w' v L := by
 refine ⟨⟨h.own.1, ?_⟩, h.below.trans (hb.mono h.below.size), h.bd⟩
 rcases h.own.2 with hn | ⟨g, cap, cur, e, hbs, hg, rest⟩
 ·exact .inl hn
 ·exact .inr ⟨g, cap, cur, e, hbs, by rw [hb.block _ (lt_of_block hg)]; exact hg, rest⟩
theorem laidK_one (n : Int) : laidK (fun _ => n) 1 = uB (u64 n) := by simp [laidK]
theorem laidK_z4 (x : Py) : laidK (z4 x) 4 = ((uB (u64 x.id) ++ uB (u64 x.fr)) ++ uB (u64 x.am)) ++ uB (u64 x.af) := by simp [laidK, z4]
theorem laidK_z3 (x : Hd) : laidK (z3 x) 3 = (uB (u64 x.id) ++ uB (u64 x.am)) ++ uB (u64 (x.n : Int)) := by simp [laidK, z3]
theorem laidA_is (s : Sv) : laidA s = (([] ++ uB (u64 s.nu)) ++ uB (u64 s.a)) ++ uB (u64 s.b) ++ uB (u64 (s.pn : Int)) := by simp [laidA, laidK, z2]
theorem run_allocPr (w : World) : (Instr.alloc 30 true (.tuple #[])).run Tryz.prog w = .ok (.pointer (some ⟨w.heap.size, 0, none⟩)) (w.alloc (.cells (pyv p0) 30)) := by kernel_rfl
section
variable {ops : Array Oper} {rest : List Oper} {o : Oper} {a : Act} {w : World} {Q : Exit → Act → World → Prop}
theorem wpList_allocPr (hgd : o.guard = none) (ho : o.op = .alloc 30)
  (h : wpList Tryz.prog ops Q rest (a.put o.dst (.pointer (some ⟨w.heap.size, 0, none⟩))) (w.alloc (.cells (pyv p0) 30))) : wpList Tryz.prog ops Q (o :: rest) a w := by
 refine wpList_plain hgd fun K hK => ?_
 unfold Oper.wp execOp
 simp only [ho, Sem.run_bind, run_allocPr, Result.andThen]
 exact hK _ _ h
end

set_option maxRecDepth 100000 in
set_option maxHeartbeats 3200000 in
theorem rencode_any (s : Sv) (p : Pl) (w : World) (h : SvAt w s p) (hs : s.Small) :
  Calls Tryz.prog 15 #[.agg (svv s p)] w fun e w' => ∃ v, e = .returned v ∧ Ow w w' v (laidS s) := by
 obtain ⟨nu, a, b, pn, P, hn, H⟩ := s
 obtain ⟨pa, pc, ha, hc⟩ := p
 obtain ⟨py, hd, _, _, _, _⟩ := h
 simp only at py hd
 have hsn : pn + hn ≤ 100 := hs.n
 have HSK : Hid (∀ i, i < hn → (H i).n ≤ 300) := hs.k
 have hb0 := al1 w (.cells #[.int .i64 nu, .int .i64 a, .int .i64 b, .slice pa pn pc, .slice ha hn hc] 26)
 have HPY : Hid (PyAt (w.alloc (.cells #[.int .i64 nu, .int .i64 a, .int .i64 b, .slice pa pn pc, .slice ha hn hc] 26)) pa pn P) := py.below hb0
 have HHD : Hid (HdAt (w.alloc (.cells #[.int .i64 nu, .int .i64 a, .int .i64 b, .slice pa pn pc, .slice ha hn hc] 26)) ha hn H) := hd.below hb0
 have hr0 := heap_alloc_new w (.cells #[.int .i64 nu, .int .i64 a, .int .i64 b, .slice pa pn pc, .slice ha hn hc] 26)
 have HLA : Hid (laidA ⟨nu, a, b, pn, P, hn, H⟩ = (([] ++ uB (u64 nu)) ++ uB (u64 a)) ++ uB (u64 b) ++ uB (u64 (pn : Int))) := laidA_is ⟨nu, a, b, pn, P, hn, H⟩
 have HLS : Hid (laidS ⟨nu, a, b, pn, P, hn, H⟩ = (laidA ⟨nu, a, b, pn, P, hn, H⟩ ++ laidPs P pn ++ laidK (fun _ => (hn : Int)) 1) ++ laidHs H hn) := rfl
 have hla := laidA_len ⟨nu, a, b, pn, P, hn, H⟩
 generalize laidA ⟨nu, a, b, pn, P, hn, H⟩ = LA at *
 generalize laidS ⟨nu, a, b, pn, P, hn, H⟩ = LS at *
 clear py hd hs
 unfold svv
 simp only
 go_enter Tryz.func15, Tryz.ntmps15
 go_wp2_with fail
 generalize w.alloc (.cells #[.int .i64 nu, .int .i64 a, .int .i64 b, .slice pa pn pc, .slice ha hn hc] 26) = W0 at *
 have hl0 := lt_of_block hr0
 have HB0 : Hid (Below w.heap.size w W0) := hb0
 have HC : Hid (∀ w', Below W0.heap.size W0 w' → w'.cell? ⟨w.heap.size, 0, none⟩ = some (.int .i64 nu) ∧ w'.cell? ⟨w.heap.size, 1, none⟩ = some (.int .i64 a) ∧ w'.cell? ⟨w.heap.size, 2, none⟩ = some (.int .i64 b)) := fun w' hb => by
  have := hb.block _ hl0
  rw [hr0] at this
  exact ⟨by rw [cell_of_row _ _ 0 _ _ _ this]; rfl, by rw [cell_of_row _ _ 1 _ _ _ this]; rfl, by rw [cell_of_row _ _ 2 _ _ _ this]; rfl⟩
 have HC2 : Hid (∀ w', Below W0.heap.size W0 w' → w'.cell? ⟨w.heap.size, 3, none⟩ = some (.slice pa pn pc) ∧ w'.cell? ⟨w.heap.size, 4, none⟩ = some (.slice ha hn hc)) := fun w' hb => by
  have := hb.block _ hl0
  rw [hr0] at this
  exact ⟨by rw [cell_of_row _ _ 3 _ _ _ this]; rfl, by rw [cell_of_row _ _ 4 _ _ _ this]; rfl⟩
 have lb1 := uB_len (u64 nu)
 have lb2 := uB_len (u64 a)
 have lb3 := uB_len (u64 b)
 clear hb0 hr0
 have S1 := HC.out W0.drew (Below.refl _ W0).drew
 refine wp_region_noPanic ?_
 refine wp_region_held_drew (S := fun w' => w'.cell? ⟨w.heap.size, 0, none⟩ = some (.int .i64 nu) ∧ w'.cell? ⟨w.heap.size, 1, none⟩ = some (.int .i64 a) ∧ w'.cell? ⟨w.heap.size, 2, none⟩ = some (.int .i64 b)) (by kernel_rfl) S1 (fun hHeld => ?_)
 refine wpV 0 ⟨some 9, .fieldAddr 26 (.tmp 1) 0, 0, _, _, none⟩ rfl ?_
 try simp only [Act.put, sqA, sqB, sqC]
 refine wpV 1 ⟨some 10, .load 3 (.tmp 9), 3, _, _, none⟩ rfl ?_
 try simp only [Act.put, sqA, sqB, sqC]
 refine wpV 2 ⟨some 11, .convert 3 78 (.tmp 10), 78, _, _, none⟩ rfl ?_
 try simp only [Act.put, sqA, sqB, sqC]
 refine wpV 4 ⟨some 13, .fieldAddr 26 (.tmp 1) 1, 0, _, _, none⟩ rfl ?_
 try simp only [Act.put, sqA, sqB, sqC]
 refine wpV 5 ⟨some 14, .indexAddr 22 (.tmp 13) (.const (.int .i64 0)), 0, _, _, none⟩ rfl ?_
 try simp only [Act.put, sqA, sqB, sqC]
 refine wpV 6 ⟨some 15, .load 3 (.tmp 14), 3, _, _, none⟩ rfl ?_
 try simp only [Act.put, sqA, sqB, sqC]
 refine wpV 7 ⟨some 16, .convert 3 78 (.tmp 15), 78, _, _, none⟩ rfl ?_
 try simp only [Act.put, sqA, sqB, sqC]
 refine wpV 9 ⟨some 18, .fieldAddr 26 (.tmp 1) 1, 0, _, _, none⟩ rfl ?_
 try simp only [Act.put, sqA, sqB, sqC]
 refine wpV 10 ⟨some 19, .indexAddr 22 (.tmp 18) (.const (.int .i64 1)), 0, _, _, none⟩ rfl ?_
 try simp only [Act.put, sqA, sqB, sqC]
 refine wpV 11 ⟨some 20, .load 3 (.tmp 19), 3, _, _, none⟩ rfl ?_
 try simp only [Act.put, sqA, sqB, sqC]
 refine wpV 12 ⟨some 21, .convert 3 78 (.tmp 20), 78, _, _, none⟩ rfl ?_
 try simp only [Act.put, sqA, sqB, sqC]
 refine wpAnyH_ready (rs := [3]) (by kernel_rfl) (by simp) ?_
 refine (AllReadyH.cons (o := ⟨some 12, .call ⟨.value (.func 36), #[.const (.slice none 0 0), .tmp 11], #[31, 78]⟩, 31, _, _, none⟩) rfl (fun K hK => ?_) AllReadyH.nil)
 go_simp
 refine (refUint_ow W0 _ (.slice none 0 0) [] nu (Ow.nil W0).drew (by simp)).mono ?_
 rintro e w1 ⟨v1, rfl, hO1, _⟩
 have HO1 : Hid (Ow W0 w1 v1 ([] ++ uB (u64 nu))) := hO1
 clear hO1
 refine hK.out _ _ (HC.out w1 HO1.out.below) (fun _ => ?_)
 clear hK K
 refine wpAnyH_ready (rs := [8]) (by kernel_rfl) (by simp) ?_
 refine (AllReadyH.cons (o := ⟨some 17, .call ⟨.value (.func 36), #[.tmp 12, .tmp 16], #[31, 78]⟩, 31, _, _, none⟩) rfl (fun K hK => ?_) AllReadyH.nil)
 go_simp
 refine (refUint_ow W0 _ v1 _ a HO1.out (by simp only [List.length_append, List.length_nil]; omega)).mono ?_
 rintro e w2 ⟨v2, rfl, hO2, _⟩
 have HO2 : Hid (Ow W0 w2 v2 (([] ++ uB (u64 nu)) ++ uB (u64 a))) := hO2
 clear hO2 HO1
 refine hK.out _ _ (HC.out w2 HO2.out.below) (fun _ => ?_)
 clear hK K
 refine wpAnyH_ready (rs := [13]) (by kernel_rfl) (by simp) ?_
 refine (AllReadyH.cons (o := ⟨some 22, .call ⟨.value (.func 36), #[.tmp 17, .tmp 21], #[31, 78]⟩, 31, _, _, none⟩) rfl (fun K hK => ?_) AllReadyH.nil)
 go_simp
 refine (refUint_ow W0 _ v2 _ b HO2.out (by simp only [List.length_append, List.length_nil]; omega)).mono ?_
 rintro e w3 ⟨v3, rfl, hO3, _⟩
 have HO3 : Hid (Ow W0 w3 v3 ((([] ++ uB (u64 nu)) ++ uB (u64 a)) ++ uB (u64 b))) := hO3
 clear hO3 HO2
 refine hK.out _ _ (HC.out w3 HO3.out.below) (fun _ => ?_)
 clear hK K
 refine wpV 14 ⟨some 3, .assign (.tmp 22), 31, _, _, none⟩ rfl ?_
 try simp only [Act.put, sqA, sqB, sqC]
 refine wpAnyH_done (by kernel_rfl) (NoPanic.normal ?_) _
 try simp only [Act.put, sqA, sqB, sqC]
 clear hHeld S1 HC
 obtain ⟨k3, k4⟩ := HC2.out w3 HO3.out.below
 have en := u64_nat pn (by omega)
 have hcall := refUint_ow W0 w3 v3 _ (pn : Int) HO3.out (by simp only [List.length_append, List.length_nil]; omega)
 rw [en] at hcall
 rw [en] at HLA
 rw [← HLA.out] at hcall
 go_wp2_with fail
 refine hcall.mono ?_
 rintro e w4 ⟨v4, rfl, hO4, _⟩
 have h40 : Ow W0 w4 v4 (LA ++ laidPs P 0) := by simpa [laidPs] using hO4
 clear hcall HO3 hO4 k3 k4 en HLA lb1 lb2 lb3
 go_wp2_with fail
 go_loopw [3, 4, 5] (fun sv iv _ wr => ∃ (i : Nat) (v : Value), i ≤ pn ∧ v = sv ∧ iv = .int .i64 i ∧ Ow W0 wr v (LA ++ laidPs P i)) (fun _ iv _ _ => pn + 1 - (intOf iv).toNat)
 case atStart => exact ⟨0, _, by omega, rfl, rfl, h40⟩
 case round =>
  clear h40
  obtain ⟨i, v, hi, rfl, rfl, hO⟩ := hrel
  have HO : Hid (Ow W0 wr v (LA ++ laidPs P i)) := hO
  clear hO
  have ll := laidPs_len P i
  obtain ⟨k3, k4⟩ := HC2.out wr HO.out.below
  by_cases hlt : i < pn
  ·have hlt' : (i : Int) < pn := by omega
   have HZ : Hid (Zb (P i).lk) := HPY.out.lk i hlt
   obtain ⟨bl0, off, rfl, hc0⟩ := HPY.out.at_ (by omega)
   have HR : Hid (wr.rangeAt bl0 (off + i * 36) (pyl (P i))) := range_below (hc0 i hlt) HO.out.below
   have HE : Hid (LA ++ laidPs P (i + 1) = ((((LA ++ laidPs P i ++ uB (u64 (P i).id)) ++ uB (u64 (P i).fr)) ++ uB (u64 (P i).am)) ++ uB (u64 (P i).af)) ++ hB (P i).lk) := by show _ = _; simp [laidPs, laidP, laidK_z4]
   clear hc0
   obtain ⟨x, hx⟩ : ∃ x, P i = x := ⟨_, rfl⟩
   rw [hx] at HZ HR HE
   clear hx
   obtain ⟨L, hL⟩ : ∃ L, LA ++ laidPs P i = L := ⟨_, rfl⟩
   have hlL : L.length ≤ 6836 := by rw [← hL]; simp only [List.length_append]; omega
   rw [hL] at HO HE
   clear hL ll
   go_wp2_with (first | (refine wpList_load_mid rfl 30 _ rfl bl0 (off + i * 36) rfl (pyl x) _ HR.out Tryz.underlying30 rfl (szPrl _) ?_) | (refine wpList_allocPr rfl rfl ?_) | (refine wpList_storeP _ szPr rfl _ _ rfl wr.heap.size rfl x p0 30 rfl (heap_alloc_new wr _) ?_; intro w6 hg6 hf6; have HG6 : Hid (Ow W0 w6 v L ∧ w6.heap[wr.heap.size]? = some (.cells (pyv x) 30 (0, 0))) := ⟨HO.out.keep (frm_new hf6), hg6⟩; clear hf6 hg6) | fail)
   clear HO HR k3 k4
   have hl6 := lt_of_block HG6.out.2
   have HP : Hid (∀ w', Below w6.heap.size w6 w' → w'.heap[wr.heap.size]? = some (.cells (pyv x) 30 (0, 0))) := fun w' hb => by rw [hb.block _ hl6]; exact HG6.out.2
   have HS : Hid (∀ w' : World, w'.heap[wr.heap.size]? = some (.cells (pyv x) 30 (0, 0)) → w'.cell? ⟨wr.heap.size, 0, none⟩ = some (.int .i64 x.id) ∧ w'.cell? ⟨wr.heap.size, 1, none⟩ = some (.int .i64 x.fr) ∧ w'.cell? ⟨wr.heap.size, 2, none⟩ = some (.int .i64 x.am) ∧ w'.cell? ⟨wr.heap.size, 3, none⟩ = some (.int .i64 x.af)) := fun w' hg => ⟨(pbox_of hg).c0, (pbox_of hg).c1, (pbox_of hg).c2, (pbox_of hg).c3⟩
   have lb1 := uB_len (u64 x.id)
   have lb2 := uB_len (u64 x.fr)
   have lb3 := uB_len (u64 x.am)
   have lb4 := uB_len (u64 x.af)
   have hd6 : w6.drew.heap[wr.heap.size]? = some (.cells (pyv x) 30 (0, 0)) := HG6.out.2
   have S1 := HS.out w6.drew hd6
   refine wp_region_noPanic ?_
   refine wp_region_held_drew (S := fun w' => w'.cell? ⟨wr.heap.size, 0, none⟩ = some (.int .i64 x.id) ∧ w'.cell? ⟨wr.heap.size, 1, none⟩ = some (.int .i64 x.fr) ∧ w'.cell? ⟨wr.heap.size, 2, none⟩ = some (.int .i64 x.am) ∧ w'.cell? ⟨wr.heap.size, 3, none⟩ = some (.int .i64 x.af)) (by kernel_rfl) S1 (fun hHeld => ?_)
   refine wpV 0 ⟨some 41, .move (.tmp 3), 31, _, _, none⟩ rfl ?_
   try simp only [Act.put, sqA, sqB, sqC]
   refine wpV 1 ⟨some 42, .fieldAddr 30 (.tmp 5) 0, 0, _, _, none⟩ rfl ?_
   try simp only [Act.put, sqA, sqB, sqC]
   refine wpV 2 ⟨some 43, .load 3 (.tmp 42), 3, _, _, none⟩ rfl ?_
   try simp only [Act.put, sqA, sqB, sqC]
   refine wpV 3 ⟨some 44, .convert 3 78 (.tmp 43), 78, _, _, none⟩ rfl ?_
   try simp only [Act.put, sqA, sqB, sqC]
   refine wpV 5 ⟨some 46, .fieldAddr 30 (.tmp 5) 1, 0, _, _, none⟩ rfl ?_
   try simp only [Act.put, sqA, sqB, sqC]
   refine wpV 6 ⟨some 47, .load 3 (.tmp 46), 3, _, _, none⟩ rfl ?_
   try simp only [Act.put, sqA, sqB, sqC]
   refine wpV 7 ⟨some 48, .convert 3 78 (.tmp 47), 78, _, _, none⟩ rfl ?_
   try simp only [Act.put, sqA, sqB, sqC]
   refine wpV 9 ⟨some 50, .fieldAddr 30 (.tmp 5) 2, 0, _, _, none⟩ rfl ?_
   try simp only [Act.put, sqA, sqB, sqC]
   refine wpV 10 ⟨some 51, .load 3 (.tmp 50), 3, _, _, none⟩ rfl ?_
   try simp only [Act.put, sqA, sqB, sqC]
   refine wpV 11 ⟨some 52, .convert 3 78 (.tmp 51), 78, _, _, none⟩ rfl ?_
   try simp only [Act.put, sqA, sqB, sqC]
   refine wpV 13 ⟨some 54, .fieldAddr 30 (.tmp 5) 3, 0, _, _, none⟩ rfl ?_
   try simp only [Act.put, sqA, sqB, sqC]
   refine wpV 14 ⟨some 55, .load 3 (.tmp 54), 3, _, _, none⟩ rfl ?_
   try simp only [Act.put, sqA, sqB, sqC]
   refine wpV 15 ⟨some 56, .convert 3 78 (.tmp 55), 78, _, _, none⟩ rfl ?_
   try simp only [Act.put, sqA, sqB, sqC]
   refine wpAnyH_ready (rs := [4]) (by kernel_rfl) (by simp) ?_
   refine (AllReadyH.cons (o := ⟨some 45, .call ⟨.value (.func 36), #[.tmp 41, .tmp 44], #[31, 78]⟩, 31, _, _, none⟩) rfl (fun K hK => ?_) AllReadyH.nil)
   go_simp
   refine (refUint_ow W0 _ v L x.id HG6.out.1.drew (by omega)).mono ?_
   rintro e w7 ⟨v7, rfl, hO7, hb7⟩
   have h7 : w7.heap[wr.heap.size]? = some (.cells (pyv x) 30 (0, 0)) := by rw [hb7.block _ hl6]; exact hd6
   have HO7 : Hid (Ow W0 w7 v7 (L ++ uB (u64 x.id)) ∧ w7.heap[wr.heap.size]? = some (.cells (pyv x) 30 (0, 0))) := ⟨hO7, h7⟩
   clear hO7 hb7 h7 hd6 hl6 HG6 HP
   refine hK.out _ _ (HS.out w7 HO7.out.2) (fun _ => ?_)
   clear hK K
   refine wpAnyH_ready (rs := [8]) (by kernel_rfl) (by simp) ?_
   refine (AllReadyH.cons (o := ⟨some 49, .call ⟨.value (.func 36), #[.tmp 45, .tmp 48], #[31, 78]⟩, 31, _, _, none⟩) rfl (fun K hK => ?_) AllReadyH.nil)
   go_simp
   refine (refUint_ow W0 _ v7 _ x.fr HO7.out.1 (by simp only [List.length_append]; omega)).mono ?_
   rintro e w8 ⟨v8, rfl, hO8, hb8⟩
   have HO8 : Hid (Ow W0 w8 v8 ((L ++ uB (u64 x.id)) ++ uB (u64 x.fr)) ∧ w8.heap[wr.heap.size]? = some (.cells (pyv x) 30 (0, 0))) := ⟨hO8, by rw [hb8.block _ (lt_of_block HO7.out.2)]; exact HO7.out.2⟩
   clear hO8 hb8 HO7
   refine hK.out _ _ (HS.out w8 HO8.out.2) (fun _ => ?_)
   clear hK K
   refine wpAnyH_ready (rs := [12]) (by kernel_rfl) (by simp) ?_
   refine (AllReadyH.cons (o := ⟨some 53, .call ⟨.value (.func 36), #[.tmp 49, .tmp 52], #[31, 78]⟩, 31, _, _, none⟩) rfl (fun K hK => ?_) AllReadyH.nil)
   go_simp
   refine (refUint_ow W0 _ v8 _ x.am HO8.out.1 (by simp only [List.length_append]; omega)).mono ?_
   rintro e w9 ⟨v9, rfl, hO9, hb9⟩
   have HO9 : Hid (Ow W0 w9 v9 (((L ++ uB (u64 x.id)) ++ uB (u64 x.fr)) ++ uB (u64 x.am)) ∧ w9.heap[wr.heap.size]? = some (.cells (pyv x) 30 (0, 0))) := ⟨hO9, by rw [hb9.block _ (lt_of_block HO8.out.2)]; exact HO8.out.2⟩
   clear hO9 hb9 HO8
   refine hK.out _ _ (HS.out w9 HO9.out.2) (fun _ => ?_)
   clear hK K
   refine wpAnyH_ready (rs := [16]) (by kernel_rfl) (by simp) ?_
   refine (AllReadyH.cons (o := ⟨some 57, .call ⟨.value (.func 36), #[.tmp 53, .tmp 56], #[31, 78]⟩, 31, _, _, none⟩) rfl (fun K hK => ?_) AllReadyH.nil)
   go_simp
   refine (refUint_ow W0 _ v9 _ x.af HO9.out.1 (by simp only [List.length_append]; omega)).mono ?_
   rintro e wa ⟨va, rfl, hOa, hba⟩
   have HOa : Hid (Ow W0 wa va ((((L ++ uB (u64 x.id)) ++ uB (u64 x.fr)) ++ uB (u64 x.am)) ++ uB (u64 x.af)) ∧ wa.heap[wr.heap.size]? = some (.cells (pyv x) 30 (0, 0))) := ⟨hOa, by rw [hba.block _ (lt_of_block HO9.out.2)]; exact HO9.out.2⟩
   clear hOa hba HO9
   refine hK.out _ _ (HS.out wa HOa.out.2) (fun _ => ?_)
   clear hK K
   refine wpV 17 ⟨some 3, .assign (.tmp 57), 31, _, _, none⟩ rfl ?_
   try simp only [Act.put, sqA, sqB, sqC]
   refine wpAnyH_done (by kernel_rfl) (NoPanic.normal ?_) _
   try simp only [Act.put, sqA, sqB, sqC]
   clear hHeld S1 HS
   have HCL : Hid (wa.rangeAt wr.heap.size 4 (bl x.lk 32)) := (pbox_of HOa.out.2).lk
   have hcall := refHash_ow W0 wa va _ x.lk HOa.out.1 (by simp only [List.length_append]; omega) HZ.out
   rw [← HE.out] at hcall
   clear lb1 lb2 lb3 lb4 HOa
   go_wp2_with (first | (refine wpList_loadHG (by rfl) _ rfl wr.heap.size 4 rfl x.lk HCL.out ?_) | fail)
   refine hcall.mono ?_
   rintro e wb ⟨vb, rfl, hOb, _⟩
   have HOb : Hid (Ow W0 wb vb (LA ++ laidPs P (i + 1))) := hOb
   clear hcall hOb HCL HE
   go_wp2
   go_roundw
   case rel => exact ⟨i + 1, vb, by omega, rfl, by go_num, HOb.out⟩
   case measure => simp [intOf]; omega
  ·obtain rfl : i = pn := by omega
   have hnn : ¬ ((i : Int) < i) := by omega
   obtain ⟨L, hL⟩ : ∃ L, LA ++ laidPs P i = L := ⟨_, rfl⟩
   have hlL : L.length ≤ 6836 := by rw [← hL]; simp only [List.length_append]; omega
   rw [hL] at HO HLS
   clear hL ll
   generalize wr = wo at *
   have en := u64_nat hn (by omega)
   have hcall := refUint_ow W0 wo v _ (hn : Int) HO.out (by omega)
   have l1 := uB_len (u64 (hn : Int))
   obtain ⟨M, hM⟩ : ∃ M, L ++ uB (u64 (hn : Int)) = M := ⟨_, rfl⟩
   have hlM : M.length ≤ 6845 := by rw [← hM]; simp only [List.length_append]; omega
   rw [laidK_one, hM] at HLS
   rw [hM, en] at hcall
   clear hM l1 en
   go_wp2_with fail
   refine hcall.mono ?_
   rintro e w6 ⟨v6, rfl, hO6, _⟩
   have h60 : Ow W0 w6 v6 (M ++ laidHs H 0) := by simpa [laidHs] using hO6
   clear hcall hO6 HO k3 k4 hlL
   go_wp2_with fail
   go_loopw [3, 6, 7, 8] (fun sv iv _ _ wr => ∃ (j : Nat) (v : Value), j ≤ hn ∧ v = sv ∧ iv = .int .i64 j ∧ Ow W0 wr v (M ++ laidHs H j)) (fun _ iv _ _ _ => hn + 1 - (intOf iv).toNat)
   case atStart => exact ⟨0, _, by omega, rfl, rfl, h60⟩
   case round =>
    clear h60
    obtain ⟨j, v, hj, rfl, rfl, hO⟩ := hrel
    have HO : Hid (Ow W0 wr v (M ++ laidHs H j)) := hO
    clear hO
    have ll := laidHs_len H j (fun i hi => HSK.out i (by omega))
    obtain ⟨k3, k4⟩ := HC2.out wr HO.out.below
    by_cases hlt : j < hn
    ·have hlt' : (j : Int) < hn := by omega
     obtain ⟨bl0, off, rfl, hc0⟩ := HHD.out.at_ (by omega)
     obtain ⟨ka, kc, hr, hI, _⟩ := hc0 j hlt
     obtain ⟨d0, d1, d2⟩ := hd_cells (range_below hr HO.out.below)
     have HI : Hid (IsAt W0 ka (H j).n (H j).z) := hI
     have hxk := HSK.out j hlt
     have HE : Hid (M ++ laidHs H (j + 1) = (((M ++ laidHs H j ++ uB (u64 (H j).id)) ++ uB (u64 (H j).am)) ++ uB (u64 ((H j).n : Int))) ++ laidK (H j).z (H j).n) := by show _ = _; simp [laidHs, laidH, laidK_z3]
     clear hc0 hr hI
     obtain ⟨x, hx⟩ : ∃ x, H j = x := ⟨_, rfl⟩
     rw [hx] at HI HE d0 d1 d2 hxk
     clear hx
     obtain ⟨L, hL⟩ : ∃ L, M ++ laidHs H j = L := ⟨_, rfl⟩
     have hlL : L.length ≤ 279545 := by rw [← hL]; simp only [List.length_append]; omega
     rw [hL] at HO HE
     clear hL ll
     have HG7 : Hid (Ow W0 (wr.alloc (.cells #[.int .i64 x.id, .int .i64 x.am, .slice ka x.n kc] 56)) v L ∧ (wr.alloc (.cells #[.int .i64 x.id, .int .i64 x.am, .slice ka x.n kc] 56)).heap[wr.heap.size]? = some (.cells #[.int .i64 x.id, .int .i64 x.am, .slice ka x.n kc] 56 (0, 0))) := ⟨HO.out.keep (al1 _ _), heap_alloc_new wr _⟩
     go_wp2_with fail
     clear d0 d1 d2 HO k3 k4
     generalize wr.alloc (.cells #[.int .i64 x.id, .int .i64 x.am, .slice ka x.n kc] 56) = w7 at *
     have HS : Hid (∀ w' : World, w'.heap[wr.heap.size]? = some (.cells #[.int .i64 x.id, .int .i64 x.am, .slice ka x.n kc] 56 (0, 0)) → w'.cell? ⟨wr.heap.size, 0, none⟩ = some (.int .i64 x.id) ∧ w'.cell? ⟨wr.heap.size, 1, none⟩ = some (.int .i64 x.am) ∧ w'.cell? ⟨wr.heap.size, 2, none⟩ = some (.slice ka x.n kc)) := fun w' hg => ⟨by rw [cell_of_row _ _ 0 _ _ _ hg]; rfl, by rw [cell_of_row _ _ 1 _ _ _ hg]; rfl, by rw [cell_of_row _ _ 2 _ _ _ hg]; rfl⟩
     have lb1 := uB_len (u64 x.id)
     have lb2 := uB_len (u64 x.am)
     have lb3 := uB_len (u64 (x.n : Int))
     have hd7 : w7.drew.heap[wr.heap.size]? = some (.cells #[.int .i64 x.id, .int .i64 x.am, .slice ka x.n kc] 56 (0, 0)) := HG7.out.2
     have S1 := HS.out w7.drew hd7
     have ew : IntKind.u64.wrap (x.n : Int) = x.n := u64_nat x.n (by omega)
     refine wp_region_noPanic ?_
     refine wp_region_held_drew (S := fun w' => w'.cell? ⟨wr.heap.size, 0, none⟩ = some (.int .i64 x.id) ∧ w'.cell? ⟨wr.heap.size, 1, none⟩ = some (.int .i64 x.am) ∧ w'.cell? ⟨wr.heap.size, 2, none⟩ = some (.slice ka x.n kc)) (by kernel_rfl) S1 (fun hHeld => ?_)
     refine wpV 0 ⟨some 80, .move (.tmp 3), 31, _, _, none⟩ rfl ?_
     try simp only [Act.put, sqA, sqB, sqC]
     refine wpV 1 ⟨some 81, .fieldAddr 56 (.tmp 7) 0, 0, _, _, none⟩ rfl ?_
     try simp only [Act.put, sqA, sqB, sqC]
     refine wpV 2 ⟨some 82, .load 3 (.tmp 81), 3, _, _, none⟩ rfl ?_
     try simp only [Act.put, sqA, sqB, sqC]
     refine wpV 3 ⟨some 83, .convert 3 78 (.tmp 82), 78, _, _, none⟩ rfl ?_
     try simp only [Act.put, sqA, sqB, sqC]
     refine wpV 5 ⟨some 85, .fieldAddr 56 (.tmp 7) 1, 0, _, _, none⟩ rfl ?_
     try simp only [Act.put, sqA, sqB, sqC]
     refine wpV 6 ⟨some 86, .load 3 (.tmp 85), 3, _, _, none⟩ rfl ?_
     try simp only [Act.put, sqA, sqB, sqC]
     refine wpV 7 ⟨some 87, .convert 3 78 (.tmp 86), 78, _, _, none⟩ rfl ?_
     try simp only [Act.put, sqA, sqB, sqC]
     refine wpV 9 ⟨some 89, .fieldAddr 56 (.tmp 7) 2, 0, _, _, none⟩ rfl ?_
     try simp only [Act.put, sqA, sqB, sqC]
     refine wpV 10 ⟨some 90, .load 54 (.tmp 89), 54, _, _, none⟩ rfl ?_
     try simp only [Act.put, sqA, sqB, sqC]
     refine wpV 11 ⟨some 91, .call ⟨.builtin .len, #[.tmp 90], #[54]⟩, 3, _, _, none⟩ rfl ?_
     try simp only [Act.put, sqA, sqB, sqC]
     refine wpU 12 ⟨some 92, .convert 3 78 (.tmp 91), 78, _, _, none⟩ (v := .int .u64 (x.n : Int)) rfl ?_ ?_
     ·intro wz hSw; (try dsimp only at hSw); go_simp; try (rw [ew]); try rfl
     try simp only [Act.put, sqA, sqB, sqC]
     refine wpAnyH_ready (rs := [4]) (by kernel_rfl) (by simp) ?_
     refine (AllReadyH.cons (o := ⟨some 84, .call ⟨.value (.func 36), #[.tmp 80, .tmp 83], #[31, 78]⟩, 31, _, _, none⟩) rfl (fun K hK => ?_) AllReadyH.nil)
     go_simp
     refine (refUint_ow W0 _ v L x.id HG7.out.1.drew (by omega)).mono ?_
     rintro e w8 ⟨v8, rfl, hO8, hb8⟩
     have HO8 : Hid (Ow W0 w8 v8 (L ++ uB (u64 x.id)) ∧ w8.heap[wr.heap.size]? = some (.cells #[.int .i64 x.id, .int .i64 x.am, .slice ka x.n kc] 56 (0, 0))) := ⟨hO8, by rw [hb8.block _ (lt_of_block hd7)]; exact hd7⟩
     clear hO8 hb8 hd7 HG7
     refine hK.out _ _ (HS.out w8 HO8.out.2) (fun _ => ?_)
     clear hK K
     refine wpAnyH_ready (rs := [8]) (by kernel_rfl) (by simp) ?_
     refine (AllReadyH.cons (o := ⟨some 88, .call ⟨.value (.func 36), #[.tmp 84, .tmp 87], #[31, 78]⟩, 31, _, _, none⟩) rfl (fun K hK => ?_) AllReadyH.nil)
     go_simp
     refine (refUint_ow W0 _ v8 _ x.am HO8.out.1 (by simp only [List.length_append]; omega)).mono ?_
     rintro e w9 ⟨v9, rfl, hO9, hb9⟩
     have HO9 : Hid (Ow W0 w9 v9 ((L ++ uB (u64 x.id)) ++ uB (u64 x.am)) ∧ w9.heap[wr.heap.size]? = some (.cells #[.int .i64 x.id, .int .i64 x.am, .slice ka x.n kc] 56 (0, 0))) := ⟨hO9, by rw [hb9.block _ (lt_of_block HO8.out.2)]; exact HO8.out.2⟩
     clear hO9 hb9 HO8
     refine hK.out _ _ (HS.out w9 HO9.out.2) (fun _ => ?_)
     clear hK K
     refine wpAnyH_ready (rs := [13]) (by kernel_rfl) (by simp) ?_
     refine (AllReadyH.cons (o := ⟨some 93, .call ⟨.value (.func 36), #[.tmp 88, .tmp 92], #[31, 78]⟩, 31, _, _, none⟩) rfl (fun K hK => ?_) AllReadyH.nil)
     go_simp
     have hcall := refUint_ow W0 w9 v9 _ (x.n : Int) HO9.out.1 (by simp only [List.length_append]; omega)
     obtain ⟨L4, hL4⟩ : ∃ L4, ((L ++ uB (u64 x.id)) ++ uB (u64 x.am)) ++ uB (u64 (x.n : Int)) = L4 := ⟨_, rfl⟩
     have hl4 : L4.length ≤ 279572 := by rw [← hL4]; simp only [List.length_append]; omega
     rw [hL4] at hcall HE
     have ew2 : u64 (x.n : Int) = x.n := ew
     rw [ew2] at hcall
     refine hcall.mono ?_
     rintro e wa ⟨va, rfl, hOa, hba⟩
     have HOa : Hid (Ow W0 wa va L4 ∧ wa.heap[wr.heap.size]? = some (.cells #[.int .i64 x.id, .int .i64 x.am, .slice ka x.n kc] 56 (0, 0))) := ⟨hOa, by rw [hba.block _ (lt_of_block HO9.out.2)]; exact HO9.out.2⟩
     clear hOa hba HO9 hcall hL4 ew ew2
     refine hK.out _ _ (HS.out wa HOa.out.2) (fun _ => ?_)
     clear hK K
     refine wpV 14 ⟨some 3, .assign (.tmp 93), 31, _, _, none⟩ rfl ?_
     try simp only [Act.put, sqA, sqB, sqC]
     refine wpAnyH_done (by kernel_rfl) (NoPanic.normal ?_) _
     try simp only [Act.put, sqA, sqB, sqC]
     clear hHeld S1 lb1 lb2 lb3 hlL
     go_wp2_with fail
     have ha0 : Ow W0 wa va (L4 ++ laidK x.z 0) ∧ Below wa.heap.size wa wa := ⟨by simpa [laidK] using HOa.out.1, Below.refl _ _⟩
     go_loopw [3, 8] (fun sv kv wq => ∃ (k : Nat) (vq : Value), k ≤ x.n ∧ vq = sv ∧ kv = .int .i64 k ∧ Ow W0 wq vq (L4 ++ laidK x.z k) ∧ Below wa.heap.size wa wq) (fun _ kv _ => x.n + 1 - (intOf kv).toNat)
     case atStart => exact ⟨0, _, by omega, rfl, rfl, ha0⟩
     case round =>
      clear ha0
      rename World => wq
      obtain ⟨k, vq, hk, rfl, rfl, hOq, hbq⟩ := hrel
      have hgq : wq.heap[wr.heap.size]? = some (.cells #[.int .i64 x.id, .int .i64 x.am, .slice ka x.n kc] 56 (0, 0)) := by rw [hbq.block _ (lt_of_block HOa.out.2)]; exact HOa.out.2
      have cq : wq.cell? ⟨wr.heap.size, 2, none⟩ = some (.slice ka x.n kc) := (HS.out wq hgq).2.2
      have lq := laidK_len x.z k
      have HOq : Hid (Ow W0 wq vq (L4 ++ laidK x.z k) ∧ Below wa.heap.size wa wq) := ⟨hOq, hbq⟩
      clear hOq hbq hgq
      by_cases hkl : k < x.n
      ·have hkl' : (k : Int) < x.n := by omega
       obtain ⟨b2, off2, rfl, hc2⟩ := (HI.out.below HOq.out.1.below) (by omega)
       have hck := hc2 k hkl
       have hcall := refUint_ow W0 wq vq (L4 ++ laidK x.z k) (x.z k) HOq.out.1 (by simp only [List.length_append]; omega)
       unfold u64 at hcall
       clear hc2
       go_wp2_with (go_at_call 36; refine hcall.mono ?_; rintro e w5 ⟨v5, rfl, hO5, hb5⟩)
       have HN : Hid (Ow W0 w5 v5 (L4 ++ laidK x.z (k + 1)) ∧ Below wa.heap.size wa w5) := ⟨by
        have := hO5
        rw [List.append_assoc] at this
        exact this, HOq.out.2.trans (hb5.mono HOq.out.2.size)⟩
       clear hO5 hb5 hcall
       go_roundw
       case rel => exact ⟨k + 1, v5, by omega, rfl, by go_num, HN.out⟩
       case measure => simp [intOf]; omega
      ·obtain rfl : k = x.n := by omega
       have hnn : ¬ ((x.n : Int) < x.n) := by omega
       have HN : Hid (Ow W0 wq vq (M ++ laidHs H (j + 1))) := by show Ow _ _ _ _; rw [HE.out]; exact HOq.out.1
       clear HOq
       go_wp2
       go_roundw
       case rel => exact ⟨j + 1, vq, by omega, rfl, by go_num, HN.out⟩
       case measure => simp [intOf]; omega
    ·obtain rfl : j = hn := by omega
     have hnn : ¬ ((j : Int) < j) := by omega
     rw [← HLS.out] at HO
     have HE : Hid (Ow w wr v LS) := HO.out.mono HB0.out
     go_wp2
     go_ret
     exact ⟨_, rfl, HE.out⟩
end Go.Proofs.YtoefgfiabfkfaaaGreatDoor
/- same: whether a state is the document's, and the error. -/
namespace Go.Proofs.YtoefgfiabfkfaaaGreatDoor
open Go.RowKit

/-- What holds on the way may be more. -/
theorem wpAnyH_more {P : Program} {md : Region.Mode} {ops : Array Oper} {Q : Exit → Act → World → Prop} {S S' : World → Prop} (hS : ∀ w, S' w → S w) : ∀ (fuel : Nat) (listed : Array Bool) (a : Act) (w : World), wpAnyH P md ops Q S' fuel listed a w → wpAnyH P md ops Q S fuel listed a w
 | 0, _, _, _, h => h
 | fuel + 1, _, _, _, h => ⟨h.1, fun i hi => wpOp_mono (fun a' w' h' => ⟨hS w' h'.1, wpAnyH_more hS fuel _ a' w' h'.2⟩) (h.2 i hi)⟩
theorem conv_ow {w0 w : World} {v : Value} {L : List Int} (h : Ow w0 w v L) : (convert 31 9 v).run Tryz.prog w = .ok (.string (strB (fn L) L.length)) w := by
 obtain ⟨ad, cp, rfl⟩ := h.form
 obtain ⟨_, hs, hn, _, _⟩ := h.fresh
 exact conv_any ad _ cp _ w hs hn
theorem Glob.belowA {w w' : World} (h : Glob w) (hb : Below w.heap.size w w') : Glob w' := h.below hb h.pos
/-- A state's five cells. -/
def svl (s : Sv) (p : Pl) : List Value := [.int .i64 s.nu, .int .i64 s.a, .int .i64 s.b, .slice p.pa s.pn p.pc, .slice p.ha s.hn p.hc]
theorem svl_range {w : World} {g : Nat} {s : Sv} {p : Pl} {t : TypeId} {fr : Nat × Nat} (h : w.heap[g]? = some (.cells (svv s p) t fr)) : w.rangeAt g 0 (svl s p) := fun j v hv => by
 rw [Nat.zero_add, cell_of_row _ _ j _ _ _ h]
 simpa [svv, svl] using hv

set_option maxRecDepth 100000 in
set_option maxHeartbeats 3200000 in
theorem same_any (s : Sv) (p p' : Pl) (er : Int) (w : World) (hg : Glob w) (h1 : SvAt w s p) (h2 : SvAt w s p') (hs : s.Small) :
  Calls Tryz.prog 13 #[.agg (svv s p), errV er, .agg (svv s p'), .int .i64 er] w fun e w' => e = .returned (.bool true) ∧ Below w.heap.size w w' := by
 have hb0 : Below w.heap.size w ((w.alloc (.cells (svv s p) 37)).alloc (.cells (svv s p') 26)) := ((Below.refl _ w).alloc (Nat.le_refl _) _).alloc (by simp) _
 have r1 : ((w.alloc (.cells (svv s p) 37)).alloc (.cells (svv s p') 26)).rangeAt w.heap.size 0 (svl s p) := svl_range (by rw [Below.heap_alloc _ _ _ (by simp)]; exact heap_alloc_new w _)
 have r2 : ((w.alloc (.cells (svv s p) 37)).alloc (.cells (svv s p') 26)).rangeAt (w.heap.size + 1) 0 (svl s p') := by
  have := heap_alloc_new (w.alloc (.cells (svv s p) 37)) (.cells (svv s p') 26)
  exact svl_range (by simpa using this)
 have HH : Hid (Glob w ∧ SvAt w s p ∧ SvAt w s p' ∧ s.Small) := ⟨hg, h1, h2, hs⟩
 clear hg h1 h2 hs
 go_enter Tryz.func13, Tryz.ntmps13
 go_wp2_with (first | (refine Go.Great.wpList_boxTo rfl _ _ rfl _ rfl _ rfl (svv s p) rfl ?_) | (refine Go.Great.wpList_boxTo rfl _ _ rfl _ rfl _ rfl (svv s p') rfl ?_) | fail)
 generalize (w.alloc (.cells (svv s p) 37)).alloc (.cells (svv s p') 26) = W0 at *
 have HR : Hid (∀ w', Below W0.heap.size W0 w' → w'.rangeAt w.heap.size 0 (svl s p) ∧ w'.rangeAt (w.heap.size + 1) 0 (svl s p')) := fun w' hb => ⟨range_below r1 hb, range_below r2 hb⟩
 have HB0 : Hid (Below w.heap.size w W0) := hb0
 clear hb0 r1 r2
 have S0 := HR.out W0.drew (Below.refl _ W0).drew
 have eer : (er == er) = true := by simp
 refine wp_region_noPanic ?_
 refine wp_region_held_drew (S := fun w' => w'.rangeAt w.heap.size 0 (svl s p) ∧ w'.rangeAt (w.heap.size + 1) 0 (svl s p')) (by kernel_rfl) S0 (fun hHeld => ?_)
 refine wpV 0 ⟨some 9, .move (.tmp 1), 40, _, _, none⟩ rfl ?_
 try simp only [Act.put, sqA, sqB, sqC]
 refine wpV 2 ⟨some 11, .move (.tmp 3), 3, _, _, none⟩ rfl ?_
 try simp only [Act.put, sqA, sqB, sqC]
 refine wpAnyH_ready (rs := [1]) (by kernel_rfl) (by simp) ?_
 refine (AllReadyH.cons (o := ⟨some 10, .call ⟨.value (.func 30), #[.tmp 9], #[40]⟩, 3, _, _, none⟩) rfl (fun K hK => ?_) AllReadyH.nil)
 go_simp
 refine (num_any er W0.drew (HH.out.1.belowA HB0.out.drew)).mono ?_
 rintro e w1 ⟨rfl, hb1⟩
 have HB1 : Hid (Below W0.heap.size W0 w1) := (Below.refl _ W0).drew.trans hb1
 clear hb1
 refine hK.out _ _ (HR.out w1 HB1.out) (fun _ => ?_)
 clear hK K
 refine wpV 3 ⟨some 12, .binOp .eql 3 (.tmp 10) (.tmp 11) 3, 4, _, _, none⟩ rfl ?_
 try simp only [Act.put, sqA, sqB, sqC]
 refine wpV 4 ⟨some 13, .move (.tmp 12), 4, _, _, none⟩ rfl ?_
 try simp only [Act.put, sqA, sqB, sqC]
 refine wpAnyH_take (i := 5) (oi := ⟨some 14, .load 37 (.tmp 4), 37, _, _, some (4, true)⟩) rfl (by kernel_rfl) (by kernel_rfl) (by kernel_rfl) (fun _ _ _ h => h) (yieldsIf_load_mid (by rfl) _ _ rfl w.heap.size 0 rfl (svl s p) _ (fun _ h => h.1) Tryz.underlying37 rfl szS) (by assumption) ?_
 try simp only [Act.put, sqA, sqB, sqC]
 refine wpAnyH_take (i := 8) (oi := ⟨some 17, .load 26 (.tmp 6), 26, _, _, some (4, true)⟩) rfl (by kernel_rfl) (by kernel_rfl) (by kernel_rfl) (fun _ _ _ h => h) (yieldsIf_load_mid (by rfl) _ _ rfl (w.heap.size + 1) 0 rfl (svl s p') _ (fun _ h => h.2) Tryz.underlying26 rfl szSr) (by assumption) ?_
 try simp only [Act.put, sqA, sqB, sqC]
 refine wpAnyH_ready (rs := [6]) (by kernel_rfl) (by simp) ?_
 refine (AllReadyH.cons (o := ⟨some 15, .call ⟨.value (.func 14), #[.tmp 14], #[37]⟩, 31, _, _, some (4, true)⟩) rfl (fun K hK => ?_) AllReadyH.nil)
 go_simp
 have hbw1 : Below w.heap.size w w1 := HB0.out.trans (HB1.out.mono HB0.out.size)
 refine (encode_any s p w1 (HH.out.2.1.below hbw1) HH.out.2.2.2).mono ?_
 rintro e w2 ⟨ad, cap, rfl, hsl, hnil, hb2⟩
 have HB2 : Hid (Below W0.heap.size W0 w2) := Below.transS HB1.out hb2
 have HS2 : Hid (SlAt w2 ad (laidS s).length (fn (laidS s)) ∧ (ad = none → (laidS s).length = 0 ∧ cap = 0)) := ⟨hsl, hnil⟩
 clear hsl hnil hb2 hbw1 HB1
 obtain ⟨L, hL⟩ : ∃ L, laidS s = L := ⟨_, rfl⟩
 have HL : Hid (laidS s = L) := hL
 rw [hL] at HS2
 simp only [hL]
 clear hL
 refine hK.out _ _ (HR.out w2 HB2.out) (fun _ => ?_)
 clear hK K
 have S2 : (w2.rangeAt w.heap.size 0 (svl s p) ∧ w2.rangeAt (w.heap.size + 1) 0 (svl s p')) ∧ (convert 31 9 (.slice ad L.length cap)).run Tryz.prog w2 = .ok (.string (strB (fn L) L.length)) w2 := ⟨HR.out w2 HB2.out, conv_any ad _ cap _ w2 HS2.out.1 HS2.out.2⟩
 refine wpAnyH_more (S' := fun w' => (w'.rangeAt w.heap.size 0 (svl s p) ∧ w'.rangeAt (w.heap.size + 1) 0 (svl s p')) ∧ (convert 31 9 (.slice ad L.length cap)).run Tryz.prog w' = .ok (.string (strB (fn L) L.length)) w') (fun _ h => h.1) _ _ _ _ ?_
 refine wpV 7 ⟨some 16, .convert 31 9 (.tmp 15), 9, _, _, some (4, true)⟩ rfl ?_
 try simp only [Act.put, sqA, sqB, sqC]
 refine wpAnyH_ready (rs := [9]) (by kernel_rfl) (by simp) ?_
 refine (AllReadyH.cons (o := ⟨some 18, .call ⟨.value (.func 15), #[.tmp 17], #[26]⟩, 31, _, _, some (4, true)⟩) rfl (fun K hK => ?_) AllReadyH.nil)
 go_simp
 have hbw2 : Below w.heap.size w w2 := HB0.out.trans (HB2.out.mono HB0.out.size)
 refine (rencode_any s p' w2 (HH.out.2.2.1.below hbw2) HH.out.2.2.2).mono ?_
 rintro e w3 ⟨v3, rfl, hO3⟩
 rw [HL.out] at hO3
 have HB3 : Hid (Below W0.heap.size W0 w3) := Below.transS HB2.out hO3.below
 have S3 : (w3.rangeAt w.heap.size 0 (svl s p) ∧ w3.rangeAt (w.heap.size + 1) 0 (svl s p')) ∧ (convert 31 9 (.slice ad L.length cap)).run Tryz.prog w3 = .ok (.string (strB (fn L) L.length)) w3 := ⟨HR.out w3 HB3.out, conv_any ad _ cap _ w3 (HS2.out.1.below hO3.below) HS2.out.2⟩
 have hcv := conv_ow hO3
 clear hO3 hbw2 S2
 refine hK.out _ _ S3 (fun _ => ?_)
 clear hK K
 refine wpAnyH_ready (rs := [10]) (by kernel_rfl) (by simp) ?_
 refine (AllReadyH.cons (o := ⟨some 19, .convert 31 9 (.tmp 18), 9, _, _, some (4, true)⟩) rfl (fun K hK => ?_) AllReadyH.nil)
 go_simp
 refine hK.out _ _ S3 (fun _ => ?_)
 clear hK K hcv
 try simp only [Act.put, sqA, sqB, sqC]
 refine wpV 11 ⟨some 20, .binOp .eql 9 (.tmp 16) (.tmp 19) 9, 4, _, _, some (4, true)⟩ rfl ?_
 try simp only [Act.put, sqA, sqB, sqC]
 refine wpV 12 ⟨some 21, .pick (.tmp 13) (.tmp 20) (.const (.bool false)), 4, _, _, none⟩ rfl ?_
 try simp only [Act.put, sqA, sqB, sqC]
 refine wpV 13 ⟨some 8, .assign (.tmp 21), 4, _, _, none⟩ rfl ?_
 try simp only [Act.put, sqA, sqB, sqC]
 refine wpAnyH_done (by kernel_rfl) (NoPanic.normal ?_) _
 try simp only [Act.put, sqA, sqB, sqC]
 clear hHeld S3 S0
 have HE := HB0.out.trans (HB3.out.mono HB0.out.size)
 go_wp2
 go_ret
 exact ⟨rfl, HE⟩
end Go.Proofs.YtoefgfiabfkfaaaGreatDoor
