/- build: what a commitment's outputs ask for. -/
import Derived.Test.YtjnepkggdkccaaaGreatDoorOwnShelf09
import Derived.Test.YtjnepkggdkccaaaGreatDoorOwnShelf10
namespace Go.Proofs.YtjnepkggdkccaaaGreatDoor
open Go.RowKit

theorem slice_br2 (x y : Cd.Bv) (ka kb : Option Addr) (kc kd : Nat) (w : World) : (Instr.buildSlice 91 2 #[(0, .agg (Cd.bv x ka kc)), (1, .agg (Cd.bv y kb kd))]).run Tryz.prog w = .ok (.slice (some ⟨w.heap.size, 0, none⟩) 2 2) (w.alloc (.cells (Cd.brl x ka kc ++ Cd.brl y kb kd).toArray 164)) := by kernel_rfl
theorem slice_br3 (x y z : Cd.Bv) (ka kb ke : Option Addr) (kc kd kf : Nat) (w : World) : (Instr.buildSlice 91 3 #[(0, .agg (Cd.bv x ka kc)), (1, .agg (Cd.bv y kb kd)), (2, .agg (Cd.bv z ke kf))]).run Tryz.prog w = .ok (.slice (some ⟨w.heap.size, 0, none⟩) 3 3) (w.alloc (.cells (Cd.brl x ka kc ++ (Cd.brl y kb kd ++ Cd.brl z ke kf)).toArray 164)) := by kernel_rfl
section
variable {ops : Array Oper} {o : Oper} {a : Act} {w : World} {K : Act → World → Prop} {Q : Exit → Act → World → Prop} {E : Prop}
theorem step_sliceB2 (hgd : o.guard = none) (x y : Operand) (ho : o.op = .buildSlice 91 2 #[(0, x), (1, y)]) (u v : Cd.Bv) (ka kb : Option Addr) (kc kd : Nat) (hx : a.eval x = .agg (Cd.bv u ka kc)) (hy : a.eval y = .agg (Cd.bv v kb kd))
  (h : K (a.put o.dst (.slice (some ⟨w.heap.size, 0, none⟩) 2 2)) (w.alloc (.cells (Cd.brl u ka kc ++ Cd.brl v kb kd).toArray 164))) : if Region.wanted o (yielded ops a.tmps) = true then Oper.wp Tryz.prog o a w K Q else E := by
 have hw : Region.wanted o (yielded ops a.tmps) = true := by simp [Region.wanted, hgd]
 rw [if_pos hw]
 unfold Oper.wp execOp
 simp only [ho, List.map_toArray, List.map_cons, List.map_nil, hx, hy, Sem.run_bind, slice_br2, Result.andThen]
 exact h
end
theorem szCond : (Tryz.prog.info? 93).map (·.size) = some 1 := by kernel_rfl
theorem range_frm {S : List Nat} {w w' : World} {g off : Nat} {l : List Value} (h : w.rangeAt g off l) (hf : Frm S w w') (hg : g ∉ S) : w'.rangeAt g off l := fun j v hv => by
 have h1 := h j v hv
 rw [World.cell?_of_block (a := ⟨g, off + j, none⟩) (hf.block g (World.block_lt_of_cell? w ⟨g, off + j, none⟩ h1) hg)]
 exact h1
/-- Two branches in a row of their own. -/
theorem brAt2 {w : World} {b ka kb : Nat} {x y : Cd.Bv} {t : TypeId} (h : w.heap[b]? = some (.cells (Cd.brl x (some ⟨ka, 0, none⟩) 1 ++ Cd.brl y (some ⟨kb, 0, none⟩) 1).toArray t (0, 0))) (hx1 : x.n = 1) (hy1 : y.n = 1) (hx : x.Ok) (hy : y.Ok) (hka : w.cell? ⟨ka, 0, none⟩ = some (.int .i64 (x.z 0))) (hkb : w.cell? ⟨kb, 0, none⟩ = some (.int .i64 (y.z 0))) :
  Cd.BrAt w (some ⟨b, 0, none⟩) 2 (fun i => if i = 0 then x else y) := by
 have hr : w.rangeAt b 0 (Cd.brl x (some ⟨ka, 0, none⟩) 1 ++ Cd.brl y (some ⟨kb, 0, none⟩) 1) := fun j v hv => by
  rw [Nat.zero_add, cell_of_row _ _ j _ _ _ h]
  simpa using hv
 obtain ⟨h1, h2⟩ := range_app hr
 rw [Cd.brl_length] at h2
 refine ⟨fun i hi => ?_, fun _ => ⟨b, 0, rfl, fun i hi => ?_⟩⟩
 ·split
  ·exact hx
  ·exact hy
 ·match i, hi with
  | 0, _ => exact ⟨_, _, by simpa using h1, fun _ => ⟨ka, 0, rfl, fun j hj => by obtain rfl : j = 0 := (by simp [hx1] at hj; omega); exact hka⟩⟩
  | 1, _ => exact ⟨_, _, by simpa using h2, fun _ => ⟨kb, 0, rfl, fun j hj => by obtain rfl : j = 0 := (by simp [hy1] at hj; omega); exact hkb⟩⟩


set_option maxRecDepth 100000 in
set_option maxHeartbeats 3200000 in
theorem own_0 (P : Pm) (lk : Nat → Int) (y : Py) (h : Hd) (ka : Option Addr) (kc : Nat) (w : World) (hX : Cd.Bv.Ok ⟨1, fun _ => P.k0, nz, 0, P.dl⟩) (hY : Cd.Bv.Ok ⟨1, fun _ => P.k1, lk, 0, 0⟩) :
  Calls Tryz.prog 47 #[.agg (cmv ⟨P, 0, lk, y, h⟩ ka kc)] w fun e w' => ∃ b, e = .returned (.agg #[.slice (some ⟨b, 0, none⟩) 2 2]) ∧ Cd.BrIn w' w.heap.size (some ⟨b, 0, none⟩) 2 (fun i => if i = 0 then ⟨1, fun _ => P.k0, nz, 0, P.dl⟩ else ⟨1, fun _ => P.k1, lk, 0, 0⟩) ∧ w.heap.size ≤ b ∧ Below w.heap.size w w' := by
 have hb0 : Below w.heap.size w ((w.alloc (.cells (cmv ⟨P, 0, lk, y, h⟩ ka kc) 104)).alloc (.cells #[.slice none 0 0] 93)) := ((Below.refl _ w).alloc (Nat.le_refl _) _).alloc (by simp) _
 have h0c : ((w.alloc (.cells (cmv ⟨P, 0, lk, y, h⟩ ka kc) 104)).alloc (.cells #[.slice none 0 0] 93)).heap[w.heap.size]? = some (.cells (cmv ⟨P, 0, lk, y, h⟩ ka kc) 104 (0, 0)) := by rw [Below.heap_alloc _ _ _ (by simp)]; exact heap_alloc_new w _
 have h0r : ((w.alloc (.cells (cmv ⟨P, 0, lk, y, h⟩ ka kc) 104)).alloc (.cells #[.slice none 0 0] 93)).heap[w.heap.size + 1]? = some (.cells #[.slice none 0 0] 93 (0, 0)) := by
  have := heap_alloc_new (w.alloc (.cells (cmv ⟨P, 0, lk, y, h⟩ ka kc) 104)) (.cells #[.slice none 0 0] 93)
  simpa using this
 have HOK := hidV (And.intro hX hY)
 clear hX hY
 go_enter Tryz.func47, Tryz.ntmps47
 go_wp2_with (first | (refine Go.Great.wpList_boxTo rfl _ _ rfl _ rfl _ rfl (cmv ⟨P, 0, lk, y, h⟩ ka kc) rfl ?_) | fail)
 generalize (w.alloc (.cells (cmv ⟨P, 0, lk, y, h⟩ ka kc) 104)).alloc (.cells #[.slice none 0 0] 93) = W0 at *
 have HS : Hid (∀ w', Below W0.heap.size W0 w' → w'.rangeAt w.heap.size 0 (cml ⟨P, 0, lk, y, h⟩ ka kc) ∧ w'.cell? ⟨w.heap.size, 38, none⟩ = some (.int .i64 0)) := fun w' hb => by
  have h1 := cmBox (cml_range (w := w') (g := w.heap.size) (c := ⟨P, 0, lk, y, h⟩) (ka := ka) (kc := kc) (by rw [hb.block _ (lt_of_block h0c)]; exact h0c))
  exact ⟨h1.all, h1.o⟩
 have HRS : Hid (∀ w', Below W0.heap.size W0 w' → w'.heap[w.heap.size + 1]? = some (.cells #[.slice none 0 0] 93 (0, 0))) := fun w' hb => by rw [hb.block _ (lt_of_block h0r)]; exact h0r
 have HB0 := hidV hb0
 have S0 := HS.out W0.drew (Below.refl _ W0).drew
 clear hb0 h0c h0r
 refine wp_region_noPanic ?_
 refine wp_region_held_drew (S := fun w' => w'.rangeAt w.heap.size 0 (cml ⟨P, 0, lk, y, h⟩ ka kc) ∧ w'.cell? ⟨w.heap.size, 38, none⟩ = some (.int .i64 0)) (by kernel_rfl) S0 (fun hHeld => ?_)
 refine wpT (i := 1) (oi := ⟨some 4, .fieldAddr 104 (.tmp 1) 1, 0, _, _, none⟩) (v := ?_) rfl (by kernel_rfl) (fun _ _ _ h => h) (Or.inl ⟨by rfl, ?_⟩) (by assumption) ?_
 rotate_left
 ·intro wz hSw; (try dsimp only at hSw); go_simp; (try with_reducible rfl)
 try simp only [Act.put, zA, zB, zC]
 refine wpT (i := 2) (oi := ⟨some 5, .load 3 (.tmp 4), 3, _, _, none⟩) (v := ?_) rfl (by kernel_rfl) (fun _ _ _ h => h) (Or.inl ⟨by rfl, ?_⟩) (by assumption) ?_
 rotate_left
 ·intro wz hSw; (try dsimp only at hSw); go_simp; (try with_reducible rfl)
 try simp only [Act.put, zA, zB, zC]
 refine wpAnyH_take (i := 0) (oi := ⟨some 3, .load 104 (.tmp 1), 104, _, _, none⟩) rfl (by kernel_rfl) (by kernel_rfl) (by kernel_rfl) (fun _ _ _ h => h) (yieldsIf_load_mid (by rfl) _ _ rfl w.heap.size 0 rfl (cml ⟨P, 0, lk, y, h⟩ ka kc) _ (fun _ h => h.1) Tryz.underlying104 rfl (szCml _ _ _)) (by assumption) ?_
 try simp only [Act.put, zA, zB, zC]
 refine wpAnyH_take (i := 4) (oi := ⟨some 7, .load 104 (.tmp 1), 104, _, _, none⟩) rfl (by kernel_rfl) (by kernel_rfl) (by kernel_rfl) (fun _ _ _ h => h) (yieldsIf_load_mid (by rfl) _ _ rfl w.heap.size 0 rfl (cml ⟨P, 0, lk, y, h⟩ ka kc) _ (fun _ h => h.1) Tryz.underlying104 rfl (szCml _ _ _)) (by assumption) ?_
 try simp only [Act.put, zA, zB, zC]
 refine wpAnyH_ready (rs := [3]) (by kernel_rfl) (by simp) ?_
 refine (AllReadyH.cons (o := ⟨some 6, .call { callee := Go.Callee.value (.func 76), args := #[.tmp 3, .tmp 5], argTypes := #[104, 3] }, 164, _, _, none⟩) rfl (fun K hK => ?_) AllReadyH.nil)
 go_simp
 refine (branch_00 P lk y h ka kc W0.drew).mono ?_
 rintro e w1 ⟨k1, rfl, hk1, hkl1, hb1⟩
 have hkl1' : W0.heap.size ≤ k1 := hkl1
 clear hkl1
 have HB1 : Hid (Below W0.heap.size W0 w1) := (Below.refl _ W0).drew.trans hb1
 have HK1 := hidV hk1
 have hl1 := World.block_lt_of_cell? w1 ⟨k1, 0, none⟩ hk1
 clear hb1 hk1
 refine hK.out _ _ (HS.out w1 HB1.out) (fun _ => ?_)
 clear hK K
 refine wpAnyH_ready (rs := [5]) (by kernel_rfl) (by simp) ?_
 refine (AllReadyH.cons (o := ⟨some 8, .call { callee := Go.Callee.value (.func 77), args := #[.tmp 7], argTypes := #[104] }, 164, _, _, none⟩) rfl (fun K hK => ?_) AllReadyH.nil)
 go_simp
 refine (revoked_0 P lk y h ka kc w1).mono ?_
 rintro e w2 ⟨k2, rfl, hk2, hkl2, hb2⟩
 have hkl2' : W0.heap.size ≤ k2 := Nat.le_trans HB1.out.size hkl2
 clear hkl2
 have HB2 : Hid (Below W0.heap.size W0 w2) := HB1.out.trans (hb2.mono HB1.out.size)
 have HK2 : Hid (w2.cell? ⟨k1, 0, none⟩ = some (.int .i64 P.k0) ∧ w2.cell? ⟨k2, 0, none⟩ = some (.int .i64 P.k1)) := ⟨by rw [hb2.cell (p := ⟨k1, 0, none⟩) hl1]; exact HK1.out, hk2⟩
 clear hb2 hk2 hl1 HK1
 refine hK.out _ _ (HS.out w2 HB2.out) (fun _ => ?_)
 clear hK K
 try simp only [Act.put, zA, zB, zC]
 refine wpAnyH_ready (rs := [6]) (by kernel_rfl) (by simp) ?_
 refine (AllReadyH.cons (o := ⟨some 9, .buildSlice 91 2 #[(0, .tmp 6), (1, .tmp 8)], 91, _, _, none⟩) rfl (fun K hK => ?_) AllReadyH.nil)
 refine step_sliceB2 rfl (.tmp 6) (.tmp 8) rfl ⟨1, fun _ => P.k0, nz, 0, P.dl⟩ ⟨1, fun _ => P.k1, lk, 0, 0⟩ (some ⟨k1, 0, none⟩) (some ⟨k2, 0, none⟩) 1 1 (by rfl) (by rfl) ?_
 have hb3 : Below w2.heap.size w2 (w2.alloc (.cells (Cd.brl ⟨1, fun _ => P.k0, nz, 0, P.dl⟩ (some ⟨k1, 0, none⟩) 1 ++ Cd.brl ⟨1, fun _ => P.k1, lk, 0, 0⟩ (some ⟨k2, 0, none⟩) 1).toArray 164)) := (Below.refl _ _).alloc (Nat.le_refl _) _
 have hg3 := heap_alloc_new w2 (.cells (Cd.brl ⟨1, fun _ => P.k0, nz, 0, P.dl⟩ (some ⟨k1, 0, none⟩) 1 ++ Cd.brl ⟨1, fun _ => P.k1, lk, 0, 0⟩ (some ⟨k2, 0, none⟩) 1).toArray 164)
 have hl1 := World.block_lt_of_cell? w2 ⟨k1, 0, none⟩ HK2.out.1
 have hl2 := World.block_lt_of_cell? w2 ⟨k2, 0, none⟩ HK2.out.2
 have HB3 : Hid (Below W0.heap.size W0 (w2.alloc (.cells (Cd.brl ⟨1, fun _ => P.k0, nz, 0, P.dl⟩ (some ⟨k1, 0, none⟩) 1 ++ Cd.brl ⟨1, fun _ => P.k1, lk, 0, 0⟩ (some ⟨k2, 0, none⟩) 1).toArray 164))) := HB2.out.trans (hb3.mono HB2.out.size)
 have HBR := hidV (And.intro hg3 (And.intro (show _ = some (Value.int .i64 P.k0) from (hb3.cell (p := ⟨k1, 0, none⟩) hl1).trans HK2.out.1) (show _ = some (Value.int .i64 P.k1) from (hb3.cell (p := ⟨k2, 0, none⟩) hl2).trans HK2.out.2)))
 have hlb := lt_of_block hg3
 have hs2 := HB2.out.size
 clear hb3 hg3 hl1 hl2 HK2
 generalize w2.alloc (.cells (Cd.brl ⟨1, fun _ => P.k0, nz, 0, P.dl⟩ (some ⟨k1, 0, none⟩) 1 ++ Cd.brl ⟨1, fun _ => P.k1, lk, 0, 0⟩ (some ⟨k2, 0, none⟩) 1).toArray 164) = w3 at *
 refine hK.out _ _ (HS.out w3 HB3.out) (fun _ => ?_)
 clear hK K
 try simp only [Act.put, zA, zB, zC]
 refine wpT (i := 7) (oi := ⟨some 10, .build 93 #[(0, .tmp 9)], 93, _, _, none⟩) (v := .agg #[.slice (some ⟨w2.heap.size, 0, none⟩) 2 2]) rfl (by kernel_rfl) (fun _ _ _ h => h) (Or.inl ⟨by rfl, ?_⟩) (by assumption) ?_
 ·intro wz hSw; (try dsimp only at hSw); kernel_rfl
 try simp only [Act.put, zA, zB, zC]
 have hr3 := HRS.out w3 HB3.out
 have cr : w3.cell? ⟨w.heap.size + 1, 0, none⟩ = some (.slice none 0 0) := by rw [cell_of_row _ _ 0 _ _ _ hr3]; rfl
 have cf : ∀ k, w3.frozen? ⟨w.heap.size + 1, k, none⟩ = false := fun k => frozen_of_row _ _ k _ _ hr3
 refine wpAnyH_ready (rs := [8]) (by kernel_rfl) (by simp) ?_
 refine (AllReadyH.cons (o := ⟨none, .store 93 (.tmp 2) (.tmp 10), 0, _, _, none⟩) rfl (fun K hK => ?_) AllReadyH.nil)
 go_simp
 have hf4 : Frm [w.heap.size + 1] w3 (w3.setCell ⟨w.heap.size + 1, 0, none⟩ (.slice (some ⟨w2.heap.size, 0, none⟩) 2 2)) := (Frm.refl _ _).setCell _ _ (by simp)
 have hg4 := heap_setCell_same w3 (w.heap.size + 1) 0 _ _ (.slice (some ⟨w2.heap.size, 0, none⟩) 2 2) hr3
 have hs4 : w.heap.size + 1 < W0.heap.size := lt_of_block (HRS.out W0 (Below.refl _ _))
 have hS4 : (w3.setCell ⟨w.heap.size + 1, 0, none⟩ (.slice (some ⟨w2.heap.size, 0, none⟩) 2 2)).rangeAt w.heap.size 0 (cml ⟨P, 0, lk, y, h⟩ ka kc) ∧ (w3.setCell ⟨w.heap.size + 1, 0, none⟩ (.slice (some ⟨w2.heap.size, 0, none⟩) 2 2)).cell? ⟨w.heap.size, 38, none⟩ = some (.int .i64 0) := by
  have h1 := HS.out w3 HB3.out
  exact ⟨range_frm h1.1 hf4 (by simp), by rw [World.cell?_of_block (a := ⟨w.heap.size, 38, none⟩) (hf4.block w.heap.size (by have := HB3.out.size; omega) (by simp))]; exact h1.2⟩
 refine hK.out _ _ hS4 (fun _ => ?_)
 clear hK K
 try simp only [Act.put]
 refine wpAnyH_done (by kernel_rfl) (NoPanic.normal ?_) _
 try simp only [Act.put, zA, zB, zC]
 clear hHeld S0 hS4 cr cf
 have hB4 : Below w.heap.size w (w3.setCell ⟨w.heap.size + 1, 0, none⟩ (.slice (some ⟨w2.heap.size, 0, none⟩) 2 2)) := (HB0.out.trans (HB3.out.mono HB0.out.size)).setCell (by show w.heap.size ≤ w.heap.size + 1; omega) _
 have hA4 : Cd.BrIn (w3.setCell ⟨w.heap.size + 1, 0, none⟩ (.slice (some ⟨w2.heap.size, 0, none⟩) 2 2)) w.heap.size (some ⟨w2.heap.size, 0, none⟩) 2 (fun i => if i = 0 then ⟨1, fun _ => P.k0, nz, 0, P.dl⟩ else ⟨1, fun _ => P.k1, lk, 0, 0⟩) := by
  intro z hz
  have hq4 := hf4.heap HBR.out.1 (by simp; omega)
  have hk1 : (w3.setCell ⟨w.heap.size + 1, 0, none⟩ (.slice (some ⟨w2.heap.size, 0, none⟩) 2 2)).cell? ⟨k1, 0, none⟩ = some (.int .i64 P.k0) := by rw [World.cell?_of_block (a := ⟨k1, 0, none⟩) (hf4.block k1 (World.block_lt_of_cell? w3 ⟨k1, 0, none⟩ HBR.out.2.1) (by simp; omega))]; exact HBR.out.2.1
  have hk2 : (w3.setCell ⟨w.heap.size + 1, 0, none⟩ (.slice (some ⟨w2.heap.size, 0, none⟩) 2 2)).cell? ⟨k2, 0, none⟩ = some (.int .i64 P.k1) := by rw [World.cell?_of_block (a := ⟨k2, 0, none⟩) (hf4.block k2 (World.block_lt_of_cell? w3 ⟨k2, 0, none⟩ HBR.out.2.2) (by simp; omega))]; exact HBR.out.2.2
  refine brAt2 (by rw [hz w2.heap.size (by omega) (lt_of_block hq4)]; exact hq4) rfl rfl HOK.out.1 HOK.out.2 ?_ ?_
  ·rw [World.cell?_of_block (a := ⟨k1, 0, none⟩) (hz k1 (by omega) (World.block_lt_of_cell? _ ⟨k1, 0, none⟩ hk1))]; exact hk1
  ·rw [World.cell?_of_block (a := ⟨k2, 0, none⟩) (hz k2 (by omega) (World.block_lt_of_cell? _ ⟨k2, 0, none⟩ hk2))]; exact hk2
 have HF := hidV (And.intro hg4 (And.intro hB4 hA4))
 have hw2 : w.heap.size ≤ w2.heap.size := by omega
 clear hg4 hB4 hA4 hf4 hr3
 generalize w3.setCell ⟨w.heap.size + 1, 0, none⟩ (.slice (some ⟨w2.heap.size, 0, none⟩) 2 2) = w4 at *
 go_wp2
 exact bodyPost_ret (results_cell_row Tryz.results47 _ w4 (w.heap.size + 1) 93 _ (0, 0) _ rfl HF.out.1 Tryz.underlying93 rfl szCond) rfl ⟨_, rfl, HF.out.2.2, hw2, HF.out.2.1⟩


set_option maxRecDepth 100000 in
set_option maxHeartbeats 3200000 in
theorem own_1 (P : Pm) (lk : Nat → Int) (y : Py) (h : Hd) (ka : Option Addr) (kc : Nat) (w : World) (hX : Cd.Bv.Ok ⟨1, fun _ => P.k1, nz, 0, P.dl⟩) (hY : Cd.Bv.Ok ⟨1, fun _ => P.k0, lk, 0, 0⟩) :
  Calls Tryz.prog 47 #[.agg (cmv ⟨P, 1, lk, y, h⟩ ka kc)] w fun e w' => ∃ b, e = .returned (.agg #[.slice (some ⟨b, 0, none⟩) 2 2]) ∧ Cd.BrIn w' w.heap.size (some ⟨b, 0, none⟩) 2 (fun i => if i = 0 then ⟨1, fun _ => P.k1, nz, 0, P.dl⟩ else ⟨1, fun _ => P.k0, lk, 0, 0⟩) ∧ w.heap.size ≤ b ∧ Below w.heap.size w w' := by
 have hb0 : Below w.heap.size w ((w.alloc (.cells (cmv ⟨P, 1, lk, y, h⟩ ka kc) 104)).alloc (.cells #[.slice none 0 0] 93)) := ((Below.refl _ w).alloc (Nat.le_refl _) _).alloc (by simp) _
 have h0c : ((w.alloc (.cells (cmv ⟨P, 1, lk, y, h⟩ ka kc) 104)).alloc (.cells #[.slice none 0 0] 93)).heap[w.heap.size]? = some (.cells (cmv ⟨P, 1, lk, y, h⟩ ka kc) 104 (0, 0)) := by rw [Below.heap_alloc _ _ _ (by simp)]; exact heap_alloc_new w _
 have h0r : ((w.alloc (.cells (cmv ⟨P, 1, lk, y, h⟩ ka kc) 104)).alloc (.cells #[.slice none 0 0] 93)).heap[w.heap.size + 1]? = some (.cells #[.slice none 0 0] 93 (0, 0)) := by
  have := heap_alloc_new (w.alloc (.cells (cmv ⟨P, 1, lk, y, h⟩ ka kc) 104)) (.cells #[.slice none 0 0] 93)
  simpa using this
 have HOK := hidV (And.intro hX hY)
 clear hX hY
 go_enter Tryz.func47, Tryz.ntmps47
 go_wp2_with (first | (refine Go.Great.wpList_boxTo rfl _ _ rfl _ rfl _ rfl (cmv ⟨P, 1, lk, y, h⟩ ka kc) rfl ?_) | fail)
 generalize (w.alloc (.cells (cmv ⟨P, 1, lk, y, h⟩ ka kc) 104)).alloc (.cells #[.slice none 0 0] 93) = W0 at *
 have HS : Hid (∀ w', Below W0.heap.size W0 w' → w'.rangeAt w.heap.size 0 (cml ⟨P, 1, lk, y, h⟩ ka kc) ∧ w'.cell? ⟨w.heap.size, 38, none⟩ = some (.int .i64 1)) := fun w' hb => by
  have h1 := cmBox (cml_range (w := w') (g := w.heap.size) (c := ⟨P, 1, lk, y, h⟩) (ka := ka) (kc := kc) (by rw [hb.block _ (lt_of_block h0c)]; exact h0c))
  exact ⟨h1.all, h1.o⟩
 have HRS : Hid (∀ w', Below W0.heap.size W0 w' → w'.heap[w.heap.size + 1]? = some (.cells #[.slice none 0 0] 93 (0, 0))) := fun w' hb => by rw [hb.block _ (lt_of_block h0r)]; exact h0r
 have HB0 := hidV hb0
 have S0 := HS.out W0.drew (Below.refl _ W0).drew
 clear hb0 h0c h0r
 refine wp_region_noPanic ?_
 refine wp_region_held_drew (S := fun w' => w'.rangeAt w.heap.size 0 (cml ⟨P, 1, lk, y, h⟩ ka kc) ∧ w'.cell? ⟨w.heap.size, 38, none⟩ = some (.int .i64 1)) (by kernel_rfl) S0 (fun hHeld => ?_)
 refine wpT (i := 1) (oi := ⟨some 4, .fieldAddr 104 (.tmp 1) 1, 0, _, _, none⟩) (v := ?_) rfl (by kernel_rfl) (fun _ _ _ h => h) (Or.inl ⟨by rfl, ?_⟩) (by assumption) ?_
 rotate_left
 ·intro wz hSw; (try dsimp only at hSw); go_simp; (try with_reducible rfl)
 try simp only [Act.put, zA, zB, zC]
 refine wpT (i := 2) (oi := ⟨some 5, .load 3 (.tmp 4), 3, _, _, none⟩) (v := ?_) rfl (by kernel_rfl) (fun _ _ _ h => h) (Or.inl ⟨by rfl, ?_⟩) (by assumption) ?_
 rotate_left
 ·intro wz hSw; (try dsimp only at hSw); go_simp; (try with_reducible rfl)
 try simp only [Act.put, zA, zB, zC]
 refine wpAnyH_take (i := 0) (oi := ⟨some 3, .load 104 (.tmp 1), 104, _, _, none⟩) rfl (by kernel_rfl) (by kernel_rfl) (by kernel_rfl) (fun _ _ _ h => h) (yieldsIf_load_mid (by rfl) _ _ rfl w.heap.size 0 rfl (cml ⟨P, 1, lk, y, h⟩ ka kc) _ (fun _ h => h.1) Tryz.underlying104 rfl (szCml _ _ _)) (by assumption) ?_
 try simp only [Act.put, zA, zB, zC]
 refine wpAnyH_take (i := 4) (oi := ⟨some 7, .load 104 (.tmp 1), 104, _, _, none⟩) rfl (by kernel_rfl) (by kernel_rfl) (by kernel_rfl) (fun _ _ _ h => h) (yieldsIf_load_mid (by rfl) _ _ rfl w.heap.size 0 rfl (cml ⟨P, 1, lk, y, h⟩ ka kc) _ (fun _ h => h.1) Tryz.underlying104 rfl (szCml _ _ _)) (by assumption) ?_
 try simp only [Act.put, zA, zB, zC]
 refine wpAnyH_ready (rs := [3]) (by kernel_rfl) (by simp) ?_
 refine (AllReadyH.cons (o := ⟨some 6, .call { callee := Go.Callee.value (.func 76), args := #[.tmp 3, .tmp 5], argTypes := #[104, 3] }, 164, _, _, none⟩) rfl (fun K hK => ?_) AllReadyH.nil)
 go_simp
 refine (branch_11 P lk y h ka kc W0.drew).mono ?_
 rintro e w1 ⟨k1, rfl, hk1, hkl1, hb1⟩
 have hkl1' : W0.heap.size ≤ k1 := hkl1
 clear hkl1
 have HB1 : Hid (Below W0.heap.size W0 w1) := (Below.refl _ W0).drew.trans hb1
 have HK1 := hidV hk1
 have hl1 := World.block_lt_of_cell? w1 ⟨k1, 0, none⟩ hk1
 clear hb1 hk1
 refine hK.out _ _ (HS.out w1 HB1.out) (fun _ => ?_)
 clear hK K
 refine wpAnyH_ready (rs := [5]) (by kernel_rfl) (by simp) ?_
 refine (AllReadyH.cons (o := ⟨some 8, .call { callee := Go.Callee.value (.func 77), args := #[.tmp 7], argTypes := #[104] }, 164, _, _, none⟩) rfl (fun K hK => ?_) AllReadyH.nil)
 go_simp
 refine (revoked_1 P lk y h ka kc w1).mono ?_
 rintro e w2 ⟨k2, rfl, hk2, hkl2, hb2⟩
 have hkl2' : W0.heap.size ≤ k2 := Nat.le_trans HB1.out.size hkl2
 clear hkl2
 have HB2 : Hid (Below W0.heap.size W0 w2) := HB1.out.trans (hb2.mono HB1.out.size)
 have HK2 : Hid (w2.cell? ⟨k1, 0, none⟩ = some (.int .i64 P.k1) ∧ w2.cell? ⟨k2, 0, none⟩ = some (.int .i64 P.k0)) := ⟨by rw [hb2.cell (p := ⟨k1, 0, none⟩) hl1]; exact HK1.out, hk2⟩
 clear hb2 hk2 hl1 HK1
 refine hK.out _ _ (HS.out w2 HB2.out) (fun _ => ?_)
 clear hK K
 try simp only [Act.put, zA, zB, zC]
 refine wpAnyH_ready (rs := [6]) (by kernel_rfl) (by simp) ?_
 refine (AllReadyH.cons (o := ⟨some 9, .buildSlice 91 2 #[(0, .tmp 6), (1, .tmp 8)], 91, _, _, none⟩) rfl (fun K hK => ?_) AllReadyH.nil)
 refine step_sliceB2 rfl (.tmp 6) (.tmp 8) rfl ⟨1, fun _ => P.k1, nz, 0, P.dl⟩ ⟨1, fun _ => P.k0, lk, 0, 0⟩ (some ⟨k1, 0, none⟩) (some ⟨k2, 0, none⟩) 1 1 (by rfl) (by rfl) ?_
 have hb3 : Below w2.heap.size w2 (w2.alloc (.cells (Cd.brl ⟨1, fun _ => P.k1, nz, 0, P.dl⟩ (some ⟨k1, 0, none⟩) 1 ++ Cd.brl ⟨1, fun _ => P.k0, lk, 0, 0⟩ (some ⟨k2, 0, none⟩) 1).toArray 164)) := (Below.refl _ _).alloc (Nat.le_refl _) _
 have hg3 := heap_alloc_new w2 (.cells (Cd.brl ⟨1, fun _ => P.k1, nz, 0, P.dl⟩ (some ⟨k1, 0, none⟩) 1 ++ Cd.brl ⟨1, fun _ => P.k0, lk, 0, 0⟩ (some ⟨k2, 0, none⟩) 1).toArray 164)
 have hl1 := World.block_lt_of_cell? w2 ⟨k1, 0, none⟩ HK2.out.1
 have hl2 := World.block_lt_of_cell? w2 ⟨k2, 0, none⟩ HK2.out.2
 have HB3 : Hid (Below W0.heap.size W0 (w2.alloc (.cells (Cd.brl ⟨1, fun _ => P.k1, nz, 0, P.dl⟩ (some ⟨k1, 0, none⟩) 1 ++ Cd.brl ⟨1, fun _ => P.k0, lk, 0, 0⟩ (some ⟨k2, 0, none⟩) 1).toArray 164))) := HB2.out.trans (hb3.mono HB2.out.size)
 have HBR := hidV (And.intro hg3 (And.intro (show _ = some (Value.int .i64 P.k1) from (hb3.cell (p := ⟨k1, 0, none⟩) hl1).trans HK2.out.1) (show _ = some (Value.int .i64 P.k0) from (hb3.cell (p := ⟨k2, 0, none⟩) hl2).trans HK2.out.2)))
 have hlb := lt_of_block hg3
 have hs2 := HB2.out.size
 clear hb3 hg3 hl1 hl2 HK2
 generalize w2.alloc (.cells (Cd.brl ⟨1, fun _ => P.k1, nz, 0, P.dl⟩ (some ⟨k1, 0, none⟩) 1 ++ Cd.brl ⟨1, fun _ => P.k0, lk, 0, 0⟩ (some ⟨k2, 0, none⟩) 1).toArray 164) = w3 at *
 refine hK.out _ _ (HS.out w3 HB3.out) (fun _ => ?_)
 clear hK K
 try simp only [Act.put, zA, zB, zC]
 refine wpT (i := 7) (oi := ⟨some 10, .build 93 #[(0, .tmp 9)], 93, _, _, none⟩) (v := .agg #[.slice (some ⟨w2.heap.size, 0, none⟩) 2 2]) rfl (by kernel_rfl) (fun _ _ _ h => h) (Or.inl ⟨by rfl, ?_⟩) (by assumption) ?_
 ·intro wz hSw; (try dsimp only at hSw); kernel_rfl
 try simp only [Act.put, zA, zB, zC]
 have hr3 := HRS.out w3 HB3.out
 have cr : w3.cell? ⟨w.heap.size + 1, 0, none⟩ = some (.slice none 0 0) := by rw [cell_of_row _ _ 0 _ _ _ hr3]; rfl
 have cf : ∀ k, w3.frozen? ⟨w.heap.size + 1, k, none⟩ = false := fun k => frozen_of_row _ _ k _ _ hr3
 refine wpAnyH_ready (rs := [8]) (by kernel_rfl) (by simp) ?_
 refine (AllReadyH.cons (o := ⟨none, .store 93 (.tmp 2) (.tmp 10), 0, _, _, none⟩) rfl (fun K hK => ?_) AllReadyH.nil)
 go_simp
 have hf4 : Frm [w.heap.size + 1] w3 (w3.setCell ⟨w.heap.size + 1, 0, none⟩ (.slice (some ⟨w2.heap.size, 0, none⟩) 2 2)) := (Frm.refl _ _).setCell _ _ (by simp)
 have hg4 := heap_setCell_same w3 (w.heap.size + 1) 0 _ _ (.slice (some ⟨w2.heap.size, 0, none⟩) 2 2) hr3
 have hs4 : w.heap.size + 1 < W0.heap.size := lt_of_block (HRS.out W0 (Below.refl _ _))
 have hS4 : (w3.setCell ⟨w.heap.size + 1, 0, none⟩ (.slice (some ⟨w2.heap.size, 0, none⟩) 2 2)).rangeAt w.heap.size 0 (cml ⟨P, 1, lk, y, h⟩ ka kc) ∧ (w3.setCell ⟨w.heap.size + 1, 0, none⟩ (.slice (some ⟨w2.heap.size, 0, none⟩) 2 2)).cell? ⟨w.heap.size, 38, none⟩ = some (.int .i64 1) := by
  have h1 := HS.out w3 HB3.out
  exact ⟨range_frm h1.1 hf4 (by simp), by rw [World.cell?_of_block (a := ⟨w.heap.size, 38, none⟩) (hf4.block w.heap.size (by have := HB3.out.size; omega) (by simp))]; exact h1.2⟩
 refine hK.out _ _ hS4 (fun _ => ?_)
 clear hK K
 try simp only [Act.put]
 refine wpAnyH_done (by kernel_rfl) (NoPanic.normal ?_) _
 try simp only [Act.put, zA, zB, zC]
 clear hHeld S0 hS4 cr cf
 have hB4 : Below w.heap.size w (w3.setCell ⟨w.heap.size + 1, 0, none⟩ (.slice (some ⟨w2.heap.size, 0, none⟩) 2 2)) := (HB0.out.trans (HB3.out.mono HB0.out.size)).setCell (by show w.heap.size ≤ w.heap.size + 1; omega) _
 have hA4 : Cd.BrIn (w3.setCell ⟨w.heap.size + 1, 0, none⟩ (.slice (some ⟨w2.heap.size, 0, none⟩) 2 2)) w.heap.size (some ⟨w2.heap.size, 0, none⟩) 2 (fun i => if i = 0 then ⟨1, fun _ => P.k1, nz, 0, P.dl⟩ else ⟨1, fun _ => P.k0, lk, 0, 0⟩) := by
  intro z hz
  have hq4 := hf4.heap HBR.out.1 (by simp; omega)
  have hk1 : (w3.setCell ⟨w.heap.size + 1, 0, none⟩ (.slice (some ⟨w2.heap.size, 0, none⟩) 2 2)).cell? ⟨k1, 0, none⟩ = some (.int .i64 P.k1) := by rw [World.cell?_of_block (a := ⟨k1, 0, none⟩) (hf4.block k1 (World.block_lt_of_cell? w3 ⟨k1, 0, none⟩ HBR.out.2.1) (by simp; omega))]; exact HBR.out.2.1
  have hk2 : (w3.setCell ⟨w.heap.size + 1, 0, none⟩ (.slice (some ⟨w2.heap.size, 0, none⟩) 2 2)).cell? ⟨k2, 0, none⟩ = some (.int .i64 P.k0) := by rw [World.cell?_of_block (a := ⟨k2, 0, none⟩) (hf4.block k2 (World.block_lt_of_cell? w3 ⟨k2, 0, none⟩ HBR.out.2.2) (by simp; omega))]; exact HBR.out.2.2
  refine brAt2 (by rw [hz w2.heap.size (by omega) (lt_of_block hq4)]; exact hq4) rfl rfl HOK.out.1 HOK.out.2 ?_ ?_
  ·rw [World.cell?_of_block (a := ⟨k1, 0, none⟩) (hz k1 (by omega) (World.block_lt_of_cell? _ ⟨k1, 0, none⟩ hk1))]; exact hk1
  ·rw [World.cell?_of_block (a := ⟨k2, 0, none⟩) (hz k2 (by omega) (World.block_lt_of_cell? _ ⟨k2, 0, none⟩ hk2))]; exact hk2
 have HF := hidV (And.intro hg4 (And.intro hB4 hA4))
 have hw2 : w.heap.size ≤ w2.heap.size := by omega
 clear hg4 hB4 hA4 hf4 hr3
 generalize w3.setCell ⟨w.heap.size + 1, 0, none⟩ (.slice (some ⟨w2.heap.size, 0, none⟩) 2 2) = w4 at *
 go_wp2
 exact bodyPost_ret (results_cell_row Tryz.results47 _ w4 (w.heap.size + 1) 93 _ (0, 0) _ rfl HF.out.1 Tryz.underlying93 rfl szCond) rfl ⟨_, rfl, HF.out.2.2, hw2, HF.out.2.1⟩

end Go.Proofs.YtjnepkggdkccaaaGreatDoor
/- Laws whose new worlds are letters. -/
namespace Go.Proofs.YtjnepkggdkccaaaGreatDoor
open Go.RowKit

/-- A block was made: it holds these cells. -/
structure New (w w1 : World) (cs : Array Value) (t : TypeId) : Prop where
 blk : w1.heap[w.heap.size]? = some (.cells cs t (0, 0))
 size : w1.heap.size = w.heap.size + 1
 below : Below w.heap.size w w1
theorem new_alloc (w : World) (cs : Array Value) (t : TypeId) : New w (w.alloc (.cells cs t)) cs t := ⟨heap_alloc_new w _, by simp, (Below.refl _ _).alloc (Nat.le_refl _) _⟩
theorem heap_below {w w1 : World} (h : Below w.heap.size w w1) {k : Nat} {o : Obj} (hk : w.heap[k]? = some o) : w1.heap[k]? = some o := by rw [h.block _ (lt_of_block hk)]; exact hk
theorem New.old {w w1 : World} {cs : Array Value} {t : TypeId} (h : New w w1 cs t) {k : Nat} {o : Obj} (hk : w.heap[k]? = some o) : w1.heap[k]? = some o := heap_below h.below hk
section
variable {ops : Array Oper} {rest : List Oper} {o : Oper} {a : Act} {w : World} {Q : Exit → Act → World → Prop} {K : Act → World → Prop} {E : Prop}
theorem wpList_boxN (hg : o.guard = none) (t : TypeId) (x : Operand) (ho : o.op = .box t x) (cs : Array Value) (hx : (a.eval x).cells = cs)
  (h : ∀ w1, New w w1 cs t → wpList Tryz.prog ops Q rest (a.put o.dst (.pointer (some ⟨w.heap.size, 0, none⟩))) w1) : wpList Tryz.prog ops Q (o :: rest) a w :=
 Go.Great.wpList_boxTo hg t x ho _ rfl _ rfl cs hx (h _ (new_alloc w cs t))
theorem wpList_allocN (T : TypeId) (z : Array Value) (hrun : ∀ w : World, (Instr.alloc T true (.tuple #[])).run Tryz.prog w = .ok (.pointer (some ⟨w.heap.size, 0, none⟩)) (w.alloc (.cells z T))) (hgd : o.guard = none) (ho : o.op = .alloc T)
  (h : ∀ w1, New w w1 z T → wpList Tryz.prog ops Q rest (a.put o.dst (.pointer (some ⟨w.heap.size, 0, none⟩))) w1) : wpList Tryz.prog ops Q (o :: rest) a w :=
 wpList_allocG T z hrun hgd ho (h _ (new_alloc w z T))
theorem wpList_kSliceN (hgd : o.guard = none) (x : Operand) (ho : o.op = .buildSlice 88 1 #[(0, x)]) (v : Int) (hx : a.eval x = .int .i64 v)
  (h : ∀ w1, New w w1 #[.int .i64 v] 3 → wpList Tryz.prog ops Q rest (a.put o.dst (.slice (some ⟨w.heap.size, 0, none⟩) 1 1)) w1) : wpList Tryz.prog ops Q (o :: rest) a w :=
 wpList_kSlice hgd x ho v hx (h _ (new_alloc w _ _))
/-- The same in a region that draws. -/
theorem step_allocN (T : TypeId) (z : Array Value) (hrun : ∀ w : World, (Instr.alloc T true (.tuple #[])).run Tryz.prog w = .ok (.pointer (some ⟨w.heap.size, 0, none⟩)) (w.alloc (.cells z T))) (hgd : o.guard = none) (ho : o.op = .alloc T)
  (h : ∀ w1, New w w1 z T → K (a.put o.dst (.pointer (some ⟨w.heap.size, 0, none⟩))) w1) : if Region.wanted o (yielded ops a.tmps) = true then Oper.wp Tryz.prog o a w K Q else E := by
 have hw : Region.wanted o (yielded ops a.tmps) = true := by simp [Region.wanted, hgd]
 rw [if_pos hw]
 unfold Oper.wp execOp
 simp only [ho, Sem.run_bind, hrun, Result.andThen]
 exact h _ (new_alloc w z T)
theorem step_storeG (T : TypeId) {n : Nat} (hT : (Tryz.prog.info? T).map (·.size) = some n) (hgd : o.guard = none) (x y : Operand) (ho : o.op = .store T x y) (g : Nat) (hx : a.eval x = .pointer (some ⟨g, 0, none⟩)) (cs old : Array Value) (hl : cs.size = n) (hu : old.size = n) (h1 : cs.all (·.oneCell') = true) (t : TypeId) (hy : a.eval y = .agg cs) (hg : w.heap[g]? = some (.cells old t (0, 0)))
  (h : ∀ w', w'.heap[g]? = some (.cells cs t (0, 0)) → Frm [g] w w' → K (a.put o.dst undef) w') : if Region.wanted o (yielded ops a.tmps) = true then Oper.wp Tryz.prog o a w K Q else E := by
 have hw : Region.wanted o (yielded ops a.tmps) = true := by simp [Region.wanted, hgd]
 rw [if_pos hw]
 refine wp_store_mid T x y ho g 0 cs hx hy ?_ (by rw [hl]; exact hT) h1 (h _ ?_ (setCells_frm g _ 0 w))
 ·intro j hj
  rw [hl] at hj
  refine ⟨?_, ?_⟩
  ·rw [Nat.zero_add, cell_of_row w g j _ t _ hg]
   simp [hu, hj]
  ·rw [Nat.zero_add]; exact frozen_of_row w g j _ t hg
 ·have := setCells_at g cs.toList 0 w [] old.toList t (by simpa using hg) rfl (by simp [hl, hu])
  rw [this]
  simp [hl, hu, List.drop_eq_nil_of_le]
end
theorem brIn_frm {w w' : World} {B q n : Nat} {ad : Option Addr} {X : Nat → Cd.Bv} (h : Cd.BrIn w B ad n X) (hf : Frm [q] w w') (hq : q < B) : Cd.BrIn w' B ad n X := fun z hz => h z (fun k h1 h2 => by rw [hz k h1 (Nat.lt_of_lt_of_le h2 hf.size)]; exact hf.block k h2 (by simp; omega))
theorem brIn_below {w w' : World} {B n : Nat} {ad : Option Addr} {X : Nat → Cd.Bv} (h : Cd.BrIn w B ad n X) (hb : Below w.heap.size w w') : Cd.BrIn w' B ad n X := fun z hz => h z (fun k h1 h2 => by rw [hz k h1 (Nat.lt_of_lt_of_le h2 hb.size)]; exact hb.block k h2)
theorem cond_one (ad : Option Addr) (n c : Nat) : (#[Value.slice ad n c] : Array Value).all (·.oneCell') = true := all_oneCell_toArray (cs := [.slice ad n c]) (fun v hv => by simp at hv; subst hv; rfl)
theorem run_allocCond (w : World) : (Instr.alloc 93 true (.tuple #[])).run Tryz.prog w = .ok (.pointer (some ⟨w.heap.size, 0, none⟩)) (w.alloc (.cells #[.slice none 0 0] 93)) := by kernel_rfl
end Go.Proofs.YtjnepkggdkccaaaGreatDoor
/- build: a commitment's branches, for any side. -/
namespace Go.Proofs.YtjnepkggdkccaaaGreatDoor
open Go.RowKit

theorem branch_any (c : Cm) (ka : Option Addr) (kc : Nat) (d : Int) (w : World) (hd : d = 0 ∨ d = 1) (ho : c.o = 0 ∨ c.o = 1) :
  Calls Tryz.prog 76 #[.agg (cmv c ka kc), .int .i64 d] w fun e w' => ∃ k, e = .returned (.agg (Cd.bv (brS c d) (some ⟨k, 0, none⟩) 1)) ∧ w'.cell? ⟨k, 0, none⟩ = some (.int .i64 (keyS c.P d)) ∧ w.heap.size ≤ k ∧ Below w.heap.size w w' := by
 obtain ⟨P, o, lk, y, h⟩ := c
 rcases hd with rfl | rfl <;> rcases ho with rfl | rfl
 ·have e : brS ⟨P, 0, lk, y, h⟩ 0 = ⟨1, fun _ => P.k0, nz, 0, P.dl⟩ := by simp [brS, keyS]
  rw [e]; exact branch_00 P lk y h ka kc w
 ·have e : brS ⟨P, 1, lk, y, h⟩ 0 = ⟨1, fun _ => P.k0, nz, 0, 0⟩ := by simp [brS, keyS]
  rw [e]; exact branch_01 P lk y h ka kc w
 ·have e : brS ⟨P, 0, lk, y, h⟩ 1 = ⟨1, fun _ => P.k1, nz, 0, 0⟩ := by simp [brS, keyS]
  rw [e]; exact branch_10 P lk y h ka kc w
 ·have e : brS ⟨P, 1, lk, y, h⟩ 1 = ⟨1, fun _ => P.k1, nz, 0, P.dl⟩ := by simp [brS, keyS]
  rw [e]; exact branch_11 P lk y h ka kc w
theorem revoked_any (c : Cm) (ka : Option Addr) (kc : Nat) (w : World) (ho : c.o = 0 ∨ c.o = 1) :
  Calls Tryz.prog 77 #[.agg (cmv c ka kc)] w fun e w' => ∃ k, e = .returned (.agg (Cd.bv (rvS c) (some ⟨k, 0, none⟩) 1)) ∧ w'.cell? ⟨k, 0, none⟩ = some (.int .i64 (keyS c.P (1 - c.o))) ∧ w.heap.size ≤ k ∧ Below w.heap.size w w' := by
 obtain ⟨P, o, lk, y, h⟩ := c
 rcases ho with rfl | rfl
 ·exact revoked_0 P lk y h ka kc w
 ·exact revoked_1 P lk y h ka kc w
theorem own_any (c : Cm) (ka : Option Addr) (kc : Nat) (w : World) (ho : c.o = 0 ∨ c.o = 1) (hX : (brS c c.o).Ok) (hY : (rvS c).Ok) :
  Calls Tryz.prog 47 #[.agg (cmv c ka kc)] w fun e w' => ∃ b, e = .returned (.agg #[.slice (some ⟨b, 0, none⟩) 2 2]) ∧ Cd.BrIn w' w.heap.size (some ⟨b, 0, none⟩) 2 (fun i => if i = 0 then brS c c.o else rvS c) ∧ Below w.heap.size w w' := by
 obtain ⟨P, o, lk, y, h⟩ := c
 rcases ho with rfl | rfl
 ·have e : brS ⟨P, 0, lk, y, h⟩ 0 = ⟨1, fun _ => P.k0, nz, 0, P.dl⟩ := by simp [brS, keyS]
  simp only at hX
  rw [e] at hX ⊢
  refine (own_0 P lk y h ka kc w hX hY).mono ?_
  rintro e w' ⟨b, rfl, h1, h2, h3⟩
  exact ⟨b, rfl, h1, h3⟩
 ·have e : brS ⟨P, 1, lk, y, h⟩ 1 = ⟨1, fun _ => P.k1, nz, 0, P.dl⟩ := by simp [brS, keyS]
  simp only at hX
  rw [e] at hX ⊢
  refine (own_1 P lk y h ka kc w hX hY).mono ?_
  rintro e w' ⟨b, rfl, h1, h2, h3⟩
  exact ⟨b, rfl, h1, h3⟩
theorem bv_s33 (x : Cd.Bv) (ka : Option Addr) (kc : Nat) (v : Int) : (Cd.bv x ka kc).setIfInBounds 33 (.int .i64 v) = Cd.bv { x with af := v } ka kc := by
 have h1 : (Cd.bv x ka kc).setIfInBounds 33 (.int .i64 v) = ((Cd.brl x ka kc).set 33 (.int .i64 v)).toArray := by simp [Cd.bv]
 have e : Cd.brl x ka kc = (.slice ka x.n kc :: bl x.lk 32) ++ ([.int .i64 x.af] ++ [.int .i64 x.ol]) := by simp [Cd.brl]
 have e2 : Cd.brl { x with af := v } ka kc = (.slice ka x.n kc :: bl x.lk 32) ++ ([.int .i64 v] ++ [.int .i64 x.ol]) := by simp [Cd.brl]
 rw [h1]
 unfold Cd.bv
 rw [e2, e, List.set_append_right _ _ (by simp [bl_length])]
 simp [bl_length]
/-- What a block that holds a commitment gives a walk of its payment. -/
structure CmPay (w : World) (g : Nat) (c : Cm) : Prop where
 fr : w.cell? ⟨g, 72, none⟩ = some (.int .i64 c.y.fr)
 af : w.cell? ⟨g, 74, none⟩ = some (.int .i64 c.y.af)
 lk : w.rangeAt g 75 (bl c.y.lk 32)
theorem cmPay {w : World} {g : Nat} {c : Cm} {ka : Option Addr} {kc : Nat} (h : w.rangeAt g 0 (cml c ka kc)) : CmPay w g c := by
 have h1 : w.rangeAt g 71 ([.int .i64 c.y.id, .int .i64 c.y.fr, .int .i64 c.y.am, .int .i64 c.y.af] ++ bl c.y.lk 32) := (cmBox h).py
 obtain ⟨h2, h3⟩ := range_app h1
 exact ⟨h2 1 _ rfl, h2 3 _ rfl, h3⟩
section
variable {ops : Array Oper} {o : Oper} {a : Act} {w : World} {Q : Exit → Act → World → Prop} {K : Act → World → Prop} {E : Prop}
theorem step_allocP (T : TypeId) (z : Array Value) (hrun : ∀ w : World, (Instr.alloc T true (.tuple #[])).run Tryz.prog w = .ok (.pointer (some ⟨w.heap.size, 0, none⟩)) (w.alloc (.cells z T))) (hgd : o.guard = none) (ho : o.op = .alloc T)
  (h : ∀ p w1, w1.heap[p]? = some (.cells z T (0, 0)) → w.heap.size ≤ p → Below w.heap.size w w1 → K (a.put o.dst (.pointer (some ⟨p, 0, none⟩))) w1) : if Region.wanted o (yielded ops a.tmps) = true then Oper.wp Tryz.prog o a w K Q else E :=
 step_allocN T z hrun hgd ho (fun w1 N => h _ w1 N.blk (Nat.le_refl _) N.below)
theorem step_storeLkB (hgd : o.guard = none) (x y : Operand) (ho : o.op = .store 23 x y) (g : Nat) (hx : a.eval x = .pointer (some ⟨g, 1, none⟩)) (z : Nat → Int) (hy : a.eval y = .agg (hv z)) (v : Cd.Bv) (ka : Option Addr) (kc : Nat) (t : TypeId) (hg : w.heap[g]? = some (.cells (Cd.bv v ka kc) t (0, 0)))
  (h : ∀ w', w'.heap[g]? = some (.cells (Cd.bv { v with lk := z } ka kc) t (0, 0)) → Frm [g] w w' → K (a.put o.dst undef) w') : if Region.wanted o (yielded ops a.tmps) = true then Oper.wp Tryz.prog o a w K Q else E := by
 have hw : Region.wanted o (yielded ops a.tmps) = true := by simp [Region.wanted, hgd]
 rw [if_pos hw]
 refine wp_store_mid 23 x y ho g 1 (hv z) hx hy ?_ (by rw [hv_size]; exact hsz) (hv_one z) (h _ (bv_setLk v ka kc z hg) (setCells_frm g _ 1 w))
 intro j hj
 rw [hv_size] at hj
 refine ⟨?_, frozen_of_row w g _ _ t hg⟩
 rw [cell_of_row w g _ _ t _ hg]
 simp [Cd.bv_size]
 omega
theorem step_sliceB3 (hgd : o.guard = none) (x y z : Operand) (ho : o.op = .buildSlice 91 3 #[(0, x), (1, y), (2, z)]) (u v s : Cd.Bv) (ka kb ke : Option Addr) (kc kd kf : Nat) (hx : a.eval x = .agg (Cd.bv u ka kc)) (hy : a.eval y = .agg (Cd.bv v kb kd)) (hz : a.eval z = .agg (Cd.bv s ke kf))
  (h : ∀ q w1, w1.heap[q]? = some (.cells (Cd.brl u ka kc ++ (Cd.brl v kb kd ++ Cd.brl s ke kf)).toArray 164 (0, 0)) → w.heap.size ≤ q → Below w.heap.size w w1 → K (a.put o.dst (.slice (some ⟨q, 0, none⟩) 3 3)) w1) : if Region.wanted o (yielded ops a.tmps) = true then Oper.wp Tryz.prog o a w K Q else E := by
 have hw : Region.wanted o (yielded ops a.tmps) = true := by simp [Region.wanted, hgd]
 rw [if_pos hw]
 unfold Oper.wp execOp
 simp only [ho, List.map_toArray, List.map_cons, List.map_nil, hx, hy, hz, Sem.run_bind, slice_br3, Result.andThen]
 exact h _ _ (heap_alloc_new _ _) (Nat.le_refl _) ((Below.refl _ _).alloc (Nat.le_refl _) _)
end
theorem cell_below {w w1 : World} (h : Below w.heap.size w w1) {p : Addr} {v : Value} (hp : w.cell? p = some v) : w1.cell? p = some v := by rw [h.cell (World.block_lt_of_cell? w p hp)]; exact hp
theorem cell_frm {S : List Nat} {w w1 : World} (h : Frm S w w1) {p : Addr} {v : Value} (hp : w.cell? p = some v) (hn : p.block ∉ S) : w1.cell? p = some v := by rw [World.cell?_of_block (a := p) (h.block p.block (World.block_lt_of_cell? w p hp) hn)]; exact hp
/-- Three branches in a row of their own. -/
theorem brAt3 {w : World} {b ka kb ke : Nat} {x y s : Cd.Bv} {t : TypeId} (h : w.heap[b]? = some (.cells (Cd.brl x (some ⟨ka, 0, none⟩) 1 ++ (Cd.brl y (some ⟨kb, 0, none⟩) 1 ++ Cd.brl s (some ⟨ke, 0, none⟩) 1)).toArray t (0, 0))) (hx1 : x.n = 1) (hy1 : y.n = 1) (hs1 : s.n = 1) (hx : x.Ok) (hy : y.Ok) (hs : s.Ok) (hka : w.cell? ⟨ka, 0, none⟩ = some (.int .i64 (x.z 0))) (hkb : w.cell? ⟨kb, 0, none⟩ = some (.int .i64 (y.z 0))) (hke : w.cell? ⟨ke, 0, none⟩ = some (.int .i64 (s.z 0))) :
  Cd.BrAt w (some ⟨b, 0, none⟩) 3 (fun i => if i = 0 then x else if i = 1 then y else s) := by
 have hr : w.rangeAt b 0 (Cd.brl x (some ⟨ka, 0, none⟩) 1 ++ (Cd.brl y (some ⟨kb, 0, none⟩) 1 ++ Cd.brl s (some ⟨ke, 0, none⟩) 1)) := fun j v hv => by
  rw [Nat.zero_add, cell_of_row _ _ j _ _ _ h]
  simpa using hv
 obtain ⟨h1, h23⟩ := range_app hr
 obtain ⟨h2, h3⟩ := range_app h23
 rw [Cd.brl_length] at h2 h3
 rw [Cd.brl_length] at h3
 refine ⟨fun i hi => ?_, fun _ => ⟨b, 0, rfl, fun i hi => ?_⟩⟩
 ·split
  ·exact hx
  ·split
   ·exact hy
   ·exact hs
 ·match i, hi with
  | 0, _ => exact ⟨_, _, by simpa using h1, fun _ => ⟨ka, 0, rfl, fun j hj => by obtain rfl : j = 0 := (by simp [hx1] at hj; omega); exact hka⟩⟩
  | 1, _ => exact ⟨_, _, by simpa using h2, fun _ => ⟨kb, 0, rfl, fun j hj => by obtain rfl : j = 0 := (by simp [hy1] at hj; omega); exact hkb⟩⟩
  | 2, _ => exact ⟨_, _, by simpa using h3, fun _ => ⟨ke, 0, rfl, fun j hj => by obtain rfl : j = 0 := (by simp [hs1] at hj; omega); exact hke⟩⟩
end Go.Proofs.YtjnepkggdkccaaaGreatDoor
