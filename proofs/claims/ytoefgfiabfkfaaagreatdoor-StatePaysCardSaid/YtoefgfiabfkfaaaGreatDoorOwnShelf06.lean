/- A block taken in: takeIn. -/
import Derived.Test.YtoefgfiabfkfaaaGreatDoorOwnShelf05
namespace Go.Proofs.YtoefgfiabfkfaaaGreatDoor
open Go.RowKit

theorem heap_set_row {w : World} {p j : Nat} {cs : Array Value} {t : TypeId} {u : Value} (h : w.heap[p]? = some (.cells cs t (0, 0))) : (w.setCell ⟨p, j, none⟩ u).heap[p]? = some (.cells (cs.setIfInBounds j u) t (0, 0)) := heap_setCell_same w p j cs t u h

set_option maxRecDepth 20000 in
set_option maxHeartbeats 8000000 in
theorem takeIn_true (p : Nat) (h : List Nat) (tk : Nat) (b : List Nat) (fl : Nat) (wn : Int) (w : World) (hp : w.heap[p]? = some (.cells (stc h tk b fl wn) 140 (0, 0))) (hT : Tab w) (hg : 3 ≤ p)
  (hh : Wd 8 h) (hb : By 64 b) (hfl : fl ≤ 64) (htk : tk + fl < 18446744073709551616) :
  Calls Tryz.prog 80 #[.pointer (some ⟨p, 0, none⟩), .bool true] w fun e w' => e = .returned (.tuple #[]) ∧ w'.heap[p]? = some (.cells (stc (cF h b (tk + fl) true) (tk + fl) b fl wn) 140 (0, 0)) ∧ Frm [p] w w' := by
 obtain ⟨T, hT0⟩ : ∃ T, T = tk + fl := ⟨_, rfl⟩
 have hTl : (T : Int) < 18446744073709551616 := by omega
 rw [← hT0]
 have hlt := lt_of_block hp
 have c8 : w.drew.cell? ⟨p, 8, none⟩ = some (.int .u64 (tk : Nat)) := by rw [cell_of_row w.drew p 8 _ _ _ hp]; exact stc_t hh.1
 have c73 : w.drew.cell? ⟨p, 73, none⟩ = some (.int .i64 (fl : Nat)) := by rw [cell_of_row w.drew p 73 _ _ _ hp]; exact stc_f hh.1 hb.1
 have f8 : w.drew.frozen? ⟨p, 8, none⟩ = false := frozen_of_row w.drew p 8 _ _ hp
 have e1 : IntKind.u64.wrap (fl : Int) = fl := by rw [IntKind.wrap_u64]; omega
 have e2 : IntKind.u64.wrap ((tk : Int) + fl) = T := by rw [IntKind.wrap_u64]; omega
 have HP1 : Hid ((w.setCell ⟨p, 8, none⟩ (.int .u64 (T : Nat))).drew.heap[p]? = some (.cells (stc h T b fl wn) 140 (0, 0))) := by
  have := heap_set_row (w := w) (j := 8) (u := .int .u64 (T : Nat)) hp
  rw [stc_set_t hh.1] at this; exact this
 have HF1 : Hid (Frm [p] w (w.setCell ⟨p, 8, none⟩ (.int .u64 (T : Nat))).drew) := ((Frm.refl _ w).setCell _ _ (by simp)).drew
 have HT0 : Hid (T = tk + fl) := hT0
 clear hT0
 go_enter Tryz.func80, Tryz.ntmps80
 go_wp2_with fail
 refine region_seq (c := 12) (f := 60) (ts := [(0, 0), (0, 1), (0, 2), (1, 3), (0, 4), (0, 5), (0, 6), (1, 7), (0, 8), (0, 9), (0, 10), (0, 11), (2, 12)]) (by kernel_rfl) (by kernel_rfl) ?_
 refine seq_W (o := ⟨some 10, .move (.tmp 0), 113, _, _, none⟩) (v := ?_) rfl rfl (fun wz => ?_) ?_
 rotate_left
 ·go_simp; (try with_reducible rfl)
 try simp only [Act.put, sqA, sqB, sqC]
 refine seq_W (o := ⟨some 11, .nilCheck (.tmp 10), 0, _, _, none⟩) (v := ?_) rfl rfl (fun wz => ?_) ?_
 rotate_left
 ·go_simp; (try with_reducible rfl)
 try simp only [Act.put, sqA, sqB, sqC]
 refine seq_W (o := ⟨some 12, .fieldAddr 140 (.tmp 11) 1, 0, _, _, none⟩) (v := ?_) rfl rfl (fun wz => ?_) ?_
 rotate_left
 ·go_simp; (try with_reducible rfl)
 try simp only [Act.put, sqA, sqB, sqC]
 refine seq_R (o := ⟨some 13, .load 78 (.tmp 12), 78, _, _, none⟩) (v := ?_) rfl rfl ?_ ?_
 rotate_left
 ·go_simp; (try with_reducible rfl)
 try simp only [Act.put, sqA, sqB, sqC]
 refine seq_W (o := ⟨some 14, .move (.tmp 0), 113, _, _, none⟩) (v := ?_) rfl rfl (fun wz => ?_) ?_
 rotate_left
 ·go_simp; (try with_reducible rfl)
 try simp only [Act.put, sqA, sqB, sqC]
 refine seq_W (o := ⟨some 15, .nilCheck (.tmp 14), 0, _, _, none⟩) (v := ?_) rfl rfl (fun wz => ?_) ?_
 rotate_left
 ·go_simp; (try with_reducible rfl)
 try simp only [Act.put, sqA, sqB, sqC]
 refine seq_W (o := ⟨some 16, .fieldAddr 140 (.tmp 15) 3, 0, _, _, none⟩) (v := ?_) rfl rfl (fun wz => ?_) ?_
 rotate_left
 ·go_simp; (try with_reducible rfl)
 try simp only [Act.put, sqA, sqB, sqC]
 refine seq_R (o := ⟨some 17, .load 3 (.tmp 16), 3, _, _, none⟩) (v := ?_) rfl rfl ?_ ?_
 rotate_left
 ·go_simp; (try with_reducible rfl)
 try simp only [Act.put, sqA, sqB, sqC]
 refine seq_W (o := ⟨some 18, .convert 3 78 (.tmp 17), 78, _, _, none⟩) (v := ?_) rfl rfl (fun wz => ?_) ?_
 rotate_left
 ·go_simp; (try with_reducible rfl)
 try simp only [Act.put, sqA, sqB, sqC]
 refine seq_W (o := ⟨some 19, .binOp .add 78 (.tmp 13) (.tmp 18) 78, 78, _, _, none⟩) (v := ?_) rfl rfl (fun wz => ?_) ?_
 rotate_left
 ·go_simp; (try with_reducible rfl)
 try simp only [Act.put, sqA, sqB, sqC]
 refine seq_W (o := ⟨some 20, .nilCheck (.tmp 10), 0, _, _, none⟩) (v := ?_) rfl rfl (fun wz => ?_) ?_
 rotate_left
 ·go_simp; (try with_reducible rfl)
 try simp only [Act.put, sqA, sqB, sqC]
 refine seq_W (o := ⟨some 21, .fieldAddr 140 (.tmp 20) 1, 0, _, _, none⟩) (v := ?_) rfl rfl (fun wz => ?_) ?_
 rotate_left
 ·go_simp; (try with_reducible rfl)
 try simp only [Act.put, sqA, sqB, sqC]
 refine seq_A (o := ⟨none, .store 78 (.tmp 21) (.tmp 19), 0, _, _, none⟩) rfl rfl (fun K hK => ?_)
 go_simp
 refine hK _ _ ?_
 clear hK K
 try simp only [Act.put, sqA, sqB, sqC]
 refine seq_nil (NoPanic.normal ?_)
 try simp only [Act.put, sqA, sqB, sqC]
 clear c8 c73 f8 e1 e2
 generalize (w.setCell ⟨p, 8, none⟩ (.int .u64 (T : Nat))).drew = W1 at *
 obtain ⟨⟨t0, fr0, hfst⟩, ⟨t2, fr2, hrow⟩⟩ := hT.frm HF1.out (by simpa using hg)
 have hfst2 : Hid ((W1.alloc (.cells (wv z16) 161)).heap[1]? = some (.cells (wv firstL) t0 fr0)) := by show _ = _; rw [Below.heap_alloc _ _ _ (lt_of_block hfst)]; exact hfst
 have hrow2 : Hid ((W1.alloc (.cells (wv z16) 161)).heap[2]? = some (.cells (sv rowsF) t2 fr2)) := by show _ = _; rw [Below.heap_alloc _ _ _ (lt_of_block hrow)]; exact hrow
 have HP2 : Hid ((W1.alloc (.cells (wv z16) 161)).heap[p]? = some (.cells (stc h T b fl wn) 140 (0, 0))) := by show _ = _; rw [Below.heap_alloc _ _ _ (lt_of_block HP1.out)]; exact HP1.out
 have HV2 : Hid ((W1.alloc (.cells (wv z16) 161)).heap[W1.heap.size]? = some (.cells (wv z16) 161 (0, 0))) := heap_alloc_new W1 _
 have HF2 : Hid (Frm [p] w (W1.alloc (.cells (wv z16) 161))) := HF1.out.alloc _
 have hpl : p < W1.heap.size := lt_of_block HP1.out
 have hpvl : w.heap.size ≤ W1.heap.size := HF1.out.size
 clear hfst hrow hT
 go_wp2_with (first | (refine wpList_alloc16 rfl rfl ?_) | (refine wpList_loadF rfl _ rfl 1 rfl firstL firstL_ok.1 _ _ hfst2.out ?_) | fail)
 have hl2 : W1.heap.size < (W1.alloc (.cells (wv z16) 161)).heap.size := by simp
 generalize W1.alloc (.cells (wv z16) 161) = W2 at *
 generalize W1.heap.size = pv at *
 clear HP1 HF1
 have HpF : Hid (pv ∉ [p] ∧ p ∉ [pv] ∧ 1 ∉ [pv] ∧ 2 ∉ [pv]) := ⟨by simp; omega, by simp; omega, by simp; omega, by simp; omega⟩
 go_loopw [23] (fun i (w' : World) => ∃ k : Nat, k ≤ 8 ∧ i = .int .i64 k ∧ w'.heap[pv]? = some (.cells (wv (vP h k)) 161 (0, 0)) ∧ Frm [pv] W2 w') (fun i _ => 8 - (intOf i).toNat)
 case atStart => exact ⟨0, by omega, rfl, HV2.out, Frm.refl _ _⟩
 case round =>
  obtain ⟨k, hk, rfl, hv, hF⟩ := hrel
  by_cases hlt : k < 8
  ·have hk' : (k : Int) < 8 := by omega
   have hl := (vP_ok hh k).1
   obtain ⟨x, hx⟩ : ∃ x, x = firstL.getD k 0 := ⟨_, rfl⟩
   obtain ⟨y, hy⟩ : ∃ y, y = h.getD k 0 := ⟨_, rfl⟩
   have hix : (wv firstL)[k]? = some (.int .u32 (x : Nat)) := by rw [hx]; exact wv_at (by show k < 8; exact hlt)
   have hrun : ∀ wx, (Instr.index 137 (.agg (wv firstL)) (.int .i64 (k : Int))).run Tryz.prog wx = .ok (.int .u32 (x : Nat)) wx := fun wx => run_idx Tryz.underlying137 hz32 ag32 hlt hix wx
   have hp1 : wr.heap[p]? = some (.cells (stc h T b fl wn) 140 (0, 0)) := hF.heap HP2.out HpF.out.2.1
   have cp : wr.cell? ⟨p, k, none⟩ = some (.int .u32 (y : Nat)) := by rw [cell_of_row wr p k _ _ _ hp1, hy]; exact stc_w hh.1 hlt
   have cv : wr.cell? ⟨pv, k, none⟩ = some (.int .u32 ((vP h k).getD k 0 : Nat)) := by rw [cell_of_row wr pv k _ _ _ hv]; exact wv_at (by omega)
   have fv : wr.frozen? ⟨pv, k, none⟩ = false := frozen_of_row wr pv k _ _ hv
   have hv1 := wv_set hv k y
   have cv8 : (wr.setCell ⟨pv, k, none⟩ (.int .u32 (y : Nat))).cell? ⟨pv, k + 8, none⟩ = some (.int .u32 (((vP h k).set k y).getD (k + 8) 0 : Nat)) := by rw [cell_of_row _ pv (k + 8) _ _ _ hv1]; exact wv_at (by simp; omega)
   have fv8 : (wr.setCell ⟨pv, k, none⟩ (.int .u32 (y : Nat))).frozen? ⟨pv, k + 8, none⟩ = false := frozen_of_row _ pv (k + 8) _ _ hv1
   have HN : Hid (((wr.setCell ⟨pv, k, none⟩ (.int .u32 (y : Nat))).setCell ⟨pv, k + 8, none⟩ (.int .u32 (x : Nat))).heap[pv]? = some (.cells (wv (vP h (k + 1))) 161 (0, 0)) ∧ Frm [pv] W2 ((wr.setCell ⟨pv, k, none⟩ (.int .u32 (y : Nat))).setCell ⟨pv, k + 8, none⟩ (.int .u32 (x : Nat)))) := by
    refine ⟨?_, (hF.setCell _ _ (by simp)).setCell _ _ (by simp)⟩
    have := wv_set hv1 (k + 8) x
    rw [this, vP, hx, hy]
   have e8 : ((k : Int) + 8).toNat = k + 8 := by omega
   clear hix hv hF hv1 hx hy hp1
   go_wp2
   refine ⟨⟨k + 1, by omega, by go_num, HN.out.1, HN.out.2⟩, ?_⟩
   simp [intOf]
   omega
  ·obtain rfl : k = 8 := by omega
   have o8 := vP_ok hh 8
   have hp3 : wr.heap[p]? = some (.cells (stc h T b fl wn) 140 (0, 0)) := hF.heap HP2.out HpF.out.2.1
   obtain ⟨a12, ha12⟩ : ∃ x, x = (vP h 8).getD 12 0 := ⟨_, rfl⟩
   have la12 : a12 < 4294967296 := by rw [ha12]; exact o8.2 12
   obtain ⟨x12, hx12⟩ : ∃ x, x = xorW a12 (T % 4294967296) := ⟨_, rfl⟩
   have d1 : wr.drew.cell? ⟨pv, 12, none⟩ = some (.int .u32 (a12 : Nat)) := by rw [cell_of_row wr.drew pv 12 _ _ _ hv, ha12]; exact wv_at (by rw [o8.1]; omega)
   have d2 : wr.drew.frozen? ⟨pv, 12, none⟩ = false := frozen_of_row wr.drew pv 12 _ _ hv
   have d3 : wr.drew.cell? ⟨p, 8, none⟩ = some (.int .u64 (T : Nat)) := by rw [cell_of_row wr.drew p 8 _ _ _ hp3]; exact stc_t hh.1
   have n1 : IntKind.u32.wrap (T : Int) = ((T % 4294967296 : Nat) : Int) := by rw [IntKind.wrap_u32]; omega
   have n2 : bits .xor .u32 (a12 : Int) ((T % 4294967296 : Nat) : Int) = (x12 : Nat) := by rw [hx12]; exact xor_W _ _ la12 (Nat.mod_lt _ (by decide))
   obtain ⟨tl, htl⟩ : ∃ x, x = T % 4294967296 := ⟨_, rfl⟩
   rw [← htl] at n1 n2
   have hv4 : Hid ((wr.setCell ⟨pv, 12, none⟩ (.int .u32 (x12 : Nat))).drew.heap[pv]? = some (.cells (wv ((vP h 8).set 12 x12)) 161 (0, 0))) := wv_set hv 12 x12
   have hp4 : Hid ((wr.setCell ⟨pv, 12, none⟩ (.int .u32 (x12 : Nat))).drew.heap[p]? = some (.cells (stc h T b fl wn) 140 (0, 0))) := ((Frm.refl [pv] wr).setCell ⟨pv, 12, none⟩ (.int .u32 (x12 : Nat)) (by simp)).heap hp3 HpF.out.2.1
   have hF4 : Hid (Frm [pv] W2 (wr.setCell ⟨pv, 12, none⟩ (.int .u32 (x12 : Nat))).drew) := (hF.setCell _ _ (by simp)).drew
   have HX12 : Hid (x12 = xorW ((vP h 8).getD 12 0) (T % 4294967296)) := by show _ = _; rw [hx12, ha12]
   clear ha12 hx12 htl hv hF hp3
   go_wp2_with fail
   refine region_seq (c := 9) (f := 60) (ts := [(0, 0), (1, 1), (0, 2), (0, 3), (0, 4), (1, 5), (0, 6), (0, 7), (0, 8), (2, 9)]) (by kernel_rfl) (by kernel_rfl) ?_
   refine seq_W (o := ⟨some 40, .indexAddr 161 (.tmp 4) (.const (.int .i64 12)), 0, _, _, none⟩) (v := ?_) rfl rfl (fun wz => ?_) ?_
   rotate_left
   ·go_simp; (try with_reducible rfl)
   try simp only [Act.put, sqA, sqB, sqC]
   refine seq_R (o := ⟨some 41, .load 120 (.tmp 40), 120, _, _, none⟩) (v := ?_) rfl rfl ?_ ?_
   rotate_left
   ·go_simp; (try with_reducible rfl)
   try simp only [Act.put, sqA, sqB, sqC]
   refine seq_W (o := ⟨some 42, .move (.tmp 0), 113, _, _, none⟩) (v := ?_) rfl rfl (fun wz => ?_) ?_
   rotate_left
   ·go_simp; (try with_reducible rfl)
   try simp only [Act.put, sqA, sqB, sqC]
   refine seq_W (o := ⟨some 43, .nilCheck (.tmp 42), 0, _, _, none⟩) (v := ?_) rfl rfl (fun wz => ?_) ?_
   rotate_left
   ·go_simp; (try with_reducible rfl)
   try simp only [Act.put, sqA, sqB, sqC]
   refine seq_W (o := ⟨some 44, .fieldAddr 140 (.tmp 43) 1, 0, _, _, none⟩) (v := ?_) rfl rfl (fun wz => ?_) ?_
   rotate_left
   ·go_simp; (try with_reducible rfl)
   try simp only [Act.put, sqA, sqB, sqC]
   refine seq_R (o := ⟨some 45, .load 78 (.tmp 44), 78, _, _, none⟩) (v := ?_) rfl rfl ?_ ?_
   rotate_left
   ·go_simp; (try with_reducible rfl)
   try simp only [Act.put, sqA, sqB, sqC]
   refine seq_W (o := ⟨some 46, .convert 78 120 (.tmp 45), 120, _, _, none⟩) (v := ?_) rfl rfl (fun wz => ?_) ?_
   rotate_left
   ·go_simp; (try with_reducible rfl)
   try simp only [Act.put, sqA, sqB, sqC]
   refine seq_W (o := ⟨some 47, .binOp .xor 120 (.tmp 41) (.tmp 46) 120, 120, _, _, none⟩) (v := ?_) rfl rfl (fun wz => ?_) ?_
   rotate_left
   ·go_simp; (try with_reducible rfl)
   try simp only [Act.put, sqA, sqB, sqC]
   refine seq_W (o := ⟨some 48, .indexAddr 161 (.tmp 4) (.const (.int .i64 12)), 0, _, _, none⟩) (v := ?_) rfl rfl (fun wz => ?_) ?_
   rotate_left
   ·go_simp; (try with_reducible rfl)
   try simp only [Act.put, sqA, sqB, sqC]
   refine seq_A (o := ⟨none, .store 120 (.tmp 48) (.tmp 47), 0, _, _, none⟩) rfl rfl (fun K hK => ?_)
   go_simp
   refine hK _ _ ?_
   clear hK K
   try simp only [Act.put, sqA, sqB, sqC]
   refine seq_nil (NoPanic.normal ?_)
   try simp only [Act.put, sqA, sqB, sqC]
   clear d1 d2 d3 n1 n2 la12
   generalize (wr.setCell ⟨pv, 12, none⟩ (.int .u32 (x12 : Nat))).drew = W4 at *
   obtain ⟨v1, hv1⟩ : ∃ v1, v1 = (vP h 8).set 12 x12 := ⟨_, rfl⟩
   have ov1 : Wd 16 v1 := by rw [hv1]; exact o8.set _ (by rw [HX12.out]; exact xorW_lt (o8.2 12) (Nat.mod_lt _ (by decide)))
   have hv5 : W4.heap[pv]? = some (.cells (wv v1) 161 (0, 0)) := by rw [hv1]; exact hv4.out
   obtain ⟨a13, ha13⟩ : ∃ x, x = v1.getD 13 0 := ⟨_, rfl⟩
   have la13 : a13 < 4294967296 := by rw [ha13]; exact ov1.2 13
   obtain ⟨x13, hx13⟩ : ∃ x, x = xorW a13 (T / 4294967296 % 4294967296) := ⟨_, rfl⟩
   have d1 : W4.drew.cell? ⟨pv, 13, none⟩ = some (.int .u32 (a13 : Nat)) := by rw [cell_of_row W4.drew pv 13 _ _ _ hv5, ha13]; exact wv_at (by rw [ov1.1]; omega)
   have d2 : W4.drew.frozen? ⟨pv, 13, none⟩ = false := frozen_of_row W4.drew pv 13 _ _ hv5
   have d3 : W4.drew.cell? ⟨p, 8, none⟩ = some (.int .u64 (T : Nat)) := by rw [cell_of_row W4.drew p 8 _ _ _ hp4.out]; exact stc_t hh.1
   have n1 : IntKind.u32.wrap ((T : Int) / 4294967296) = ((T / 4294967296 % 4294967296 : Nat) : Int) := by rw [IntKind.wrap_u32]; omega
   have n2 : bits .xor .u32 (a13 : Int) ((T / 4294967296 % 4294967296 : Nat) : Int) = (x13 : Nat) := by rw [hx13]; exact xor_W _ _ la13 (Nat.mod_lt _ (by decide))
   obtain ⟨th, hth⟩ : ∃ x, x = T / 4294967296 % 4294967296 := ⟨_, rfl⟩
   rw [← hth] at n1 n2
   have HV2' : Hid ((W4.setCell ⟨pv, 13, none⟩ (.int .u32 (x13 : Nat))).drew.heap[pv]? = some (.cells (wv (v2 h T)) 161 (0, 0))) := by
    have := wv_set hv5 13 x13
    show (W4.setCell ⟨pv, 13, none⟩ (.int .u32 (x13 : Nat))).heap[pv]? = _
    rw [this, hx13, ha13, hv1, HX12.out]
    rfl
   have HP5 : Hid ((W4.setCell ⟨pv, 13, none⟩ (.int .u32 (x13 : Nat))).drew.heap[p]? = some (.cells (stc h T b fl wn) 140 (0, 0))) := ((Frm.refl [pv] W4).setCell ⟨pv, 13, none⟩ (.int .u32 (x13 : Nat)) (by simp)).heap hp4.out HpF.out.2.1
   have HF5 : Hid (Frm [pv] W2 (W4.setCell ⟨pv, 13, none⟩ (.int .u32 (x13 : Nat))).drew) := (hF4.out.setCell _ _ (by simp)).drew
   clear ha13 hx13 hth hv5 hv1 ov1 hv4 hp4 hF4 HX12 o8
   go_wp2_with fail
   refine region_seq (c := 10) (f := 60) (ts := [(0, 0), (1, 1), (0, 2), (0, 3), (0, 4), (1, 5), (0, 6), (0, 7), (0, 8), (0, 9), (2, 10)]) (by kernel_rfl) (by kernel_rfl) ?_
   refine seq_W (o := ⟨some 49, .indexAddr 161 (.tmp 4) (.const (.int .i64 13)), 0, _, _, none⟩) (v := ?_) rfl rfl (fun wz => ?_) ?_
   rotate_left
   ·go_simp; (try with_reducible rfl)
   try simp only [Act.put, sqA, sqB, sqC]
   refine seq_R (o := ⟨some 50, .load 120 (.tmp 49), 120, _, _, none⟩) (v := ?_) rfl rfl ?_ ?_
   rotate_left
   ·go_simp; (try with_reducible rfl)
   try simp only [Act.put, sqA, sqB, sqC]
   refine seq_W (o := ⟨some 51, .move (.tmp 0), 113, _, _, none⟩) (v := ?_) rfl rfl (fun wz => ?_) ?_
   rotate_left
   ·go_simp; (try with_reducible rfl)
   try simp only [Act.put, sqA, sqB, sqC]
   refine seq_W (o := ⟨some 52, .nilCheck (.tmp 51), 0, _, _, none⟩) (v := ?_) rfl rfl (fun wz => ?_) ?_
   rotate_left
   ·go_simp; (try with_reducible rfl)
   try simp only [Act.put, sqA, sqB, sqC]
   refine seq_W (o := ⟨some 53, .fieldAddr 140 (.tmp 52) 1, 0, _, _, none⟩) (v := ?_) rfl rfl (fun wz => ?_) ?_
   rotate_left
   ·go_simp; (try with_reducible rfl)
   try simp only [Act.put, sqA, sqB, sqC]
   refine seq_R (o := ⟨some 54, .load 78 (.tmp 53), 78, _, _, none⟩) (v := ?_) rfl rfl ?_ ?_
   rotate_left
   ·go_simp; (try with_reducible rfl)
   try simp only [Act.put, sqA, sqB, sqC]
   refine seq_W (o := ⟨some 55, .binOp .shr 78 (.tmp 54) (.const (.int .u64 32)) 111, 78, _, _, none⟩) (v := ?_) rfl rfl (fun wz => ?_) ?_
   rotate_left
   ·go_simp; (try with_reducible rfl)
   try simp only [Act.put, sqA, sqB, sqC]
   refine seq_W (o := ⟨some 56, .convert 78 120 (.tmp 55), 120, _, _, none⟩) (v := ?_) rfl rfl (fun wz => ?_) ?_
   rotate_left
   ·go_simp; (try with_reducible rfl)
   try simp only [Act.put, sqA, sqB, sqC]
   refine seq_W (o := ⟨some 57, .binOp .xor 120 (.tmp 50) (.tmp 56) 120, 120, _, _, none⟩) (v := ?_) rfl rfl (fun wz => ?_) ?_
   rotate_left
   ·go_simp; (try with_reducible rfl)
   try simp only [Act.put, sqA, sqB, sqC]
   refine seq_W (o := ⟨some 58, .indexAddr 161 (.tmp 4) (.const (.int .i64 13)), 0, _, _, none⟩) (v := ?_) rfl rfl (fun wz => ?_) ?_
   rotate_left
   ·go_simp; (try with_reducible rfl)
   try simp only [Act.put, sqA, sqB, sqC]
   refine seq_A (o := ⟨none, .store 120 (.tmp 58) (.tmp 57), 0, _, _, none⟩) rfl rfl (fun K hK => ?_)
   go_simp
   refine hK _ _ ?_
   clear hK K
   try simp only [Act.put, sqA, sqB, sqC]
   refine seq_nil (NoPanic.normal ?_)
   try simp only [Act.put, sqA, sqB, sqC]
   clear d1 d2 d3 n1 n2 la13
   generalize (W4.setCell ⟨pv, 13, none⟩ (.int .u32 (x13 : Nat))).drew = W5 at *
   have ov2 := v2_ok hh T
   obtain ⟨a14, ha14⟩ : ∃ x, x = (v2 h T).getD 14 0 := ⟨_, rfl⟩
   have la14 : a14 < 4294967296 := by rw [ha14]; exact ov2.2 14
   obtain ⟨x14, hx14⟩ : ∃ x, x = xorW 4294967295 a14 := ⟨_, rfl⟩
   have d1 : W5.cell? ⟨pv, 14, none⟩ = some (.int .u32 (a14 : Nat)) := by rw [cell_of_row W5 pv 14 _ _ _ HV2'.out, ha14]; exact wv_at (by rw [ov2.1]; omega)
   have d2 : W5.frozen? ⟨pv, 14, none⟩ = false := frozen_of_row W5 pv 14 _ _ HV2'.out
   have n1 : bits .xor .u32 (if IntKind.u32.signed = true then -1 else IntKind.u32.max) (a14 : Int) = (x14 : Nat) := by rw [hx14]; exact xor_W 4294967295 a14 (by decide) la14
   have HV6 : Hid ((W5.setCell ⟨pv, 14, none⟩ (.int .u32 (x14 : Nat))).heap[pv]? = some (.cells (wv (v3 h T true)) 161 (0, 0))) := by
    have := wv_set HV2'.out 14 x14
    show _ = _
    rw [this, hx14, ha14]; rfl
   have HP6 : Hid ((W5.setCell ⟨pv, 14, none⟩ (.int .u32 (x14 : Nat))).heap[p]? = some (.cells (stc h T b fl wn) 140 (0, 0))) := ((Frm.refl [pv] W5).setCell ⟨pv, 14, none⟩ (.int .u32 (x14 : Nat)) (by simp)).heap HP5.out HpF.out.2.1
   have HF6 : Hid (Frm [pv] W2 (W5.setCell ⟨pv, 14, none⟩ (.int .u32 (x14 : Nat)))) := HF5.out.setCell _ _ (by simp)
   clear ha14 hx14 ov2 HV2' HP5 HF5
   have hrb := stc_range HP6.out hh.1 hb.1
   go_wp2_with (first | (refine wpList_loadB rfl _ rfl p rfl b hb.1 hrb ?_) | fail)
   clear hrb
   clear d1 d2 n1 la14
   generalize W5.setCell ⟨pv, 14, none⟩ (.int .u32 (x14 : Nat)) = W6 at *
   have ov3 := v3_ok hh T true
   obtain ⟨V, hV⟩ : ∃ V, V = v3 h T true := ⟨_, rfl⟩
   rw [← hV] at HV6 ov3
   have HVV : Hid (V = v3 h T true) := hV
   clear hV
   have hl6 : pv < W6.heap.size := lt_of_block HV6.out
   refine (wordsOf_any b W6 hb).mono ?_
   rintro e W7 ⟨rfl, hb7⟩
   have hl7 := hb7.size
   obtain ⟨M, hM⟩ : ∃ M, M = mP b 64 := ⟨_, rfl⟩
   have oM : Wd 16 M := by rw [hM]; exact mP_ok hb.2 64
   rw [← hM]
   have HM : Hid (M = mP b 64) := hM
   clear hM
   have hn8 := heap_alloc_new W7 (.cells (wv z16) 161)
   go_wp2_with (first | (refine wpList_alloc16 rfl rfl ?_) | (refine wpList_store16 rfl _ _ rfl W7.heap.size rfl M z16 oM.1 z16_ok.1 161 rfl hn8 ?_; intro W9 hm9 hf9) | fail)
   have hW9 : Hid (Frm [pv] W2 W9) := by
    have h1 : Frm [pv] W2 W7 := HF6.out.trans (Frm.ofBelow hb7)
    have h2 : Frm [pv] W7 W9 := (((Frm.refl [W7.heap.size] W7).alloc _).trans hf9).old (fun k hk hlt => by simp at hk; omega)
    exact h1.trans h2
   have hx9 : Frm [] W6 W9 := by
    have h1 : Frm [] W6 W7 := Frm.ofBelow hb7
    have h2 : Frm [] W7 W9 := (((Frm.refl [W7.heap.size] W7).alloc _).trans hf9).old (fun k hk hlt => by simp at hk; omega)
    exact h1.trans h2
   have hv9 : Hid (W9.heap[pv]? = some (.cells (wv V) 161 (0, 0))) := hx9.heap HV6.out (by simp)
   have hp9 : Hid (W9.heap[p]? = some (.cells (stc h T b fl wn) 140 (0, 0))) := hx9.heap HP6.out (by simp)
   have hr9 : Hid (W9.heap[2]? = some (.cells (sv rowsF) t2 fr2)) := hW9.out.heap hrow2.out HpF.out.2.2.2
   have Hm9 : Hid (W9.heap[W7.heap.size]? = some (.cells (wv M) 161 (0, 0))) := hm9
   obtain ⟨pm, hpm⟩ : ∃ x, x = W7.heap.size := ⟨_, rfl⟩
   rw [← hpm] at Hm9
   have HpM : Hid (pm ≠ pv ∧ pm ∉ [pv] ∧ pm ≠ p ∧ 2 ∉ [pv]) := ⟨by omega, by simp; omega, by omega, HpF.out.2.2.2⟩
   clear hx9 hm9 hf9 hn8 hb7 hl7 HV6 HP6 HF6 hl6
   rw [← hpm]
   clear hpm
   go_wp2_with fail
   go_loopw [69] (fun i (w' : World) => ∃ k : Nat, k ≤ 10 ∧ i = .int .i64 k ∧ w'.heap[pv]? = some (.cells (wv (rP M V k)) 161 (0, 0)) ∧ Frm [pv] W9 w') (fun i _ => 10 - (intOf i).toNat)
   case atStart => exact ⟨0, by omega, rfl, hv9.out, Frm.refl _ _⟩
   case round =>
    obtain ⟨k, hk, rfl, hv, hF⟩ := hrel
    by_cases hlt : k < 10
    ·have hk' : (k : Int) < 10 := by omega
     have hrr := rows_range (hF.heap hr9.out HpF.out.2.2.2) hlt
     have hm := hF.heap Hm9.out HpM.out.2.1
     have hcall := round_any pv pm (rP M V k) M (rowL k) 161 161 (0, 0) wr hv hm HpM.out.1 (rP_ok ov3 k) oM (rowL_len hlt) (rowL_lt hlt)
     have HF : Hid (Frm [pv] W9 wr) := hF
     have ek : ((k : Int)).toNat = k := by omega
     clear hv hF hm
     go_wp2_with (first | (refine wpList_loadR rfl _ rfl 2 (k * 16) rfl (rowL k) (rowL_len hlt) hrr ?_) | fail)
     refine hcall.mono ?_
     rintro e w2 ⟨rfl, hv2, hf2⟩
     have HN : Hid (w2.heap[pv]? = some (.cells (wv (rP M V (k + 1))) 161 (0, 0)) ∧ Frm [pv] W9 w2) := ⟨hv2, HF.out.trans hf2⟩
     clear hv2 hf2 hcall hrr
     go_wp2
     refine ⟨⟨k + 1, by omega, by go_num, HN.out.1, HN.out.2⟩, ?_⟩
     simp [intOf]
     omega
    ·obtain rfl : k = 10 := by omega
     have oR := rP_ok (m := M) ov3 10
     obtain ⟨R, hR⟩ : ∃ R, R = rP M V 10 := ⟨_, rfl⟩
     rw [← hR] at hv oR
     have HR : Hid (R = rP M V 10) := hR
     clear hR
     have hp10 : Hid (wr.heap[p]? = some (.cells (stc h T b fl wn) 140 (0, 0))) := hF.heap hp9.out HpF.out.2.1
     have hF10 : Hid (Frm [p, pv] w wr) := by
      have h1 : Frm [p, pv] W2 wr := (hW9.out.trans hF).mono (by simp)
      exact (HF2.out.mono (by simp)).trans h1
     have hv10 : Hid (wr.heap[pv]? = some (.cells (wv R) 161 (0, 0))) := hv
     clear hv hF Hm9 hr9 hp9 hv9 hW9
     go_wp2_with fail
     generalize wr = W10 at *
     go_loopw [77] (fun i (w' : World) => ∃ k : Nat, k ≤ 8 ∧ i = .int .i64 k ∧ w'.heap[p]? = some (.cells (stc (hP h R k) T b fl wn) 140 (0, 0)) ∧ Frm [p] W10 w') (fun i _ => 8 - (intOf i).toNat)
     case atStart => exact ⟨0, by omega, rfl, hp10.out, Frm.refl _ _⟩
     case round =>
      obtain ⟨k, hk, rfl, hp_, hF⟩ := hrel
      by_cases hlt : k < 8
      ·have hk' : (k : Int) < 8 := by omega
       have oh := hP_ok hh oR k
       have hv := hF.heap hv10.out HpF.out.1
       obtain ⟨x, hx⟩ : ∃ x, x = (hP h R k).getD k 0 := ⟨_, rfl⟩
       obtain ⟨y, hy⟩ : ∃ y, y = R.getD k 0 := ⟨_, rfl⟩
       obtain ⟨z, hz⟩ : ∃ z, z = R.getD (k + 8) 0 := ⟨_, rfl⟩
       have lx : x < 4294967296 := by rw [hx]; exact oh.2 k
       have ly : y < 4294967296 := by rw [hy]; exact oR.2 k
       have lz : z < 4294967296 := by rw [hz]; exact oR.2 (k + 8)
       have d1 : wr.drew.cell? ⟨p, k, none⟩ = some (.int .u32 (x : Nat)) := by rw [cell_of_row wr.drew p k _ _ _ hp_, hx]; exact stc_w oh.1 hlt
       have d2 : wr.drew.frozen? ⟨p, k, none⟩ = false := frozen_of_row wr.drew p k _ _ hp_
       have d3 : wr.drew.cell? ⟨pv, k, none⟩ = some (.int .u32 (y : Nat)) := by rw [cell_of_row wr.drew pv k _ _ _ hv, hy]; exact wv_at (by rw [oR.1]; omega)
       have d4 : wr.drew.cell? ⟨pv, k + 8, none⟩ = some (.int .u32 (z : Nat)) := by rw [cell_of_row wr.drew pv (k + 8) _ _ _ hv, hz]; exact wv_at (by rw [oR.1]; omega)
       have e8 : ((k : Int) + 8).toNat = k + 8 := by omega
       have e9 : IntKind.i64.wrap ((k : Int) + 8) = (k : Int) + 8 := by rw [IntKind.wrap_i64]; omega
       have b8 : (0 : Int) ≤ (k : Int) + 8 ∧ (k : Int) + 8 < 16 := by omega
       have b9 : (k : Int) < 16 := by omega
       have n1 := xor_W y z ly lz
       have lyz := xorW_lt ly lz
       obtain ⟨yz, hyz⟩ : ∃ q, q = xorW y z := ⟨_, rfl⟩
       rw [← hyz] at n1 lyz
       have n2 := xor_W x yz lx lyz
       obtain ⟨q, hq⟩ : ∃ q, q = xorW x yz := ⟨_, rfl⟩
       rw [← hq] at n2
       have HN : Hid ((wr.setCell ⟨p, k, none⟩ (.int .u32 (q : Nat))).drew.heap[p]? = some (.cells (stc (hP h R (k + 1)) T b fl wn) 140 (0, 0)) ∧ Frm [p] W10 (wr.setCell ⟨p, k, none⟩ (.int .u32 (q : Nat))).drew) := by
        refine ⟨?_, (hF.setCell _ _ (by simp)).drew⟩
        have := heap_set_row (w := wr) (j := k) (u := .int .u32 (q : Nat)) hp_
        rw [stc_set_w oh.1 hlt] at this
        show (wr.setCell ⟨p, k, none⟩ (.int .u32 (q : Nat))).heap[p]? = _
        rw [this, hP, hq, hyz, hx, hy, hz]
       clear hx hy hz hyz hq hp_ hF hv oh lx ly lz lyz
       go_wp2_with fail
       refine region_seq (c := 18) (f := 60) (ts := [(0, 0), (0, 1), (0, 2), (0, 3), (0, 4), (1, 5), (0, 6), (0, 7), (1, 8), (0, 9), (0, 10), (0, 11), (1, 12), (0, 13), (0, 14), (0, 15), (0, 16), (0, 17), (2, 18)]) (by kernel_rfl) (by kernel_rfl) ?_
       refine seq_W (o := ⟨some 80, .move (.tmp 0), 113, _, _, none⟩) (v := ?_) rfl rfl (fun wz => ?_) ?_
       rotate_left
       ·go_simp; (try with_reducible rfl)
       try simp only [Act.put, sqA, sqB, sqC]
       refine seq_W (o := ⟨some 81, .move (.tmp 9), 3, _, _, none⟩) (v := ?_) rfl rfl (fun wz => ?_) ?_
       rotate_left
       ·go_simp; (try with_reducible rfl)
       try simp only [Act.put, sqA, sqB, sqC]
       refine seq_W (o := ⟨some 82, .nilCheck (.tmp 80), 0, _, _, none⟩) (v := ?_) rfl rfl (fun wz => ?_) ?_
       rotate_left
       ·go_simp; (try with_reducible rfl)
       try simp only [Act.put, sqA, sqB, sqC]
       refine seq_W (o := ⟨some 83, .fieldAddr 140 (.tmp 82) 0, 0, _, _, none⟩) (v := ?_) rfl rfl (fun wz => ?_) ?_
       rotate_left
       ·go_simp; (try with_reducible rfl)
       try simp only [Act.put, sqA, sqB, sqC]
       refine seq_W (o := ⟨some 84, .indexAddr 137 (.tmp 83) (.tmp 81), 0, _, _, none⟩) (v := ?_) rfl rfl (fun wz => ?_) ?_
       rotate_left
       ·go_simp; (try with_reducible rfl)
       try simp only [Act.put, sqA, sqB, sqC]
       refine seq_R (o := ⟨some 85, .load 120 (.tmp 84), 120, _, _, none⟩) (v := ?_) rfl rfl ?_ ?_
       rotate_left
       ·go_simp; (try with_reducible rfl)
       try simp only [Act.put, sqA, sqB, sqC]
       refine seq_W (o := ⟨some 86, .move (.tmp 9), 3, _, _, none⟩) (v := ?_) rfl rfl (fun wz => ?_) ?_
       rotate_left
       ·go_simp; (try with_reducible rfl)
       try simp only [Act.put, sqA, sqB, sqC]
       refine seq_W (o := ⟨some 87, .indexAddr 161 (.tmp 4) (.tmp 86), 0, _, _, none⟩) (v := ?_) rfl rfl (fun wz => ?_) ?_
       rotate_left
       ·go_simp; (try with_reducible rfl)
       try simp only [Act.put, sqA, sqB, sqC]
       refine seq_R (o := ⟨some 88, .load 120 (.tmp 87), 120, _, _, none⟩) (v := ?_) rfl rfl ?_ ?_
       rotate_left
       ·go_simp; (try with_reducible rfl)
       try simp only [Act.put, sqA, sqB, sqC]
       refine seq_W (o := ⟨some 89, .move (.tmp 9), 3, _, _, none⟩) (v := ?_) rfl rfl (fun wz => ?_) ?_
       rotate_left
       ·go_simp; (try with_reducible rfl)
       try simp only [Act.put, sqA, sqB, sqC]
       refine seq_W (o := ⟨some 90, .binOp .add 3 (.tmp 89) (.const (.int .i64 8)) 3, 3, _, _, none⟩) (v := ?_) rfl rfl (fun wz => ?_) ?_
       rotate_left
       ·go_simp; (try with_reducible rfl)
       try simp only [Act.put, sqA, sqB, sqC]
       refine seq_W (o := ⟨some 91, .indexAddr 161 (.tmp 4) (.tmp 90), 0, _, _, none⟩) (v := ?_) rfl rfl (fun wz => ?_) ?_
       rotate_left
       ·go_simp; (try with_reducible rfl)
       try simp only [Act.put, sqA, sqB, sqC]
       refine seq_R (o := ⟨some 92, .load 120 (.tmp 91), 120, _, _, none⟩) (v := ?_) rfl rfl ?_ ?_
       rotate_left
       ·go_simp; (try with_reducible rfl)
       try simp only [Act.put, sqA, sqB, sqC]
       refine seq_W (o := ⟨some 93, .binOp .xor 120 (.tmp 88) (.tmp 92) 120, 120, _, _, none⟩) (v := ?_) rfl rfl (fun wz => ?_) ?_
       rotate_left
       ·go_simp; (try with_reducible rfl)
       try simp only [Act.put, sqA, sqB, sqC]
       refine seq_W (o := ⟨some 94, .binOp .xor 120 (.tmp 85) (.tmp 93) 120, 120, _, _, none⟩) (v := ?_) rfl rfl (fun wz => ?_) ?_
       rotate_left
       ·go_simp; (try with_reducible rfl)
       try simp only [Act.put, sqA, sqB, sqC]
       refine seq_W (o := ⟨some 95, .nilCheck (.tmp 80), 0, _, _, none⟩) (v := ?_) rfl rfl (fun wz => ?_) ?_
       rotate_left
       ·go_simp; (try with_reducible rfl)
       try simp only [Act.put, sqA, sqB, sqC]
       refine seq_W (o := ⟨some 96, .fieldAddr 140 (.tmp 95) 0, 0, _, _, none⟩) (v := ?_) rfl rfl (fun wz => ?_) ?_
       rotate_left
       ·go_simp; (try with_reducible rfl)
       try simp only [Act.put, sqA, sqB, sqC]
       refine seq_W (o := ⟨some 97, .indexAddr 137 (.tmp 96) (.tmp 81), 0, _, _, none⟩) (v := ?_) rfl rfl (fun wz => ?_) ?_
       rotate_left
       ·go_simp; (try with_reducible rfl)
       try simp only [Act.put, sqA, sqB, sqC]
       refine seq_A (o := ⟨none, .store 120 (.tmp 97) (.tmp 94), 0, _, _, none⟩) rfl rfl (fun K hK => ?_)
       go_simp
       refine hK _ _ ?_
       clear hK K
       try simp only [Act.put, sqA, sqB, sqC]
       refine seq_nil (NoPanic.normal ?_)
       try simp only [Act.put, sqA, sqB, sqC]
       go_wp2
       refine ⟨⟨_, _, _, _, _, _, _, _, _, _, _, _, _, _, _, _, _, _, _, _, _, _, _, ⟨k + 1, by omega, ?_, HN.out.1, HN.out.2⟩, rfl⟩, ?_⟩
       ·go_num
       ·simp [intOf]
        omega
      ·obtain rfl : k = 8 := by omega
       have hend : wr.heap[p]? = some (.cells (stc (cF h b T true) T b fl wn) 140 (0, 0)) := by
        rw [hp_, HR.out, HVV.out, HM.out]; rfl
       have hfr : Frm [p] w wr := (hF10.out.trans (hF.mono (by simp))).old (fun k hk hlt => by
        simp at hk
        rcases hk with rfl | rfl
        ·simp
        ·exact absurd hlt (by have := hpvl; omega))
       clear hp_ hF
       go_wp2
       exact bodyPost_end (v := .tuple #[]) (by simp [results, Tryz.results80, go_sem]) rfl ⟨rfl, hend, hfr⟩

set_option maxRecDepth 20000 in
set_option maxHeartbeats 8000000 in
theorem takeIn_false (p : Nat) (h : List Nat) (tk : Nat) (b : List Nat) (fl : Nat) (wn : Int) (w : World) (hp : w.heap[p]? = some (.cells (stc h tk b fl wn) 140 (0, 0))) (hT : Tab w) (hg : 3 ≤ p)
  (hh : Wd 8 h) (hb : By 64 b) (hfl : fl ≤ 64) (htk : tk + fl < 18446744073709551616) :
  Calls Tryz.prog 80 #[.pointer (some ⟨p, 0, none⟩), .bool false] w fun e w' => e = .returned (.tuple #[]) ∧ w'.heap[p]? = some (.cells (stc (cF h b (tk + fl) false) (tk + fl) b fl wn) 140 (0, 0)) ∧ Frm [p] w w' := by
 obtain ⟨T, hT0⟩ : ∃ T, T = tk + fl := ⟨_, rfl⟩
 have hTl : (T : Int) < 18446744073709551616 := by omega
 rw [← hT0]
 have hlt := lt_of_block hp
 have c8 : w.drew.cell? ⟨p, 8, none⟩ = some (.int .u64 (tk : Nat)) := by rw [cell_of_row w.drew p 8 _ _ _ hp]; exact stc_t hh.1
 have c73 : w.drew.cell? ⟨p, 73, none⟩ = some (.int .i64 (fl : Nat)) := by rw [cell_of_row w.drew p 73 _ _ _ hp]; exact stc_f hh.1 hb.1
 have f8 : w.drew.frozen? ⟨p, 8, none⟩ = false := frozen_of_row w.drew p 8 _ _ hp
 have e1 : IntKind.u64.wrap (fl : Int) = fl := by rw [IntKind.wrap_u64]; omega
 have e2 : IntKind.u64.wrap ((tk : Int) + fl) = T := by rw [IntKind.wrap_u64]; omega
 have HP1 : Hid ((w.setCell ⟨p, 8, none⟩ (.int .u64 (T : Nat))).drew.heap[p]? = some (.cells (stc h T b fl wn) 140 (0, 0))) := by
  have := heap_set_row (w := w) (j := 8) (u := .int .u64 (T : Nat)) hp
  rw [stc_set_t hh.1] at this; exact this
 have HF1 : Hid (Frm [p] w (w.setCell ⟨p, 8, none⟩ (.int .u64 (T : Nat))).drew) := ((Frm.refl _ w).setCell _ _ (by simp)).drew
 have HT0 : Hid (T = tk + fl) := hT0
 clear hT0
 go_enter Tryz.func80, Tryz.ntmps80
 go_wp2_with fail
 refine region_seq (c := 12) (f := 60) (ts := [(0, 0), (0, 1), (0, 2), (1, 3), (0, 4), (0, 5), (0, 6), (1, 7), (0, 8), (0, 9), (0, 10), (0, 11), (2, 12)]) (by kernel_rfl) (by kernel_rfl) ?_
 refine seq_W (o := ⟨some 10, .move (.tmp 0), 113, _, _, none⟩) (v := ?_) rfl rfl (fun wz => ?_) ?_
 rotate_left
 ·go_simp; (try with_reducible rfl)
 try simp only [Act.put, sqA, sqB, sqC]
 refine seq_W (o := ⟨some 11, .nilCheck (.tmp 10), 0, _, _, none⟩) (v := ?_) rfl rfl (fun wz => ?_) ?_
 rotate_left
 ·go_simp; (try with_reducible rfl)
 try simp only [Act.put, sqA, sqB, sqC]
 refine seq_W (o := ⟨some 12, .fieldAddr 140 (.tmp 11) 1, 0, _, _, none⟩) (v := ?_) rfl rfl (fun wz => ?_) ?_
 rotate_left
 ·go_simp; (try with_reducible rfl)
 try simp only [Act.put, sqA, sqB, sqC]
 refine seq_R (o := ⟨some 13, .load 78 (.tmp 12), 78, _, _, none⟩) (v := ?_) rfl rfl ?_ ?_
 rotate_left
 ·go_simp; (try with_reducible rfl)
 try simp only [Act.put, sqA, sqB, sqC]
 refine seq_W (o := ⟨some 14, .move (.tmp 0), 113, _, _, none⟩) (v := ?_) rfl rfl (fun wz => ?_) ?_
 rotate_left
 ·go_simp; (try with_reducible rfl)
 try simp only [Act.put, sqA, sqB, sqC]
 refine seq_W (o := ⟨some 15, .nilCheck (.tmp 14), 0, _, _, none⟩) (v := ?_) rfl rfl (fun wz => ?_) ?_
 rotate_left
 ·go_simp; (try with_reducible rfl)
 try simp only [Act.put, sqA, sqB, sqC]
 refine seq_W (o := ⟨some 16, .fieldAddr 140 (.tmp 15) 3, 0, _, _, none⟩) (v := ?_) rfl rfl (fun wz => ?_) ?_
 rotate_left
 ·go_simp; (try with_reducible rfl)
 try simp only [Act.put, sqA, sqB, sqC]
 refine seq_R (o := ⟨some 17, .load 3 (.tmp 16), 3, _, _, none⟩) (v := ?_) rfl rfl ?_ ?_
 rotate_left
 ·go_simp; (try with_reducible rfl)
 try simp only [Act.put, sqA, sqB, sqC]
 refine seq_W (o := ⟨some 18, .convert 3 78 (.tmp 17), 78, _, _, none⟩) (v := ?_) rfl rfl (fun wz => ?_) ?_
 rotate_left
 ·go_simp; (try with_reducible rfl)
 try simp only [Act.put, sqA, sqB, sqC]
 refine seq_W (o := ⟨some 19, .binOp .add 78 (.tmp 13) (.tmp 18) 78, 78, _, _, none⟩) (v := ?_) rfl rfl (fun wz => ?_) ?_
 rotate_left
 ·go_simp; (try with_reducible rfl)
 try simp only [Act.put, sqA, sqB, sqC]
 refine seq_W (o := ⟨some 20, .nilCheck (.tmp 10), 0, _, _, none⟩) (v := ?_) rfl rfl (fun wz => ?_) ?_
 rotate_left
 ·go_simp; (try with_reducible rfl)
 try simp only [Act.put, sqA, sqB, sqC]
 refine seq_W (o := ⟨some 21, .fieldAddr 140 (.tmp 20) 1, 0, _, _, none⟩) (v := ?_) rfl rfl (fun wz => ?_) ?_
 rotate_left
 ·go_simp; (try with_reducible rfl)
 try simp only [Act.put, sqA, sqB, sqC]
 refine seq_A (o := ⟨none, .store 78 (.tmp 21) (.tmp 19), 0, _, _, none⟩) rfl rfl (fun K hK => ?_)
 go_simp
 refine hK _ _ ?_
 clear hK K
 try simp only [Act.put, sqA, sqB, sqC]
 refine seq_nil (NoPanic.normal ?_)
 try simp only [Act.put, sqA, sqB, sqC]
 clear c8 c73 f8 e1 e2
 generalize (w.setCell ⟨p, 8, none⟩ (.int .u64 (T : Nat))).drew = W1 at *
 obtain ⟨⟨t0, fr0, hfst⟩, ⟨t2, fr2, hrow⟩⟩ := hT.frm HF1.out (by simpa using hg)
 have hfst2 : Hid ((W1.alloc (.cells (wv z16) 161)).heap[1]? = some (.cells (wv firstL) t0 fr0)) := by show _ = _; rw [Below.heap_alloc _ _ _ (lt_of_block hfst)]; exact hfst
 have hrow2 : Hid ((W1.alloc (.cells (wv z16) 161)).heap[2]? = some (.cells (sv rowsF) t2 fr2)) := by show _ = _; rw [Below.heap_alloc _ _ _ (lt_of_block hrow)]; exact hrow
 have HP2 : Hid ((W1.alloc (.cells (wv z16) 161)).heap[p]? = some (.cells (stc h T b fl wn) 140 (0, 0))) := by show _ = _; rw [Below.heap_alloc _ _ _ (lt_of_block HP1.out)]; exact HP1.out
 have HV2 : Hid ((W1.alloc (.cells (wv z16) 161)).heap[W1.heap.size]? = some (.cells (wv z16) 161 (0, 0))) := heap_alloc_new W1 _
 have HF2 : Hid (Frm [p] w (W1.alloc (.cells (wv z16) 161))) := HF1.out.alloc _
 have hpl : p < W1.heap.size := lt_of_block HP1.out
 have hpvl : w.heap.size ≤ W1.heap.size := HF1.out.size
 clear hfst hrow hT
 go_wp2_with (first | (refine wpList_alloc16 rfl rfl ?_) | (refine wpList_loadF rfl _ rfl 1 rfl firstL firstL_ok.1 _ _ hfst2.out ?_) | fail)
 have hl2 : W1.heap.size < (W1.alloc (.cells (wv z16) 161)).heap.size := by simp
 generalize W1.alloc (.cells (wv z16) 161) = W2 at *
 generalize W1.heap.size = pv at *
 clear HP1 HF1
 have HpF : Hid (pv ∉ [p] ∧ p ∉ [pv] ∧ 1 ∉ [pv] ∧ 2 ∉ [pv]) := ⟨by simp; omega, by simp; omega, by simp; omega, by simp; omega⟩
 go_loopw [23] (fun i (w' : World) => ∃ k : Nat, k ≤ 8 ∧ i = .int .i64 k ∧ w'.heap[pv]? = some (.cells (wv (vP h k)) 161 (0, 0)) ∧ Frm [pv] W2 w') (fun i _ => 8 - (intOf i).toNat)
 case atStart => exact ⟨0, by omega, rfl, HV2.out, Frm.refl _ _⟩
 case round =>
  obtain ⟨k, hk, rfl, hv, hF⟩ := hrel
  by_cases hlt : k < 8
  ·have hk' : (k : Int) < 8 := by omega
   have hl := (vP_ok hh k).1
   obtain ⟨x, hx⟩ : ∃ x, x = firstL.getD k 0 := ⟨_, rfl⟩
   obtain ⟨y, hy⟩ : ∃ y, y = h.getD k 0 := ⟨_, rfl⟩
   have hix : (wv firstL)[k]? = some (.int .u32 (x : Nat)) := by rw [hx]; exact wv_at (by show k < 8; exact hlt)
   have hrun : ∀ wx, (Instr.index 137 (.agg (wv firstL)) (.int .i64 (k : Int))).run Tryz.prog wx = .ok (.int .u32 (x : Nat)) wx := fun wx => run_idx Tryz.underlying137 hz32 ag32 hlt hix wx
   have hp1 : wr.heap[p]? = some (.cells (stc h T b fl wn) 140 (0, 0)) := hF.heap HP2.out HpF.out.2.1
   have cp : wr.cell? ⟨p, k, none⟩ = some (.int .u32 (y : Nat)) := by rw [cell_of_row wr p k _ _ _ hp1, hy]; exact stc_w hh.1 hlt
   have cv : wr.cell? ⟨pv, k, none⟩ = some (.int .u32 ((vP h k).getD k 0 : Nat)) := by rw [cell_of_row wr pv k _ _ _ hv]; exact wv_at (by omega)
   have fv : wr.frozen? ⟨pv, k, none⟩ = false := frozen_of_row wr pv k _ _ hv
   have hv1 := wv_set hv k y
   have cv8 : (wr.setCell ⟨pv, k, none⟩ (.int .u32 (y : Nat))).cell? ⟨pv, k + 8, none⟩ = some (.int .u32 (((vP h k).set k y).getD (k + 8) 0 : Nat)) := by rw [cell_of_row _ pv (k + 8) _ _ _ hv1]; exact wv_at (by simp; omega)
   have fv8 : (wr.setCell ⟨pv, k, none⟩ (.int .u32 (y : Nat))).frozen? ⟨pv, k + 8, none⟩ = false := frozen_of_row _ pv (k + 8) _ _ hv1
   have HN : Hid (((wr.setCell ⟨pv, k, none⟩ (.int .u32 (y : Nat))).setCell ⟨pv, k + 8, none⟩ (.int .u32 (x : Nat))).heap[pv]? = some (.cells (wv (vP h (k + 1))) 161 (0, 0)) ∧ Frm [pv] W2 ((wr.setCell ⟨pv, k, none⟩ (.int .u32 (y : Nat))).setCell ⟨pv, k + 8, none⟩ (.int .u32 (x : Nat)))) := by
    refine ⟨?_, (hF.setCell _ _ (by simp)).setCell _ _ (by simp)⟩
    have := wv_set hv1 (k + 8) x
    rw [this, vP, hx, hy]
   have e8 : ((k : Int) + 8).toNat = k + 8 := by omega
   clear hix hv hF hv1 hx hy hp1
   go_wp2
   refine ⟨⟨k + 1, by omega, by go_num, HN.out.1, HN.out.2⟩, ?_⟩
   simp [intOf]
   omega
  ·obtain rfl : k = 8 := by omega
   have o8 := vP_ok hh 8
   have hp3 : wr.heap[p]? = some (.cells (stc h T b fl wn) 140 (0, 0)) := hF.heap HP2.out HpF.out.2.1
   obtain ⟨a12, ha12⟩ : ∃ x, x = (vP h 8).getD 12 0 := ⟨_, rfl⟩
   have la12 : a12 < 4294967296 := by rw [ha12]; exact o8.2 12
   obtain ⟨x12, hx12⟩ : ∃ x, x = xorW a12 (T % 4294967296) := ⟨_, rfl⟩
   have d1 : wr.drew.cell? ⟨pv, 12, none⟩ = some (.int .u32 (a12 : Nat)) := by rw [cell_of_row wr.drew pv 12 _ _ _ hv, ha12]; exact wv_at (by rw [o8.1]; omega)
   have d2 : wr.drew.frozen? ⟨pv, 12, none⟩ = false := frozen_of_row wr.drew pv 12 _ _ hv
   have d3 : wr.drew.cell? ⟨p, 8, none⟩ = some (.int .u64 (T : Nat)) := by rw [cell_of_row wr.drew p 8 _ _ _ hp3]; exact stc_t hh.1
   have n1 : IntKind.u32.wrap (T : Int) = ((T % 4294967296 : Nat) : Int) := by rw [IntKind.wrap_u32]; omega
   have n2 : bits .xor .u32 (a12 : Int) ((T % 4294967296 : Nat) : Int) = (x12 : Nat) := by rw [hx12]; exact xor_W _ _ la12 (Nat.mod_lt _ (by decide))
   obtain ⟨tl, htl⟩ : ∃ x, x = T % 4294967296 := ⟨_, rfl⟩
   rw [← htl] at n1 n2
   have hv4 : Hid ((wr.setCell ⟨pv, 12, none⟩ (.int .u32 (x12 : Nat))).drew.heap[pv]? = some (.cells (wv ((vP h 8).set 12 x12)) 161 (0, 0))) := wv_set hv 12 x12
   have hp4 : Hid ((wr.setCell ⟨pv, 12, none⟩ (.int .u32 (x12 : Nat))).drew.heap[p]? = some (.cells (stc h T b fl wn) 140 (0, 0))) := ((Frm.refl [pv] wr).setCell ⟨pv, 12, none⟩ (.int .u32 (x12 : Nat)) (by simp)).heap hp3 HpF.out.2.1
   have hF4 : Hid (Frm [pv] W2 (wr.setCell ⟨pv, 12, none⟩ (.int .u32 (x12 : Nat))).drew) := (hF.setCell _ _ (by simp)).drew
   have HX12 : Hid (x12 = xorW ((vP h 8).getD 12 0) (T % 4294967296)) := by show _ = _; rw [hx12, ha12]
   clear ha12 hx12 htl hv hF hp3
   go_wp2_with fail
   refine region_seq (c := 9) (f := 60) (ts := [(0, 0), (1, 1), (0, 2), (0, 3), (0, 4), (1, 5), (0, 6), (0, 7), (0, 8), (2, 9)]) (by kernel_rfl) (by kernel_rfl) ?_
   refine seq_W (o := ⟨some 40, .indexAddr 161 (.tmp 4) (.const (.int .i64 12)), 0, _, _, none⟩) (v := ?_) rfl rfl (fun wz => ?_) ?_
   rotate_left
   ·go_simp; (try with_reducible rfl)
   try simp only [Act.put, sqA, sqB, sqC]
   refine seq_R (o := ⟨some 41, .load 120 (.tmp 40), 120, _, _, none⟩) (v := ?_) rfl rfl ?_ ?_
   rotate_left
   ·go_simp; (try with_reducible rfl)
   try simp only [Act.put, sqA, sqB, sqC]
   refine seq_W (o := ⟨some 42, .move (.tmp 0), 113, _, _, none⟩) (v := ?_) rfl rfl (fun wz => ?_) ?_
   rotate_left
   ·go_simp; (try with_reducible rfl)
   try simp only [Act.put, sqA, sqB, sqC]
   refine seq_W (o := ⟨some 43, .nilCheck (.tmp 42), 0, _, _, none⟩) (v := ?_) rfl rfl (fun wz => ?_) ?_
   rotate_left
   ·go_simp; (try with_reducible rfl)
   try simp only [Act.put, sqA, sqB, sqC]
   refine seq_W (o := ⟨some 44, .fieldAddr 140 (.tmp 43) 1, 0, _, _, none⟩) (v := ?_) rfl rfl (fun wz => ?_) ?_
   rotate_left
   ·go_simp; (try with_reducible rfl)
   try simp only [Act.put, sqA, sqB, sqC]
   refine seq_R (o := ⟨some 45, .load 78 (.tmp 44), 78, _, _, none⟩) (v := ?_) rfl rfl ?_ ?_
   rotate_left
   ·go_simp; (try with_reducible rfl)
   try simp only [Act.put, sqA, sqB, sqC]
   refine seq_W (o := ⟨some 46, .convert 78 120 (.tmp 45), 120, _, _, none⟩) (v := ?_) rfl rfl (fun wz => ?_) ?_
   rotate_left
   ·go_simp; (try with_reducible rfl)
   try simp only [Act.put, sqA, sqB, sqC]
   refine seq_W (o := ⟨some 47, .binOp .xor 120 (.tmp 41) (.tmp 46) 120, 120, _, _, none⟩) (v := ?_) rfl rfl (fun wz => ?_) ?_
   rotate_left
   ·go_simp; (try with_reducible rfl)
   try simp only [Act.put, sqA, sqB, sqC]
   refine seq_W (o := ⟨some 48, .indexAddr 161 (.tmp 4) (.const (.int .i64 12)), 0, _, _, none⟩) (v := ?_) rfl rfl (fun wz => ?_) ?_
   rotate_left
   ·go_simp; (try with_reducible rfl)
   try simp only [Act.put, sqA, sqB, sqC]
   refine seq_A (o := ⟨none, .store 120 (.tmp 48) (.tmp 47), 0, _, _, none⟩) rfl rfl (fun K hK => ?_)
   go_simp
   refine hK _ _ ?_
   clear hK K
   try simp only [Act.put, sqA, sqB, sqC]
   refine seq_nil (NoPanic.normal ?_)
   try simp only [Act.put, sqA, sqB, sqC]
   clear d1 d2 d3 n1 n2 la12
   generalize (wr.setCell ⟨pv, 12, none⟩ (.int .u32 (x12 : Nat))).drew = W4 at *
   obtain ⟨v1, hv1⟩ : ∃ v1, v1 = (vP h 8).set 12 x12 := ⟨_, rfl⟩
   have ov1 : Wd 16 v1 := by rw [hv1]; exact o8.set _ (by rw [HX12.out]; exact xorW_lt (o8.2 12) (Nat.mod_lt _ (by decide)))
   have hv5 : W4.heap[pv]? = some (.cells (wv v1) 161 (0, 0)) := by rw [hv1]; exact hv4.out
   obtain ⟨a13, ha13⟩ : ∃ x, x = v1.getD 13 0 := ⟨_, rfl⟩
   have la13 : a13 < 4294967296 := by rw [ha13]; exact ov1.2 13
   obtain ⟨x13, hx13⟩ : ∃ x, x = xorW a13 (T / 4294967296 % 4294967296) := ⟨_, rfl⟩
   have d1 : W4.drew.cell? ⟨pv, 13, none⟩ = some (.int .u32 (a13 : Nat)) := by rw [cell_of_row W4.drew pv 13 _ _ _ hv5, ha13]; exact wv_at (by rw [ov1.1]; omega)
   have d2 : W4.drew.frozen? ⟨pv, 13, none⟩ = false := frozen_of_row W4.drew pv 13 _ _ hv5
   have d3 : W4.drew.cell? ⟨p, 8, none⟩ = some (.int .u64 (T : Nat)) := by rw [cell_of_row W4.drew p 8 _ _ _ hp4.out]; exact stc_t hh.1
   have n1 : IntKind.u32.wrap ((T : Int) / 4294967296) = ((T / 4294967296 % 4294967296 : Nat) : Int) := by rw [IntKind.wrap_u32]; omega
   have n2 : bits .xor .u32 (a13 : Int) ((T / 4294967296 % 4294967296 : Nat) : Int) = (x13 : Nat) := by rw [hx13]; exact xor_W _ _ la13 (Nat.mod_lt _ (by decide))
   obtain ⟨th, hth⟩ : ∃ x, x = T / 4294967296 % 4294967296 := ⟨_, rfl⟩
   rw [← hth] at n1 n2
   have HV2' : Hid ((W4.setCell ⟨pv, 13, none⟩ (.int .u32 (x13 : Nat))).drew.heap[pv]? = some (.cells (wv (v2 h T)) 161 (0, 0))) := by
    have := wv_set hv5 13 x13
    show (W4.setCell ⟨pv, 13, none⟩ (.int .u32 (x13 : Nat))).heap[pv]? = _
    rw [this, hx13, ha13, hv1, HX12.out]
    rfl
   have HP5 : Hid ((W4.setCell ⟨pv, 13, none⟩ (.int .u32 (x13 : Nat))).drew.heap[p]? = some (.cells (stc h T b fl wn) 140 (0, 0))) := ((Frm.refl [pv] W4).setCell ⟨pv, 13, none⟩ (.int .u32 (x13 : Nat)) (by simp)).heap hp4.out HpF.out.2.1
   have HF5 : Hid (Frm [pv] W2 (W4.setCell ⟨pv, 13, none⟩ (.int .u32 (x13 : Nat))).drew) := (hF4.out.setCell _ _ (by simp)).drew
   clear ha13 hx13 hth hv5 hv1 ov1 hv4 hp4 hF4 HX12 o8
   go_wp2_with fail
   refine region_seq (c := 10) (f := 60) (ts := [(0, 0), (1, 1), (0, 2), (0, 3), (0, 4), (1, 5), (0, 6), (0, 7), (0, 8), (0, 9), (2, 10)]) (by kernel_rfl) (by kernel_rfl) ?_
   refine seq_W (o := ⟨some 49, .indexAddr 161 (.tmp 4) (.const (.int .i64 13)), 0, _, _, none⟩) (v := ?_) rfl rfl (fun wz => ?_) ?_
   rotate_left
   ·go_simp; (try with_reducible rfl)
   try simp only [Act.put, sqA, sqB, sqC]
   refine seq_R (o := ⟨some 50, .load 120 (.tmp 49), 120, _, _, none⟩) (v := ?_) rfl rfl ?_ ?_
   rotate_left
   ·go_simp; (try with_reducible rfl)
   try simp only [Act.put, sqA, sqB, sqC]
   refine seq_W (o := ⟨some 51, .move (.tmp 0), 113, _, _, none⟩) (v := ?_) rfl rfl (fun wz => ?_) ?_
   rotate_left
   ·go_simp; (try with_reducible rfl)
   try simp only [Act.put, sqA, sqB, sqC]
   refine seq_W (o := ⟨some 52, .nilCheck (.tmp 51), 0, _, _, none⟩) (v := ?_) rfl rfl (fun wz => ?_) ?_
   rotate_left
   ·go_simp; (try with_reducible rfl)
   try simp only [Act.put, sqA, sqB, sqC]
   refine seq_W (o := ⟨some 53, .fieldAddr 140 (.tmp 52) 1, 0, _, _, none⟩) (v := ?_) rfl rfl (fun wz => ?_) ?_
   rotate_left
   ·go_simp; (try with_reducible rfl)
   try simp only [Act.put, sqA, sqB, sqC]
   refine seq_R (o := ⟨some 54, .load 78 (.tmp 53), 78, _, _, none⟩) (v := ?_) rfl rfl ?_ ?_
   rotate_left
   ·go_simp; (try with_reducible rfl)
   try simp only [Act.put, sqA, sqB, sqC]
   refine seq_W (o := ⟨some 55, .binOp .shr 78 (.tmp 54) (.const (.int .u64 32)) 111, 78, _, _, none⟩) (v := ?_) rfl rfl (fun wz => ?_) ?_
   rotate_left
   ·go_simp; (try with_reducible rfl)
   try simp only [Act.put, sqA, sqB, sqC]
   refine seq_W (o := ⟨some 56, .convert 78 120 (.tmp 55), 120, _, _, none⟩) (v := ?_) rfl rfl (fun wz => ?_) ?_
   rotate_left
   ·go_simp; (try with_reducible rfl)
   try simp only [Act.put, sqA, sqB, sqC]
   refine seq_W (o := ⟨some 57, .binOp .xor 120 (.tmp 50) (.tmp 56) 120, 120, _, _, none⟩) (v := ?_) rfl rfl (fun wz => ?_) ?_
   rotate_left
   ·go_simp; (try with_reducible rfl)
   try simp only [Act.put, sqA, sqB, sqC]
   refine seq_W (o := ⟨some 58, .indexAddr 161 (.tmp 4) (.const (.int .i64 13)), 0, _, _, none⟩) (v := ?_) rfl rfl (fun wz => ?_) ?_
   rotate_left
   ·go_simp; (try with_reducible rfl)
   try simp only [Act.put, sqA, sqB, sqC]
   refine seq_A (o := ⟨none, .store 120 (.tmp 58) (.tmp 57), 0, _, _, none⟩) rfl rfl (fun K hK => ?_)
   go_simp
   refine hK _ _ ?_
   clear hK K
   try simp only [Act.put, sqA, sqB, sqC]
   refine seq_nil (NoPanic.normal ?_)
   try simp only [Act.put, sqA, sqB, sqC]
   clear d1 d2 d3 n1 n2 la13
   generalize (W4.setCell ⟨pv, 13, none⟩ (.int .u32 (x13 : Nat))).drew = W5 at *
   have HV6 : Hid (W5.heap[pv]? = some (.cells (wv (v3 h T false)) 161 (0, 0))) := HV2'.out
   have HP6 := HP5
   have HF6 := HF5
   clear HV2' HP5 HF5
   have hrb := stc_range HP6.out hh.1 hb.1
   go_wp2_with (first | (refine wpList_loadB rfl _ rfl p rfl b hb.1 hrb ?_) | fail)
   clear hrb
   generalize W5 = W6 at *
   have ov3 := v3_ok hh T false
   obtain ⟨V, hV⟩ : ∃ V, V = v3 h T false := ⟨_, rfl⟩
   rw [← hV] at HV6 ov3
   have HVV : Hid (V = v3 h T false) := hV
   clear hV
   have hl6 : pv < W6.heap.size := lt_of_block HV6.out
   refine (wordsOf_any b W6 hb).mono ?_
   rintro e W7 ⟨rfl, hb7⟩
   have hl7 := hb7.size
   obtain ⟨M, hM⟩ : ∃ M, M = mP b 64 := ⟨_, rfl⟩
   have oM : Wd 16 M := by rw [hM]; exact mP_ok hb.2 64
   rw [← hM]
   have HM : Hid (M = mP b 64) := hM
   clear hM
   have hn8 := heap_alloc_new W7 (.cells (wv z16) 161)
   go_wp2_with (first | (refine wpList_alloc16 rfl rfl ?_) | (refine wpList_store16 rfl _ _ rfl W7.heap.size rfl M z16 oM.1 z16_ok.1 161 rfl hn8 ?_; intro W9 hm9 hf9) | fail)
   have hW9 : Hid (Frm [pv] W2 W9) := by
    have h1 : Frm [pv] W2 W7 := HF6.out.trans (Frm.ofBelow hb7)
    have h2 : Frm [pv] W7 W9 := (((Frm.refl [W7.heap.size] W7).alloc _).trans hf9).old (fun k hk hlt => by simp at hk; omega)
    exact h1.trans h2
   have hx9 : Frm [] W6 W9 := by
    have h1 : Frm [] W6 W7 := Frm.ofBelow hb7
    have h2 : Frm [] W7 W9 := (((Frm.refl [W7.heap.size] W7).alloc _).trans hf9).old (fun k hk hlt => by simp at hk; omega)
    exact h1.trans h2
   have hv9 : Hid (W9.heap[pv]? = some (.cells (wv V) 161 (0, 0))) := hx9.heap HV6.out (by simp)
   have hp9 : Hid (W9.heap[p]? = some (.cells (stc h T b fl wn) 140 (0, 0))) := hx9.heap HP6.out (by simp)
   have hr9 : Hid (W9.heap[2]? = some (.cells (sv rowsF) t2 fr2)) := hW9.out.heap hrow2.out HpF.out.2.2.2
   have Hm9 : Hid (W9.heap[W7.heap.size]? = some (.cells (wv M) 161 (0, 0))) := hm9
   obtain ⟨pm, hpm⟩ : ∃ x, x = W7.heap.size := ⟨_, rfl⟩
   rw [← hpm] at Hm9
   have HpM : Hid (pm ≠ pv ∧ pm ∉ [pv] ∧ pm ≠ p ∧ 2 ∉ [pv]) := ⟨by omega, by simp; omega, by omega, HpF.out.2.2.2⟩
   clear hx9 hm9 hf9 hn8 hb7 hl7 HV6 HP6 HF6 hl6
   rw [← hpm]
   clear hpm
   go_wp2_with fail
   go_loopw [69] (fun i (w' : World) => ∃ k : Nat, k ≤ 10 ∧ i = .int .i64 k ∧ w'.heap[pv]? = some (.cells (wv (rP M V k)) 161 (0, 0)) ∧ Frm [pv] W9 w') (fun i _ => 10 - (intOf i).toNat)
   case atStart => exact ⟨0, by omega, rfl, hv9.out, Frm.refl _ _⟩
   case round =>
    obtain ⟨k, hk, rfl, hv, hF⟩ := hrel
    by_cases hlt : k < 10
    ·have hk' : (k : Int) < 10 := by omega
     have hrr := rows_range (hF.heap hr9.out HpF.out.2.2.2) hlt
     have hm := hF.heap Hm9.out HpM.out.2.1
     have hcall := round_any pv pm (rP M V k) M (rowL k) 161 161 (0, 0) wr hv hm HpM.out.1 (rP_ok ov3 k) oM (rowL_len hlt) (rowL_lt hlt)
     have HF : Hid (Frm [pv] W9 wr) := hF
     have ek : ((k : Int)).toNat = k := by omega
     clear hv hF hm
     go_wp2_with (first | (refine wpList_loadR rfl _ rfl 2 (k * 16) rfl (rowL k) (rowL_len hlt) hrr ?_) | fail)
     refine hcall.mono ?_
     rintro e w2 ⟨rfl, hv2, hf2⟩
     have HN : Hid (w2.heap[pv]? = some (.cells (wv (rP M V (k + 1))) 161 (0, 0)) ∧ Frm [pv] W9 w2) := ⟨hv2, HF.out.trans hf2⟩
     clear hv2 hf2 hcall hrr
     go_wp2
     refine ⟨⟨k + 1, by omega, by go_num, HN.out.1, HN.out.2⟩, ?_⟩
     simp [intOf]
     omega
    ·obtain rfl : k = 10 := by omega
     have oR := rP_ok (m := M) ov3 10
     obtain ⟨R, hR⟩ : ∃ R, R = rP M V 10 := ⟨_, rfl⟩
     rw [← hR] at hv oR
     have HR : Hid (R = rP M V 10) := hR
     clear hR
     have hp10 : Hid (wr.heap[p]? = some (.cells (stc h T b fl wn) 140 (0, 0))) := hF.heap hp9.out HpF.out.2.1
     have hF10 : Hid (Frm [p, pv] w wr) := by
      have h1 : Frm [p, pv] W2 wr := (hW9.out.trans hF).mono (by simp)
      exact (HF2.out.mono (by simp)).trans h1
     have hv10 : Hid (wr.heap[pv]? = some (.cells (wv R) 161 (0, 0))) := hv
     clear hv hF Hm9 hr9 hp9 hv9 hW9
     go_wp2_with fail
     generalize wr = W10 at *
     go_loopw [77] (fun i (w' : World) => ∃ k : Nat, k ≤ 8 ∧ i = .int .i64 k ∧ w'.heap[p]? = some (.cells (stc (hP h R k) T b fl wn) 140 (0, 0)) ∧ Frm [p] W10 w') (fun i _ => 8 - (intOf i).toNat)
     case atStart => exact ⟨0, by omega, rfl, hp10.out, Frm.refl _ _⟩
     case round =>
      obtain ⟨k, hk, rfl, hp_, hF⟩ := hrel
      by_cases hlt : k < 8
      ·have hk' : (k : Int) < 8 := by omega
       have oh := hP_ok hh oR k
       have hv := hF.heap hv10.out HpF.out.1
       obtain ⟨x, hx⟩ : ∃ x, x = (hP h R k).getD k 0 := ⟨_, rfl⟩
       obtain ⟨y, hy⟩ : ∃ y, y = R.getD k 0 := ⟨_, rfl⟩
       obtain ⟨z, hz⟩ : ∃ z, z = R.getD (k + 8) 0 := ⟨_, rfl⟩
       have lx : x < 4294967296 := by rw [hx]; exact oh.2 k
       have ly : y < 4294967296 := by rw [hy]; exact oR.2 k
       have lz : z < 4294967296 := by rw [hz]; exact oR.2 (k + 8)
       have d1 : wr.drew.cell? ⟨p, k, none⟩ = some (.int .u32 (x : Nat)) := by rw [cell_of_row wr.drew p k _ _ _ hp_, hx]; exact stc_w oh.1 hlt
       have d2 : wr.drew.frozen? ⟨p, k, none⟩ = false := frozen_of_row wr.drew p k _ _ hp_
       have d3 : wr.drew.cell? ⟨pv, k, none⟩ = some (.int .u32 (y : Nat)) := by rw [cell_of_row wr.drew pv k _ _ _ hv, hy]; exact wv_at (by rw [oR.1]; omega)
       have d4 : wr.drew.cell? ⟨pv, k + 8, none⟩ = some (.int .u32 (z : Nat)) := by rw [cell_of_row wr.drew pv (k + 8) _ _ _ hv, hz]; exact wv_at (by rw [oR.1]; omega)
       have e8 : ((k : Int) + 8).toNat = k + 8 := by omega
       have e9 : IntKind.i64.wrap ((k : Int) + 8) = (k : Int) + 8 := by rw [IntKind.wrap_i64]; omega
       have b8 : (0 : Int) ≤ (k : Int) + 8 ∧ (k : Int) + 8 < 16 := by omega
       have b9 : (k : Int) < 16 := by omega
       have n1 := xor_W y z ly lz
       have lyz := xorW_lt ly lz
       obtain ⟨yz, hyz⟩ : ∃ q, q = xorW y z := ⟨_, rfl⟩
       rw [← hyz] at n1 lyz
       have n2 := xor_W x yz lx lyz
       obtain ⟨q, hq⟩ : ∃ q, q = xorW x yz := ⟨_, rfl⟩
       rw [← hq] at n2
       have HN : Hid ((wr.setCell ⟨p, k, none⟩ (.int .u32 (q : Nat))).drew.heap[p]? = some (.cells (stc (hP h R (k + 1)) T b fl wn) 140 (0, 0)) ∧ Frm [p] W10 (wr.setCell ⟨p, k, none⟩ (.int .u32 (q : Nat))).drew) := by
        refine ⟨?_, (hF.setCell _ _ (by simp)).drew⟩
        have := heap_set_row (w := wr) (j := k) (u := .int .u32 (q : Nat)) hp_
        rw [stc_set_w oh.1 hlt] at this
        show (wr.setCell ⟨p, k, none⟩ (.int .u32 (q : Nat))).heap[p]? = _
        rw [this, hP, hq, hyz, hx, hy, hz]
       clear hx hy hz hyz hq hp_ hF hv oh lx ly lz lyz
       go_wp2_with fail
       refine region_seq (c := 18) (f := 60) (ts := [(0, 0), (0, 1), (0, 2), (0, 3), (0, 4), (1, 5), (0, 6), (0, 7), (1, 8), (0, 9), (0, 10), (0, 11), (1, 12), (0, 13), (0, 14), (0, 15), (0, 16), (0, 17), (2, 18)]) (by kernel_rfl) (by kernel_rfl) ?_
       refine seq_W (o := ⟨some 80, .move (.tmp 0), 113, _, _, none⟩) (v := ?_) rfl rfl (fun wz => ?_) ?_
       rotate_left
       ·go_simp; (try with_reducible rfl)
       try simp only [Act.put, sqA, sqB, sqC]
       refine seq_W (o := ⟨some 81, .move (.tmp 9), 3, _, _, none⟩) (v := ?_) rfl rfl (fun wz => ?_) ?_
       rotate_left
       ·go_simp; (try with_reducible rfl)
       try simp only [Act.put, sqA, sqB, sqC]
       refine seq_W (o := ⟨some 82, .nilCheck (.tmp 80), 0, _, _, none⟩) (v := ?_) rfl rfl (fun wz => ?_) ?_
       rotate_left
       ·go_simp; (try with_reducible rfl)
       try simp only [Act.put, sqA, sqB, sqC]
       refine seq_W (o := ⟨some 83, .fieldAddr 140 (.tmp 82) 0, 0, _, _, none⟩) (v := ?_) rfl rfl (fun wz => ?_) ?_
       rotate_left
       ·go_simp; (try with_reducible rfl)
       try simp only [Act.put, sqA, sqB, sqC]
       refine seq_W (o := ⟨some 84, .indexAddr 137 (.tmp 83) (.tmp 81), 0, _, _, none⟩) (v := ?_) rfl rfl (fun wz => ?_) ?_
       rotate_left
       ·go_simp; (try with_reducible rfl)
       try simp only [Act.put, sqA, sqB, sqC]
       refine seq_R (o := ⟨some 85, .load 120 (.tmp 84), 120, _, _, none⟩) (v := ?_) rfl rfl ?_ ?_
       rotate_left
       ·go_simp; (try with_reducible rfl)
       try simp only [Act.put, sqA, sqB, sqC]
       refine seq_W (o := ⟨some 86, .move (.tmp 9), 3, _, _, none⟩) (v := ?_) rfl rfl (fun wz => ?_) ?_
       rotate_left
       ·go_simp; (try with_reducible rfl)
       try simp only [Act.put, sqA, sqB, sqC]
       refine seq_W (o := ⟨some 87, .indexAddr 161 (.tmp 4) (.tmp 86), 0, _, _, none⟩) (v := ?_) rfl rfl (fun wz => ?_) ?_
       rotate_left
       ·go_simp; (try with_reducible rfl)
       try simp only [Act.put, sqA, sqB, sqC]
       refine seq_R (o := ⟨some 88, .load 120 (.tmp 87), 120, _, _, none⟩) (v := ?_) rfl rfl ?_ ?_
       rotate_left
       ·go_simp; (try with_reducible rfl)
       try simp only [Act.put, sqA, sqB, sqC]
       refine seq_W (o := ⟨some 89, .move (.tmp 9), 3, _, _, none⟩) (v := ?_) rfl rfl (fun wz => ?_) ?_
       rotate_left
       ·go_simp; (try with_reducible rfl)
       try simp only [Act.put, sqA, sqB, sqC]
       refine seq_W (o := ⟨some 90, .binOp .add 3 (.tmp 89) (.const (.int .i64 8)) 3, 3, _, _, none⟩) (v := ?_) rfl rfl (fun wz => ?_) ?_
       rotate_left
       ·go_simp; (try with_reducible rfl)
       try simp only [Act.put, sqA, sqB, sqC]
       refine seq_W (o := ⟨some 91, .indexAddr 161 (.tmp 4) (.tmp 90), 0, _, _, none⟩) (v := ?_) rfl rfl (fun wz => ?_) ?_
       rotate_left
       ·go_simp; (try with_reducible rfl)
       try simp only [Act.put, sqA, sqB, sqC]
       refine seq_R (o := ⟨some 92, .load 120 (.tmp 91), 120, _, _, none⟩) (v := ?_) rfl rfl ?_ ?_
       rotate_left
       ·go_simp; (try with_reducible rfl)
       try simp only [Act.put, sqA, sqB, sqC]
       refine seq_W (o := ⟨some 93, .binOp .xor 120 (.tmp 88) (.tmp 92) 120, 120, _, _, none⟩) (v := ?_) rfl rfl (fun wz => ?_) ?_
       rotate_left
       ·go_simp; (try with_reducible rfl)
       try simp only [Act.put, sqA, sqB, sqC]
       refine seq_W (o := ⟨some 94, .binOp .xor 120 (.tmp 85) (.tmp 93) 120, 120, _, _, none⟩) (v := ?_) rfl rfl (fun wz => ?_) ?_
       rotate_left
       ·go_simp; (try with_reducible rfl)
       try simp only [Act.put, sqA, sqB, sqC]
       refine seq_W (o := ⟨some 95, .nilCheck (.tmp 80), 0, _, _, none⟩) (v := ?_) rfl rfl (fun wz => ?_) ?_
       rotate_left
       ·go_simp; (try with_reducible rfl)
       try simp only [Act.put, sqA, sqB, sqC]
       refine seq_W (o := ⟨some 96, .fieldAddr 140 (.tmp 95) 0, 0, _, _, none⟩) (v := ?_) rfl rfl (fun wz => ?_) ?_
       rotate_left
       ·go_simp; (try with_reducible rfl)
       try simp only [Act.put, sqA, sqB, sqC]
       refine seq_W (o := ⟨some 97, .indexAddr 137 (.tmp 96) (.tmp 81), 0, _, _, none⟩) (v := ?_) rfl rfl (fun wz => ?_) ?_
       rotate_left
       ·go_simp; (try with_reducible rfl)
       try simp only [Act.put, sqA, sqB, sqC]
       refine seq_A (o := ⟨none, .store 120 (.tmp 97) (.tmp 94), 0, _, _, none⟩) rfl rfl (fun K hK => ?_)
       go_simp
       refine hK _ _ ?_
       clear hK K
       try simp only [Act.put, sqA, sqB, sqC]
       refine seq_nil (NoPanic.normal ?_)
       try simp only [Act.put, sqA, sqB, sqC]
       go_wp2
       refine ⟨⟨_, _, _, _, _, _, _, _, _, _, _, _, _, _, _, _, _, _, _, _, _, _, _, ⟨k + 1, by omega, ?_, HN.out.1, HN.out.2⟩, rfl⟩, ?_⟩
       ·go_num
       ·simp [intOf]
        omega
      ·obtain rfl : k = 8 := by omega
       have hend : wr.heap[p]? = some (.cells (stc (cF h b T false) T b fl wn) 140 (0, 0)) := by
        rw [hp_, HR.out, HVV.out, HM.out]; rfl
       have hfr : Frm [p] w wr := (hF10.out.trans (hF.mono (by simp))).old (fun k hk hlt => by
        simp at hk
        rcases hk with rfl | rfl
        ·simp
        ·exact absurd hlt (by have := hpvl; omega))
       clear hp_ hF
       go_wp2
       exact bodyPost_end (v := .tuple #[]) (by simp [results, Tryz.results80, go_sem]) rfl ⟨rfl, hend, hfr⟩

theorem takeIn_any (last : Bool) (p : Nat) (h : List Nat) (tk : Nat) (b : List Nat) (fl : Nat) (wn : Int) (w : World) (hp : w.heap[p]? = some (.cells (stc h tk b fl wn) 140 (0, 0))) (hT : Tab w) (hg : 3 ≤ p)
  (hh : Wd 8 h) (hb : By 64 b) (hfl : fl ≤ 64) (htk : tk + fl < 18446744073709551616) :
  Calls Tryz.prog 80 #[.pointer (some ⟨p, 0, none⟩), .bool last] w fun e w' => e = .returned (.tuple #[]) ∧ w'.heap[p]? = some (.cells (stc (cF h b (tk + fl) last) (tk + fl) b fl wn) 140 (0, 0)) ∧ Frm [p] w w' := by
 cases last
 ·exact takeIn_false p h tk b fl wn w hp hT hg hh hb hfl htk
 ·exact takeIn_true p h tk b fl wn w hp hT hg hh hb hfl htk
end Go.Proofs.YtoefgfiabfkfaaaGreatDoor
