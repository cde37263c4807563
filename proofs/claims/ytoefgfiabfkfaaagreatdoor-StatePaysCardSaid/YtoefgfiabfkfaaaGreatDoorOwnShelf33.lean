/- The document's step G. -/
import Derived.Test.YtoefgfiabfkfaaaGreatDoorOwnShelf02
import Derived.Test.YtoefgfiabfkfaaaGreatDoorOwnShelf07
namespace Go.Proofs.YtoefgfiabfkfaaaGreatDoor
open Go.RowKit

/-- The words v lie at the head of block g. -/
def VAt (w : World) (g : Nat) (v : List Nat) : Prop := ∃ sp t, w.heap[g]? = some (.cells (wl v ++ sp).toArray t (0, 0))
theorem VAt.cell {w : World} {g : Nat} {v : List Nat} (h : VAt w g v) {j : Nat} (hj : j < v.length) : w.cell? ⟨g, j, none⟩ = some (.int .u32 (v.getD j 0 : Nat)) := by
 obtain ⟨sp, t, hg⟩ := h
 rw [cell_of_row w g j _ _ _ hg, List.getElem?_toArray, List.getElem?_append_left (by simpa [wl] using hj)]
 simp [wl, List.getElem?_map, List.getElem?_eq_getElem hj, List.getD_eq_getElem?_getD]
theorem VAt.free {w : World} {g : Nat} {v : List Nat} (h : VAt w g v) (j : Nat) : w.frozen? ⟨g, j, none⟩ = false := by
 obtain ⟨sp, t, hg⟩ := h
 exact frozen_of_row w g j _ t hg
theorem VAt.set {w : World} {g : Nat} {v : List Nat} (h : VAt w g v) {j : Nat} (hj : j < v.length) (x : Nat) : VAt (w.setCell ⟨g, j, none⟩ (.int .u32 (x : Nat))) g (v.set j x) := by
 obtain ⟨sp, t, hg⟩ := h
 refine ⟨sp, t, ?_⟩
 rw [heap_setCell_same w g j _ t _ hg, List.setIfInBounds_toArray, List.set_append_left _ _ (by simpa [wl] using hj)]
 simp [wl, List.map_set]
theorem VAt.keep {w w' : World} {g : Nat} {v : List Nat} {S : List Nat} (h : VAt w g v) (hf : Frm S w w') (hg : g ∉ S) : VAt w' g v := by
 obtain ⟨sp, t, h1⟩ := h
 exact ⟨sp, t, hf.heap h1 hg⟩
theorem VAt.lt {w : World} {g : Nat} {v : List Nat} (h : VAt w g v) : g < w.heap.size := by
 obtain ⟨sp, t, h1⟩ := h
 exact lt_of_block h1

/-- Four places, each another one. -/
structure PlD (a b c d : Nat) : Prop where
 la : a < 16
 lb : b < 16
 lc : c < 16
 ld : d < 16
 ab : a ≠ b
 ac : a ≠ c
 ad : a ≠ d
 bc : b ≠ c
 bd : b ≠ d
 cd : c ≠ d
section
variable {v : List Nat} {a b c d : Nat} {q : Four}
theorem setF_len : (setF v a b c d q).length = v.length := by simp [setF]
theorem set_four (v : List Nat) (a b c d : Nat) : setF v a b c d (four v a b c d) = v := by
 have h : ∀ (l : List Nat) (i : Nat), l.set i (l.getD i 0) = l := fun l i => by
  apply List.ext_getElem?
  intro j
  rw [List.getElem?_set]
  by_cases e : i = j
  ·subst e
   by_cases hl : i < l.length
   ·simp [hl, List.getD_eq_getElem?_getD]
   ·simp [hl]
  ·simp [e]
 simp only [setF, four, h]
variable (p : PlD a b c d) (hv : v.length = 16)
include p hv
theorem getF_a : (setF v a b c d q).getD a 0 = q.a := by
 simp [setF, List.getD_eq_getElem?_getD, p.ab.symm, p.ac.symm, p.ad.symm, hv, p.la]
theorem getF_b : (setF v a b c d q).getD b 0 = q.b := by
 simp [setF, List.getD_eq_getElem?_getD, p.bc.symm, p.bd.symm, hv, p.lb]
theorem getF_c : (setF v a b c d q).getD c 0 = q.c := by
 simp [setF, List.getD_eq_getElem?_getD, p.cd.symm, hv, p.lc]
theorem getF_d : (setF v a b c d q).getD d 0 = q.d := by
 simp [setF, List.getD_eq_getElem?_getD, hv, p.ld]
omit hv
theorem setF_a (x : Nat) : (setF v a b c d q).set a x = setF v a b c d ⟨x, q.b, q.c, q.d⟩ := by
 simp only [setF]
 rw [List.set_comm _ _ p.ad.symm, List.set_comm _ _ p.ac.symm, List.set_comm _ _ p.ab.symm, List.set_set]
theorem setF_b (x : Nat) : (setF v a b c d q).set b x = setF v a b c d ⟨q.a, x, q.c, q.d⟩ := by
 simp only [setF]
 rw [List.set_comm _ _ p.bd.symm, List.set_comm _ _ p.bc.symm, List.set_set]
theorem setF_c (x : Nat) : (setF v a b c d q).set c x = setF v a b c d ⟨q.a, q.b, x, q.d⟩ := by
 simp only [setF]
 rw [List.set_comm _ _ p.cd.symm, List.set_set]
omit p
theorem setF_d (x : Nat) : (setF v a b c d q).set d x = setF v a b c d ⟨q.a, q.b, q.c, x⟩ := by
 simp only [setF]
 rw [List.set_set]
end
theorem addW_assoc (a b x : Nat) : addW (addW a b) x = addW a (addW b x) := by unfold addW; omega

theorem right16_or (x : Nat) (hx : x < 4294967296) : bits .or .u32 ((x : Int) / 65536) ((x : Int) * 65536 % 4294967296) = ((ror 16 x : Nat) : Int) := by
 rw [u32_or _ _ (by omega) (by omega) (by omega) (by omega)]
 have e1 : ((x : Int) * 65536 % 4294967296).toNat = x * 65536 % 4294967296 := by omega
 have e2 : ((x : Int) / 65536).toNat = x / 65536 := by omega
 rw [e1, e2, Nat.or_comm]
 unfold ror
 rw [Nat.shiftLeft_eq, Nat.shiftRight_eq_div_pow]
set_option maxHeartbeats 400000 in
theorem right16 (x : Nat) (hx : x < 4294967296) (w : World) : Calls Tryz.prog 90 #[.int .u32 x, .int .i64 16] w fun e w' => e = .returned (.int .u32 (ror 16 x : Nat)) ∧ Below w.heap.size w w' := by
 have hx' : (x : Int) < 4294967296 := by omega
 have hr := right16_or x hx
 have n1 : IntKind.i64.wrap 16 = 16 := by kernel_rfl
 have n2 : IntKind.u32.wrap ((x : Int) * 65536) = (x : Int) * 65536 % 4294967296 := by rw [IntKind.wrap_u32]
 have n3 : IntKind.u32.wrap ((x : Int) / 65536) = (x : Int) / 65536 := by rw [IntKind.wrap_u32]; omega
 go_enter Tryz.func90, Tryz.ntmps90
 go_wp2_with fail
 refine region_seq (c := 8) (f := 60) (ts := [(0, 0), (0, 1), (0, 2), (0, 3), (0, 4), (0, 5), (0, 6), (0, 7), (2, 8)]) (by kernel_rfl) (by kernel_rfl) ?_
 refine seq_W (o := ⟨some 5, .move (.tmp 0), 120, _, _, none⟩) (v := ?_) rfl rfl (fun wz => ?_) ?_
 rotate_left
 ·go_simp; (try with_reducible rfl)
 try simp only [Act.put, sqA, sqB, sqC]
 refine seq_W (o := ⟨some 6, .move (.tmp 1), 3, _, _, none⟩) (v := ?_) rfl rfl (fun wz => ?_) ?_
 rotate_left
 ·go_simp; (try with_reducible rfl)
 try simp only [Act.put, sqA, sqB, sqC]
 refine seq_W (o := ⟨some 7, .binOp .shr 120 (.tmp 5) (.tmp 6) 3, 120, _, _, none⟩) (v := ?_) rfl rfl (fun wz => ?_) ?_
 rotate_left
 ·go_simp; (try with_reducible rfl)
 try simp only [Act.put, sqA, sqB, sqC]
 refine seq_W (o := ⟨some 8, .move (.tmp 0), 120, _, _, none⟩) (v := ?_) rfl rfl (fun wz => ?_) ?_
 rotate_left
 ·go_simp; (try with_reducible rfl)
 try simp only [Act.put, sqA, sqB, sqC]
 refine seq_W (o := ⟨some 9, .move (.tmp 1), 3, _, _, none⟩) (v := ?_) rfl rfl (fun wz => ?_) ?_
 rotate_left
 ·go_simp; (try with_reducible rfl)
 try simp only [Act.put, sqA, sqB, sqC]
 refine seq_W (o := ⟨some 10, .binOp .sub 3 (.const (.int .i64 32)) (.tmp 9) 3, 3, _, _, none⟩) (v := ?_) rfl rfl (fun wz => ?_) ?_
 rotate_left
 ·go_simp; (try with_reducible rfl)
 try simp only [Act.put, sqA, sqB, sqC]
 refine seq_W (o := ⟨some 11, .binOp .shl 120 (.tmp 8) (.tmp 10) 3, 120, _, _, none⟩) (v := ?_) rfl rfl (fun wz => ?_) ?_
 rotate_left
 ·go_simp; (try with_reducible rfl)
 try simp only [Act.put, sqA, sqB, sqC]
 refine seq_W (o := ⟨some 12, .binOp .or 120 (.tmp 7) (.tmp 11) 120, 120, _, _, none⟩) (v := ?_) rfl rfl (fun wz => ?_) ?_
 rotate_left
 ·go_simp; (try with_reducible rfl)
 try simp only [Act.put, sqA, sqB, sqC]
 refine seq_A (o := ⟨some 4, .assign (.tmp 12), 120, _, _, none⟩) rfl rfl (fun K hK => ?_)
 go_simp
 refine hK _ _ ?_
 clear hK K
 try simp only [Act.put, sqA, sqB, sqC]
 refine seq_nil (NoPanic.normal ?_)
 try simp only [Act.put, sqA, sqB, sqC]
 go_wp2
 go_ret
 exact ⟨rfl, (Below.refl _ _).drew⟩

theorem right12_or (x : Nat) (hx : x < 4294967296) : bits .or .u32 ((x : Int) / 4096) ((x : Int) * 1048576 % 4294967296) = ((ror 12 x : Nat) : Int) := by
 rw [u32_or _ _ (by omega) (by omega) (by omega) (by omega)]
 have e1 : ((x : Int) * 1048576 % 4294967296).toNat = x * 1048576 % 4294967296 := by omega
 have e2 : ((x : Int) / 4096).toNat = x / 4096 := by omega
 rw [e1, e2, Nat.or_comm]
 unfold ror
 rw [Nat.shiftLeft_eq, Nat.shiftRight_eq_div_pow]
set_option maxHeartbeats 400000 in
theorem right12 (x : Nat) (hx : x < 4294967296) (w : World) : Calls Tryz.prog 90 #[.int .u32 x, .int .i64 12] w fun e w' => e = .returned (.int .u32 (ror 12 x : Nat)) ∧ Below w.heap.size w w' := by
 have hx' : (x : Int) < 4294967296 := by omega
 have hr := right12_or x hx
 have n1 : IntKind.i64.wrap 20 = 20 := by kernel_rfl
 have n2 : IntKind.u32.wrap ((x : Int) * 1048576) = (x : Int) * 1048576 % 4294967296 := by rw [IntKind.wrap_u32]
 have n3 : IntKind.u32.wrap ((x : Int) / 4096) = (x : Int) / 4096 := by rw [IntKind.wrap_u32]; omega
 go_enter Tryz.func90, Tryz.ntmps90
 go_wp2_with fail
 refine region_seq (c := 8) (f := 60) (ts := [(0, 0), (0, 1), (0, 2), (0, 3), (0, 4), (0, 5), (0, 6), (0, 7), (2, 8)]) (by kernel_rfl) (by kernel_rfl) ?_
 refine seq_W (o := ⟨some 5, .move (.tmp 0), 120, _, _, none⟩) (v := ?_) rfl rfl (fun wz => ?_) ?_
 rotate_left
 ·go_simp; (try with_reducible rfl)
 try simp only [Act.put, sqA, sqB, sqC]
 refine seq_W (o := ⟨some 6, .move (.tmp 1), 3, _, _, none⟩) (v := ?_) rfl rfl (fun wz => ?_) ?_
 rotate_left
 ·go_simp; (try with_reducible rfl)
 try simp only [Act.put, sqA, sqB, sqC]
 refine seq_W (o := ⟨some 7, .binOp .shr 120 (.tmp 5) (.tmp 6) 3, 120, _, _, none⟩) (v := ?_) rfl rfl (fun wz => ?_) ?_
 rotate_left
 ·go_simp; (try with_reducible rfl)
 try simp only [Act.put, sqA, sqB, sqC]
 refine seq_W (o := ⟨some 8, .move (.tmp 0), 120, _, _, none⟩) (v := ?_) rfl rfl (fun wz => ?_) ?_
 rotate_left
 ·go_simp; (try with_reducible rfl)
 try simp only [Act.put, sqA, sqB, sqC]
 refine seq_W (o := ⟨some 9, .move (.tmp 1), 3, _, _, none⟩) (v := ?_) rfl rfl (fun wz => ?_) ?_
 rotate_left
 ·go_simp; (try with_reducible rfl)
 try simp only [Act.put, sqA, sqB, sqC]
 refine seq_W (o := ⟨some 10, .binOp .sub 3 (.const (.int .i64 32)) (.tmp 9) 3, 3, _, _, none⟩) (v := ?_) rfl rfl (fun wz => ?_) ?_
 rotate_left
 ·go_simp; (try with_reducible rfl)
 try simp only [Act.put, sqA, sqB, sqC]
 refine seq_W (o := ⟨some 11, .binOp .shl 120 (.tmp 8) (.tmp 10) 3, 120, _, _, none⟩) (v := ?_) rfl rfl (fun wz => ?_) ?_
 rotate_left
 ·go_simp; (try with_reducible rfl)
 try simp only [Act.put, sqA, sqB, sqC]
 refine seq_W (o := ⟨some 12, .binOp .or 120 (.tmp 7) (.tmp 11) 120, 120, _, _, none⟩) (v := ?_) rfl rfl (fun wz => ?_) ?_
 rotate_left
 ·go_simp; (try with_reducible rfl)
 try simp only [Act.put, sqA, sqB, sqC]
 refine seq_A (o := ⟨some 4, .assign (.tmp 12), 120, _, _, none⟩) rfl rfl (fun K hK => ?_)
 go_simp
 refine hK _ _ ?_
 clear hK K
 try simp only [Act.put, sqA, sqB, sqC]
 refine seq_nil (NoPanic.normal ?_)
 try simp only [Act.put, sqA, sqB, sqC]
 go_wp2
 go_ret
 exact ⟨rfl, (Below.refl _ _).drew⟩

theorem right8_or (x : Nat) (hx : x < 4294967296) : bits .or .u32 ((x : Int) / 256) ((x : Int) * 16777216 % 4294967296) = ((ror 8 x : Nat) : Int) := by
 rw [u32_or _ _ (by omega) (by omega) (by omega) (by omega)]
 have e1 : ((x : Int) * 16777216 % 4294967296).toNat = x * 16777216 % 4294967296 := by omega
 have e2 : ((x : Int) / 256).toNat = x / 256 := by omega
 rw [e1, e2, Nat.or_comm]
 unfold ror
 rw [Nat.shiftLeft_eq, Nat.shiftRight_eq_div_pow]
set_option maxHeartbeats 400000 in
theorem right8 (x : Nat) (hx : x < 4294967296) (w : World) : Calls Tryz.prog 90 #[.int .u32 x, .int .i64 8] w fun e w' => e = .returned (.int .u32 (ror 8 x : Nat)) ∧ Below w.heap.size w w' := by
 have hx' : (x : Int) < 4294967296 := by omega
 have hr := right8_or x hx
 have n1 : IntKind.i64.wrap 24 = 24 := by kernel_rfl
 have n2 : IntKind.u32.wrap ((x : Int) * 16777216) = (x : Int) * 16777216 % 4294967296 := by rw [IntKind.wrap_u32]
 have n3 : IntKind.u32.wrap ((x : Int) / 256) = (x : Int) / 256 := by rw [IntKind.wrap_u32]; omega
 go_enter Tryz.func90, Tryz.ntmps90
 go_wp2_with fail
 refine region_seq (c := 8) (f := 60) (ts := [(0, 0), (0, 1), (0, 2), (0, 3), (0, 4), (0, 5), (0, 6), (0, 7), (2, 8)]) (by kernel_rfl) (by kernel_rfl) ?_
 refine seq_W (o := ⟨some 5, .move (.tmp 0), 120, _, _, none⟩) (v := ?_) rfl rfl (fun wz => ?_) ?_
 rotate_left
 ·go_simp; (try with_reducible rfl)
 try simp only [Act.put, sqA, sqB, sqC]
 refine seq_W (o := ⟨some 6, .move (.tmp 1), 3, _, _, none⟩) (v := ?_) rfl rfl (fun wz => ?_) ?_
 rotate_left
 ·go_simp; (try with_reducible rfl)
 try simp only [Act.put, sqA, sqB, sqC]
 refine seq_W (o := ⟨some 7, .binOp .shr 120 (.tmp 5) (.tmp 6) 3, 120, _, _, none⟩) (v := ?_) rfl rfl (fun wz => ?_) ?_
 rotate_left
 ·go_simp; (try with_reducible rfl)
 try simp only [Act.put, sqA, sqB, sqC]
 refine seq_W (o := ⟨some 8, .move (.tmp 0), 120, _, _, none⟩) (v := ?_) rfl rfl (fun wz => ?_) ?_
 rotate_left
 ·go_simp; (try with_reducible rfl)
 try simp only [Act.put, sqA, sqB, sqC]
 refine seq_W (o := ⟨some 9, .move (.tmp 1), 3, _, _, none⟩) (v := ?_) rfl rfl (fun wz => ?_) ?_
 rotate_left
 ·go_simp; (try with_reducible rfl)
 try simp only [Act.put, sqA, sqB, sqC]
 refine seq_W (o := ⟨some 10, .binOp .sub 3 (.const (.int .i64 32)) (.tmp 9) 3, 3, _, _, none⟩) (v := ?_) rfl rfl (fun wz => ?_) ?_
 rotate_left
 ·go_simp; (try with_reducible rfl)
 try simp only [Act.put, sqA, sqB, sqC]
 refine seq_W (o := ⟨some 11, .binOp .shl 120 (.tmp 8) (.tmp 10) 3, 120, _, _, none⟩) (v := ?_) rfl rfl (fun wz => ?_) ?_
 rotate_left
 ·go_simp; (try with_reducible rfl)
 try simp only [Act.put, sqA, sqB, sqC]
 refine seq_W (o := ⟨some 12, .binOp .or 120 (.tmp 7) (.tmp 11) 120, 120, _, _, none⟩) (v := ?_) rfl rfl (fun wz => ?_) ?_
 rotate_left
 ·go_simp; (try with_reducible rfl)
 try simp only [Act.put, sqA, sqB, sqC]
 refine seq_A (o := ⟨some 4, .assign (.tmp 12), 120, _, _, none⟩) rfl rfl (fun K hK => ?_)
 go_simp
 refine hK _ _ ?_
 clear hK K
 try simp only [Act.put, sqA, sqB, sqC]
 refine seq_nil (NoPanic.normal ?_)
 try simp only [Act.put, sqA, sqB, sqC]
 go_wp2
 go_ret
 exact ⟨rfl, (Below.refl _ _).drew⟩

theorem right7_or (x : Nat) (hx : x < 4294967296) : bits .or .u32 ((x : Int) / 128) ((x : Int) * 33554432 % 4294967296) = ((ror 7 x : Nat) : Int) := by
 rw [u32_or _ _ (by omega) (by omega) (by omega) (by omega)]
 have e1 : ((x : Int) * 33554432 % 4294967296).toNat = x * 33554432 % 4294967296 := by omega
 have e2 : ((x : Int) / 128).toNat = x / 128 := by omega
 rw [e1, e2, Nat.or_comm]
 unfold ror
 rw [Nat.shiftLeft_eq, Nat.shiftRight_eq_div_pow]
set_option maxHeartbeats 400000 in
theorem right7 (x : Nat) (hx : x < 4294967296) (w : World) : Calls Tryz.prog 90 #[.int .u32 x, .int .i64 7] w fun e w' => e = .returned (.int .u32 (ror 7 x : Nat)) ∧ Below w.heap.size w w' := by
 have hx' : (x : Int) < 4294967296 := by omega
 have hr := right7_or x hx
 have n1 : IntKind.i64.wrap 25 = 25 := by kernel_rfl
 have n2 : IntKind.u32.wrap ((x : Int) * 33554432) = (x : Int) * 33554432 % 4294967296 := by rw [IntKind.wrap_u32]
 have n3 : IntKind.u32.wrap ((x : Int) / 128) = (x : Int) / 128 := by rw [IntKind.wrap_u32]; omega
 go_enter Tryz.func90, Tryz.ntmps90
 go_wp2_with fail
 refine region_seq (c := 8) (f := 60) (ts := [(0, 0), (0, 1), (0, 2), (0, 3), (0, 4), (0, 5), (0, 6), (0, 7), (2, 8)]) (by kernel_rfl) (by kernel_rfl) ?_
 refine seq_W (o := ⟨some 5, .move (.tmp 0), 120, _, _, none⟩) (v := ?_) rfl rfl (fun wz => ?_) ?_
 rotate_left
 ·go_simp; (try with_reducible rfl)
 try simp only [Act.put, sqA, sqB, sqC]
 refine seq_W (o := ⟨some 6, .move (.tmp 1), 3, _, _, none⟩) (v := ?_) rfl rfl (fun wz => ?_) ?_
 rotate_left
 ·go_simp; (try with_reducible rfl)
 try simp only [Act.put, sqA, sqB, sqC]
 refine seq_W (o := ⟨some 7, .binOp .shr 120 (.tmp 5) (.tmp 6) 3, 120, _, _, none⟩) (v := ?_) rfl rfl (fun wz => ?_) ?_
 rotate_left
 ·go_simp; (try with_reducible rfl)
 try simp only [Act.put, sqA, sqB, sqC]
 refine seq_W (o := ⟨some 8, .move (.tmp 0), 120, _, _, none⟩) (v := ?_) rfl rfl (fun wz => ?_) ?_
 rotate_left
 ·go_simp; (try with_reducible rfl)
 try simp only [Act.put, sqA, sqB, sqC]
 refine seq_W (o := ⟨some 9, .move (.tmp 1), 3, _, _, none⟩) (v := ?_) rfl rfl (fun wz => ?_) ?_
 rotate_left
 ·go_simp; (try with_reducible rfl)
 try simp only [Act.put, sqA, sqB, sqC]
 refine seq_W (o := ⟨some 10, .binOp .sub 3 (.const (.int .i64 32)) (.tmp 9) 3, 3, _, _, none⟩) (v := ?_) rfl rfl (fun wz => ?_) ?_
 rotate_left
 ·go_simp; (try with_reducible rfl)
 try simp only [Act.put, sqA, sqB, sqC]
 refine seq_W (o := ⟨some 11, .binOp .shl 120 (.tmp 8) (.tmp 10) 3, 120, _, _, none⟩) (v := ?_) rfl rfl (fun wz => ?_) ?_
 rotate_left
 ·go_simp; (try with_reducible rfl)
 try simp only [Act.put, sqA, sqB, sqC]
 refine seq_W (o := ⟨some 12, .binOp .or 120 (.tmp 7) (.tmp 11) 120, 120, _, _, none⟩) (v := ?_) rfl rfl (fun wz => ?_) ?_
 rotate_left
 ·go_simp; (try with_reducible rfl)
 try simp only [Act.put, sqA, sqB, sqC]
 refine seq_A (o := ⟨some 4, .assign (.tmp 12), 120, _, _, none⟩) rfl rfl (fun K hK => ?_)
 go_simp
 refine hK _ _ ?_
 clear hK K
 try simp only [Act.put, sqA, sqB, sqC]
 refine seq_nil (NoPanic.normal ?_)
 try simp only [Act.put, sqA, sqB, sqC]
 go_wp2
 go_ret
 exact ⟨rfl, (Below.refl _ _).drew⟩

set_option maxRecDepth 20000 in
set_option maxHeartbeats 8000000 in
theorem rstep_any (g cap : Nat) (v : List Nat) (a b c d x y : Nat) (w : World) (hV : VAt w g v) (hv : Wd 16 v) (p : PlD a b c d) :
  Calls Tryz.prog 82 #[.slice (some ⟨g, 0, none⟩) 16 cap, .int .i64 a, .int .i64 b, .int .i64 c, .int .i64 d, .int .u32 x, .int .u32 y] w fun e w' => e = .returned (.tuple #[]) ∧ VAt w' g (setF v a b c d (gF (four v a b c d) x y)) ∧ Frm [g] w w' := by
 have ia : (a : Int) < 16 := by have := p.la; omega
 have ib : (b : Int) < 16 := by have := p.lb; omega
 have ic : (c : Int) < 16 := by have := p.lc; omega
 have id : (d : Int) < 16 := by have := p.ld; omega
 have Q0 : Hid (VAt w g (setF v a b c d (four v a b c d)) ∧ Frm [g] w w) := by
  refine ⟨?_, Frm.refl _ w⟩
  rw [set_four]; exact hV
 have k0 := four_ok hv a b c d
 have HP : Hid (PlD a b c d ∧ v.length = 16) := ⟨p, hv.1⟩
 obtain ⟨w0, hw0⟩ : ∃ w0, w0 = w := ⟨_, rfl⟩
 rw [← hw0]
 have HE : Hid (∃ q, q = four v a b c d) := ⟨_, rfl⟩
 obtain ⟨q0, hq0⟩ : ∃ q, q = four v a b c d := ⟨_, rfl⟩
 rw [← hq0] at Q0 k0 ⊢
 clear hV hv p hq0 HE
 rw [← hw0] at Q0
 clear hw0
 go_enter Tryz.func82, Tryz.ntmps82
 go_wp2_with fail
 obtain ⟨x1, hx1⟩ : ∃ u, u = (addW q0.a (addW q0.b x)) := ⟨_, rfl⟩
 have d1 : w0.drew.cell? ⟨g, a, none⟩ = some (.int .u32 (q0.a : Nat)) := by
  have := VAt.cell (w := w0.drew) (Q0.out.1 : VAt w0 g _) (j := a) (by rw [setF_len, HP.out.2]; exact HP.out.1.la)
  rwa [getF_a HP.out.1 HP.out.2] at this
 have d2 : w0.drew.cell? ⟨g, b, none⟩ = some (.int .u32 (q0.b : Nat)) := by
  have := VAt.cell (w := w0.drew) (Q0.out.1 : VAt w0 g _) (j := b) (by rw [setF_len, HP.out.2]; exact HP.out.1.lb)
  rwa [getF_b HP.out.1 HP.out.2] at this
 obtain ⟨y1, hy1⟩ : ∃ u, u = addW q0.a q0.b := ⟨_, rfl⟩
 have n1 : IntKind.u32.wrap ((q0.a : Int) + (q0.b : Int)) = (y1 : Nat) := by rw [IntKind.wrap_u32, hy1]; exact add_W _ _
 have n2 : IntKind.u32.wrap ((y1 : Int) + (x : Int)) = (x1 : Nat) := by rw [IntKind.wrap_u32, hx1, ← addW_assoc, hy1]; exact add_W _ _
 have hx1l : x1 < 4294967296 := by rw [hx1]; exact addW_lt _ _
 obtain ⟨q1, hq1⟩ : ∃ q : Four, q = ⟨x1, q0.b, q0.c, q0.d⟩ := ⟨_, rfl⟩
 have k1 : q1.Ok := by rw [hq1]; exact ⟨hx1l, k0.2.1, k0.2.2.1, k0.2.2.2⟩
 have HQ1 : Hid (q1 = ⟨(addW q0.a (addW q0.b x)), q0.b, q0.c, q0.d⟩) := by show _ = _; rw [hq1, hx1]
 have f1 : w0.drew.frozen? ⟨g, a, none⟩ = false := VAt.free (w := w0.drew) (Q0.out.1 : VAt w0 g _) a
 have Q1 : Hid (VAt (w0.setCell ⟨g, a, none⟩ (.int .u32 (x1 : Nat))).drew g (setF v a b c d q1) ∧ Frm [g] w0 (w0.setCell ⟨g, a, none⟩ (.int .u32 (x1 : Nat))).drew) := by
  refine ⟨?_, (Q0.out.2.setCell _ _ (by simp)).drew⟩
  have := VAt.set (Q0.out.1 : VAt w0 g _) (j := a) (by rw [setF_len, HP.out.2]; exact HP.out.1.la) x1
  rw [setF_a HP.out.1, ← hq1] at this
  exact this
 clear hx1 hy1 hq1 Q0 k0
 refine region_seq (c := 14) (f := 60) (ts := [(0, 0), (0, 1), (0, 2), (0, 3), (0, 4), (1, 5), (0, 6), (0, 7), (0, 8), (1, 9), (0, 10), (0, 11), (0, 12), (0, 13), (2, 14)]) (by kernel_rfl) (by kernel_rfl) ?_
 refine seq_W (o := ⟨some 14, .move (.tmp 0), 118, _, _, none⟩) (v := ?_) rfl rfl (fun wz => ?_) ?_
 rotate_left
 ·go_simp; (try with_reducible rfl)
 try simp only [Act.put, sqA, sqB, sqC]
 refine seq_W (o := ⟨some 15, .move (.tmp 1), 3, _, _, none⟩) (v := ?_) rfl rfl (fun wz => ?_) ?_
 rotate_left
 ·go_simp; (try with_reducible rfl)
 try simp only [Act.put, sqA, sqB, sqC]
 refine seq_W (o := ⟨some 16, .move (.tmp 0), 118, _, _, none⟩) (v := ?_) rfl rfl (fun wz => ?_) ?_
 rotate_left
 ·go_simp; (try with_reducible rfl)
 try simp only [Act.put, sqA, sqB, sqC]
 refine seq_W (o := ⟨some 17, .move (.tmp 1), 3, _, _, none⟩) (v := ?_) rfl rfl (fun wz => ?_) ?_
 rotate_left
 ·go_simp; (try with_reducible rfl)
 try simp only [Act.put, sqA, sqB, sqC]
 refine seq_W (o := ⟨some 18, .indexAddr 118 (.tmp 16) (.tmp 17), 0, _, _, none⟩) (v := ?_) rfl rfl (fun wz => ?_) ?_
 rotate_left
 ·go_simp; (try with_reducible rfl)
 try simp only [Act.put, sqA, sqB, sqC]
 refine seq_R (o := ⟨some 19, .load 120 (.tmp 18), 120, _, _, none⟩) (v := ?_) rfl rfl ?_ ?_
 rotate_left
 ·go_simp; (try with_reducible rfl)
 try simp only [Act.put, sqA, sqB, sqC]
 refine seq_W (o := ⟨some 20, .move (.tmp 0), 118, _, _, none⟩) (v := ?_) rfl rfl (fun wz => ?_) ?_
 rotate_left
 ·go_simp; (try with_reducible rfl)
 try simp only [Act.put, sqA, sqB, sqC]
 refine seq_W (o := ⟨some 21, .move (.tmp 2), 3, _, _, none⟩) (v := ?_) rfl rfl (fun wz => ?_) ?_
 rotate_left
 ·go_simp; (try with_reducible rfl)
 try simp only [Act.put, sqA, sqB, sqC]
 refine seq_W (o := ⟨some 22, .indexAddr 118 (.tmp 20) (.tmp 21), 0, _, _, none⟩) (v := ?_) rfl rfl (fun wz => ?_) ?_
 rotate_left
 ·go_simp; (try with_reducible rfl)
 try simp only [Act.put, sqA, sqB, sqC]
 refine seq_R (o := ⟨some 23, .load 120 (.tmp 22), 120, _, _, none⟩) (v := ?_) rfl rfl ?_ ?_
 rotate_left
 ·go_simp; (try with_reducible rfl)
 try simp only [Act.put, sqA, sqB, sqC]
 refine seq_W (o := ⟨some 24, .binOp .add 120 (.tmp 19) (.tmp 23) 120, 120, _, _, none⟩) (v := ?_) rfl rfl (fun wz => ?_) ?_
 rotate_left
 ·go_simp; (try with_reducible rfl)
 try simp only [Act.put, sqA, sqB, sqC]
 refine seq_W (o := ⟨some 25, .move (.tmp 5), 120, _, _, none⟩) (v := ?_) rfl rfl (fun wz => ?_) ?_
 rotate_left
 ·go_simp; (try with_reducible rfl)
 try simp only [Act.put, sqA, sqB, sqC]
 refine seq_W (o := ⟨some 26, .binOp .add 120 (.tmp 24) (.tmp 25) 120, 120, _, _, none⟩) (v := ?_) rfl rfl (fun wz => ?_) ?_
 rotate_left
 ·go_simp; (try with_reducible rfl)
 try simp only [Act.put, sqA, sqB, sqC]
 refine seq_W (o := ⟨some 27, .indexAddr 118 (.tmp 14) (.tmp 15), 0, _, _, none⟩) (v := ?_) rfl rfl (fun wz => ?_) ?_
 rotate_left
 ·go_simp; (try with_reducible rfl)
 try simp only [Act.put, sqA, sqB, sqC]
 refine seq_A (o := ⟨none, .store 120 (.tmp 27) (.tmp 26), 0, _, _, none⟩) rfl rfl (fun K hK => ?_)
 go_simp
 refine hK _ _ ?_
 clear hK K
 try simp only [Act.put, sqA, sqB, sqC]
 refine seq_nil (NoPanic.normal ?_)
 try simp only [Act.put, sqA, sqB, sqC]
 clear d1 d2 n1 n2 f1
 generalize (w0.setCell ⟨g, a, none⟩ (.int .u32 (x1 : Nat))).drew = V1 at *
 go_wp2_with fail
 obtain ⟨x2, hx2⟩ : ∃ u, u = (ror 16 (xorW q1.d q1.a)) := ⟨_, rfl⟩
 have d1 : V1.drew.cell? ⟨g, d, none⟩ = some (.int .u32 (q1.d : Nat)) := by
  have := VAt.cell (w := V1.drew) (Q1.out.1 : VAt V1 g _) (j := d) (by rw [setF_len, HP.out.2]; exact HP.out.1.ld)
  rwa [getF_d HP.out.1 HP.out.2] at this
 have d2 : V1.drew.cell? ⟨g, a, none⟩ = some (.int .u32 (q1.a : Nat)) := by
  have := VAt.cell (w := V1.drew) (Q1.out.1 : VAt V1 g _) (j := a) (by rw [setF_len, HP.out.2]; exact HP.out.1.la)
  rwa [getF_a HP.out.1 HP.out.2] at this
 obtain ⟨y2, hy2⟩ : ∃ u, u = xorW q1.d q1.a := ⟨_, rfl⟩
 have l2 : y2 < 4294967296 := by rw [hy2]; exact xorW_lt k1.2.2.2 k1.1
 have n1 : bits .xor .u32 (q1.d : Int) (q1.a : Int) = (y2 : Nat) := by rw [hy2]; exact xor_W _ _ k1.2.2.2 k1.1
 have hcall := right16 y2 l2 V1.drew
 rw [hy2, ← hx2, ← hy2] at hcall
 have hx2l : x2 < 4294967296 := by rw [hx2]; exact ror_lt (by rw [← hy2]; exact l2)
 obtain ⟨q2, hq2⟩ : ∃ q : Four, q = ⟨q1.a, q1.b, q1.c, x2⟩ := ⟨_, rfl⟩
 have k2 : q2.Ok := by rw [hq2]; exact ⟨k1.1, k1.2.1, k1.2.2.1, hx2l⟩
 have HQ2 : Hid (q2 = ⟨q1.a, q1.b, q1.c, (ror 16 (xorW q1.d q1.a))⟩) := by show _ = _; rw [hq2, hx2]
 have QV : Hid (VAt V1 g (setF v a b c d q1) ∧ Frm [g] w0 V1) := Q1
 clear hx2 hy2 Q1 k1
 refine region_seq (c := 11) (f := 60) (ts := [(0, 0), (0, 1), (0, 2), (0, 3), (0, 4), (1, 5), (0, 6), (0, 7), (0, 8), (1, 9), (0, 10), (2, 11), (0, 12), (2, 13)]) (by kernel_rfl) (by kernel_rfl) ?_
 refine seq_W (o := ⟨some 28, .move (.tmp 0), 118, _, _, none⟩) (v := ?_) rfl rfl (fun wz => ?_) ?_
 rotate_left
 ·go_simp; (try with_reducible rfl)
 try simp only [Act.put, sqA, sqB, sqC]
 refine seq_W (o := ⟨some 29, .move (.tmp 4), 3, _, _, none⟩) (v := ?_) rfl rfl (fun wz => ?_) ?_
 rotate_left
 ·go_simp; (try with_reducible rfl)
 try simp only [Act.put, sqA, sqB, sqC]
 refine seq_W (o := ⟨some 30, .move (.tmp 0), 118, _, _, none⟩) (v := ?_) rfl rfl (fun wz => ?_) ?_
 rotate_left
 ·go_simp; (try with_reducible rfl)
 try simp only [Act.put, sqA, sqB, sqC]
 refine seq_W (o := ⟨some 31, .move (.tmp 4), 3, _, _, none⟩) (v := ?_) rfl rfl (fun wz => ?_) ?_
 rotate_left
 ·go_simp; (try with_reducible rfl)
 try simp only [Act.put, sqA, sqB, sqC]
 refine seq_W (o := ⟨some 32, .indexAddr 118 (.tmp 30) (.tmp 31), 0, _, _, none⟩) (v := ?_) rfl rfl (fun wz => ?_) ?_
 rotate_left
 ·go_simp; (try with_reducible rfl)
 try simp only [Act.put, sqA, sqB, sqC]
 refine seq_R (o := ⟨some 33, .load 120 (.tmp 32), 120, _, _, none⟩) (v := ?_) rfl rfl ?_ ?_
 rotate_left
 ·go_simp; (try with_reducible rfl)
 try simp only [Act.put, sqA, sqB, sqC]
 refine seq_W (o := ⟨some 34, .move (.tmp 0), 118, _, _, none⟩) (v := ?_) rfl rfl (fun wz => ?_) ?_
 rotate_left
 ·go_simp; (try with_reducible rfl)
 try simp only [Act.put, sqA, sqB, sqC]
 refine seq_W (o := ⟨some 35, .move (.tmp 1), 3, _, _, none⟩) (v := ?_) rfl rfl (fun wz => ?_) ?_
 rotate_left
 ·go_simp; (try with_reducible rfl)
 try simp only [Act.put, sqA, sqB, sqC]
 refine seq_W (o := ⟨some 36, .indexAddr 118 (.tmp 34) (.tmp 35), 0, _, _, none⟩) (v := ?_) rfl rfl (fun wz => ?_) ?_
 rotate_left
 ·go_simp; (try with_reducible rfl)
 try simp only [Act.put, sqA, sqB, sqC]
 refine seq_R (o := ⟨some 37, .load 120 (.tmp 36), 120, _, _, none⟩) (v := ?_) rfl rfl ?_ ?_
 rotate_left
 ·go_simp; (try with_reducible rfl)
 try simp only [Act.put, sqA, sqB, sqC]
 refine seq_W (o := ⟨some 38, .binOp .xor 120 (.tmp 33) (.tmp 37) 120, 120, _, _, none⟩) (v := ?_) rfl rfl (fun wz => ?_) ?_
 rotate_left
 ·go_simp; (try with_reducible rfl)
 try simp only [Act.put, sqA, sqB, sqC]
 refine seq_A (o := ⟨some 39, .call ⟨.value (.func 90), #[.tmp 38, .const (.int .i64 16)], #[120, 3]⟩, 120, _, _, none⟩) rfl rfl (fun K hK => ?_)
 go_simp
 refine hcall.mono ?_
 rintro e W2 ⟨rfl, hb2⟩
 have VB : VAt W2 g (setF v a b c d q1) := VAt.keep (w := V1.drew) (QV.out.1 : VAt V1 g _) (Frm.ofBelow (S := []) hb2) (by simp)
 have FB : Frm [g] w0 W2 := (QV.out.2.drew).trans (Frm.ofBelow hb2)
 have c1 : W2.cell? ⟨g, d, none⟩ = some (.int .u32 (q1.d : Nat)) := by
  have := VB.cell (j := d) (by rw [setF_len, HP.out.2]; exact HP.out.1.ld)
  rwa [getF_d HP.out.1 HP.out.2] at this
 have f1 : W2.frozen? ⟨g, d, none⟩ = false := VB.free d
 have Q2 : Hid (VAt (W2.setCell ⟨g, d, none⟩ (.int .u32 (x2 : Nat))) g (setF v a b c d q2) ∧ Frm [g] w0 (W2.setCell ⟨g, d, none⟩ (.int .u32 (x2 : Nat)))) := by
  refine ⟨?_, FB.setCell _ _ (by simp)⟩
  have := VB.set (j := d) (by rw [setF_len, HP.out.2]; exact HP.out.1.ld) x2
  rw [setF_d, ← hq2] at this
  exact this
 clear VB FB hb2 hcall QV hq2
 refine hK _ _ ?_
 clear hK K
 try simp only [Act.put, sqA, sqB, sqC]
 refine seq_W (o := ⟨some 40, .indexAddr 118 (.tmp 28) (.tmp 29), 0, _, _, none⟩) (v := ?_) rfl rfl (fun wz => ?_) ?_
 rotate_left
 ·go_simp; (try with_reducible rfl)
 try simp only [Act.put, sqA, sqB, sqC]
 refine seq_A (o := ⟨none, .store 120 (.tmp 40) (.tmp 39), 0, _, _, none⟩) rfl rfl (fun K hK => ?_)
 go_simp
 refine hK _ _ ?_
 clear hK K
 try simp only [Act.put, sqA, sqB, sqC]
 refine seq_nil (NoPanic.normal ?_)
 try simp only [Act.put, sqA, sqB, sqC]
 clear d1 d2 n1 c1 f1
 generalize W2.setCell ⟨g, d, none⟩ (.int .u32 (x2 : Nat)) = V2 at *
 go_wp2_with fail
 obtain ⟨x3, hx3⟩ : ∃ u, u = (addW q2.c q2.d) := ⟨_, rfl⟩
 have d1 : V2.drew.cell? ⟨g, c, none⟩ = some (.int .u32 (q2.c : Nat)) := by
  have := VAt.cell (w := V2.drew) (Q2.out.1 : VAt V2 g _) (j := c) (by rw [setF_len, HP.out.2]; exact HP.out.1.lc)
  rwa [getF_c HP.out.1 HP.out.2] at this
 have d2 : V2.drew.cell? ⟨g, d, none⟩ = some (.int .u32 (q2.d : Nat)) := by
  have := VAt.cell (w := V2.drew) (Q2.out.1 : VAt V2 g _) (j := d) (by rw [setF_len, HP.out.2]; exact HP.out.1.ld)
  rwa [getF_d HP.out.1 HP.out.2] at this
 have n1 : IntKind.u32.wrap ((q2.c : Int) + (q2.d : Int)) = (x3 : Nat) := by rw [IntKind.wrap_u32, hx3]; exact add_W _ _
 have hx3l : x3 < 4294967296 := by rw [hx3]; exact addW_lt _ _
 obtain ⟨q3, hq3⟩ : ∃ q : Four, q = ⟨q2.a, q2.b, x3, q2.d⟩ := ⟨_, rfl⟩
 have k3 : q3.Ok := by rw [hq3]; exact ⟨k2.1, k2.2.1, hx3l, k2.2.2.2⟩
 have HQ3 : Hid (q3 = ⟨q2.a, q2.b, (addW q2.c q2.d), q2.d⟩) := by show _ = _; rw [hq3, hx3]
 have f1 : V2.drew.frozen? ⟨g, c, none⟩ = false := VAt.free (w := V2.drew) (Q2.out.1 : VAt V2 g _) c
 have Q3 : Hid (VAt (V2.setCell ⟨g, c, none⟩ (.int .u32 (x3 : Nat))).drew g (setF v a b c d q3) ∧ Frm [g] w0 (V2.setCell ⟨g, c, none⟩ (.int .u32 (x3 : Nat))).drew) := by
  refine ⟨?_, (Q2.out.2.setCell _ _ (by simp)).drew⟩
  have := VAt.set (Q2.out.1 : VAt V2 g _) (j := c) (by rw [setF_len, HP.out.2]; exact HP.out.1.lc) x3
  rw [setF_c HP.out.1, ← hq3] at this
  exact this
 clear hx3 hq3 Q2 k2
 refine region_seq (c := 12) (f := 60) (ts := [(0, 0), (0, 1), (0, 2), (0, 3), (0, 4), (1, 5), (0, 6), (0, 7), (0, 8), (1, 9), (0, 10), (0, 11), (2, 12)]) (by kernel_rfl) (by kernel_rfl) ?_
 refine seq_W (o := ⟨some 41, .move (.tmp 0), 118, _, _, none⟩) (v := ?_) rfl rfl (fun wz => ?_) ?_
 rotate_left
 ·go_simp; (try with_reducible rfl)
 try simp only [Act.put, sqA, sqB, sqC]
 refine seq_W (o := ⟨some 42, .move (.tmp 3), 3, _, _, none⟩) (v := ?_) rfl rfl (fun wz => ?_) ?_
 rotate_left
 ·go_simp; (try with_reducible rfl)
 try simp only [Act.put, sqA, sqB, sqC]
 refine seq_W (o := ⟨some 43, .move (.tmp 0), 118, _, _, none⟩) (v := ?_) rfl rfl (fun wz => ?_) ?_
 rotate_left
 ·go_simp; (try with_reducible rfl)
 try simp only [Act.put, sqA, sqB, sqC]
 refine seq_W (o := ⟨some 44, .move (.tmp 3), 3, _, _, none⟩) (v := ?_) rfl rfl (fun wz => ?_) ?_
 rotate_left
 ·go_simp; (try with_reducible rfl)
 try simp only [Act.put, sqA, sqB, sqC]
 refine seq_W (o := ⟨some 45, .indexAddr 118 (.tmp 43) (.tmp 44), 0, _, _, none⟩) (v := ?_) rfl rfl (fun wz => ?_) ?_
 rotate_left
 ·go_simp; (try with_reducible rfl)
 try simp only [Act.put, sqA, sqB, sqC]
 refine seq_R (o := ⟨some 46, .load 120 (.tmp 45), 120, _, _, none⟩) (v := ?_) rfl rfl ?_ ?_
 rotate_left
 ·go_simp; (try with_reducible rfl)
 try simp only [Act.put, sqA, sqB, sqC]
 refine seq_W (o := ⟨some 47, .move (.tmp 0), 118, _, _, none⟩) (v := ?_) rfl rfl (fun wz => ?_) ?_
 rotate_left
 ·go_simp; (try with_reducible rfl)
 try simp only [Act.put, sqA, sqB, sqC]
 refine seq_W (o := ⟨some 48, .move (.tmp 4), 3, _, _, none⟩) (v := ?_) rfl rfl (fun wz => ?_) ?_
 rotate_left
 ·go_simp; (try with_reducible rfl)
 try simp only [Act.put, sqA, sqB, sqC]
 refine seq_W (o := ⟨some 49, .indexAddr 118 (.tmp 47) (.tmp 48), 0, _, _, none⟩) (v := ?_) rfl rfl (fun wz => ?_) ?_
 rotate_left
 ·go_simp; (try with_reducible rfl)
 try simp only [Act.put, sqA, sqB, sqC]
 refine seq_R (o := ⟨some 50, .load 120 (.tmp 49), 120, _, _, none⟩) (v := ?_) rfl rfl ?_ ?_
 rotate_left
 ·go_simp; (try with_reducible rfl)
 try simp only [Act.put, sqA, sqB, sqC]
 refine seq_W (o := ⟨some 51, .binOp .add 120 (.tmp 46) (.tmp 50) 120, 120, _, _, none⟩) (v := ?_) rfl rfl (fun wz => ?_) ?_
 rotate_left
 ·go_simp; (try with_reducible rfl)
 try simp only [Act.put, sqA, sqB, sqC]
 refine seq_W (o := ⟨some 52, .indexAddr 118 (.tmp 41) (.tmp 42), 0, _, _, none⟩) (v := ?_) rfl rfl (fun wz => ?_) ?_
 rotate_left
 ·go_simp; (try with_reducible rfl)
 try simp only [Act.put, sqA, sqB, sqC]
 refine seq_A (o := ⟨none, .store 120 (.tmp 52) (.tmp 51), 0, _, _, none⟩) rfl rfl (fun K hK => ?_)
 go_simp
 refine hK _ _ ?_
 clear hK K
 try simp only [Act.put, sqA, sqB, sqC]
 refine seq_nil (NoPanic.normal ?_)
 try simp only [Act.put, sqA, sqB, sqC]
 clear d1 d2 n1 f1
 generalize (V2.setCell ⟨g, c, none⟩ (.int .u32 (x3 : Nat))).drew = V3 at *
 go_wp2_with fail
 obtain ⟨x4, hx4⟩ : ∃ u, u = (ror 12 (xorW q3.b q3.c)) := ⟨_, rfl⟩
 have d1 : V3.drew.cell? ⟨g, b, none⟩ = some (.int .u32 (q3.b : Nat)) := by
  have := VAt.cell (w := V3.drew) (Q3.out.1 : VAt V3 g _) (j := b) (by rw [setF_len, HP.out.2]; exact HP.out.1.lb)
  rwa [getF_b HP.out.1 HP.out.2] at this
 have d2 : V3.drew.cell? ⟨g, c, none⟩ = some (.int .u32 (q3.c : Nat)) := by
  have := VAt.cell (w := V3.drew) (Q3.out.1 : VAt V3 g _) (j := c) (by rw [setF_len, HP.out.2]; exact HP.out.1.lc)
  rwa [getF_c HP.out.1 HP.out.2] at this
 obtain ⟨y4, hy4⟩ : ∃ u, u = xorW q3.b q3.c := ⟨_, rfl⟩
 have l4 : y4 < 4294967296 := by rw [hy4]; exact xorW_lt k3.2.1 k3.2.2.1
 have n1 : bits .xor .u32 (q3.b : Int) (q3.c : Int) = (y4 : Nat) := by rw [hy4]; exact xor_W _ _ k3.2.1 k3.2.2.1
 have hcall := right12 y4 l4 V3.drew
 rw [hy4, ← hx4, ← hy4] at hcall
 have hx4l : x4 < 4294967296 := by rw [hx4]; exact ror_lt (by rw [← hy4]; exact l4)
 obtain ⟨q4, hq4⟩ : ∃ q : Four, q = ⟨q3.a, x4, q3.c, q3.d⟩ := ⟨_, rfl⟩
 have k4 : q4.Ok := by rw [hq4]; exact ⟨k3.1, hx4l, k3.2.2.1, k3.2.2.2⟩
 have HQ4 : Hid (q4 = ⟨q3.a, (ror 12 (xorW q3.b q3.c)), q3.c, q3.d⟩) := by show _ = _; rw [hq4, hx4]
 have QV : Hid (VAt V3 g (setF v a b c d q3) ∧ Frm [g] w0 V3) := Q3
 clear hx4 hy4 Q3 k3
 refine region_seq (c := 11) (f := 60) (ts := [(0, 0), (0, 1), (0, 2), (0, 3), (0, 4), (1, 5), (0, 6), (0, 7), (0, 8), (1, 9), (0, 10), (2, 11), (0, 12), (2, 13)]) (by kernel_rfl) (by kernel_rfl) ?_
 refine seq_W (o := ⟨some 53, .move (.tmp 0), 118, _, _, none⟩) (v := ?_) rfl rfl (fun wz => ?_) ?_
 rotate_left
 ·go_simp; (try with_reducible rfl)
 try simp only [Act.put, sqA, sqB, sqC]
 refine seq_W (o := ⟨some 54, .move (.tmp 2), 3, _, _, none⟩) (v := ?_) rfl rfl (fun wz => ?_) ?_
 rotate_left
 ·go_simp; (try with_reducible rfl)
 try simp only [Act.put, sqA, sqB, sqC]
 refine seq_W (o := ⟨some 55, .move (.tmp 0), 118, _, _, none⟩) (v := ?_) rfl rfl (fun wz => ?_) ?_
 rotate_left
 ·go_simp; (try with_reducible rfl)
 try simp only [Act.put, sqA, sqB, sqC]
 refine seq_W (o := ⟨some 56, .move (.tmp 2), 3, _, _, none⟩) (v := ?_) rfl rfl (fun wz => ?_) ?_
 rotate_left
 ·go_simp; (try with_reducible rfl)
 try simp only [Act.put, sqA, sqB, sqC]
 refine seq_W (o := ⟨some 57, .indexAddr 118 (.tmp 55) (.tmp 56), 0, _, _, none⟩) (v := ?_) rfl rfl (fun wz => ?_) ?_
 rotate_left
 ·go_simp; (try with_reducible rfl)
 try simp only [Act.put, sqA, sqB, sqC]
 refine seq_R (o := ⟨some 58, .load 120 (.tmp 57), 120, _, _, none⟩) (v := ?_) rfl rfl ?_ ?_
 rotate_left
 ·go_simp; (try with_reducible rfl)
 try simp only [Act.put, sqA, sqB, sqC]
 refine seq_W (o := ⟨some 59, .move (.tmp 0), 118, _, _, none⟩) (v := ?_) rfl rfl (fun wz => ?_) ?_
 rotate_left
 ·go_simp; (try with_reducible rfl)
 try simp only [Act.put, sqA, sqB, sqC]
 refine seq_W (o := ⟨some 60, .move (.tmp 3), 3, _, _, none⟩) (v := ?_) rfl rfl (fun wz => ?_) ?_
 rotate_left
 ·go_simp; (try with_reducible rfl)
 try simp only [Act.put, sqA, sqB, sqC]
 refine seq_W (o := ⟨some 61, .indexAddr 118 (.tmp 59) (.tmp 60), 0, _, _, none⟩) (v := ?_) rfl rfl (fun wz => ?_) ?_
 rotate_left
 ·go_simp; (try with_reducible rfl)
 try simp only [Act.put, sqA, sqB, sqC]
 refine seq_R (o := ⟨some 62, .load 120 (.tmp 61), 120, _, _, none⟩) (v := ?_) rfl rfl ?_ ?_
 rotate_left
 ·go_simp; (try with_reducible rfl)
 try simp only [Act.put, sqA, sqB, sqC]
 refine seq_W (o := ⟨some 63, .binOp .xor 120 (.tmp 58) (.tmp 62) 120, 120, _, _, none⟩) (v := ?_) rfl rfl (fun wz => ?_) ?_
 rotate_left
 ·go_simp; (try with_reducible rfl)
 try simp only [Act.put, sqA, sqB, sqC]
 refine seq_A (o := ⟨some 64, .call ⟨.value (.func 90), #[.tmp 63, .const (.int .i64 12)], #[120, 3]⟩, 120, _, _, none⟩) rfl rfl (fun K hK => ?_)
 go_simp
 refine hcall.mono ?_
 rintro e W4 ⟨rfl, hb4⟩
 have VB : VAt W4 g (setF v a b c d q3) := VAt.keep (w := V3.drew) (QV.out.1 : VAt V3 g _) (Frm.ofBelow (S := []) hb4) (by simp)
 have FB : Frm [g] w0 W4 := (QV.out.2.drew).trans (Frm.ofBelow hb4)
 have c1 : W4.cell? ⟨g, b, none⟩ = some (.int .u32 (q3.b : Nat)) := by
  have := VB.cell (j := b) (by rw [setF_len, HP.out.2]; exact HP.out.1.lb)
  rwa [getF_b HP.out.1 HP.out.2] at this
 have f1 : W4.frozen? ⟨g, b, none⟩ = false := VB.free b
 have Q4 : Hid (VAt (W4.setCell ⟨g, b, none⟩ (.int .u32 (x4 : Nat))) g (setF v a b c d q4) ∧ Frm [g] w0 (W4.setCell ⟨g, b, none⟩ (.int .u32 (x4 : Nat)))) := by
  refine ⟨?_, FB.setCell _ _ (by simp)⟩
  have := VB.set (j := b) (by rw [setF_len, HP.out.2]; exact HP.out.1.lb) x4
  rw [setF_b HP.out.1, ← hq4] at this
  exact this
 clear VB FB hb4 hcall QV hq4
 refine hK _ _ ?_
 clear hK K
 try simp only [Act.put, sqA, sqB, sqC]
 refine seq_W (o := ⟨some 65, .indexAddr 118 (.tmp 53) (.tmp 54), 0, _, _, none⟩) (v := ?_) rfl rfl (fun wz => ?_) ?_
 rotate_left
 ·go_simp; (try with_reducible rfl)
 try simp only [Act.put, sqA, sqB, sqC]
 refine seq_A (o := ⟨none, .store 120 (.tmp 65) (.tmp 64), 0, _, _, none⟩) rfl rfl (fun K hK => ?_)
 go_simp
 refine hK _ _ ?_
 clear hK K
 try simp only [Act.put, sqA, sqB, sqC]
 refine seq_nil (NoPanic.normal ?_)
 try simp only [Act.put, sqA, sqB, sqC]
 clear d1 d2 n1 c1 f1
 generalize W4.setCell ⟨g, b, none⟩ (.int .u32 (x4 : Nat)) = V4 at *
 go_wp2_with fail
 obtain ⟨x5, hx5⟩ : ∃ u, u = (addW q4.a (addW q4.b y)) := ⟨_, rfl⟩
 have d1 : V4.drew.cell? ⟨g, a, none⟩ = some (.int .u32 (q4.a : Nat)) := by
  have := VAt.cell (w := V4.drew) (Q4.out.1 : VAt V4 g _) (j := a) (by rw [setF_len, HP.out.2]; exact HP.out.1.la)
  rwa [getF_a HP.out.1 HP.out.2] at this
 have d2 : V4.drew.cell? ⟨g, b, none⟩ = some (.int .u32 (q4.b : Nat)) := by
  have := VAt.cell (w := V4.drew) (Q4.out.1 : VAt V4 g _) (j := b) (by rw [setF_len, HP.out.2]; exact HP.out.1.lb)
  rwa [getF_b HP.out.1 HP.out.2] at this
 obtain ⟨y5, hy5⟩ : ∃ u, u = addW q4.a q4.b := ⟨_, rfl⟩
 have n1 : IntKind.u32.wrap ((q4.a : Int) + (q4.b : Int)) = (y5 : Nat) := by rw [IntKind.wrap_u32, hy5]; exact add_W _ _
 have n2 : IntKind.u32.wrap ((y5 : Int) + (y : Int)) = (x5 : Nat) := by rw [IntKind.wrap_u32, hx5, ← addW_assoc, hy5]; exact add_W _ _
 have hx5l : x5 < 4294967296 := by rw [hx5]; exact addW_lt _ _
 obtain ⟨q5, hq5⟩ : ∃ q : Four, q = ⟨x5, q4.b, q4.c, q4.d⟩ := ⟨_, rfl⟩
 have k5 : q5.Ok := by rw [hq5]; exact ⟨hx5l, k4.2.1, k4.2.2.1, k4.2.2.2⟩
 have HQ5 : Hid (q5 = ⟨(addW q4.a (addW q4.b y)), q4.b, q4.c, q4.d⟩) := by show _ = _; rw [hq5, hx5]
 have f1 : V4.drew.frozen? ⟨g, a, none⟩ = false := VAt.free (w := V4.drew) (Q4.out.1 : VAt V4 g _) a
 have Q5 : Hid (VAt (V4.setCell ⟨g, a, none⟩ (.int .u32 (x5 : Nat))).drew g (setF v a b c d q5) ∧ Frm [g] w0 (V4.setCell ⟨g, a, none⟩ (.int .u32 (x5 : Nat))).drew) := by
  refine ⟨?_, (Q4.out.2.setCell _ _ (by simp)).drew⟩
  have := VAt.set (Q4.out.1 : VAt V4 g _) (j := a) (by rw [setF_len, HP.out.2]; exact HP.out.1.la) x5
  rw [setF_a HP.out.1, ← hq5] at this
  exact this
 clear hx5 hy5 hq5 Q4 k4
 refine region_seq (c := 14) (f := 60) (ts := [(0, 0), (0, 1), (0, 2), (0, 3), (0, 4), (1, 5), (0, 6), (0, 7), (0, 8), (1, 9), (0, 10), (0, 11), (0, 12), (0, 13), (2, 14)]) (by kernel_rfl) (by kernel_rfl) ?_
 refine seq_W (o := ⟨some 66, .move (.tmp 0), 118, _, _, none⟩) (v := ?_) rfl rfl (fun wz => ?_) ?_
 rotate_left
 ·go_simp; (try with_reducible rfl)
 try simp only [Act.put, sqA, sqB, sqC]
 refine seq_W (o := ⟨some 67, .move (.tmp 1), 3, _, _, none⟩) (v := ?_) rfl rfl (fun wz => ?_) ?_
 rotate_left
 ·go_simp; (try with_reducible rfl)
 try simp only [Act.put, sqA, sqB, sqC]
 refine seq_W (o := ⟨some 68, .move (.tmp 0), 118, _, _, none⟩) (v := ?_) rfl rfl (fun wz => ?_) ?_
 rotate_left
 ·go_simp; (try with_reducible rfl)
 try simp only [Act.put, sqA, sqB, sqC]
 refine seq_W (o := ⟨some 69, .move (.tmp 1), 3, _, _, none⟩) (v := ?_) rfl rfl (fun wz => ?_) ?_
 rotate_left
 ·go_simp; (try with_reducible rfl)
 try simp only [Act.put, sqA, sqB, sqC]
 refine seq_W (o := ⟨some 70, .indexAddr 118 (.tmp 68) (.tmp 69), 0, _, _, none⟩) (v := ?_) rfl rfl (fun wz => ?_) ?_
 rotate_left
 ·go_simp; (try with_reducible rfl)
 try simp only [Act.put, sqA, sqB, sqC]
 refine seq_R (o := ⟨some 71, .load 120 (.tmp 70), 120, _, _, none⟩) (v := ?_) rfl rfl ?_ ?_
 rotate_left
 ·go_simp; (try with_reducible rfl)
 try simp only [Act.put, sqA, sqB, sqC]
 refine seq_W (o := ⟨some 72, .move (.tmp 0), 118, _, _, none⟩) (v := ?_) rfl rfl (fun wz => ?_) ?_
 rotate_left
 ·go_simp; (try with_reducible rfl)
 try simp only [Act.put, sqA, sqB, sqC]
 refine seq_W (o := ⟨some 73, .move (.tmp 2), 3, _, _, none⟩) (v := ?_) rfl rfl (fun wz => ?_) ?_
 rotate_left
 ·go_simp; (try with_reducible rfl)
 try simp only [Act.put, sqA, sqB, sqC]
 refine seq_W (o := ⟨some 74, .indexAddr 118 (.tmp 72) (.tmp 73), 0, _, _, none⟩) (v := ?_) rfl rfl (fun wz => ?_) ?_
 rotate_left
 ·go_simp; (try with_reducible rfl)
 try simp only [Act.put, sqA, sqB, sqC]
 refine seq_R (o := ⟨some 75, .load 120 (.tmp 74), 120, _, _, none⟩) (v := ?_) rfl rfl ?_ ?_
 rotate_left
 ·go_simp; (try with_reducible rfl)
 try simp only [Act.put, sqA, sqB, sqC]
 refine seq_W (o := ⟨some 76, .binOp .add 120 (.tmp 71) (.tmp 75) 120, 120, _, _, none⟩) (v := ?_) rfl rfl (fun wz => ?_) ?_
 rotate_left
 ·go_simp; (try with_reducible rfl)
 try simp only [Act.put, sqA, sqB, sqC]
 refine seq_W (o := ⟨some 77, .move (.tmp 6), 120, _, _, none⟩) (v := ?_) rfl rfl (fun wz => ?_) ?_
 rotate_left
 ·go_simp; (try with_reducible rfl)
 try simp only [Act.put, sqA, sqB, sqC]
 refine seq_W (o := ⟨some 78, .binOp .add 120 (.tmp 76) (.tmp 77) 120, 120, _, _, none⟩) (v := ?_) rfl rfl (fun wz => ?_) ?_
 rotate_left
 ·go_simp; (try with_reducible rfl)
 try simp only [Act.put, sqA, sqB, sqC]
 refine seq_W (o := ⟨some 79, .indexAddr 118 (.tmp 66) (.tmp 67), 0, _, _, none⟩) (v := ?_) rfl rfl (fun wz => ?_) ?_
 rotate_left
 ·go_simp; (try with_reducible rfl)
 try simp only [Act.put, sqA, sqB, sqC]
 refine seq_A (o := ⟨none, .store 120 (.tmp 79) (.tmp 78), 0, _, _, none⟩) rfl rfl (fun K hK => ?_)
 go_simp
 refine hK _ _ ?_
 clear hK K
 try simp only [Act.put, sqA, sqB, sqC]
 refine seq_nil (NoPanic.normal ?_)
 try simp only [Act.put, sqA, sqB, sqC]
 clear d1 d2 n1 n2 f1
 generalize (V4.setCell ⟨g, a, none⟩ (.int .u32 (x5 : Nat))).drew = V5 at *
 go_wp2_with fail
 obtain ⟨x6, hx6⟩ : ∃ u, u = (ror 8 (xorW q5.d q5.a)) := ⟨_, rfl⟩
 have d1 : V5.drew.cell? ⟨g, d, none⟩ = some (.int .u32 (q5.d : Nat)) := by
  have := VAt.cell (w := V5.drew) (Q5.out.1 : VAt V5 g _) (j := d) (by rw [setF_len, HP.out.2]; exact HP.out.1.ld)
  rwa [getF_d HP.out.1 HP.out.2] at this
 have d2 : V5.drew.cell? ⟨g, a, none⟩ = some (.int .u32 (q5.a : Nat)) := by
  have := VAt.cell (w := V5.drew) (Q5.out.1 : VAt V5 g _) (j := a) (by rw [setF_len, HP.out.2]; exact HP.out.1.la)
  rwa [getF_a HP.out.1 HP.out.2] at this
 obtain ⟨y6, hy6⟩ : ∃ u, u = xorW q5.d q5.a := ⟨_, rfl⟩
 have l6 : y6 < 4294967296 := by rw [hy6]; exact xorW_lt k5.2.2.2 k5.1
 have n1 : bits .xor .u32 (q5.d : Int) (q5.a : Int) = (y6 : Nat) := by rw [hy6]; exact xor_W _ _ k5.2.2.2 k5.1
 have hcall := right8 y6 l6 V5.drew
 rw [hy6, ← hx6, ← hy6] at hcall
 have hx6l : x6 < 4294967296 := by rw [hx6]; exact ror_lt (by rw [← hy6]; exact l6)
 obtain ⟨q6, hq6⟩ : ∃ q : Four, q = ⟨q5.a, q5.b, q5.c, x6⟩ := ⟨_, rfl⟩
 have k6 : q6.Ok := by rw [hq6]; exact ⟨k5.1, k5.2.1, k5.2.2.1, hx6l⟩
 have HQ6 : Hid (q6 = ⟨q5.a, q5.b, q5.c, (ror 8 (xorW q5.d q5.a))⟩) := by show _ = _; rw [hq6, hx6]
 have QV : Hid (VAt V5 g (setF v a b c d q5) ∧ Frm [g] w0 V5) := Q5
 clear hx6 hy6 Q5 k5
 refine region_seq (c := 11) (f := 60) (ts := [(0, 0), (0, 1), (0, 2), (0, 3), (0, 4), (1, 5), (0, 6), (0, 7), (0, 8), (1, 9), (0, 10), (2, 11), (0, 12), (2, 13)]) (by kernel_rfl) (by kernel_rfl) ?_
 refine seq_W (o := ⟨some 80, .move (.tmp 0), 118, _, _, none⟩) (v := ?_) rfl rfl (fun wz => ?_) ?_
 rotate_left
 ·go_simp; (try with_reducible rfl)
 try simp only [Act.put, sqA, sqB, sqC]
 refine seq_W (o := ⟨some 81, .move (.tmp 4), 3, _, _, none⟩) (v := ?_) rfl rfl (fun wz => ?_) ?_
 rotate_left
 ·go_simp; (try with_reducible rfl)
 try simp only [Act.put, sqA, sqB, sqC]
 refine seq_W (o := ⟨some 82, .move (.tmp 0), 118, _, _, none⟩) (v := ?_) rfl rfl (fun wz => ?_) ?_
 rotate_left
 ·go_simp; (try with_reducible rfl)
 try simp only [Act.put, sqA, sqB, sqC]
 refine seq_W (o := ⟨some 83, .move (.tmp 4), 3, _, _, none⟩) (v := ?_) rfl rfl (fun wz => ?_) ?_
 rotate_left
 ·go_simp; (try with_reducible rfl)
 try simp only [Act.put, sqA, sqB, sqC]
 refine seq_W (o := ⟨some 84, .indexAddr 118 (.tmp 82) (.tmp 83), 0, _, _, none⟩) (v := ?_) rfl rfl (fun wz => ?_) ?_
 rotate_left
 ·go_simp; (try with_reducible rfl)
 try simp only [Act.put, sqA, sqB, sqC]
 refine seq_R (o := ⟨some 85, .load 120 (.tmp 84), 120, _, _, none⟩) (v := ?_) rfl rfl ?_ ?_
 rotate_left
 ·go_simp; (try with_reducible rfl)
 try simp only [Act.put, sqA, sqB, sqC]
 refine seq_W (o := ⟨some 86, .move (.tmp 0), 118, _, _, none⟩) (v := ?_) rfl rfl (fun wz => ?_) ?_
 rotate_left
 ·go_simp; (try with_reducible rfl)
 try simp only [Act.put, sqA, sqB, sqC]
 refine seq_W (o := ⟨some 87, .move (.tmp 1), 3, _, _, none⟩) (v := ?_) rfl rfl (fun wz => ?_) ?_
 rotate_left
 ·go_simp; (try with_reducible rfl)
 try simp only [Act.put, sqA, sqB, sqC]
 refine seq_W (o := ⟨some 88, .indexAddr 118 (.tmp 86) (.tmp 87), 0, _, _, none⟩) (v := ?_) rfl rfl (fun wz => ?_) ?_
 rotate_left
 ·go_simp; (try with_reducible rfl)
 try simp only [Act.put, sqA, sqB, sqC]
 refine seq_R (o := ⟨some 89, .load 120 (.tmp 88), 120, _, _, none⟩) (v := ?_) rfl rfl ?_ ?_
 rotate_left
 ·go_simp; (try with_reducible rfl)
 try simp only [Act.put, sqA, sqB, sqC]
 refine seq_W (o := ⟨some 90, .binOp .xor 120 (.tmp 85) (.tmp 89) 120, 120, _, _, none⟩) (v := ?_) rfl rfl (fun wz => ?_) ?_
 rotate_left
 ·go_simp; (try with_reducible rfl)
 try simp only [Act.put, sqA, sqB, sqC]
 refine seq_A (o := ⟨some 91, .call ⟨.value (.func 90), #[.tmp 90, .const (.int .i64 8)], #[120, 3]⟩, 120, _, _, none⟩) rfl rfl (fun K hK => ?_)
 go_simp
 refine hcall.mono ?_
 rintro e W6 ⟨rfl, hb6⟩
 have VB : VAt W6 g (setF v a b c d q5) := VAt.keep (w := V5.drew) (QV.out.1 : VAt V5 g _) (Frm.ofBelow (S := []) hb6) (by simp)
 have FB : Frm [g] w0 W6 := (QV.out.2.drew).trans (Frm.ofBelow hb6)
 have c1 : W6.cell? ⟨g, d, none⟩ = some (.int .u32 (q5.d : Nat)) := by
  have := VB.cell (j := d) (by rw [setF_len, HP.out.2]; exact HP.out.1.ld)
  rwa [getF_d HP.out.1 HP.out.2] at this
 have f1 : W6.frozen? ⟨g, d, none⟩ = false := VB.free d
 have Q6 : Hid (VAt (W6.setCell ⟨g, d, none⟩ (.int .u32 (x6 : Nat))) g (setF v a b c d q6) ∧ Frm [g] w0 (W6.setCell ⟨g, d, none⟩ (.int .u32 (x6 : Nat)))) := by
  refine ⟨?_, FB.setCell _ _ (by simp)⟩
  have := VB.set (j := d) (by rw [setF_len, HP.out.2]; exact HP.out.1.ld) x6
  rw [setF_d, ← hq6] at this
  exact this
 clear VB FB hb6 hcall QV hq6
 refine hK _ _ ?_
 clear hK K
 try simp only [Act.put, sqA, sqB, sqC]
 refine seq_W (o := ⟨some 92, .indexAddr 118 (.tmp 80) (.tmp 81), 0, _, _, none⟩) (v := ?_) rfl rfl (fun wz => ?_) ?_
 rotate_left
 ·go_simp; (try with_reducible rfl)
 try simp only [Act.put, sqA, sqB, sqC]
 refine seq_A (o := ⟨none, .store 120 (.tmp 92) (.tmp 91), 0, _, _, none⟩) rfl rfl (fun K hK => ?_)
 go_simp
 refine hK _ _ ?_
 clear hK K
 try simp only [Act.put, sqA, sqB, sqC]
 refine seq_nil (NoPanic.normal ?_)
 try simp only [Act.put, sqA, sqB, sqC]
 clear d1 d2 n1 c1 f1
 generalize W6.setCell ⟨g, d, none⟩ (.int .u32 (x6 : Nat)) = V6 at *
 go_wp2_with fail
 obtain ⟨x7, hx7⟩ : ∃ u, u = (addW q6.c q6.d) := ⟨_, rfl⟩
 have d1 : V6.drew.cell? ⟨g, c, none⟩ = some (.int .u32 (q6.c : Nat)) := by
  have := VAt.cell (w := V6.drew) (Q6.out.1 : VAt V6 g _) (j := c) (by rw [setF_len, HP.out.2]; exact HP.out.1.lc)
  rwa [getF_c HP.out.1 HP.out.2] at this
 have d2 : V6.drew.cell? ⟨g, d, none⟩ = some (.int .u32 (q6.d : Nat)) := by
  have := VAt.cell (w := V6.drew) (Q6.out.1 : VAt V6 g _) (j := d) (by rw [setF_len, HP.out.2]; exact HP.out.1.ld)
  rwa [getF_d HP.out.1 HP.out.2] at this
 have n1 : IntKind.u32.wrap ((q6.c : Int) + (q6.d : Int)) = (x7 : Nat) := by rw [IntKind.wrap_u32, hx7]; exact add_W _ _
 have hx7l : x7 < 4294967296 := by rw [hx7]; exact addW_lt _ _
 obtain ⟨q7, hq7⟩ : ∃ q : Four, q = ⟨q6.a, q6.b, x7, q6.d⟩ := ⟨_, rfl⟩
 have k7 : q7.Ok := by rw [hq7]; exact ⟨k6.1, k6.2.1, hx7l, k6.2.2.2⟩
 have HQ7 : Hid (q7 = ⟨q6.a, q6.b, (addW q6.c q6.d), q6.d⟩) := by show _ = _; rw [hq7, hx7]
 have f1 : V6.drew.frozen? ⟨g, c, none⟩ = false := VAt.free (w := V6.drew) (Q6.out.1 : VAt V6 g _) c
 have Q7 : Hid (VAt (V6.setCell ⟨g, c, none⟩ (.int .u32 (x7 : Nat))).drew g (setF v a b c d q7) ∧ Frm [g] w0 (V6.setCell ⟨g, c, none⟩ (.int .u32 (x7 : Nat))).drew) := by
  refine ⟨?_, (Q6.out.2.setCell _ _ (by simp)).drew⟩
  have := VAt.set (Q6.out.1 : VAt V6 g _) (j := c) (by rw [setF_len, HP.out.2]; exact HP.out.1.lc) x7
  rw [setF_c HP.out.1, ← hq7] at this
  exact this
 clear hx7 hq7 Q6 k6
 refine region_seq (c := 12) (f := 60) (ts := [(0, 0), (0, 1), (0, 2), (0, 3), (0, 4), (1, 5), (0, 6), (0, 7), (0, 8), (1, 9), (0, 10), (0, 11), (2, 12)]) (by kernel_rfl) (by kernel_rfl) ?_
 refine seq_W (o := ⟨some 93, .move (.tmp 0), 118, _, _, none⟩) (v := ?_) rfl rfl (fun wz => ?_) ?_
 rotate_left
 ·go_simp; (try with_reducible rfl)
 try simp only [Act.put, sqA, sqB, sqC]
 refine seq_W (o := ⟨some 94, .move (.tmp 3), 3, _, _, none⟩) (v := ?_) rfl rfl (fun wz => ?_) ?_
 rotate_left
 ·go_simp; (try with_reducible rfl)
 try simp only [Act.put, sqA, sqB, sqC]
 refine seq_W (o := ⟨some 95, .move (.tmp 0), 118, _, _, none⟩) (v := ?_) rfl rfl (fun wz => ?_) ?_
 rotate_left
 ·go_simp; (try with_reducible rfl)
 try simp only [Act.put, sqA, sqB, sqC]
 refine seq_W (o := ⟨some 96, .move (.tmp 3), 3, _, _, none⟩) (v := ?_) rfl rfl (fun wz => ?_) ?_
 rotate_left
 ·go_simp; (try with_reducible rfl)
 try simp only [Act.put, sqA, sqB, sqC]
 refine seq_W (o := ⟨some 97, .indexAddr 118 (.tmp 95) (.tmp 96), 0, _, _, none⟩) (v := ?_) rfl rfl (fun wz => ?_) ?_
 rotate_left
 ·go_simp; (try with_reducible rfl)
 try simp only [Act.put, sqA, sqB, sqC]
 refine seq_R (o := ⟨some 98, .load 120 (.tmp 97), 120, _, _, none⟩) (v := ?_) rfl rfl ?_ ?_
 rotate_left
 ·go_simp; (try with_reducible rfl)
 try simp only [Act.put, sqA, sqB, sqC]
 refine seq_W (o := ⟨some 99, .move (.tmp 0), 118, _, _, none⟩) (v := ?_) rfl rfl (fun wz => ?_) ?_
 rotate_left
 ·go_simp; (try with_reducible rfl)
 try simp only [Act.put, sqA, sqB, sqC]
 refine seq_W (o := ⟨some 100, .move (.tmp 4), 3, _, _, none⟩) (v := ?_) rfl rfl (fun wz => ?_) ?_
 rotate_left
 ·go_simp; (try with_reducible rfl)
 try simp only [Act.put, sqA, sqB, sqC]
 refine seq_W (o := ⟨some 101, .indexAddr 118 (.tmp 99) (.tmp 100), 0, _, _, none⟩) (v := ?_) rfl rfl (fun wz => ?_) ?_
 rotate_left
 ·go_simp; (try with_reducible rfl)
 try simp only [Act.put, sqA, sqB, sqC]
 refine seq_R (o := ⟨some 102, .load 120 (.tmp 101), 120, _, _, none⟩) (v := ?_) rfl rfl ?_ ?_
 rotate_left
 ·go_simp; (try with_reducible rfl)
 try simp only [Act.put, sqA, sqB, sqC]
 refine seq_W (o := ⟨some 103, .binOp .add 120 (.tmp 98) (.tmp 102) 120, 120, _, _, none⟩) (v := ?_) rfl rfl (fun wz => ?_) ?_
 rotate_left
 ·go_simp; (try with_reducible rfl)
 try simp only [Act.put, sqA, sqB, sqC]
 refine seq_W (o := ⟨some 104, .indexAddr 118 (.tmp 93) (.tmp 94), 0, _, _, none⟩) (v := ?_) rfl rfl (fun wz => ?_) ?_
 rotate_left
 ·go_simp; (try with_reducible rfl)
 try simp only [Act.put, sqA, sqB, sqC]
 refine seq_A (o := ⟨none, .store 120 (.tmp 104) (.tmp 103), 0, _, _, none⟩) rfl rfl (fun K hK => ?_)
 go_simp
 refine hK _ _ ?_
 clear hK K
 try simp only [Act.put, sqA, sqB, sqC]
 refine seq_nil (NoPanic.normal ?_)
 try simp only [Act.put, sqA, sqB, sqC]
 clear d1 d2 n1 f1
 generalize (V6.setCell ⟨g, c, none⟩ (.int .u32 (x7 : Nat))).drew = V7 at *
 go_wp2_with fail
 obtain ⟨x8, hx8⟩ : ∃ u, u = (ror 7 (xorW q7.b q7.c)) := ⟨_, rfl⟩
 have d1 : V7.drew.cell? ⟨g, b, none⟩ = some (.int .u32 (q7.b : Nat)) := by
  have := VAt.cell (w := V7.drew) (Q7.out.1 : VAt V7 g _) (j := b) (by rw [setF_len, HP.out.2]; exact HP.out.1.lb)
  rwa [getF_b HP.out.1 HP.out.2] at this
 have d2 : V7.drew.cell? ⟨g, c, none⟩ = some (.int .u32 (q7.c : Nat)) := by
  have := VAt.cell (w := V7.drew) (Q7.out.1 : VAt V7 g _) (j := c) (by rw [setF_len, HP.out.2]; exact HP.out.1.lc)
  rwa [getF_c HP.out.1 HP.out.2] at this
 obtain ⟨y8, hy8⟩ : ∃ u, u = xorW q7.b q7.c := ⟨_, rfl⟩
 have l8 : y8 < 4294967296 := by rw [hy8]; exact xorW_lt k7.2.1 k7.2.2.1
 have n1 : bits .xor .u32 (q7.b : Int) (q7.c : Int) = (y8 : Nat) := by rw [hy8]; exact xor_W _ _ k7.2.1 k7.2.2.1
 have hcall := right7 y8 l8 V7.drew
 rw [hy8, ← hx8, ← hy8] at hcall
 have hx8l : x8 < 4294967296 := by rw [hx8]; exact ror_lt (by rw [← hy8]; exact l8)
 obtain ⟨q8, hq8⟩ : ∃ q : Four, q = ⟨q7.a, x8, q7.c, q7.d⟩ := ⟨_, rfl⟩
 have k8 : q8.Ok := by rw [hq8]; exact ⟨k7.1, hx8l, k7.2.2.1, k7.2.2.2⟩
 have HQ8 : Hid (q8 = ⟨q7.a, (ror 7 (xorW q7.b q7.c)), q7.c, q7.d⟩) := by show _ = _; rw [hq8, hx8]
 have QV : Hid (VAt V7 g (setF v a b c d q7) ∧ Frm [g] w0 V7) := Q7
 clear hx8 hy8 Q7 k7
 refine region_seq (c := 11) (f := 60) (ts := [(0, 0), (0, 1), (0, 2), (0, 3), (0, 4), (1, 5), (0, 6), (0, 7), (0, 8), (1, 9), (0, 10), (2, 11), (0, 12), (2, 13)]) (by kernel_rfl) (by kernel_rfl) ?_
 refine seq_W (o := ⟨some 105, .move (.tmp 0), 118, _, _, none⟩) (v := ?_) rfl rfl (fun wz => ?_) ?_
 rotate_left
 ·go_simp; (try with_reducible rfl)
 try simp only [Act.put, sqA, sqB, sqC]
 refine seq_W (o := ⟨some 106, .move (.tmp 2), 3, _, _, none⟩) (v := ?_) rfl rfl (fun wz => ?_) ?_
 rotate_left
 ·go_simp; (try with_reducible rfl)
 try simp only [Act.put, sqA, sqB, sqC]
 refine seq_W (o := ⟨some 107, .move (.tmp 0), 118, _, _, none⟩) (v := ?_) rfl rfl (fun wz => ?_) ?_
 rotate_left
 ·go_simp; (try with_reducible rfl)
 try simp only [Act.put, sqA, sqB, sqC]
 refine seq_W (o := ⟨some 108, .move (.tmp 2), 3, _, _, none⟩) (v := ?_) rfl rfl (fun wz => ?_) ?_
 rotate_left
 ·go_simp; (try with_reducible rfl)
 try simp only [Act.put, sqA, sqB, sqC]
 refine seq_W (o := ⟨some 109, .indexAddr 118 (.tmp 107) (.tmp 108), 0, _, _, none⟩) (v := ?_) rfl rfl (fun wz => ?_) ?_
 rotate_left
 ·go_simp; (try with_reducible rfl)
 try simp only [Act.put, sqA, sqB, sqC]
 refine seq_R (o := ⟨some 110, .load 120 (.tmp 109), 120, _, _, none⟩) (v := ?_) rfl rfl ?_ ?_
 rotate_left
 ·go_simp; (try with_reducible rfl)
 try simp only [Act.put, sqA, sqB, sqC]
 refine seq_W (o := ⟨some 111, .move (.tmp 0), 118, _, _, none⟩) (v := ?_) rfl rfl (fun wz => ?_) ?_
 rotate_left
 ·go_simp; (try with_reducible rfl)
 try simp only [Act.put, sqA, sqB, sqC]
 refine seq_W (o := ⟨some 112, .move (.tmp 3), 3, _, _, none⟩) (v := ?_) rfl rfl (fun wz => ?_) ?_
 rotate_left
 ·go_simp; (try with_reducible rfl)
 try simp only [Act.put, sqA, sqB, sqC]
 refine seq_W (o := ⟨some 113, .indexAddr 118 (.tmp 111) (.tmp 112), 0, _, _, none⟩) (v := ?_) rfl rfl (fun wz => ?_) ?_
 rotate_left
 ·go_simp; (try with_reducible rfl)
 try simp only [Act.put, sqA, sqB, sqC]
 refine seq_R (o := ⟨some 114, .load 120 (.tmp 113), 120, _, _, none⟩) (v := ?_) rfl rfl ?_ ?_
 rotate_left
 ·go_simp; (try with_reducible rfl)
 try simp only [Act.put, sqA, sqB, sqC]
 refine seq_W (o := ⟨some 115, .binOp .xor 120 (.tmp 110) (.tmp 114) 120, 120, _, _, none⟩) (v := ?_) rfl rfl (fun wz => ?_) ?_
 rotate_left
 ·go_simp; (try with_reducible rfl)
 try simp only [Act.put, sqA, sqB, sqC]
 refine seq_A (o := ⟨some 116, .call ⟨.value (.func 90), #[.tmp 115, .const (.int .i64 7)], #[120, 3]⟩, 120, _, _, none⟩) rfl rfl (fun K hK => ?_)
 go_simp
 refine hcall.mono ?_
 rintro e W8 ⟨rfl, hb8⟩
 have VB : VAt W8 g (setF v a b c d q7) := VAt.keep (w := V7.drew) (QV.out.1 : VAt V7 g _) (Frm.ofBelow (S := []) hb8) (by simp)
 have FB : Frm [g] w0 W8 := (QV.out.2.drew).trans (Frm.ofBelow hb8)
 have c1 : W8.cell? ⟨g, b, none⟩ = some (.int .u32 (q7.b : Nat)) := by
  have := VB.cell (j := b) (by rw [setF_len, HP.out.2]; exact HP.out.1.lb)
  rwa [getF_b HP.out.1 HP.out.2] at this
 have f1 : W8.frozen? ⟨g, b, none⟩ = false := VB.free b
 have Q8 : Hid (VAt (W8.setCell ⟨g, b, none⟩ (.int .u32 (x8 : Nat))) g (setF v a b c d q8) ∧ Frm [g] w0 (W8.setCell ⟨g, b, none⟩ (.int .u32 (x8 : Nat)))) := by
  refine ⟨?_, FB.setCell _ _ (by simp)⟩
  have := VB.set (j := b) (by rw [setF_len, HP.out.2]; exact HP.out.1.lb) x8
  rw [setF_b HP.out.1, ← hq8] at this
  exact this
 clear VB FB hb8 hcall QV hq8
 refine hK _ _ ?_
 clear hK K
 try simp only [Act.put, sqA, sqB, sqC]
 refine seq_W (o := ⟨some 117, .indexAddr 118 (.tmp 105) (.tmp 106), 0, _, _, none⟩) (v := ?_) rfl rfl (fun wz => ?_) ?_
 rotate_left
 ·go_simp; (try with_reducible rfl)
 try simp only [Act.put, sqA, sqB, sqC]
 refine seq_A (o := ⟨none, .store 120 (.tmp 117) (.tmp 116), 0, _, _, none⟩) rfl rfl (fun K hK => ?_)
 go_simp
 refine hK _ _ ?_
 clear hK K
 try simp only [Act.put, sqA, sqB, sqC]
 refine seq_nil (NoPanic.normal ?_)
 try simp only [Act.put, sqA, sqB, sqC]
 clear d1 d2 n1 c1 f1
 generalize W8.setCell ⟨g, b, none⟩ (.int .u32 (x8 : Nat)) = V8 at *
 have e : q8 = gF q0 x y := by rw [HQ8.out, HQ7.out, HQ6.out, HQ5.out, HQ4.out, HQ3.out, HQ2.out, HQ1.out]; rfl
 have q9 := Q8.out.1
 rw [e] at q9
 exact bodyPost_end (v := .tuple #[]) (by simp [results, Tryz.results82, go_sem]) rfl ⟨rfl, q9, Q8.out.2⟩
end Go.Proofs.YtoefgfiabfkfaaaGreatDoor
