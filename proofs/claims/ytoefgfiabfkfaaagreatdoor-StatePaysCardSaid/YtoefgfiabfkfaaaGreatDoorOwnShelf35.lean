/- The document's take: a block into eight words. -/
import Derived.Test.YtoefgfiabfkfaaaGreatDoorOwnShelf34
import Derived.Deep.Cut
namespace Go.Proofs.YtoefgfiabfkfaaaGreatDoor
open Go.RowKit

/-- Eight rows of four places, outside of block gv. -/
def PlAt (w : World) (pb gv : Nat) : Prop := pb ≠ gv ∧ ∀ i, i < 8 → ∃ q, q ≠ gv ∧ w.cell? ⟨pb, i, none⟩ = some (.slice (some ⟨q, 0, none⟩) 4 4) ∧ w.cell? ⟨q, 0, none⟩ = some (.int .i64 ((pl i).1 : Nat)) ∧ w.cell? ⟨q, 1, none⟩ = some (.int .i64 ((pl i).2.1 : Nat)) ∧ w.cell? ⟨q, 2, none⟩ = some (.int .i64 ((pl i).2.2.1 : Nat)) ∧ w.cell? ⟨q, 3, none⟩ = some (.int .i64 ((pl i).2.2.2 : Nat))
theorem cell_keep {w w' : World} {S : List Nat} {g j : Nat} {u : Value} (hf : Frm S w w') (hc : w.cell? ⟨g, j, none⟩ = some u) (hg : g ∉ S) : w'.cell? ⟨g, j, none⟩ = some u := by
 have hlt := World.block_lt_of_cell? w _ hc
 rw [← hc]
 simp [World.cell?, hf.block g hlt hg]
theorem PlAt.keep {w w' : World} {pb gv : Nat} (h : PlAt w pb gv) (hf : Frm [gv] w w') : PlAt w' pb gv := by
 refine ⟨h.1, fun i hi => ?_⟩
 obtain ⟨q, hq, h0, h1, h2, h3, h4⟩ := h.2 i hi
 have hq' : q ∉ [gv] := by simpa using hq
 exact ⟨q, hq, cell_keep hf h0 (by simpa using h.1), cell_keep hf h1 hq', cell_keep hf h2 hq', cell_keep hf h3 hq', cell_keep hf h4 hq'⟩
/-- The world behind the table of places. -/
def plW (W : World) : World := ((((((((W.alloc (.cells #[.int .i64 0, .int .i64 4, .int .i64 8, .int .i64 12] 3)).alloc (.cells #[.int .i64 1, .int .i64 5, .int .i64 9, .int .i64 13] 3)).alloc (.cells #[.int .i64 2, .int .i64 6, .int .i64 10, .int .i64 14] 3)).alloc (.cells #[.int .i64 3, .int .i64 7, .int .i64 11, .int .i64 15] 3)).alloc (.cells #[.int .i64 0, .int .i64 5, .int .i64 10, .int .i64 15] 3)).alloc (.cells #[.int .i64 1, .int .i64 6, .int .i64 11, .int .i64 12] 3)).alloc (.cells #[.int .i64 2, .int .i64 7, .int .i64 8, .int .i64 13] 3)).alloc (.cells #[.int .i64 3, .int .i64 4, .int .i64 9, .int .i64 14] 3)).alloc (.cells #[.slice (some ⟨W.heap.size, 0, none⟩) 4 4, .slice (some ⟨W.heap.size + 1, 0, none⟩) 4 4, .slice (some ⟨W.heap.size + 1 + 1, 0, none⟩) 4 4, .slice (some ⟨W.heap.size + 1 + 1 + 1, 0, none⟩) 4 4, .slice (some ⟨W.heap.size + 1 + 1 + 1 + 1, 0, none⟩) 4 4, .slice (some ⟨W.heap.size + 1 + 1 + 1 + 1 + 1, 0, none⟩) 4 4, .slice (some ⟨W.heap.size + 1 + 1 + 1 + 1 + 1 + 1, 0, none⟩) 4 4, .slice (some ⟨W.heap.size + 1 + 1 + 1 + 1 + 1 + 1 + 1, 0, none⟩) 4 4] 54)
theorem plW_heap (W : World) : (plW W).heap = (((((((((W.heap.push (.cells #[.int .i64 0, .int .i64 4, .int .i64 8, .int .i64 12] 3)).push (.cells #[.int .i64 1, .int .i64 5, .int .i64 9, .int .i64 13] 3)).push (.cells #[.int .i64 2, .int .i64 6, .int .i64 10, .int .i64 14] 3)).push (.cells #[.int .i64 3, .int .i64 7, .int .i64 11, .int .i64 15] 3)).push (.cells #[.int .i64 0, .int .i64 5, .int .i64 10, .int .i64 15] 3)).push (.cells #[.int .i64 1, .int .i64 6, .int .i64 11, .int .i64 12] 3)).push (.cells #[.int .i64 2, .int .i64 7, .int .i64 8, .int .i64 13] 3)).push (.cells #[.int .i64 3, .int .i64 4, .int .i64 9, .int .i64 14] 3)).push (.cells #[.slice (some ⟨W.heap.size, 0, none⟩) 4 4, .slice (some ⟨W.heap.size + 1, 0, none⟩) 4 4, .slice (some ⟨W.heap.size + 1 + 1, 0, none⟩) 4 4, .slice (some ⟨W.heap.size + 1 + 1 + 1, 0, none⟩) 4 4, .slice (some ⟨W.heap.size + 1 + 1 + 1 + 1, 0, none⟩) 4 4, .slice (some ⟨W.heap.size + 1 + 1 + 1 + 1 + 1, 0, none⟩) 4 4, .slice (some ⟨W.heap.size + 1 + 1 + 1 + 1 + 1 + 1, 0, none⟩) 4 4, .slice (some ⟨W.heap.size + 1 + 1 + 1 + 1 + 1 + 1 + 1, 0, none⟩) 4 4] 54)) := rfl
theorem plW_b0 (W : World) : (plW W).heap[W.heap.size]? = some (.cells #[.int .i64 0, .int .i64 4, .int .i64 8, .int .i64 12] 3 (0, 0)) := by
 rw [plW_heap]
 simp only [Array.getElem?_push, Array.size_push]
 rw [if_neg (by omega)]
 rw [if_neg (by omega)]
 rw [if_neg (by omega)]
 rw [if_neg (by omega)]
 rw [if_neg (by omega)]
 rw [if_neg (by omega)]
 rw [if_neg (by omega)]
 rw [if_neg (by omega)]
 rw [if_pos trivial]
theorem plW_b1 (W : World) : (plW W).heap[W.heap.size + 1]? = some (.cells #[.int .i64 1, .int .i64 5, .int .i64 9, .int .i64 13] 3 (0, 0)) := by
 rw [plW_heap]
 simp only [Array.getElem?_push, Array.size_push]
 rw [if_neg (by omega)]
 rw [if_neg (by omega)]
 rw [if_neg (by omega)]
 rw [if_neg (by omega)]
 rw [if_neg (by omega)]
 rw [if_neg (by omega)]
 rw [if_neg (by omega)]
 rw [if_pos trivial]
theorem plW_b2 (W : World) : (plW W).heap[W.heap.size + 1 + 1]? = some (.cells #[.int .i64 2, .int .i64 6, .int .i64 10, .int .i64 14] 3 (0, 0)) := by
 rw [plW_heap]
 simp only [Array.getElem?_push, Array.size_push]
 rw [if_neg (by omega)]
 rw [if_neg (by omega)]
 rw [if_neg (by omega)]
 rw [if_neg (by omega)]
 rw [if_neg (by omega)]
 rw [if_neg (by omega)]
 rw [if_pos trivial]
theorem plW_b3 (W : World) : (plW W).heap[W.heap.size + 1 + 1 + 1]? = some (.cells #[.int .i64 3, .int .i64 7, .int .i64 11, .int .i64 15] 3 (0, 0)) := by
 rw [plW_heap]
 simp only [Array.getElem?_push, Array.size_push]
 rw [if_neg (by omega)]
 rw [if_neg (by omega)]
 rw [if_neg (by omega)]
 rw [if_neg (by omega)]
 rw [if_neg (by omega)]
 rw [if_pos trivial]
theorem plW_b4 (W : World) : (plW W).heap[W.heap.size + 1 + 1 + 1 + 1]? = some (.cells #[.int .i64 0, .int .i64 5, .int .i64 10, .int .i64 15] 3 (0, 0)) := by
 rw [plW_heap]
 simp only [Array.getElem?_push, Array.size_push]
 rw [if_neg (by omega)]
 rw [if_neg (by omega)]
 rw [if_neg (by omega)]
 rw [if_neg (by omega)]
 rw [if_pos trivial]
theorem plW_b5 (W : World) : (plW W).heap[W.heap.size + 1 + 1 + 1 + 1 + 1]? = some (.cells #[.int .i64 1, .int .i64 6, .int .i64 11, .int .i64 12] 3 (0, 0)) := by
 rw [plW_heap]
 simp only [Array.getElem?_push, Array.size_push]
 rw [if_neg (by omega)]
 rw [if_neg (by omega)]
 rw [if_neg (by omega)]
 rw [if_pos trivial]
theorem plW_b6 (W : World) : (plW W).heap[W.heap.size + 1 + 1 + 1 + 1 + 1 + 1]? = some (.cells #[.int .i64 2, .int .i64 7, .int .i64 8, .int .i64 13] 3 (0, 0)) := by
 rw [plW_heap]
 simp only [Array.getElem?_push, Array.size_push]
 rw [if_neg (by omega)]
 rw [if_neg (by omega)]
 rw [if_pos trivial]
theorem plW_b7 (W : World) : (plW W).heap[W.heap.size + 1 + 1 + 1 + 1 + 1 + 1 + 1]? = some (.cells #[.int .i64 3, .int .i64 4, .int .i64 9, .int .i64 14] 3 (0, 0)) := by
 rw [plW_heap]
 simp only [Array.getElem?_push, Array.size_push]
 rw [if_neg (by omega)]
 rw [if_pos trivial]
theorem plW_b8 (W : World) : (plW W).heap[W.heap.size + 1 + 1 + 1 + 1 + 1 + 1 + 1 + 1]? = some (.cells #[.slice (some ⟨W.heap.size, 0, none⟩) 4 4, .slice (some ⟨W.heap.size + 1, 0, none⟩) 4 4, .slice (some ⟨W.heap.size + 1 + 1, 0, none⟩) 4 4, .slice (some ⟨W.heap.size + 1 + 1 + 1, 0, none⟩) 4 4, .slice (some ⟨W.heap.size + 1 + 1 + 1 + 1, 0, none⟩) 4 4, .slice (some ⟨W.heap.size + 1 + 1 + 1 + 1 + 1, 0, none⟩) 4 4, .slice (some ⟨W.heap.size + 1 + 1 + 1 + 1 + 1 + 1, 0, none⟩) 4 4, .slice (some ⟨W.heap.size + 1 + 1 + 1 + 1 + 1 + 1 + 1, 0, none⟩) 4 4] 54 (0, 0)) := by
 rw [plW_heap]
 simp only [Array.getElem?_push, Array.size_push]
 rw [if_pos trivial]
theorem plW_at (W : World) {gv : Nat} (hg : gv < W.heap.size) : PlAt (plW W) (W.heap.size + 1 + 1 + 1 + 1 + 1 + 1 + 1 + 1) gv := by
 refine ⟨by omega, fun i hi => ?_⟩
 have h' : i = 0 ∨ i = 1 ∨ i = 2 ∨ i = 3 ∨ i = 4 ∨ i = 5 ∨ i = 6 ∨ i = 7 := by omega
 rcases h' with rfl | rfl | rfl | rfl | rfl | rfl | rfl | rfl
 ·exact ⟨W.heap.size, by omega, (cell_of_row _ _ _ _ _ _ (plW_b8 W)).trans rfl, (cell_of_row _ _ _ _ _ _ (plW_b0 W)).trans rfl, (cell_of_row _ _ _ _ _ _ (plW_b0 W)).trans rfl, (cell_of_row _ _ _ _ _ _ (plW_b0 W)).trans rfl, (cell_of_row _ _ _ _ _ _ (plW_b0 W)).trans rfl⟩
 ·exact ⟨W.heap.size + 1, by omega, (cell_of_row _ _ _ _ _ _ (plW_b8 W)).trans rfl, (cell_of_row _ _ _ _ _ _ (plW_b1 W)).trans rfl, (cell_of_row _ _ _ _ _ _ (plW_b1 W)).trans rfl, (cell_of_row _ _ _ _ _ _ (plW_b1 W)).trans rfl, (cell_of_row _ _ _ _ _ _ (plW_b1 W)).trans rfl⟩
 ·exact ⟨W.heap.size + 1 + 1, by omega, (cell_of_row _ _ _ _ _ _ (plW_b8 W)).trans rfl, (cell_of_row _ _ _ _ _ _ (plW_b2 W)).trans rfl, (cell_of_row _ _ _ _ _ _ (plW_b2 W)).trans rfl, (cell_of_row _ _ _ _ _ _ (plW_b2 W)).trans rfl, (cell_of_row _ _ _ _ _ _ (plW_b2 W)).trans rfl⟩
 ·exact ⟨W.heap.size + 1 + 1 + 1, by omega, (cell_of_row _ _ _ _ _ _ (plW_b8 W)).trans rfl, (cell_of_row _ _ _ _ _ _ (plW_b3 W)).trans rfl, (cell_of_row _ _ _ _ _ _ (plW_b3 W)).trans rfl, (cell_of_row _ _ _ _ _ _ (plW_b3 W)).trans rfl, (cell_of_row _ _ _ _ _ _ (plW_b3 W)).trans rfl⟩
 ·exact ⟨W.heap.size + 1 + 1 + 1 + 1, by omega, (cell_of_row _ _ _ _ _ _ (plW_b8 W)).trans rfl, (cell_of_row _ _ _ _ _ _ (plW_b4 W)).trans rfl, (cell_of_row _ _ _ _ _ _ (plW_b4 W)).trans rfl, (cell_of_row _ _ _ _ _ _ (plW_b4 W)).trans rfl, (cell_of_row _ _ _ _ _ _ (plW_b4 W)).trans rfl⟩
 ·exact ⟨W.heap.size + 1 + 1 + 1 + 1 + 1, by omega, (cell_of_row _ _ _ _ _ _ (plW_b8 W)).trans rfl, (cell_of_row _ _ _ _ _ _ (plW_b5 W)).trans rfl, (cell_of_row _ _ _ _ _ _ (plW_b5 W)).trans rfl, (cell_of_row _ _ _ _ _ _ (plW_b5 W)).trans rfl, (cell_of_row _ _ _ _ _ _ (plW_b5 W)).trans rfl⟩
 ·exact ⟨W.heap.size + 1 + 1 + 1 + 1 + 1 + 1, by omega, (cell_of_row _ _ _ _ _ _ (plW_b8 W)).trans rfl, (cell_of_row _ _ _ _ _ _ (plW_b6 W)).trans rfl, (cell_of_row _ _ _ _ _ _ (plW_b6 W)).trans rfl, (cell_of_row _ _ _ _ _ _ (plW_b6 W)).trans rfl, (cell_of_row _ _ _ _ _ _ (plW_b6 W)).trans rfl⟩
 ·exact ⟨W.heap.size + 1 + 1 + 1 + 1 + 1 + 1 + 1, by omega, (cell_of_row _ _ _ _ _ _ (plW_b8 W)).trans rfl, (cell_of_row _ _ _ _ _ _ (plW_b7 W)).trans rfl, (cell_of_row _ _ _ _ _ _ (plW_b7 W)).trans rfl, (cell_of_row _ _ _ _ _ _ (plW_b7 W)).trans rfl, (cell_of_row _ _ _ _ _ _ (plW_b7 W)).trans rfl⟩
theorem plW_frm (W : World) : Frm [] W (plW W) := ((((((((((Frm.refl [] W).alloc _).alloc _).alloc _).alloc _).alloc _).alloc _).alloc _).alloc _).alloc _)
theorem ru_idxT {P : Program} {o : Oper} {a : Act} {w : World} {t : TypeId} {x y : Operand} {s : ByteArray} {j c : Nat} {k : IntKind} {i : Int} (hu : P.underlying t = some .string) (ho : o.op = .index t x y) (hx : a.eval x = .string s) (hy : a.eval y = .int k i) (hi : i = j) (hs : s[j]? = some (UInt8.ofNat c)) (hc : c < 256) :
  (execOp a.eval o).run P w = .ok (.value (.int .u8 (c : Nat))) w := by
 subst hi
 have h3 : c % 256 = c := Nat.mod_eq_of_lt hc
 unfold execOp
 simp [ho, hx, hy, Instr.index, run_underlying hu, asIntOf, hs, h3]
theorem pl_ok {i : Nat} (h : i < 8) : PlD (pl i).1 (pl i).2.1 (pl i).2.2.1 (pl i).2.2.2 := by
 have h' : i = 0 ∨ i = 1 ∨ i = 2 ∨ i = 3 ∨ i = 4 ∨ i = 5 ∨ i = 6 ∨ i = 7 := by omega
 rcases h' with rfl | rfl | rfl | rfl | rfl | rfl | rfl | rfl <;> exact ⟨by decide, by decide, by decide, by decide, by decide, by decide, by decide, by decide, by decide, by decide⟩

theorem own16 {w0 w : World} {v : Value} {h : List Nat} (oh : Wd 8 h) (hO : OwW w0 w v (h ++ firstL)) : ∃ gv cv, v = .slice (some ⟨gv, 0, none⟩) 16 cv ∧ VAt w gv (vP h 8) ∧ w0.heap.size ≤ gv := by
 have o16 : (h ++ firstL).length = 16 := by rw [List.length_append, oh.1]; rfl
 obtain ⟨gv, cv, hv3, hV3, hgv, -⟩ := hO.form (by rw [o16]; omega)
 rw [o16] at hv3
 rw [← vP_all oh.1] at hV3
 exact ⟨gv, cv, hv3, hV3, hgv⟩

set_option maxRecDepth 20000 in
set_option maxHeartbeats 8000000 in
theorem rtake_any (last : Bool) (gh ch gb ob cb : Nat) (h b : List Nat) (t : Nat) (w : World) (hH : VAt w gh h) (oh : Wd 8 h) (hB : w.rangeAt gb ob (sl8 b)) (hb : By 64 b) (ht : t < 18446744073709551616) :
  Calls Tryz.prog 70 #[.slice (some ⟨gh, 0, none⟩) 8 ch, .slice (some ⟨gb, ob, none⟩) 64 cb, .int .u64 t, .bool last] w fun e w' => ∃ v, e = .returned v ∧ OwW w w' v (cF h b t last) := by
 have cB : ∀ (w' : World), Below w.heap.size w w' → ∀ j, j < 64 → w'.cell? ⟨gb, ob + j, none⟩ = some (.int .u8 (b.getD j 0 : Nat)) := fun w' hw j hj => by
  have h1 : (sl8 b)[j]? = some (.int .u8 (b.getD j 0 : Nat)) := by simp [sl8, List.getElem?_map, List.getElem?_eq_getElem (show j < b.length by rw [hb.1]; exact hj), List.getD_eq_getElem?_getD]
  have h2 := hB j _ h1
  rw [hw.cell (p := ⟨gb, ob + j, none⟩) (World.block_lt_of_cell? w _ h2)]; exact h2
 have CB : Hid (∀ (w' : World), Below w.heap.size w w' → ∀ j, j < 64 → w'.cell? ⟨gb, ob + j, none⟩ = some (.int .u8 (b.getD j 0 : Nat))) := cB
 clear cB
 go_enter Tryz.func70, Tryz.ntmps70
 go_wp2_with fail
 go_loopw [9, 10] (fun mv iv (w' : World) => ∃ k j : Nat, k ≤ 16 ∧ j = 4 * k ∧ iv = .int .i64 j ∧ OwW w w' mv (mD b k)) (fun _ iv _ => 64 - (intOf iv).toNat)
 case atStart => exact ⟨0, 0, by omega, rfl, rfl, OwW.nil w⟩
 case round =>
  obtain ⟨k, j, hk, hj, rfl, hO⟩ := hrel
  by_cases hlt : k < 16
  ·have hj' : (j : Int) < 64 := by omega
   have b1 : (j : Int) + 1 < 64 := by omega
   have b2 : (j : Int) + 2 < 64 := by omega
   have b3 : (j : Int) + 3 < 64 := by omega
   have p1 : (0 : Int) ≤ (j : Int) + 1 := by omega
   have p2 : (0 : Int) ≤ (j : Int) + 2 := by omega
   have p3 : (0 : Int) ≤ (j : Int) + 3 := by omega
   have e1 : IntKind.i64.wrap ((j : Int) + 1) = (j : Int) + 1 := by rw [IntKind.wrap_i64]; omega
   have e2 : IntKind.i64.wrap ((j : Int) + 2) = (j : Int) + 2 := by rw [IntKind.wrap_i64]; omega
   have e3 : IntKind.i64.wrap ((j : Int) + 3) = (j : Int) + 3 := by rw [IntKind.wrap_i64]; omega
   have t1 : ((j : Int) + 1).toNat = j + 1 := by omega
   have t2 : ((j : Int) + 2).toNat = j + 2 := by omega
   have t3 : ((j : Int) + 3).toNat = j + 3 := by omega
   obtain ⟨x0, hx0⟩ : ∃ u, u = b.getD j 0 := ⟨_, rfl⟩
   obtain ⟨x1, hx1⟩ : ∃ u, u = b.getD (j + 1) 0 := ⟨_, rfl⟩
   obtain ⟨x2, hx2⟩ : ∃ u, u = b.getD (j + 2) 0 := ⟨_, rfl⟩
   obtain ⟨x3, hx3⟩ : ∃ u, u = b.getD (j + 3) 0 := ⟨_, rfl⟩
   have hOd := hO.drew
   have c0 := CB.out _ hOd.below j (by omega)
   have c1 := CB.out _ hOd.below (j + 1) (by omega)
   have c2 := CB.out _ hOd.below (j + 2) (by omega)
   have c3 := CB.out _ hOd.below (j + 3) (by omega)
   rw [← hx0] at c0
   rw [← hx1] at c1
   rw [← hx2] at c2
   rw [← hx3] at c3
   have l0 : x0 < 256 := by rw [hx0]; exact hb.2 _
   have l1 : x1 < 256 := by rw [hx1]; exact hb.2 _
   have l2 : x2 < 256 := by rw [hx2]; exact hb.2 _
   have l3 : x3 < 256 := by rw [hx3]; exact hb.2 _
   have u0 : IntKind.u32.wrap (x0 : Int) = x0 := by rw [IntKind.wrap_u32]; omega
   have u1 : IntKind.u32.wrap (x1 : Int) = x1 := by rw [IntKind.wrap_u32]; omega
   have u2 : IntKind.u32.wrap (x2 : Int) = x2 := by rw [IntKind.wrap_u32]; omega
   have u3' : IntKind.u32.wrap (x3 : Int) = x3 := by rw [IntKind.wrap_u32]; omega
   have m1 : IntKind.u32.wrap (256 * (x1 : Int)) = 256 * (x1 : Int) := by rw [IntKind.wrap_u32]; omega
   have m2 : IntKind.u32.wrap (65536 * (x2 : Int)) = 65536 * (x2 : Int) := by rw [IntKind.wrap_u32]; omega
   have m3 : IntKind.u32.wrap (16777216 * (x3 : Int)) = 16777216 * (x3 : Int) := by rw [IntKind.wrap_u32]; omega
   have a1 : IntKind.u32.wrap ((x0 : Int) + 256 * (x1 : Int)) = (x0 : Int) + 256 * (x1 : Int) := by rw [IntKind.wrap_u32]; omega
   have a2 : IntKind.u32.wrap ((x0 : Int) + 256 * (x1 : Int) + 65536 * (x2 : Int)) = (x0 : Int) + 256 * (x1 : Int) + 65536 * (x2 : Int) := by rw [IntKind.wrap_u32]; omega
   obtain ⟨z, hz⟩ : ∃ z, z = wd b k := ⟨_, rfl⟩
   have a3 : IntKind.u32.wrap ((x0 : Int) + 256 * (x1 : Int) + 65536 * (x2 : Int) + 16777216 * (x3 : Int)) = (z : Nat) := by rw [IntKind.wrap_u32, hz, wd, ← hj, ← hx0, ← hx1, ← hx2, ← hx3]; omega
   have HM : Hid (mD b (k + 1) = mD b k ++ [z] ∧ (mD b k).length = k) := ⟨by rw [hz]; simp [mD, List.range_succ], by simp [mD]⟩
   have HO : Hid (OwW w wr.drew u9 (mD b k)) := hOd
   have HJ : Hid (j = 4 * k) := hj
   clear hO hOd hx0 hx1 hx2 hx3 l0 l1 l2 l3 hz hj
   go_wp2_with fail
   refine region_seq (c := 30) (f := 60) (ts := [(0, 0), (0, 1), (0, 2), (0, 3), (1, 4), (0, 5), (0, 6), (0, 7), (0, 8), (0, 9), (1, 10), (0, 11), (0, 12), (0, 13), (0, 14), (0, 15), (0, 16), (0, 17), (1, 18), (0, 19), (0, 20), (0, 21), (0, 22), (0, 23), (0, 24), (0, 25), (1, 26), (0, 27), (0, 28), (0, 29), (2, 30), (2, 31), (0, 32)]) (by kernel_rfl) (by kernel_rfl) ?_
   refine seq_W (o := ⟨some 23, .move (.tmp 9), 118, _, _, none⟩) (v := ?_) rfl rfl (fun wz => ?_) ?_
   rotate_left
   ·go_simp; (try with_reducible rfl)
   try simp only [Act.put, sqA, sqB, sqC]
   refine seq_W (o := ⟨some 24, .move (.tmp 1), 31, _, _, none⟩) (v := ?_) rfl rfl (fun wz => ?_) ?_
   rotate_left
   ·go_simp; (try with_reducible rfl)
   try simp only [Act.put, sqA, sqB, sqC]
   refine seq_W (o := ⟨some 25, .move (.tmp 10), 3, _, _, none⟩) (v := ?_) rfl rfl (fun wz => ?_) ?_
   rotate_left
   ·go_simp; (try with_reducible rfl)
   try simp only [Act.put, sqA, sqB, sqC]
   refine seq_W (o := ⟨some 26, .indexAddr 31 (.tmp 24) (.tmp 25), 0, _, _, none⟩) (v := ?_) rfl rfl (fun wz => ?_) ?_
   rotate_left
   ·go_simp; (try with_reducible rfl)
   try simp only [Act.put, sqA, sqB, sqC]
   refine seq_R (o := ⟨some 27, .load 5 (.tmp 26), 5, _, _, none⟩) (v := ?_) rfl rfl ?_ ?_
   rotate_left
   ·go_simp; (try with_reducible rfl)
   try simp only [Act.put, sqA, sqB, sqC]
   refine seq_W (o := ⟨some 28, .convert 5 120 (.tmp 27), 120, _, _, none⟩) (v := ?_) rfl rfl (fun wz => ?_) ?_
   rotate_left
   ·go_simp; (try with_reducible rfl)
   try simp only [Act.put, sqA, sqB, sqC]
   refine seq_W (o := ⟨some 29, .move (.tmp 1), 31, _, _, none⟩) (v := ?_) rfl rfl (fun wz => ?_) ?_
   rotate_left
   ·go_simp; (try with_reducible rfl)
   try simp only [Act.put, sqA, sqB, sqC]
   refine seq_W (o := ⟨some 30, .move (.tmp 10), 3, _, _, none⟩) (v := ?_) rfl rfl (fun wz => ?_) ?_
   rotate_left
   ·go_simp; (try with_reducible rfl)
   try simp only [Act.put, sqA, sqB, sqC]
   refine seq_W (o := ⟨some 31, .binOp .add 3 (.tmp 30) (.const (.int .i64 1)) 3, 3, _, _, none⟩) (v := ?_) rfl rfl (fun wz => ?_) ?_
   rotate_left
   ·go_simp; (try with_reducible rfl)
   try simp only [Act.put, sqA, sqB, sqC]
   refine seq_W (o := ⟨some 32, .indexAddr 31 (.tmp 29) (.tmp 31), 0, _, _, none⟩) (v := ?_) rfl rfl (fun wz => ?_) ?_
   rotate_left
   ·go_simp; (try with_reducible rfl)
   try simp only [Act.put, sqA, sqB, sqC]
   refine seq_R (o := ⟨some 33, .load 5 (.tmp 32), 5, _, _, none⟩) (v := ?_) rfl rfl ?_ ?_
   rotate_left
   ·go_simp; (try with_reducible rfl)
   try simp only [Act.put, sqA, sqB, sqC]
   refine seq_W (o := ⟨some 34, .convert 5 120 (.tmp 33), 120, _, _, none⟩) (v := ?_) rfl rfl (fun wz => ?_) ?_
   rotate_left
   ·go_simp; (try with_reducible rfl)
   try simp only [Act.put, sqA, sqB, sqC]
   refine seq_W (o := ⟨some 35, .binOp .mul 120 (.const (.int .u32 256)) (.tmp 34) 120, 120, _, _, none⟩) (v := ?_) rfl rfl (fun wz => ?_) ?_
   rotate_left
   ·go_simp; (try with_reducible rfl)
   try simp only [Act.put, sqA, sqB, sqC]
   refine seq_W (o := ⟨some 36, .binOp .add 120 (.tmp 28) (.tmp 35) 120, 120, _, _, none⟩) (v := ?_) rfl rfl (fun wz => ?_) ?_
   rotate_left
   ·go_simp; (try with_reducible rfl)
   try simp only [Act.put, sqA, sqB, sqC]
   refine seq_W (o := ⟨some 37, .move (.tmp 1), 31, _, _, none⟩) (v := ?_) rfl rfl (fun wz => ?_) ?_
   rotate_left
   ·go_simp; (try with_reducible rfl)
   try simp only [Act.put, sqA, sqB, sqC]
   refine seq_W (o := ⟨some 38, .move (.tmp 10), 3, _, _, none⟩) (v := ?_) rfl rfl (fun wz => ?_) ?_
   rotate_left
   ·go_simp; (try with_reducible rfl)
   try simp only [Act.put, sqA, sqB, sqC]
   refine seq_W (o := ⟨some 39, .binOp .add 3 (.tmp 38) (.const (.int .i64 2)) 3, 3, _, _, none⟩) (v := ?_) rfl rfl (fun wz => ?_) ?_
   rotate_left
   ·go_simp; (try with_reducible rfl)
   try simp only [Act.put, sqA, sqB, sqC]
   refine seq_W (o := ⟨some 40, .indexAddr 31 (.tmp 37) (.tmp 39), 0, _, _, none⟩) (v := ?_) rfl rfl (fun wz => ?_) ?_
   rotate_left
   ·go_simp; (try with_reducible rfl)
   try simp only [Act.put, sqA, sqB, sqC]
   refine seq_R (o := ⟨some 41, .load 5 (.tmp 40), 5, _, _, none⟩) (v := ?_) rfl rfl ?_ ?_
   rotate_left
   ·go_simp; (try with_reducible rfl)
   try simp only [Act.put, sqA, sqB, sqC]
   refine seq_W (o := ⟨some 42, .convert 5 120 (.tmp 41), 120, _, _, none⟩) (v := ?_) rfl rfl (fun wz => ?_) ?_
   rotate_left
   ·go_simp; (try with_reducible rfl)
   try simp only [Act.put, sqA, sqB, sqC]
   refine seq_W (o := ⟨some 43, .binOp .mul 120 (.const (.int .u32 65536)) (.tmp 42) 120, 120, _, _, none⟩) (v := ?_) rfl rfl (fun wz => ?_) ?_
   rotate_left
   ·go_simp; (try with_reducible rfl)
   try simp only [Act.put, sqA, sqB, sqC]
   refine seq_W (o := ⟨some 44, .binOp .add 120 (.tmp 36) (.tmp 43) 120, 120, _, _, none⟩) (v := ?_) rfl rfl (fun wz => ?_) ?_
   rotate_left
   ·go_simp; (try with_reducible rfl)
   try simp only [Act.put, sqA, sqB, sqC]
   refine seq_W (o := ⟨some 45, .move (.tmp 1), 31, _, _, none⟩) (v := ?_) rfl rfl (fun wz => ?_) ?_
   rotate_left
   ·go_simp; (try with_reducible rfl)
   try simp only [Act.put, sqA, sqB, sqC]
   refine seq_W (o := ⟨some 46, .move (.tmp 10), 3, _, _, none⟩) (v := ?_) rfl rfl (fun wz => ?_) ?_
   rotate_left
   ·go_simp; (try with_reducible rfl)
   try simp only [Act.put, sqA, sqB, sqC]
   refine seq_W (o := ⟨some 47, .binOp .add 3 (.tmp 46) (.const (.int .i64 3)) 3, 3, _, _, none⟩) (v := ?_) rfl rfl (fun wz => ?_) ?_
   rotate_left
   ·go_simp; (try with_reducible rfl)
   try simp only [Act.put, sqA, sqB, sqC]
   refine seq_W (o := ⟨some 48, .indexAddr 31 (.tmp 45) (.tmp 47), 0, _, _, none⟩) (v := ?_) rfl rfl (fun wz => ?_) ?_
   rotate_left
   ·go_simp; (try with_reducible rfl)
   try simp only [Act.put, sqA, sqB, sqC]
   refine seq_R (o := ⟨some 49, .load 5 (.tmp 48), 5, _, _, none⟩) (v := ?_) rfl rfl ?_ ?_
   rotate_left
   ·go_simp; (try with_reducible rfl)
   try simp only [Act.put, sqA, sqB, sqC]
   refine seq_W (o := ⟨some 50, .convert 5 120 (.tmp 49), 120, _, _, none⟩) (v := ?_) rfl rfl (fun wz => ?_) ?_
   rotate_left
   ·go_simp; (try with_reducible rfl)
   try simp only [Act.put, sqA, sqB, sqC]
   refine seq_W (o := ⟨some 51, .binOp .mul 120 (.const (.int .u32 16777216)) (.tmp 50) 120, 120, _, _, none⟩) (v := ?_) rfl rfl (fun wz => ?_) ?_
   rotate_left
   ·go_simp; (try with_reducible rfl)
   try simp only [Act.put, sqA, sqB, sqC]
   refine seq_W (o := ⟨some 52, .binOp .add 120 (.tmp 44) (.tmp 51) 120, 120, _, _, none⟩) (v := ?_) rfl rfl (fun wz => ?_) ?_
   rotate_left
   ·go_simp; (try with_reducible rfl)
   try simp only [Act.put, sqA, sqB, sqC]
   refine seq_A (o := ⟨some 53, .buildSlice 118 1 #[(0, .tmp 52)], 118, _, _, none⟩) rfl rfl (fun K hK => ?_)
   refine wp_build1W rfl rfl (hK _ _ ?_)
   clear hK K
   try simp only [Act.put, sqA, sqB, sqC]
   refine seq_A (o := ⟨some 54, .call ⟨.builtin .append, #[.tmp 23, .tmp 53], #[118, 118]⟩, 118, _, _, none⟩) rfl rfl (fun K hK => ?_)
   refine wp_append_W rfl rfl rfl (HO.out.alloc _) (one_srcW _ z) (by rw [HM.out.2]; simp; omega) ?_
   intro v1 W1 hO1
   rw [← HM.out.1] at hO1
   refine hK _ _ ?_
   clear hK K
   have HO1 : Hid (OwW w W1 v1 (mD b (k + 1))) := hO1
   obtain ⟨ad1, cp1, hv1⟩ := hO1.form0
   subst hv1
   clear hO1
   try simp only [Act.put, sqA, sqB, sqC]
   refine seq_W (o := ⟨some 9, .assign (.tmp 54), 118, _, _, none⟩) (v := ?_) rfl rfl (fun wz => ?_) ?_
   rotate_left
   ·go_simp; (try with_reducible rfl)
   try simp only [Act.put, sqA, sqB, sqC]
   refine seq_nil (NoPanic.normal ?_)
   try simp only [Act.put, sqA, sqB, sqC]
   go_wp2
   refine ⟨⟨k + 1, j + 4, by omega, by rw [HJ.out]; omega, by go_num, HO1.out⟩, ?_⟩
   simp [intOf]
   omega
  ·obtain rfl : k = 16 := by omega
   have oM : Wd 16 (mD b 16) := by rw [← mP_all hb.2]; exact mP_ok hb.2 64
   obtain ⟨gm, cm, hv9, hm, hgm, -⟩ := hO.form (by rw [oM.1]; omega)
   rw [oM.1] at hv9
   subst hv9
   have hbm := hO.below
   obtain ⟨M, hM⟩ : ∃ M, M = mD b 16 := ⟨_, rfl⟩
   rw [← hM] at hm oM
   have HM : Hid (M = mP b 64) := by show _ = _; rw [mP_all hb.2, hM]
   have hH1 : VAt wr gh h := by
    obtain ⟨sp, tt, hg⟩ := hH
    exact ⟨sp, tt, by rw [hbm.block _ (lt_of_block hg)]; exact hg⟩
   have hsr : WSrc wr (.slice (some ⟨gh, 0, none⟩) 8 ch) h := by have := hH1.src ch; rwa [oh.1] at this
   have hnil : OwW wr wr (.slice none 0 0) [] := OwW.nil wr
   have HBm : Hid (Below w.heap.size w wr ∧ VAt wr gm M ∧ VAt wr gh h ∧ gm < wr.heap.size ∧ gh < wr.heap.size) := ⟨hbm, hm, hH1, hm.lt, hH1.lt⟩
   clear hO hM hbm hm hH1
   have hj64 : ¬ ((j : Int) < 64) := by omega
   go_wp2_with (first | (at_builtin; refine wpList_append_W rfl rfl rfl rfl hnil hsr (by rw [oh.1]; decide) ?_; intro v1 W1 hO1) | fail)
   rw [List.nil_append] at hO1
   refine (begin_any W1).mono ?_
   rintro e W2 ⟨rfl, rfl⟩
   have hO2 := hO1.alloc (.cells (wv firstL) 120)
   have hs2 : WSrc (W1.alloc (.cells (wv firstL) 120)) (.slice (some ⟨W1.heap.size, 0, none⟩) 8 8) firstL := VAt.src ⟨[], 120, by rw [List.append_nil]; exact heap_alloc_new W1 _⟩ 8
   have hlen : h.length + firstL.length ≤ 1000000 := by rw [oh.1]; decide
   clear hO1 hnil hsr
   go_upto_region 8 with (first | (at_builtin; refine wpList_append_W rfl rfl rfl rfl hO2 hs2 hlen ?_; intro v3 W3 hO3; obtain ⟨gv, cv, hv3, hV3, hgv⟩ : ∃ gv cv, v3 = .slice (some ⟨gv, 0, none⟩) 16 cv ∧ VAt W3 gv (vP h 8) ∧ wr.heap.size ≤ gv := own16 oh hO3; subst hv3; have HB3 := hO3.below; clear hO3) | fail)
   have o8 := vP_ok oh 8
   have ht' : (t : Int) < 18446744073709551616 := by omega
   obtain ⟨a12, ha12⟩ : ∃ u, u = (vP h 8).getD 12 0 := ⟨_, rfl⟩
   have la12 : a12 < 4294967296 := by rw [ha12]; exact o8.2 12
   obtain ⟨x12, hx12⟩ : ∃ u, u = xorW a12 (t % 4294967296) := ⟨_, rfl⟩
   have c12 : W3.cell? ⟨gv, 12, none⟩ = some (.int .u32 (a12 : Nat)) := by rw [ha12]; exact hV3.cell (by rw [o8.1]; omega)
   have f12 := hV3.free 12
   have hV4 := hV3.set (j := 12) (by rw [o8.1]; omega) x12
   have o4 : Wd 16 ((vP h 8).set 12 x12) := o8.set _ (by rw [hx12]; exact xorW_lt la12 (Nat.mod_lt _ (by decide)))
   have hF4 : Frm [gv] W3 (W3.setCell ⟨gv, 12, none⟩ (.int .u32 (x12 : Nat))) := (Frm.refl _ _).setCell _ _ (by simp)
   have n12 : bits .xor .u32 (a12 : Int) ((t : Int) % 4294967296) = (x12 : Nat) := by rw [hx12]; have := xor_W a12 (t % 4294967296) la12 (Nat.mod_lt _ (by decide)); simpa using this
   have HX12 : Hid (x12 = xorW ((vP h 8).getD 12 0) (t % 4294967296)) := by show _ = _; rw [hx12, ha12]
   clear ha12 hx12 hV3 hO2 hs2 hlen
   go_upto_region 9 with fail
   generalize W3.setCell ⟨gv, 12, none⟩ (.int .u32 (x12 : Nat)) = W4 at *
   clear c12 f12 n12 la12
   obtain ⟨v1, hv1⟩ : ∃ u, u = (vP h 8).set 12 x12 := ⟨_, rfl⟩
   rw [← hv1] at hV4 o4
   obtain ⟨a13, ha13⟩ : ∃ u, u = v1.getD 13 0 := ⟨_, rfl⟩
   have la13 : a13 < 4294967296 := by rw [ha13]; exact o4.2 13
   obtain ⟨x13, hx13⟩ : ∃ u, u = xorW a13 (t / 4294967296 % 4294967296) := ⟨_, rfl⟩
   have c13 : W4.cell? ⟨gv, 13, none⟩ = some (.int .u32 (a13 : Nat)) := by rw [ha13]; exact hV4.cell (by rw [o4.1]; omega)
   have f13 := hV4.free 13
   have hV5 : VAt (W4.setCell ⟨gv, 13, none⟩ (.int .u32 (x13 : Nat))) gv (v2 h t) := by
    have := hV4.set (j := 13) (by rw [o4.1]; omega) x13
    rw [hx13, ha13, hv1, HX12.out] at this
    rw [hx13, ha13, hv1, HX12.out]
    exact this
   have o5 := v2_ok oh t
   have hF5 : Frm [gv] W3 (W4.setCell ⟨gv, 13, none⟩ (.int .u32 (x13 : Nat))) := hF4.setCell _ _ (by simp)
   have n13 : bits .xor .u32 (a13 : Int) ((t : Int) / 4294967296) = (x13 : Nat) := by
    rw [hx13]
    have h1 : (t : Int) / 4294967296 = ((t / 4294967296 % 4294967296 : Nat) : Int) := by omega
    rw [h1]
    exact xor_W a13 _ la13 (Nat.mod_lt _ (by decide))
   clear ha13 hx13 hv1 hV4 o4 hF4 HX12
   go_upto_region 10 with fail
   generalize W4.setCell ⟨gv, 13, none⟩ (.int .u32 (x13 : Nat)) = W5 at *
   clear c13 f13 n13 la13
   cases last
   ·go_upto_region 12 with fail
    have hV6 : VAt W5 gv (v3 h t false) := hV5
    have HF6 : Hid (Frm [gv] W3 W5) := hF5
    clear hV5 hF5 o5
    generalize W5 = W6 at *
    have oV := v3_ok oh t false
    obtain ⟨V, hVV⟩ : ∃ V, V = v3 h t false := ⟨_, rfl⟩
    rw [← hVV] at hV6 oV
    have HVV : Hid (V = v3 h t false) := hVV
    clear hVV
    go_upto_region 13 with fail
    have hgv6 : gv < W6.heap.size := hV6.lt
    change Code.wp Tryz.prog _ _ _ (plW W6)
    have hP7 := plW_at W6 hgv6
    have hf7 := plW_frm W6
    have hV7 : VAt (plW W6) gv V := hV6.keep hf7 (by simp)
    have hF7 : Frm [gv] W3 (plW W6) := HF6.out.trans (hf7.mono (by simp))
    have hM7 : VAt (plW W6) gm M := by
     have h1 : VAt W3 gm M := by
      obtain ⟨sp, tt, hg⟩ := HBm.out.2.1
      exact ⟨sp, tt, by rw [HB3.block _ (lt_of_block hg)]; exact hg⟩
     exact h1.keep hF7 (by have := HBm.out.2.2.2.1; simp; omega)
    have hH7 : VAt (plW W6) gh h := by
     have h1 : VAt W3 gh h := by
      obtain ⟨sp, tt, hg⟩ := HBm.out.2.2.1
      exact ⟨sp, tt, by rw [HB3.block _ (lt_of_block hg)]; exact hg⟩
     exact h1.keep hF7 (by have := HBm.out.2.2.2.2; simp; omega)
    have hW7 : Below w.heap.size w (plW W6) := by
     have h1 : Below w.heap.size w W3 := HBm.out.1.trans (HB3.mono HBm.out.1.size)
     exact h1.trans (hF7.below h1.size (by have := HBm.out.1.size; simp; omega))
    have HG : Hid (gm ≠ gv ∧ gh ≠ gv ∧ w.heap.size ≤ gv) := ⟨by have := HBm.out.2.2.2.1; omega, by have := HBm.out.2.2.2.2; omega, by have := HBm.out.1.size; omega⟩
    clear hf7 hF7 HF6 HB3 HBm hV6 hgv6
    generalize plW W6 = W7 at *
    generalize W6.heap.size + 1 + 1 + 1 + 1 + 1 + 1 + 1 + 1 = pb at *
    go_wp2_with fail
    go_loopw [13] (fun rv (w' : World) => ∃ r : Nat, r ≤ 10 ∧ rv = .int .i64 r ∧ VAt w' gv (rP M V r) ∧ Frm [gv] W7 w') (fun rv _ => 10 - (intOf rv).toNat)
    case atStart => exact ⟨0, by omega, rfl, hV7, Frm.refl _ _⟩
    case round =>
     obtain ⟨r, hr, rfl, hVr, hFr⟩ := hrel
     by_cases hlr : r < 10
     ·have hr' : (r : Int) < 10 := by omega
      have oR := rP_ok (m := M) oV r
      obtain ⟨R, hR⟩ : ∃ R, R = rP M V r := ⟨_, rfl⟩
      rw [← hR] at hVr oR
      have HR : Hid (R = rP M V r) := hR
      clear hR
      go_wp2_with fail
      refine (row_any r hlr wr).mono ?_
      rintro e W8 ⟨rfl, hb8⟩
      have HV8 : Hid (VAt W8 gv R ∧ Frm [gv] W7 W8) := ⟨hVr.keep (Frm.ofBelow (S := []) hb8) (by simp), hFr.trans (Frm.ofBelow hb8)⟩
      clear hVr hFr hb8
      go_wp2_with fail
      go_loopw [15] (fun iv (w' : World) => ∃ i : Nat, i ≤ 8 ∧ iv = .int .i64 i ∧ VAt w' gv (gP M (rowL r) R i) ∧ Frm [gv] W7 w') (fun iv _ => 8 - (intOf iv).toNat)
      case atStart => exact ⟨0, by omega, rfl, HV8.out.1, HV8.out.2⟩
      case round =>
       obtain ⟨i, hi, rfl, hVi, hFi⟩ := hrel
       by_cases hli : i < 8
       ·have hi' : (i : Int) < 8 := by omega
        have oI := gP_ok (m := M) (s := rowL r) oR i
        obtain ⟨q, hqv, z0, z1, z2, z3, z4⟩ := (hP7.keep hFi).2 i hli
        have hp := pl_ok hli
        obtain ⟨i1, hi1⟩ : ∃ u, u = (rowL r).getD (2 * i) 0 := ⟨_, rfl⟩
        obtain ⟨i2, hi2⟩ : ∃ u, u = (rowL r).getD (2 * i + 1) 0 := ⟨_, rfl⟩
        have l1 : i1 < 16 := by rw [hi1]; exact rowL_lt hlr _
        have l2 : i2 < 16 := by rw [hi2]; exact rowL_lt hlr _
        have s1 : (rowS r)[2 * i]? = some (UInt8.ofNat (dg i1)) := by rw [hi1]; exact rowS_at hlr (by omega)
        have s2 : (rowS r)[2 * i + 1]? = some (UInt8.ofNat (dg i2)) := by rw [hi2]; exact rowS_at hlr (by omega)
        obtain ⟨x, hx⟩ : ∃ u, u = M.getD i1 0 := ⟨_, rfl⟩
        obtain ⟨y, hy⟩ : ∃ u, u = M.getD i2 0 := ⟨_, rfl⟩
        have hMi : VAt wr gm M := hM7.keep hFi (by simpa using HG.out.1)
        have c1 : wr.cell? ⟨gm, i1, none⟩ = some (.int .u32 (x : Nat)) := by rw [hx]; exact hMi.cell (by rw [oM.1]; exact l1)
        have c2 : wr.cell? ⟨gm, i2, none⟩ = some (.int .u32 (y : Nat)) := by rw [hy]; exact hMi.cell (by rw [oM.1]; exact l2)
        have w1 : IntKind.i64.wrap (2 * (i : Int)) = 2 * (i : Int) := by rw [IntKind.wrap_i64]; omega
        have w2 : IntKind.i64.wrap (2 * (i : Int) + 1) = 2 * (i : Int) + 1 := by rw [IntKind.wrap_i64]; omega
        have g1 : (i1 : Int) < 16 := by omega
        have g2 : (i2 : Int) < 16 := by omega
        have HGI : Hid (gP M (rowL r) R (i + 1) = setF (gP M (rowL r) R i) (pl i).1 (pl i).2.1 (pl i).2.2.1 (pl i).2.2.2 (gF (four (gP M (rowL r) R i) (pl i).1 (pl i).2.1 (pl i).2.2.1 (pl i).2.2.2) x y)) := by
         show _ = _
         rw [gP, gAt, hx, hy, hi1, hi2]
        obtain ⟨G, hG⟩ : ∃ G, G = gP M (rowL r) R i := ⟨_, rfl⟩
        rw [← hG] at hVi oI HGI
        obtain ⟨pa, hpa⟩ : ∃ u, u = (pl i).1 := ⟨_, rfl⟩
        obtain ⟨pb1, hpb⟩ : ∃ u, u = (pl i).2.1 := ⟨_, rfl⟩
        obtain ⟨pc, hpc⟩ : ∃ u, u = (pl i).2.2.1 := ⟨_, rfl⟩
        obtain ⟨pd, hpd⟩ : ∃ u, u = (pl i).2.2.2 := ⟨_, rfl⟩
        rw [← hpa, ← hpb, ← hpc, ← hpd] at HGI hp
        rw [← hpa] at z1
        rw [← hpb] at z2
        rw [← hpc] at z3
        rw [← hpd] at z4
        have HVi : Hid (VAt wr gv G ∧ Frm [gv] W7 wr) := ⟨hVi, hFi⟩
        clear hi1 hi2 hx hy hMi hVi hFi hG hpa hpb hpc hpd HV8
        go_upto_region 21 with fail
        have S0 : wr.drew.cell? ⟨q, 0, none⟩ = some (.int .i64 (pa : Nat)) ∧ wr.drew.cell? ⟨q, 1, none⟩ = some (.int .i64 (pb1 : Nat)) ∧ wr.drew.cell? ⟨q, 2, none⟩ = some (.int .i64 (pc : Nat)) ∧ wr.drew.cell? ⟨q, 3, none⟩ = some (.int .i64 (pd : Nat)) ∧ wr.drew.cell? ⟨gm, i1, none⟩ = some (.int .u32 (x : Nat)) ∧ wr.drew.cell? ⟨gm, i2, none⟩ = some (.int .u32 (y : Nat)) := ⟨z1, z2, z3, z4, c1, c2⟩
        clear z0 z1 z2 z3 z4 c1 c2
        refine wp_region_noPanic ?_
        refine wp_region_held_drew (S := fun w' => w'.cell? ⟨q, 0, none⟩ = some (.int .i64 (pa : Nat)) ∧ w'.cell? ⟨q, 1, none⟩ = some (.int .i64 (pb1 : Nat)) ∧ w'.cell? ⟨q, 2, none⟩ = some (.int .i64 (pc : Nat)) ∧ w'.cell? ⟨q, 3, none⟩ = some (.int .i64 (pd : Nat)) ∧ w'.cell? ⟨gm, i1, none⟩ = some (.int .u32 (x : Nat)) ∧ w'.cell? ⟨gm, i2, none⟩ = some (.int .u32 (y : Nat))) (by kernel_rfl) S0 (fun hHeld => ?_)
        refine wpV 0 ⟨some 108, .move (.tmp 11), 118, _, _, none⟩ rfl ?_
        try simp only [Act.put, sqA, sqB, sqC]
        refine wpV 1 ⟨some 109, .move (.tmp 16), 54, _, _, none⟩ rfl ?_
        try simp only [Act.put, sqA, sqB, sqC]
        refine wpV 2 ⟨some 110, .indexAddr 54 (.tmp 109) (.const (.int .i64 0)), 0, _, _, none⟩ rfl ?_
        try simp only [Act.put, sqA, sqB, sqC]
        refine wpV 3 ⟨some 111, .load 3 (.tmp 110), 3, _, _, none⟩ rfl ?_
        try simp only [Act.put, sqA, sqB, sqC]
        refine wpV 4 ⟨some 112, .move (.tmp 16), 54, _, _, none⟩ rfl ?_
        try simp only [Act.put, sqA, sqB, sqC]
        refine wpV 5 ⟨some 113, .indexAddr 54 (.tmp 112) (.const (.int .i64 1)), 0, _, _, none⟩ rfl ?_
        try simp only [Act.put, sqA, sqB, sqC]
        refine wpV 6 ⟨some 114, .load 3 (.tmp 113), 3, _, _, none⟩ rfl ?_
        try simp only [Act.put, sqA, sqB, sqC]
        refine wpV 7 ⟨some 115, .move (.tmp 16), 54, _, _, none⟩ rfl ?_
        try simp only [Act.put, sqA, sqB, sqC]
        refine wpV 8 ⟨some 116, .indexAddr 54 (.tmp 115) (.const (.int .i64 2)), 0, _, _, none⟩ rfl ?_
        try simp only [Act.put, sqA, sqB, sqC]
        refine wpV 9 ⟨some 117, .load 3 (.tmp 116), 3, _, _, none⟩ rfl ?_
        try simp only [Act.put, sqA, sqB, sqC]
        refine wpV 10 ⟨some 118, .move (.tmp 16), 54, _, _, none⟩ rfl ?_
        try simp only [Act.put, sqA, sqB, sqC]
        refine wpV 11 ⟨some 119, .indexAddr 54 (.tmp 118) (.const (.int .i64 3)), 0, _, _, none⟩ rfl ?_
        try simp only [Act.put, sqA, sqB, sqC]
        refine wpV 12 ⟨some 120, .load 3 (.tmp 119), 3, _, _, none⟩ rfl ?_
        try simp only [Act.put, sqA, sqB, sqC]
        refine wpV 13 ⟨some 121, .move (.tmp 9), 118, _, _, none⟩ rfl ?_
        try simp only [Act.put, sqA, sqB, sqC]
        refine wpV 14 ⟨some 122, .move (.tmp 14), 9, _, _, none⟩ rfl ?_
        try simp only [Act.put, sqA, sqB, sqC]
        refine wpV 15 ⟨some 123, .move (.tmp 15), 3, _, _, none⟩ rfl ?_
        try simp only [Act.put, sqA, sqB, sqC]
        refine wpV 16 ⟨some 124, .binOp .mul 3 (.const (.int .i64 2)) (.tmp 123) 3, 3, _, _, none⟩ rfl ?_
        try simp only [Act.put, sqA, sqB, sqC]
        refine wpU 17 ⟨some 125, .index 9 (.tmp 122) (.tmp 124), 5, _, _, none⟩ (v := .int .u8 (dg i1 : Nat)) rfl ?_ ?_
        ·intro wz hSw; (try dsimp only at hSw); exact ru_idxT Tryz.underlying9 rfl rfl rfl (by omega) s1 (dg_lt l1)
        try simp only [Act.put, sqA, sqB, sqC]
        refine wpV 21 ⟨some 129, .move (.tmp 9), 118, _, _, none⟩ rfl ?_
        try simp only [Act.put, sqA, sqB, sqC]
        refine wpV 22 ⟨some 130, .move (.tmp 14), 9, _, _, none⟩ rfl ?_
        try simp only [Act.put, sqA, sqB, sqC]
        refine wpV 23 ⟨some 131, .move (.tmp 15), 3, _, _, none⟩ rfl ?_
        try simp only [Act.put, sqA, sqB, sqC]
        refine wpV 24 ⟨some 132, .binOp .mul 3 (.const (.int .i64 2)) (.tmp 131) 3, 3, _, _, none⟩ rfl ?_
        try simp only [Act.put, sqA, sqB, sqC]
        refine wpV 25 ⟨some 133, .binOp .add 3 (.tmp 132) (.const (.int .i64 1)) 3, 3, _, _, none⟩ rfl ?_
        try simp only [Act.put, sqA, sqB, sqC]
        refine wpU 26 ⟨some 134, .index 9 (.tmp 130) (.tmp 133), 5, _, _, none⟩ (v := .int .u8 (dg i2 : Nat)) rfl ?_ ?_
        ·intro wz hSw; (try dsimp only at hSw); exact ru_idxT Tryz.underlying9 rfl rfl rfl (by omega) s2 (dg_lt l2)
        try simp only [Act.put, sqA, sqB, sqC]
        refine wpAnyH_ready (rs := [18]) (by kernel_rfl) (by simp) ?_
        refine (AllReadyH.cons (o := ⟨some 126, .call ⟨.value (.func 83), #[.tmp 125], #[5]⟩, 3, _, _, none⟩) rfl (fun K hK => ?_) AllReadyH.nil)
        go_simp
        refine (digit_any i1 l1 _).mono ?_
        rintro e wq ⟨rfl, rfl⟩
        refine hK.out _ _ S0 (fun _ => ?_)
        clear hK K
        try simp only [Act.put, sqA, sqB, sqC]
        refine wpV 19 ⟨some 127, .indexAddr 118 (.tmp 121) (.tmp 126), 0, _, _, none⟩ rfl ?_
        try simp only [Act.put, sqA, sqB, sqC]
        refine wpV 20 ⟨some 128, .load 120 (.tmp 127), 120, _, _, none⟩ rfl ?_
        try simp only [Act.put, sqA, sqB, sqC]
        refine wpAnyH_ready (rs := [27]) (by kernel_rfl) (by simp) ?_
        refine (AllReadyH.cons (o := ⟨some 135, .call ⟨.value (.func 83), #[.tmp 134], #[5]⟩, 3, _, _, none⟩) rfl (fun K hK => ?_) AllReadyH.nil)
        go_simp
        refine (digit_any i2 l2 _).mono ?_
        rintro e wq ⟨rfl, rfl⟩
        refine hK.out _ _ S0 (fun _ => ?_)
        clear hK K
        try simp only [Act.put, sqA, sqB, sqC]
        refine wpV 28 ⟨some 136, .indexAddr 118 (.tmp 129) (.tmp 135), 0, _, _, none⟩ rfl ?_
        try simp only [Act.put, sqA, sqB, sqC]
        refine wpV 29 ⟨some 137, .load 120 (.tmp 136), 120, _, _, none⟩ rfl ?_
        try simp only [Act.put, sqA, sqB, sqC]
        refine wpAnyH_ready (rs := [30]) (by kernel_rfl) (by simp) ?_
        refine (AllReadyH.cons (o := ⟨some 138, .call ⟨.value (.func 82), #[.tmp 108, .tmp 111, .tmp 114, .tmp 117, .tmp 120, .tmp 128, .tmp 137], #[118, 3, 3, 3, 3, 120, 120]⟩, 0, _, _, none⟩) rfl (fun K hK => ?_) AllReadyH.nil)
        go_simp
        refine (rstep_any gv cv G pa pb1 pc pd x y wr.drew (VAt.keep (w' := wr.drew) HVi.out.1 (Frm.refl [] wr).drew (by simp)) oI hp).mono ?_
        rintro e W9 ⟨rfl, hV9, hF9⟩
        have S9 := S0
        refine hK.out _ _ ⟨cell_keep hF9 S0.1 (by simpa using hqv), cell_keep hF9 S0.2.1 (by simpa using hqv), cell_keep hF9 S0.2.2.1 (by simpa using hqv), cell_keep hF9 S0.2.2.2.1 (by simpa using hqv), cell_keep hF9 S0.2.2.2.2.1 (by simpa using HG.out.1), cell_keep hF9 S0.2.2.2.2.2 (by simpa using HG.out.1)⟩ (fun _ => ?_)
        clear hK K
        try simp only [Act.put, sqA, sqB, sqC]
        refine wpAnyH_done (by kernel_rfl) (NoPanic.normal ?_) _
        try simp only [Act.put, sqA, sqB, sqC]
        have HN : Hid (VAt W9 gv (gP M (rowL r) R (i + 1)) ∧ Frm [gv] W7 W9) := by
         rw [HGI.out]
         exact ⟨hV9, (HVi.out.2.drew).trans hF9⟩
        clear hHeld S0 S9 hV9 hF9
        go_wp2
        refine ⟨⟨i + 1, by omega, by go_num, HN.out.1, HN.out.2⟩, ?_⟩
        simp [intOf]
        omega
       ·obtain rfl : i = 8 := by omega
        have HN : Hid (VAt wr gv (rP M V (r + 1)) ∧ Frm [gv] W7 wr) := by
         refine ⟨?_, hFi⟩
         rw [gP_all, HR.out] at hVi
         exact hVi
        clear hVi hFi HV8
        go_wp2
        refine ⟨⟨r + 1, by omega, by go_num, HN.out.1, HN.out.2⟩, ?_⟩
        simp [intOf]
        omega
     ·obtain rfl : r = 10 := by omega
      have oR := rP_ok (m := M) oV 10
      obtain ⟨R, hR⟩ : ∃ R, R = rP M V 10 := ⟨_, rfl⟩
      rw [← hR] at hVr oR
      have hHr : VAt wr gh h := hH7.keep hFr (by simpa using HG.out.2.1)
      have hWr : Below w.heap.size w wr := hW7.trans (hFr.below hW7.size (by have := HG.out.2.2; simp; omega))
      have HC : Hid ((List.range 8).map (fun i => xorW (xorW (h.getD i 0) (R.getD i 0)) (R.getD (i + 8) 0)) = cF h b t false) := by
       show _ = _
       rw [cF, hP_all oh.1, hR, HVV.out, HM.out]
      have HW : Hid (VAt wr gv R ∧ VAt wr gh h ∧ Below w.heap.size w wr) := ⟨hVr, hHr, hWr⟩
      clear hR hVr hHr hWr hFr hV7 hM7 hH7 hW7 hP7
      go_wp2_with fail
      generalize wr = W10 at *
      go_loopw [17, 18] (fun ov iv (w' : World) => ∃ k : Nat, k ≤ 8 ∧ iv = .int .i64 k ∧ OwW W10 w' ov ((List.range k).map (fun i => xorW (xorW (h.getD i 0) (R.getD i 0)) (R.getD (i + 8) 0)))) (fun _ iv _ => 8 - (intOf iv).toNat)
      case atStart => exact ⟨0, by omega, rfl, OwW.nil W10⟩
      case round =>
       obtain ⟨k, hk, rfl, hO⟩ := hrel
       by_cases hlk : k < 8
       ·have hk' : (k : Int) < 8 := by omega
        have hk16 : (k : Int) < 16 := by omega
        have b8 : (k : Int) + 8 < 16 := by omega
        have p8 : (0 : Int) ≤ (k : Int) + 8 := by omega
        have e8 : IntKind.i64.wrap ((k : Int) + 8) = (k : Int) + 8 := by rw [IntKind.wrap_i64]; omega
        have t8 : ((k : Int) + 8).toNat = k + 8 := by omega
        have hOd := hO.drew
        have kp : ∀ (g : Nat) (v : List Nat), VAt W10 g v → VAt wr.drew g v := fun g v ⟨sp, tt, hg⟩ => ⟨sp, tt, by rw [hOd.below.block _ (lt_of_block hg)]; exact hg⟩
        obtain ⟨x, hx⟩ : ∃ u, u = h.getD k 0 := ⟨_, rfl⟩
        obtain ⟨y, hy⟩ : ∃ u, u = R.getD k 0 := ⟨_, rfl⟩
        obtain ⟨z, hz⟩ : ∃ u, u = R.getD (k + 8) 0 := ⟨_, rfl⟩
        have lx : x < 4294967296 := by rw [hx]; exact oh.2 k
        have ly : y < 4294967296 := by rw [hy]; exact oR.2 k
        have lz : z < 4294967296 := by rw [hz]; exact oR.2 (k + 8)
        have d1 : wr.drew.cell? ⟨gh, k, none⟩ = some (.int .u32 (x : Nat)) := by rw [hx]; exact (kp _ _ HW.out.2.1).cell (by rw [oh.1]; exact hlk)
        have d2 : wr.drew.cell? ⟨gv, k, none⟩ = some (.int .u32 (y : Nat)) := by rw [hy]; exact (kp _ _ HW.out.1).cell (by rw [oR.1]; omega)
        have d3 : wr.drew.cell? ⟨gv, k + 8, none⟩ = some (.int .u32 (z : Nat)) := by rw [hz]; exact (kp _ _ HW.out.1).cell (by rw [oR.1]; omega)
        have n1 := xor_W x y lx ly
        have lxy := xorW_lt lx ly
        obtain ⟨xy, hxy⟩ : ∃ q, q = xorW x y := ⟨_, rfl⟩
        rw [← hxy] at n1 lxy
        have n2 := xor_W xy z lxy lz
        obtain ⟨q, hq⟩ : ∃ q, q = xorW xy z := ⟨_, rfl⟩
        rw [← hq] at n2
        have HL : Hid ((List.range (k + 1)).map (fun i => xorW (xorW (h.getD i 0) (R.getD i 0)) (R.getD (i + 8) 0)) = (List.range k).map (fun i => xorW (xorW (h.getD i 0) (R.getD i 0)) (R.getD (i + 8) 0)) ++ [q]) := by
         show _ = _
         rw [List.range_succ, List.map_append, hq, hxy, hx, hy, hz]
         rfl
        have HO : Hid (OwW W10 wr.drew u17 ((List.range k).map (fun i => xorW (xorW (h.getD i 0) (R.getD i 0)) (R.getD (i + 8) 0)))) := hOd
        clear hx hy hz hxy hq hO hOd kp lx ly lz lxy
        go_wp2_with fail
        refine region_seq (c := 16) (f := 60) (ts := [(0, 0), (0, 1), (0, 2), (0, 3), (1, 4), (0, 5), (0, 6), (0, 7), (1, 8), (0, 9), (0, 10), (0, 11), (0, 12), (0, 13), (1, 14), (0, 15), (2, 16), (2, 17), (0, 18)]) (by kernel_rfl) (by kernel_rfl) ?_
        refine seq_W (o := ⟨some 143, .move (.tmp 17), 118, _, _, none⟩) (v := ?_) rfl rfl (fun wz => ?_) ?_
        rotate_left
        ·go_simp; (try with_reducible rfl)
        try simp only [Act.put, sqA, sqB, sqC]
        refine seq_W (o := ⟨some 144, .move (.tmp 0), 118, _, _, none⟩) (v := ?_) rfl rfl (fun wz => ?_) ?_
        rotate_left
        ·go_simp; (try with_reducible rfl)
        try simp only [Act.put, sqA, sqB, sqC]
        refine seq_W (o := ⟨some 145, .move (.tmp 18), 3, _, _, none⟩) (v := ?_) rfl rfl (fun wz => ?_) ?_
        rotate_left
        ·go_simp; (try with_reducible rfl)
        try simp only [Act.put, sqA, sqB, sqC]
        refine seq_W (o := ⟨some 146, .indexAddr 118 (.tmp 144) (.tmp 145), 0, _, _, none⟩) (v := ?_) rfl rfl (fun wz => ?_) ?_
        rotate_left
        ·go_simp; (try with_reducible rfl)
        try simp only [Act.put, sqA, sqB, sqC]
        refine seq_R (o := ⟨some 147, .load 120 (.tmp 146), 120, _, _, none⟩) (v := ?_) rfl rfl ?_ ?_
        rotate_left
        ·go_simp; (try with_reducible rfl)
        try simp only [Act.put, sqA, sqB, sqC]
        refine seq_W (o := ⟨some 148, .move (.tmp 11), 118, _, _, none⟩) (v := ?_) rfl rfl (fun wz => ?_) ?_
        rotate_left
        ·go_simp; (try with_reducible rfl)
        try simp only [Act.put, sqA, sqB, sqC]
        refine seq_W (o := ⟨some 149, .move (.tmp 18), 3, _, _, none⟩) (v := ?_) rfl rfl (fun wz => ?_) ?_
        rotate_left
        ·go_simp; (try with_reducible rfl)
        try simp only [Act.put, sqA, sqB, sqC]
        refine seq_W (o := ⟨some 150, .indexAddr 118 (.tmp 148) (.tmp 149), 0, _, _, none⟩) (v := ?_) rfl rfl (fun wz => ?_) ?_
        rotate_left
        ·go_simp; (try with_reducible rfl)
        try simp only [Act.put, sqA, sqB, sqC]
        refine seq_R (o := ⟨some 151, .load 120 (.tmp 150), 120, _, _, none⟩) (v := ?_) rfl rfl ?_ ?_
        rotate_left
        ·go_simp; (try with_reducible rfl)
        try simp only [Act.put, sqA, sqB, sqC]
        refine seq_W (o := ⟨some 152, .binOp .xor 120 (.tmp 147) (.tmp 151) 120, 120, _, _, none⟩) (v := ?_) rfl rfl (fun wz => ?_) ?_
        rotate_left
        ·go_simp; (try with_reducible rfl)
        try simp only [Act.put, sqA, sqB, sqC]
        refine seq_W (o := ⟨some 153, .move (.tmp 11), 118, _, _, none⟩) (v := ?_) rfl rfl (fun wz => ?_) ?_
        rotate_left
        ·go_simp; (try with_reducible rfl)
        try simp only [Act.put, sqA, sqB, sqC]
        refine seq_W (o := ⟨some 154, .move (.tmp 18), 3, _, _, none⟩) (v := ?_) rfl rfl (fun wz => ?_) ?_
        rotate_left
        ·go_simp; (try with_reducible rfl)
        try simp only [Act.put, sqA, sqB, sqC]
        refine seq_W (o := ⟨some 155, .binOp .add 3 (.tmp 154) (.const (.int .i64 8)) 3, 3, _, _, none⟩) (v := ?_) rfl rfl (fun wz => ?_) ?_
        rotate_left
        ·go_simp; (try with_reducible rfl)
        try simp only [Act.put, sqA, sqB, sqC]
        refine seq_W (o := ⟨some 156, .indexAddr 118 (.tmp 153) (.tmp 155), 0, _, _, none⟩) (v := ?_) rfl rfl (fun wz => ?_) ?_
        rotate_left
        ·go_simp; (try with_reducible rfl)
        try simp only [Act.put, sqA, sqB, sqC]
        refine seq_R (o := ⟨some 157, .load 120 (.tmp 156), 120, _, _, none⟩) (v := ?_) rfl rfl ?_ ?_
        rotate_left
        ·go_simp; (try with_reducible rfl)
        try simp only [Act.put, sqA, sqB, sqC]
        refine seq_W (o := ⟨some 158, .binOp .xor 120 (.tmp 152) (.tmp 157) 120, 120, _, _, none⟩) (v := ?_) rfl rfl (fun wz => ?_) ?_
        rotate_left
        ·go_simp; (try with_reducible rfl)
        try simp only [Act.put, sqA, sqB, sqC]
        refine seq_A (o := ⟨some 159, .buildSlice 118 1 #[(0, .tmp 158)], 118, _, _, none⟩) rfl rfl (fun K hK => ?_)
        refine wp_build1W rfl rfl (hK _ _ ?_)
        clear hK K
        try simp only [Act.put, sqA, sqB, sqC]
        refine seq_A (o := ⟨some 160, .call ⟨.builtin .append, #[.tmp 143, .tmp 159], #[118, 118]⟩, 118, _, _, none⟩) rfl rfl (fun K hK => ?_)
        refine wp_append_W rfl rfl rfl (HO.out.alloc _) (one_srcW _ q) (by simp; omega) ?_
        intro v1 W1 hO1
        rw [← HL.out] at hO1
        refine hK _ _ ?_
        clear hK K
        have HO1 : Hid (OwW W10 W1 v1 ((List.range (k + 1)).map (fun i => xorW (xorW (h.getD i 0) (R.getD i 0)) (R.getD (i + 8) 0)))) := hO1
        obtain ⟨ad1, cp1, hv1⟩ := hO1.form0
        rw [List.length_map, List.length_range] at hv1
        subst hv1
        clear hO1
        try simp only [Act.put, sqA, sqB, sqC]
        refine seq_W (o := ⟨some 17, .assign (.tmp 160), 118, _, _, none⟩) (v := ?_) rfl rfl (fun wz => ?_) ?_
        rotate_left
        ·go_simp; (try with_reducible rfl)
        try simp only [Act.put, sqA, sqB, sqC]
        refine seq_nil (NoPanic.normal ?_)
        try simp only [Act.put, sqA, sqB, sqC]
        go_wp2
        refine ⟨⟨k + 1, by omega, by go_num, HO1.out⟩, ?_⟩
        simp [intOf]
        omega
       ·obtain rfl : k = 8 := by omega
        rw [HC.out] at hO
        have hO' : OwW w wr u17 (cF h b t false) := hO.mono HW.out.2.2
        clear hO
        go_wp2
        go_ret
        exact ⟨_, rfl, hO'⟩
   ·obtain ⟨a14, ha14⟩ : ∃ u, u = (v2 h t).getD 14 0 := ⟨_, rfl⟩
    have la14 : a14 < 4294967296 := by rw [ha14]; exact o5.2 14
    obtain ⟨x14, hx14⟩ : ∃ u, u = xorW 4294967295 a14 := ⟨_, rfl⟩
    have c14 : W5.cell? ⟨gv, 14, none⟩ = some (.int .u32 (a14 : Nat)) := by rw [ha14]; exact hV5.cell (by rw [o5.1]; omega)
    have f14 := hV5.free 14
    have hV6 : VAt (W5.setCell ⟨gv, 14, none⟩ (.int .u32 (x14 : Nat))) gv (v3 h t true) := by
     have := hV5.set (j := 14) (by rw [o5.1]; omega) x14
     rw [hx14, ha14] at this
     rw [hx14, ha14]
     exact this
    have HF6 : Hid (Frm [gv] W3 (W5.setCell ⟨gv, 14, none⟩ (.int .u32 (x14 : Nat)))) := hF5.setCell _ _ (by simp)
    have n14 : bits .xor .u32 (a14 : Int) 4294967295 = (x14 : Nat) := by
     rw [hx14, show xorW 4294967295 a14 = xorW a14 4294967295 from Nat.xor_comm _ _]
     exact xor_W a14 4294967295 la14 (by decide)
    clear ha14 hx14 hV5 hF5 o5
    go_upto_region 12 with fail
    generalize W5.setCell ⟨gv, 14, none⟩ (.int .u32 (x14 : Nat)) = W6 at *
    clear c14 f14 n14 la14
    have oV := v3_ok oh t true
    obtain ⟨V, hVV⟩ : ∃ V, V = v3 h t true := ⟨_, rfl⟩
    rw [← hVV] at hV6 oV
    have HVV : Hid (V = v3 h t true) := hVV
    clear hVV
    go_upto_region 13 with fail
    have hgv6 : gv < W6.heap.size := hV6.lt
    change Code.wp Tryz.prog _ _ _ (plW W6)
    have hP7 := plW_at W6 hgv6
    have hf7 := plW_frm W6
    have hV7 : VAt (plW W6) gv V := hV6.keep hf7 (by simp)
    have hF7 : Frm [gv] W3 (plW W6) := HF6.out.trans (hf7.mono (by simp))
    have hM7 : VAt (plW W6) gm M := by
     have h1 : VAt W3 gm M := by
      obtain ⟨sp, tt, hg⟩ := HBm.out.2.1
      exact ⟨sp, tt, by rw [HB3.block _ (lt_of_block hg)]; exact hg⟩
     exact h1.keep hF7 (by have := HBm.out.2.2.2.1; simp; omega)
    have hH7 : VAt (plW W6) gh h := by
     have h1 : VAt W3 gh h := by
      obtain ⟨sp, tt, hg⟩ := HBm.out.2.2.1
      exact ⟨sp, tt, by rw [HB3.block _ (lt_of_block hg)]; exact hg⟩
     exact h1.keep hF7 (by have := HBm.out.2.2.2.2; simp; omega)
    have hW7 : Below w.heap.size w (plW W6) := by
     have h1 : Below w.heap.size w W3 := HBm.out.1.trans (HB3.mono HBm.out.1.size)
     exact h1.trans (hF7.below h1.size (by have := HBm.out.1.size; simp; omega))
    have HG : Hid (gm ≠ gv ∧ gh ≠ gv ∧ w.heap.size ≤ gv) := ⟨by have := HBm.out.2.2.2.1; omega, by have := HBm.out.2.2.2.2; omega, by have := HBm.out.1.size; omega⟩
    clear hf7 hF7 HF6 HB3 HBm hV6 hgv6
    generalize plW W6 = W7 at *
    generalize W6.heap.size + 1 + 1 + 1 + 1 + 1 + 1 + 1 + 1 = pb at *
    go_wp2_with fail
    go_loopw [13] (fun rv (w' : World) => ∃ r : Nat, r ≤ 10 ∧ rv = .int .i64 r ∧ VAt w' gv (rP M V r) ∧ Frm [gv] W7 w') (fun rv _ => 10 - (intOf rv).toNat)
    case atStart => exact ⟨0, by omega, rfl, hV7, Frm.refl _ _⟩
    case round =>
     obtain ⟨r, hr, rfl, hVr, hFr⟩ := hrel
     by_cases hlr : r < 10
     ·have hr' : (r : Int) < 10 := by omega
      have oR := rP_ok (m := M) oV r
      obtain ⟨R, hR⟩ : ∃ R, R = rP M V r := ⟨_, rfl⟩
      rw [← hR] at hVr oR
      have HR : Hid (R = rP M V r) := hR
      clear hR
      go_wp2_with fail
      refine (row_any r hlr wr).mono ?_
      rintro e W8 ⟨rfl, hb8⟩
      have HV8 : Hid (VAt W8 gv R ∧ Frm [gv] W7 W8) := ⟨hVr.keep (Frm.ofBelow (S := []) hb8) (by simp), hFr.trans (Frm.ofBelow hb8)⟩
      clear hVr hFr hb8
      go_wp2_with fail
      go_loopw [15] (fun iv (w' : World) => ∃ i : Nat, i ≤ 8 ∧ iv = .int .i64 i ∧ VAt w' gv (gP M (rowL r) R i) ∧ Frm [gv] W7 w') (fun iv _ => 8 - (intOf iv).toNat)
      case atStart => exact ⟨0, by omega, rfl, HV8.out.1, HV8.out.2⟩
      case round =>
       obtain ⟨i, hi, rfl, hVi, hFi⟩ := hrel
       by_cases hli : i < 8
       ·have hi' : (i : Int) < 8 := by omega
        have oI := gP_ok (m := M) (s := rowL r) oR i
        obtain ⟨q, hqv, z0, z1, z2, z3, z4⟩ := (hP7.keep hFi).2 i hli
        have hp := pl_ok hli
        obtain ⟨i1, hi1⟩ : ∃ u, u = (rowL r).getD (2 * i) 0 := ⟨_, rfl⟩
        obtain ⟨i2, hi2⟩ : ∃ u, u = (rowL r).getD (2 * i + 1) 0 := ⟨_, rfl⟩
        have l1 : i1 < 16 := by rw [hi1]; exact rowL_lt hlr _
        have l2 : i2 < 16 := by rw [hi2]; exact rowL_lt hlr _
        have s1 : (rowS r)[2 * i]? = some (UInt8.ofNat (dg i1)) := by rw [hi1]; exact rowS_at hlr (by omega)
        have s2 : (rowS r)[2 * i + 1]? = some (UInt8.ofNat (dg i2)) := by rw [hi2]; exact rowS_at hlr (by omega)
        obtain ⟨x, hx⟩ : ∃ u, u = M.getD i1 0 := ⟨_, rfl⟩
        obtain ⟨y, hy⟩ : ∃ u, u = M.getD i2 0 := ⟨_, rfl⟩
        have hMi : VAt wr gm M := hM7.keep hFi (by simpa using HG.out.1)
        have c1 : wr.cell? ⟨gm, i1, none⟩ = some (.int .u32 (x : Nat)) := by rw [hx]; exact hMi.cell (by rw [oM.1]; exact l1)
        have c2 : wr.cell? ⟨gm, i2, none⟩ = some (.int .u32 (y : Nat)) := by rw [hy]; exact hMi.cell (by rw [oM.1]; exact l2)
        have w1 : IntKind.i64.wrap (2 * (i : Int)) = 2 * (i : Int) := by rw [IntKind.wrap_i64]; omega
        have w2 : IntKind.i64.wrap (2 * (i : Int) + 1) = 2 * (i : Int) + 1 := by rw [IntKind.wrap_i64]; omega
        have g1 : (i1 : Int) < 16 := by omega
        have g2 : (i2 : Int) < 16 := by omega
        have HGI : Hid (gP M (rowL r) R (i + 1) = setF (gP M (rowL r) R i) (pl i).1 (pl i).2.1 (pl i).2.2.1 (pl i).2.2.2 (gF (four (gP M (rowL r) R i) (pl i).1 (pl i).2.1 (pl i).2.2.1 (pl i).2.2.2) x y)) := by
         show _ = _
         rw [gP, gAt, hx, hy, hi1, hi2]
        obtain ⟨G, hG⟩ : ∃ G, G = gP M (rowL r) R i := ⟨_, rfl⟩
        rw [← hG] at hVi oI HGI
        obtain ⟨pa, hpa⟩ : ∃ u, u = (pl i).1 := ⟨_, rfl⟩
        obtain ⟨pb1, hpb⟩ : ∃ u, u = (pl i).2.1 := ⟨_, rfl⟩
        obtain ⟨pc, hpc⟩ : ∃ u, u = (pl i).2.2.1 := ⟨_, rfl⟩
        obtain ⟨pd, hpd⟩ : ∃ u, u = (pl i).2.2.2 := ⟨_, rfl⟩
        rw [← hpa, ← hpb, ← hpc, ← hpd] at HGI hp
        rw [← hpa] at z1
        rw [← hpb] at z2
        rw [← hpc] at z3
        rw [← hpd] at z4
        have HVi : Hid (VAt wr gv G ∧ Frm [gv] W7 wr) := ⟨hVi, hFi⟩
        clear hi1 hi2 hx hy hMi hVi hFi hG hpa hpb hpc hpd HV8
        go_upto_region 21 with fail
        have S0 : wr.drew.cell? ⟨q, 0, none⟩ = some (.int .i64 (pa : Nat)) ∧ wr.drew.cell? ⟨q, 1, none⟩ = some (.int .i64 (pb1 : Nat)) ∧ wr.drew.cell? ⟨q, 2, none⟩ = some (.int .i64 (pc : Nat)) ∧ wr.drew.cell? ⟨q, 3, none⟩ = some (.int .i64 (pd : Nat)) ∧ wr.drew.cell? ⟨gm, i1, none⟩ = some (.int .u32 (x : Nat)) ∧ wr.drew.cell? ⟨gm, i2, none⟩ = some (.int .u32 (y : Nat)) := ⟨z1, z2, z3, z4, c1, c2⟩
        clear z0 z1 z2 z3 z4 c1 c2
        refine wp_region_noPanic ?_
        refine wp_region_held_drew (S := fun w' => w'.cell? ⟨q, 0, none⟩ = some (.int .i64 (pa : Nat)) ∧ w'.cell? ⟨q, 1, none⟩ = some (.int .i64 (pb1 : Nat)) ∧ w'.cell? ⟨q, 2, none⟩ = some (.int .i64 (pc : Nat)) ∧ w'.cell? ⟨q, 3, none⟩ = some (.int .i64 (pd : Nat)) ∧ w'.cell? ⟨gm, i1, none⟩ = some (.int .u32 (x : Nat)) ∧ w'.cell? ⟨gm, i2, none⟩ = some (.int .u32 (y : Nat))) (by kernel_rfl) S0 (fun hHeld => ?_)
        refine wpV 0 ⟨some 108, .move (.tmp 11), 118, _, _, none⟩ rfl ?_
        try simp only [Act.put, sqA, sqB, sqC]
        refine wpV 1 ⟨some 109, .move (.tmp 16), 54, _, _, none⟩ rfl ?_
        try simp only [Act.put, sqA, sqB, sqC]
        refine wpV 2 ⟨some 110, .indexAddr 54 (.tmp 109) (.const (.int .i64 0)), 0, _, _, none⟩ rfl ?_
        try simp only [Act.put, sqA, sqB, sqC]
        refine wpV 3 ⟨some 111, .load 3 (.tmp 110), 3, _, _, none⟩ rfl ?_
        try simp only [Act.put, sqA, sqB, sqC]
        refine wpV 4 ⟨some 112, .move (.tmp 16), 54, _, _, none⟩ rfl ?_
        try simp only [Act.put, sqA, sqB, sqC]
        refine wpV 5 ⟨some 113, .indexAddr 54 (.tmp 112) (.const (.int .i64 1)), 0, _, _, none⟩ rfl ?_
        try simp only [Act.put, sqA, sqB, sqC]
        refine wpV 6 ⟨some 114, .load 3 (.tmp 113), 3, _, _, none⟩ rfl ?_
        try simp only [Act.put, sqA, sqB, sqC]
        refine wpV 7 ⟨some 115, .move (.tmp 16), 54, _, _, none⟩ rfl ?_
        try simp only [Act.put, sqA, sqB, sqC]
        refine wpV 8 ⟨some 116, .indexAddr 54 (.tmp 115) (.const (.int .i64 2)), 0, _, _, none⟩ rfl ?_
        try simp only [Act.put, sqA, sqB, sqC]
        refine wpV 9 ⟨some 117, .load 3 (.tmp 116), 3, _, _, none⟩ rfl ?_
        try simp only [Act.put, sqA, sqB, sqC]
        refine wpV 10 ⟨some 118, .move (.tmp 16), 54, _, _, none⟩ rfl ?_
        try simp only [Act.put, sqA, sqB, sqC]
        refine wpV 11 ⟨some 119, .indexAddr 54 (.tmp 118) (.const (.int .i64 3)), 0, _, _, none⟩ rfl ?_
        try simp only [Act.put, sqA, sqB, sqC]
        refine wpV 12 ⟨some 120, .load 3 (.tmp 119), 3, _, _, none⟩ rfl ?_
        try simp only [Act.put, sqA, sqB, sqC]
        refine wpV 13 ⟨some 121, .move (.tmp 9), 118, _, _, none⟩ rfl ?_
        try simp only [Act.put, sqA, sqB, sqC]
        refine wpV 14 ⟨some 122, .move (.tmp 14), 9, _, _, none⟩ rfl ?_
        try simp only [Act.put, sqA, sqB, sqC]
        refine wpV 15 ⟨some 123, .move (.tmp 15), 3, _, _, none⟩ rfl ?_
        try simp only [Act.put, sqA, sqB, sqC]
        refine wpV 16 ⟨some 124, .binOp .mul 3 (.const (.int .i64 2)) (.tmp 123) 3, 3, _, _, none⟩ rfl ?_
        try simp only [Act.put, sqA, sqB, sqC]
        refine wpU 17 ⟨some 125, .index 9 (.tmp 122) (.tmp 124), 5, _, _, none⟩ (v := .int .u8 (dg i1 : Nat)) rfl ?_ ?_
        ·intro wz hSw; (try dsimp only at hSw); exact ru_idxT Tryz.underlying9 rfl rfl rfl (by omega) s1 (dg_lt l1)
        try simp only [Act.put, sqA, sqB, sqC]
        refine wpV 21 ⟨some 129, .move (.tmp 9), 118, _, _, none⟩ rfl ?_
        try simp only [Act.put, sqA, sqB, sqC]
        refine wpV 22 ⟨some 130, .move (.tmp 14), 9, _, _, none⟩ rfl ?_
        try simp only [Act.put, sqA, sqB, sqC]
        refine wpV 23 ⟨some 131, .move (.tmp 15), 3, _, _, none⟩ rfl ?_
        try simp only [Act.put, sqA, sqB, sqC]
        refine wpV 24 ⟨some 132, .binOp .mul 3 (.const (.int .i64 2)) (.tmp 131) 3, 3, _, _, none⟩ rfl ?_
        try simp only [Act.put, sqA, sqB, sqC]
        refine wpV 25 ⟨some 133, .binOp .add 3 (.tmp 132) (.const (.int .i64 1)) 3, 3, _, _, none⟩ rfl ?_
        try simp only [Act.put, sqA, sqB, sqC]
        refine wpU 26 ⟨some 134, .index 9 (.tmp 130) (.tmp 133), 5, _, _, none⟩ (v := .int .u8 (dg i2 : Nat)) rfl ?_ ?_
        ·intro wz hSw; (try dsimp only at hSw); exact ru_idxT Tryz.underlying9 rfl rfl rfl (by omega) s2 (dg_lt l2)
        try simp only [Act.put, sqA, sqB, sqC]
        refine wpAnyH_ready (rs := [18]) (by kernel_rfl) (by simp) ?_
        refine (AllReadyH.cons (o := ⟨some 126, .call ⟨.value (.func 83), #[.tmp 125], #[5]⟩, 3, _, _, none⟩) rfl (fun K hK => ?_) AllReadyH.nil)
        go_simp
        refine (digit_any i1 l1 _).mono ?_
        rintro e wq ⟨rfl, rfl⟩
        refine hK.out _ _ S0 (fun _ => ?_)
        clear hK K
        try simp only [Act.put, sqA, sqB, sqC]
        refine wpV 19 ⟨some 127, .indexAddr 118 (.tmp 121) (.tmp 126), 0, _, _, none⟩ rfl ?_
        try simp only [Act.put, sqA, sqB, sqC]
        refine wpV 20 ⟨some 128, .load 120 (.tmp 127), 120, _, _, none⟩ rfl ?_
        try simp only [Act.put, sqA, sqB, sqC]
        refine wpAnyH_ready (rs := [27]) (by kernel_rfl) (by simp) ?_
        refine (AllReadyH.cons (o := ⟨some 135, .call ⟨.value (.func 83), #[.tmp 134], #[5]⟩, 3, _, _, none⟩) rfl (fun K hK => ?_) AllReadyH.nil)
        go_simp
        refine (digit_any i2 l2 _).mono ?_
        rintro e wq ⟨rfl, rfl⟩
        refine hK.out _ _ S0 (fun _ => ?_)
        clear hK K
        try simp only [Act.put, sqA, sqB, sqC]
        refine wpV 28 ⟨some 136, .indexAddr 118 (.tmp 129) (.tmp 135), 0, _, _, none⟩ rfl ?_
        try simp only [Act.put, sqA, sqB, sqC]
        refine wpV 29 ⟨some 137, .load 120 (.tmp 136), 120, _, _, none⟩ rfl ?_
        try simp only [Act.put, sqA, sqB, sqC]
        refine wpAnyH_ready (rs := [30]) (by kernel_rfl) (by simp) ?_
        refine (AllReadyH.cons (o := ⟨some 138, .call ⟨.value (.func 82), #[.tmp 108, .tmp 111, .tmp 114, .tmp 117, .tmp 120, .tmp 128, .tmp 137], #[118, 3, 3, 3, 3, 120, 120]⟩, 0, _, _, none⟩) rfl (fun K hK => ?_) AllReadyH.nil)
        go_simp
        refine (rstep_any gv cv G pa pb1 pc pd x y wr.drew (VAt.keep (w' := wr.drew) HVi.out.1 (Frm.refl [] wr).drew (by simp)) oI hp).mono ?_
        rintro e W9 ⟨rfl, hV9, hF9⟩
        have S9 := S0
        refine hK.out _ _ ⟨cell_keep hF9 S0.1 (by simpa using hqv), cell_keep hF9 S0.2.1 (by simpa using hqv), cell_keep hF9 S0.2.2.1 (by simpa using hqv), cell_keep hF9 S0.2.2.2.1 (by simpa using hqv), cell_keep hF9 S0.2.2.2.2.1 (by simpa using HG.out.1), cell_keep hF9 S0.2.2.2.2.2 (by simpa using HG.out.1)⟩ (fun _ => ?_)
        clear hK K
        try simp only [Act.put, sqA, sqB, sqC]
        refine wpAnyH_done (by kernel_rfl) (NoPanic.normal ?_) _
        try simp only [Act.put, sqA, sqB, sqC]
        have HN : Hid (VAt W9 gv (gP M (rowL r) R (i + 1)) ∧ Frm [gv] W7 W9) := by
         rw [HGI.out]
         exact ⟨hV9, (HVi.out.2.drew).trans hF9⟩
        clear hHeld S0 S9 hV9 hF9
        go_wp2
        refine ⟨⟨i + 1, by omega, by go_num, HN.out.1, HN.out.2⟩, ?_⟩
        simp [intOf]
        omega
       ·obtain rfl : i = 8 := by omega
        have HN : Hid (VAt wr gv (rP M V (r + 1)) ∧ Frm [gv] W7 wr) := by
         refine ⟨?_, hFi⟩
         rw [gP_all, HR.out] at hVi
         exact hVi
        clear hVi hFi HV8
        go_wp2
        refine ⟨⟨r + 1, by omega, by go_num, HN.out.1, HN.out.2⟩, ?_⟩
        simp [intOf]
        omega
     ·obtain rfl : r = 10 := by omega
      have oR := rP_ok (m := M) oV 10
      obtain ⟨R, hR⟩ : ∃ R, R = rP M V 10 := ⟨_, rfl⟩
      rw [← hR] at hVr oR
      have hHr : VAt wr gh h := hH7.keep hFr (by simpa using HG.out.2.1)
      have hWr : Below w.heap.size w wr := hW7.trans (hFr.below hW7.size (by have := HG.out.2.2; simp; omega))
      have HC : Hid ((List.range 8).map (fun i => xorW (xorW (h.getD i 0) (R.getD i 0)) (R.getD (i + 8) 0)) = cF h b t true) := by
       show _ = _
       rw [cF, hP_all oh.1, hR, HVV.out, HM.out]
      have HW : Hid (VAt wr gv R ∧ VAt wr gh h ∧ Below w.heap.size w wr) := ⟨hVr, hHr, hWr⟩
      clear hR hVr hHr hWr hFr hV7 hM7 hH7 hW7 hP7
      go_wp2_with fail
      generalize wr = W10 at *
      go_loopw [17, 18] (fun ov iv (w' : World) => ∃ k : Nat, k ≤ 8 ∧ iv = .int .i64 k ∧ OwW W10 w' ov ((List.range k).map (fun i => xorW (xorW (h.getD i 0) (R.getD i 0)) (R.getD (i + 8) 0)))) (fun _ iv _ => 8 - (intOf iv).toNat)
      case atStart => exact ⟨0, by omega, rfl, OwW.nil W10⟩
      case round =>
       obtain ⟨k, hk, rfl, hO⟩ := hrel
       by_cases hlk : k < 8
       ·have hk' : (k : Int) < 8 := by omega
        have hk16 : (k : Int) < 16 := by omega
        have b8 : (k : Int) + 8 < 16 := by omega
        have p8 : (0 : Int) ≤ (k : Int) + 8 := by omega
        have e8 : IntKind.i64.wrap ((k : Int) + 8) = (k : Int) + 8 := by rw [IntKind.wrap_i64]; omega
        have t8 : ((k : Int) + 8).toNat = k + 8 := by omega
        have hOd := hO.drew
        have kp : ∀ (g : Nat) (v : List Nat), VAt W10 g v → VAt wr.drew g v := fun g v ⟨sp, tt, hg⟩ => ⟨sp, tt, by rw [hOd.below.block _ (lt_of_block hg)]; exact hg⟩
        obtain ⟨x, hx⟩ : ∃ u, u = h.getD k 0 := ⟨_, rfl⟩
        obtain ⟨y, hy⟩ : ∃ u, u = R.getD k 0 := ⟨_, rfl⟩
        obtain ⟨z, hz⟩ : ∃ u, u = R.getD (k + 8) 0 := ⟨_, rfl⟩
        have lx : x < 4294967296 := by rw [hx]; exact oh.2 k
        have ly : y < 4294967296 := by rw [hy]; exact oR.2 k
        have lz : z < 4294967296 := by rw [hz]; exact oR.2 (k + 8)
        have d1 : wr.drew.cell? ⟨gh, k, none⟩ = some (.int .u32 (x : Nat)) := by rw [hx]; exact (kp _ _ HW.out.2.1).cell (by rw [oh.1]; exact hlk)
        have d2 : wr.drew.cell? ⟨gv, k, none⟩ = some (.int .u32 (y : Nat)) := by rw [hy]; exact (kp _ _ HW.out.1).cell (by rw [oR.1]; omega)
        have d3 : wr.drew.cell? ⟨gv, k + 8, none⟩ = some (.int .u32 (z : Nat)) := by rw [hz]; exact (kp _ _ HW.out.1).cell (by rw [oR.1]; omega)
        have n1 := xor_W x y lx ly
        have lxy := xorW_lt lx ly
        obtain ⟨xy, hxy⟩ : ∃ q, q = xorW x y := ⟨_, rfl⟩
        rw [← hxy] at n1 lxy
        have n2 := xor_W xy z lxy lz
        obtain ⟨q, hq⟩ : ∃ q, q = xorW xy z := ⟨_, rfl⟩
        rw [← hq] at n2
        have HL : Hid ((List.range (k + 1)).map (fun i => xorW (xorW (h.getD i 0) (R.getD i 0)) (R.getD (i + 8) 0)) = (List.range k).map (fun i => xorW (xorW (h.getD i 0) (R.getD i 0)) (R.getD (i + 8) 0)) ++ [q]) := by
         show _ = _
         rw [List.range_succ, List.map_append, hq, hxy, hx, hy, hz]
         rfl
        have HO : Hid (OwW W10 wr.drew u17 ((List.range k).map (fun i => xorW (xorW (h.getD i 0) (R.getD i 0)) (R.getD (i + 8) 0)))) := hOd
        clear hx hy hz hxy hq hO hOd kp lx ly lz lxy
        go_wp2_with fail
        refine region_seq (c := 16) (f := 60) (ts := [(0, 0), (0, 1), (0, 2), (0, 3), (1, 4), (0, 5), (0, 6), (0, 7), (1, 8), (0, 9), (0, 10), (0, 11), (0, 12), (0, 13), (1, 14), (0, 15), (2, 16), (2, 17), (0, 18)]) (by kernel_rfl) (by kernel_rfl) ?_
        refine seq_W (o := ⟨some 143, .move (.tmp 17), 118, _, _, none⟩) (v := ?_) rfl rfl (fun wz => ?_) ?_
        rotate_left
        ·go_simp; (try with_reducible rfl)
        try simp only [Act.put, sqA, sqB, sqC]
        refine seq_W (o := ⟨some 144, .move (.tmp 0), 118, _, _, none⟩) (v := ?_) rfl rfl (fun wz => ?_) ?_
        rotate_left
        ·go_simp; (try with_reducible rfl)
        try simp only [Act.put, sqA, sqB, sqC]
        refine seq_W (o := ⟨some 145, .move (.tmp 18), 3, _, _, none⟩) (v := ?_) rfl rfl (fun wz => ?_) ?_
        rotate_left
        ·go_simp; (try with_reducible rfl)
        try simp only [Act.put, sqA, sqB, sqC]
        refine seq_W (o := ⟨some 146, .indexAddr 118 (.tmp 144) (.tmp 145), 0, _, _, none⟩) (v := ?_) rfl rfl (fun wz => ?_) ?_
        rotate_left
        ·go_simp; (try with_reducible rfl)
        try simp only [Act.put, sqA, sqB, sqC]
        refine seq_R (o := ⟨some 147, .load 120 (.tmp 146), 120, _, _, none⟩) (v := ?_) rfl rfl ?_ ?_
        rotate_left
        ·go_simp; (try with_reducible rfl)
        try simp only [Act.put, sqA, sqB, sqC]
        refine seq_W (o := ⟨some 148, .move (.tmp 11), 118, _, _, none⟩) (v := ?_) rfl rfl (fun wz => ?_) ?_
        rotate_left
        ·go_simp; (try with_reducible rfl)
        try simp only [Act.put, sqA, sqB, sqC]
        refine seq_W (o := ⟨some 149, .move (.tmp 18), 3, _, _, none⟩) (v := ?_) rfl rfl (fun wz => ?_) ?_
        rotate_left
        ·go_simp; (try with_reducible rfl)
        try simp only [Act.put, sqA, sqB, sqC]
        refine seq_W (o := ⟨some 150, .indexAddr 118 (.tmp 148) (.tmp 149), 0, _, _, none⟩) (v := ?_) rfl rfl (fun wz => ?_) ?_
        rotate_left
        ·go_simp; (try with_reducible rfl)
        try simp only [Act.put, sqA, sqB, sqC]
        refine seq_R (o := ⟨some 151, .load 120 (.tmp 150), 120, _, _, none⟩) (v := ?_) rfl rfl ?_ ?_
        rotate_left
        ·go_simp; (try with_reducible rfl)
        try simp only [Act.put, sqA, sqB, sqC]
        refine seq_W (o := ⟨some 152, .binOp .xor 120 (.tmp 147) (.tmp 151) 120, 120, _, _, none⟩) (v := ?_) rfl rfl (fun wz => ?_) ?_
        rotate_left
        ·go_simp; (try with_reducible rfl)
        try simp only [Act.put, sqA, sqB, sqC]
        refine seq_W (o := ⟨some 153, .move (.tmp 11), 118, _, _, none⟩) (v := ?_) rfl rfl (fun wz => ?_) ?_
        rotate_left
        ·go_simp; (try with_reducible rfl)
        try simp only [Act.put, sqA, sqB, sqC]
        refine seq_W (o := ⟨some 154, .move (.tmp 18), 3, _, _, none⟩) (v := ?_) rfl rfl (fun wz => ?_) ?_
        rotate_left
        ·go_simp; (try with_reducible rfl)
        try simp only [Act.put, sqA, sqB, sqC]
        refine seq_W (o := ⟨some 155, .binOp .add 3 (.tmp 154) (.const (.int .i64 8)) 3, 3, _, _, none⟩) (v := ?_) rfl rfl (fun wz => ?_) ?_
        rotate_left
        ·go_simp; (try with_reducible rfl)
        try simp only [Act.put, sqA, sqB, sqC]
        refine seq_W (o := ⟨some 156, .indexAddr 118 (.tmp 153) (.tmp 155), 0, _, _, none⟩) (v := ?_) rfl rfl (fun wz => ?_) ?_
        rotate_left
        ·go_simp; (try with_reducible rfl)
        try simp only [Act.put, sqA, sqB, sqC]
        refine seq_R (o := ⟨some 157, .load 120 (.tmp 156), 120, _, _, none⟩) (v := ?_) rfl rfl ?_ ?_
        rotate_left
        ·go_simp; (try with_reducible rfl)
        try simp only [Act.put, sqA, sqB, sqC]
        refine seq_W (o := ⟨some 158, .binOp .xor 120 (.tmp 152) (.tmp 157) 120, 120, _, _, none⟩) (v := ?_) rfl rfl (fun wz => ?_) ?_
        rotate_left
        ·go_simp; (try with_reducible rfl)
        try simp only [Act.put, sqA, sqB, sqC]
        refine seq_A (o := ⟨some 159, .buildSlice 118 1 #[(0, .tmp 158)], 118, _, _, none⟩) rfl rfl (fun K hK => ?_)
        refine wp_build1W rfl rfl (hK _ _ ?_)
        clear hK K
        try simp only [Act.put, sqA, sqB, sqC]
        refine seq_A (o := ⟨some 160, .call ⟨.builtin .append, #[.tmp 143, .tmp 159], #[118, 118]⟩, 118, _, _, none⟩) rfl rfl (fun K hK => ?_)
        refine wp_append_W rfl rfl rfl (HO.out.alloc _) (one_srcW _ q) (by simp; omega) ?_
        intro v1 W1 hO1
        rw [← HL.out] at hO1
        refine hK _ _ ?_
        clear hK K
        have HO1 : Hid (OwW W10 W1 v1 ((List.range (k + 1)).map (fun i => xorW (xorW (h.getD i 0) (R.getD i 0)) (R.getD (i + 8) 0)))) := hO1
        obtain ⟨ad1, cp1, hv1⟩ := hO1.form0
        rw [List.length_map, List.length_range] at hv1
        subst hv1
        clear hO1
        try simp only [Act.put, sqA, sqB, sqC]
        refine seq_W (o := ⟨some 17, .assign (.tmp 160), 118, _, _, none⟩) (v := ?_) rfl rfl (fun wz => ?_) ?_
        rotate_left
        ·go_simp; (try with_reducible rfl)
        try simp only [Act.put, sqA, sqB, sqC]
        refine seq_nil (NoPanic.normal ?_)
        try simp only [Act.put, sqA, sqB, sqC]
        go_wp2
        refine ⟨⟨k + 1, by omega, by go_num, HO1.out⟩, ?_⟩
        simp [intOf]
        omega
       ·obtain rfl : k = 8 := by omega
        rw [HC.out] at hO
        have hO' : OwW w wr u17 (cF h b t true) := hO.mono HW.out.2.2
        clear hO
        go_wp2
        go_ret
        exact ⟨_, rfl, hO'⟩
end Go.Proofs.YtoefgfiabfkfaaaGreatDoor
