/- build: the branch of what was revoked. -/
import Derived.Test.YtjnepkggdkccaaaGreatDoorOwnShelf08
import Derived.Test.YtjnepkggdkccaaaGreatDoorOwnShelf07
namespace Go.Proofs.YtjnepkggdkccaaaGreatDoor
open Go.RowKit

theorem bv_setLk (v : Cd.Bv) (ka : Option Addr) (kc : Nat) (y : Nat → Int) {w : World} {g : Nat} {t : TypeId} (h : w.heap[g]? = some (.cells (Cd.bv v ka kc) t (0, 0))) : (w.setCells g 1 (hv y).toList).heap[g]? = some (.cells (Cd.bv { v with lk := y } ka kc) t (0, 0)) := by
 have := setCells_at g (hv y).toList 1 w [.slice ka v.n kc] (bl v.lk 32 ++ [.int .i64 v.af, .int .i64 v.ol]) t (by simpa [Cd.bv, Cd.brl] using h) rfl (by simp [hv_size, bl_length])
 rw [this, hv_list]
 simp [Cd.bv, Cd.brl, bl_length]
theorem wpList_storeLkB {ops : Array Oper} {rest : List Oper} {o : Oper} {a : Act} {w : World} {Q : Exit → Act → World → Prop} (hgd : o.guard = none) (x y : Operand) (ho : o.op = .store 23 x y) (g : Nat) (hx : a.eval x = .pointer (some ⟨g, 1, none⟩)) (z : Nat → Int) (hy : a.eval y = .agg (hv z)) (v : Cd.Bv) (ka : Option Addr) (kc : Nat) (t : TypeId) (hg : w.heap[g]? = some (.cells (Cd.bv v ka kc) t (0, 0)))
  (h : ∀ w', w'.heap[g]? = some (.cells (Cd.bv { v with lk := z } ka kc) t (0, 0)) → Frm [g] w w' → wpList Tryz.prog ops Q rest (a.put o.dst undef) w') : wpList Tryz.prog ops Q (o :: rest) a w := by
 refine wpList_store_mid hgd 23 x y ho g 1 (hv z) hx hy ?_ (by rw [hv_size]; exact hsz) (hv_one z) (h _ (bv_setLk v ka kc z hg) (setCells_frm g _ 1 w))
 intro j hj
 rw [hv_size] at hj
 refine ⟨?_, frozen_of_row w g _ _ t hg⟩
 rw [cell_of_row w g _ _ t _ hg]
 simp [Cd.bv_size]
 omega
theorem szHb (z : Nat → Int) : (Tryz.prog.info? 23).map (·.size) = some (bl z 32).length := by rw [bl_length]; exact hsz


set_option maxRecDepth 100000 in
set_option maxHeartbeats 3200000 in
theorem revoked_0 (P : Pm) (lk : Nat → Int) (y : Py) (h : Hd) (ka : Option Addr) (kc : Nat) (w : World) :
  Calls Tryz.prog 77 #[.agg (cmv ⟨P, 0, lk, y, h⟩ ka kc)] w fun e w' => ∃ k, e = .returned (.agg (Cd.bv ⟨1, fun _ => P.k1, lk, 0, 0⟩ (some ⟨k, 0, none⟩) 1)) ∧ w'.cell? ⟨k, 0, none⟩ = some (.int .i64 P.k1) ∧ w.heap.size ≤ k ∧ Below w.heap.size w w' := by
 have hb2 : Below w.heap.size w ((w.alloc (.cells (cmv ⟨P, 0, lk, y, h⟩ ka kc) 104)).alloc (.cells (Cd.bv ⟨0, nz, nz, 0, 0⟩ none 0) 164)) := ((Below.refl _ w).alloc (Nat.le_refl _) _).alloc (by simp) _
 have h2c : ((w.alloc (.cells (cmv ⟨P, 0, lk, y, h⟩ ka kc) 104)).alloc (.cells (Cd.bv ⟨0, nz, nz, 0, 0⟩ none 0) 164)).heap[w.heap.size]? = some (.cells (cmv ⟨P, 0, lk, y, h⟩ ka kc) 104 (0, 0)) := by rw [Below.heap_alloc _ _ _ (by simp)]; exact heap_alloc_new w _
 have h2r : ((w.alloc (.cells (cmv ⟨P, 0, lk, y, h⟩ ka kc) 104)).alloc (.cells (Cd.bv ⟨0, nz, nz, 0, 0⟩ none 0) 164)).heap[w.heap.size + 1]? = some (.cells (Cd.bv ⟨0, nz, nz, 0, 0⟩ none 0) 164 (0, 0)) := by
  have := heap_alloc_new (w.alloc (.cells (cmv ⟨P, 0, lk, y, h⟩ ka kc) 104)) (.cells (Cd.bv ⟨0, nz, nz, 0, 0⟩ none 0) 164)
  simpa using this
 have hbx := cmBox (cml_range h2c)
 have c38 := hbx.o
 have HA := hidV hbx.all
 have hc := branch_10 P lk y h ka kc ((w.alloc (.cells (cmv ⟨P, 0, lk, y, h⟩ ka kc) 104)).alloc (.cells (Cd.bv ⟨0, nz, nz, 0, 0⟩ none 0) 164))
 clear hbx
 go_enter Tryz.func77, Tryz.ntmps77
 go_wp2_with (first | (refine Go.Great.wpList_boxTo rfl _ _ rfl _ rfl _ rfl (cmv ⟨P, 0, lk, y, h⟩ ka kc) rfl ?_) | (refine wpList_allocG 164 (Cd.bv ⟨0, nz, nz, 0, 0⟩ none 0) run_allocBr rfl rfl ?_) | (refine wpList_load_mid rfl 104 _ rfl w.heap.size 0 rfl (cml ⟨P, 0, lk, y, h⟩ ka kc) _ HA.out Tryz.underlying104 rfl (szCml _ _ _) ?_) | fail)
 have H2 := hidV (And.intro hb2 (And.intro h2c h2r))
 clear hb2 h2c h2r c38 HA
 generalize ((w.alloc (.cells (cmv ⟨P, 0, lk, y, h⟩ ka kc) 104)).alloc (.cells (Cd.bv ⟨0, nz, nz, 0, 0⟩ none 0) 164)) = W2 at *
 refine hc.mono ?_
 rintro e w3 ⟨k, rfl, hk, hkl, hb3⟩
 clear hc
 have h3c : w3.heap[w.heap.size]? = some (.cells (cmv ⟨P, 0, lk, y, h⟩ ka kc) 104 (0, 0)) := by rw [hb3.block _ (lt_of_block H2.out.2.1)]; exact H2.out.2.1
 have h3r : w3.heap[w.heap.size + 1]? = some (.cells (Cd.bv ⟨0, nz, nz, 0, 0⟩ none 0) 164 (0, 0)) := by rw [hb3.block _ (lt_of_block H2.out.2.2)]; exact H2.out.2.2
 have hb3' : Below w.heap.size w w3 := H2.out.1.trans (hb3.mono H2.out.1.size)
 have hl1 : w.heap.size + 1 < W2.heap.size := lt_of_block H2.out.2.2
 have hk3 := World.block_lt_of_cell? w3 ⟨k, 0, none⟩ hk
 have H3 := hidV (And.intro hb3' (And.intro h3c (And.intro h3r hk)))
 have hs3 := hb3.size
 clear hb3 hb3' h3c h3r hk H2
 go_upto_region 2 with (first | (refine wpList_allocG 164 (Cd.bv ⟨0, nz, nz, 0, 0⟩ none 0) run_allocBr rfl rfl ?_) | (refine wpList_storeG 164 Cd.szB rfl _ _ rfl w3.heap.size rfl (Cd.bv ⟨1, fun _ => P.k1, nz, 0, 0⟩ (some ⟨k, 0, none⟩) 1) (Cd.bv ⟨0, nz, nz, 0, 0⟩ none 0) (Cd.bv_size _ _ _) (Cd.bv_size _ _ _) (Cd.bv_one _ _ _) 164 rfl (heap_alloc_new _ _) ?_; intro z5 hg5 hf5) | fail)
 have hf5' : Below w3.heap.size w3 z5 := ((Below.refl _ w3).alloc (Nat.le_refl _) _).trans (hf5.below (by simp) (by simp))
 have h5c : z5.heap[w.heap.size]? = some (.cells (cmv ⟨P, 0, lk, y, h⟩ ka kc) 104 (0, 0)) := by rw [hf5'.block _ (lt_of_block H3.out.2.1)]; exact H3.out.2.1
 have h5r : z5.heap[w.heap.size + 1]? = some (.cells (Cd.bv ⟨0, nz, nz, 0, 0⟩ none 0) 164 (0, 0)) := by rw [hf5'.block _ (lt_of_block H3.out.2.2.1)]; exact H3.out.2.2.1
 have h5k : z5.cell? ⟨k, 0, none⟩ = some (.int .i64 P.k1) := by rw [hf5'.cell (p := ⟨k, 0, none⟩) hk3]; exact H3.out.2.2.2
 have HL5 := hidV (cmBox (cml_range h5c)).lk
 have hb5 : Below w.heap.size w z5 := H3.out.1.trans (hf5'.mono H3.out.1.size)
 have hz5 := lt_of_block hg5
 have H5 := hidV (And.intro hb5 (And.intro h5r h5k))
 clear hf5 hf5' h5c h5r h5k hb5 H3
 go_upto_region 3 with (first | (refine wpList_load_mid rfl 23 _ rfl w.heap.size 39 rfl (bl lk 32) _ HL5.out Tryz.underlying23 rfl (szHb _) ?_) | (refine wpList_storeLkB rfl _ _ rfl w3.heap.size rfl lk rfl ⟨1, fun _ => P.k1, nz, 0, 0⟩ (some ⟨k, 0, none⟩) 1 164 hg5 ?_; intro z6 hg6 hf6) | fail)
 have h6r := hf6.heap H5.out.2.1 (by simp <;> omega)
 have h6k : z6.cell? ⟨k, 0, none⟩ = some (.int .i64 P.k1) := by rw [World.cell?_of_block (a := ⟨k, 0, none⟩) (hf6.block k (World.block_lt_of_cell? z5 ⟨k, 0, none⟩ H5.out.2.2) (by simp <;> omega))]; exact H5.out.2.2
 have HX : Hid (z6.rangeAt w3.heap.size 0 (Cd.brl ⟨1, fun _ => P.k1, lk, 0, 0⟩ (some ⟨k, 0, none⟩) 1)) := br_range hg6
 have hb6 : Below w.heap.size w z6 := H5.out.1.trans (hf6.below (by have := H5.out.1.size; omega) (by simp <;> omega))
 have H6 := hidV (And.intro h6k hb6)
 clear hg5 hg6 hf6 h6k hb6 H5 HL5
 go_wp2_with (first | (refine wpList_load_mid rfl 164 _ rfl w3.heap.size 0 rfl (Cd.brl ⟨1, fun _ => P.k1, lk, 0, 0⟩ (some ⟨k, 0, none⟩) 1) _ HX.out Tryz.underlying164 rfl (Cd.szBl _ _ _) ?_) | (refine wpList_storeG 164 Cd.szB rfl _ _ rfl (w.heap.size + 1) rfl (Cd.bv ⟨1, fun _ => P.k1, lk, 0, 0⟩ (some ⟨k, 0, none⟩) 1) (Cd.bv ⟨0, nz, nz, 0, 0⟩ none 0) (Cd.bv_size _ _ _) (Cd.bv_size _ _ _) (Cd.bv_one _ _ _) 164 rfl h6r ?_; intro z7 hg7 hf7) | fail)
 refine bodyPost_ret (results_cell_row Tryz.results77 _ z7 (w.heap.size + 1) 164 _ (0, 0) _ rfl hg7 Tryz.underlying164 rfl (Cd.szBv _ _ _)) rfl ⟨k, rfl, ?_, by omega, H6.out.2.trans (hf7.below (by have := H6.out.2.size; omega) (by simp))⟩
 rw [World.cell?_of_block (a := ⟨k, 0, none⟩) (hf7.block k (World.block_lt_of_cell? z6 ⟨k, 0, none⟩ H6.out.1) (by simp <;> omega))]
 exact H6.out.1


set_option maxRecDepth 100000 in
set_option maxHeartbeats 3200000 in
theorem revoked_1 (P : Pm) (lk : Nat → Int) (y : Py) (h : Hd) (ka : Option Addr) (kc : Nat) (w : World) :
  Calls Tryz.prog 77 #[.agg (cmv ⟨P, 1, lk, y, h⟩ ka kc)] w fun e w' => ∃ k, e = .returned (.agg (Cd.bv ⟨1, fun _ => P.k0, lk, 0, 0⟩ (some ⟨k, 0, none⟩) 1)) ∧ w'.cell? ⟨k, 0, none⟩ = some (.int .i64 P.k0) ∧ w.heap.size ≤ k ∧ Below w.heap.size w w' := by
 have hb2 : Below w.heap.size w ((w.alloc (.cells (cmv ⟨P, 1, lk, y, h⟩ ka kc) 104)).alloc (.cells (Cd.bv ⟨0, nz, nz, 0, 0⟩ none 0) 164)) := ((Below.refl _ w).alloc (Nat.le_refl _) _).alloc (by simp) _
 have h2c : ((w.alloc (.cells (cmv ⟨P, 1, lk, y, h⟩ ka kc) 104)).alloc (.cells (Cd.bv ⟨0, nz, nz, 0, 0⟩ none 0) 164)).heap[w.heap.size]? = some (.cells (cmv ⟨P, 1, lk, y, h⟩ ka kc) 104 (0, 0)) := by rw [Below.heap_alloc _ _ _ (by simp)]; exact heap_alloc_new w _
 have h2r : ((w.alloc (.cells (cmv ⟨P, 1, lk, y, h⟩ ka kc) 104)).alloc (.cells (Cd.bv ⟨0, nz, nz, 0, 0⟩ none 0) 164)).heap[w.heap.size + 1]? = some (.cells (Cd.bv ⟨0, nz, nz, 0, 0⟩ none 0) 164 (0, 0)) := by
  have := heap_alloc_new (w.alloc (.cells (cmv ⟨P, 1, lk, y, h⟩ ka kc) 104)) (.cells (Cd.bv ⟨0, nz, nz, 0, 0⟩ none 0) 164)
  simpa using this
 have hbx := cmBox (cml_range h2c)
 have c38 := hbx.o
 have HA := hidV hbx.all
 have hc := branch_01 P lk y h ka kc ((w.alloc (.cells (cmv ⟨P, 1, lk, y, h⟩ ka kc) 104)).alloc (.cells (Cd.bv ⟨0, nz, nz, 0, 0⟩ none 0) 164))
 clear hbx
 go_enter Tryz.func77, Tryz.ntmps77
 go_wp2_with (first | (refine Go.Great.wpList_boxTo rfl _ _ rfl _ rfl _ rfl (cmv ⟨P, 1, lk, y, h⟩ ka kc) rfl ?_) | (refine wpList_allocG 164 (Cd.bv ⟨0, nz, nz, 0, 0⟩ none 0) run_allocBr rfl rfl ?_) | (refine wpList_load_mid rfl 104 _ rfl w.heap.size 0 rfl (cml ⟨P, 1, lk, y, h⟩ ka kc) _ HA.out Tryz.underlying104 rfl (szCml _ _ _) ?_) | fail)
 have H2 := hidV (And.intro hb2 (And.intro h2c h2r))
 clear hb2 h2c h2r c38 HA
 generalize ((w.alloc (.cells (cmv ⟨P, 1, lk, y, h⟩ ka kc) 104)).alloc (.cells (Cd.bv ⟨0, nz, nz, 0, 0⟩ none 0) 164)) = W2 at *
 refine hc.mono ?_
 rintro e w3 ⟨k, rfl, hk, hkl, hb3⟩
 clear hc
 have h3c : w3.heap[w.heap.size]? = some (.cells (cmv ⟨P, 1, lk, y, h⟩ ka kc) 104 (0, 0)) := by rw [hb3.block _ (lt_of_block H2.out.2.1)]; exact H2.out.2.1
 have h3r : w3.heap[w.heap.size + 1]? = some (.cells (Cd.bv ⟨0, nz, nz, 0, 0⟩ none 0) 164 (0, 0)) := by rw [hb3.block _ (lt_of_block H2.out.2.2)]; exact H2.out.2.2
 have hb3' : Below w.heap.size w w3 := H2.out.1.trans (hb3.mono H2.out.1.size)
 have hl1 : w.heap.size + 1 < W2.heap.size := lt_of_block H2.out.2.2
 have hk3 := World.block_lt_of_cell? w3 ⟨k, 0, none⟩ hk
 have H3 := hidV (And.intro hb3' (And.intro h3c (And.intro h3r hk)))
 have hs3 := hb3.size
 clear hb3 hb3' h3c h3r hk H2
 go_upto_region 2 with (first | (refine wpList_allocG 164 (Cd.bv ⟨0, nz, nz, 0, 0⟩ none 0) run_allocBr rfl rfl ?_) | (refine wpList_storeG 164 Cd.szB rfl _ _ rfl w3.heap.size rfl (Cd.bv ⟨1, fun _ => P.k0, nz, 0, 0⟩ (some ⟨k, 0, none⟩) 1) (Cd.bv ⟨0, nz, nz, 0, 0⟩ none 0) (Cd.bv_size _ _ _) (Cd.bv_size _ _ _) (Cd.bv_one _ _ _) 164 rfl (heap_alloc_new _ _) ?_; intro z5 hg5 hf5) | fail)
 have hf5' : Below w3.heap.size w3 z5 := ((Below.refl _ w3).alloc (Nat.le_refl _) _).trans (hf5.below (by simp) (by simp))
 have h5c : z5.heap[w.heap.size]? = some (.cells (cmv ⟨P, 1, lk, y, h⟩ ka kc) 104 (0, 0)) := by rw [hf5'.block _ (lt_of_block H3.out.2.1)]; exact H3.out.2.1
 have h5r : z5.heap[w.heap.size + 1]? = some (.cells (Cd.bv ⟨0, nz, nz, 0, 0⟩ none 0) 164 (0, 0)) := by rw [hf5'.block _ (lt_of_block H3.out.2.2.1)]; exact H3.out.2.2.1
 have h5k : z5.cell? ⟨k, 0, none⟩ = some (.int .i64 P.k0) := by rw [hf5'.cell (p := ⟨k, 0, none⟩) hk3]; exact H3.out.2.2.2
 have HL5 := hidV (cmBox (cml_range h5c)).lk
 have hb5 : Below w.heap.size w z5 := H3.out.1.trans (hf5'.mono H3.out.1.size)
 have hz5 := lt_of_block hg5
 have H5 := hidV (And.intro hb5 (And.intro h5r h5k))
 clear hf5 hf5' h5c h5r h5k hb5 H3
 go_upto_region 3 with (first | (refine wpList_load_mid rfl 23 _ rfl w.heap.size 39 rfl (bl lk 32) _ HL5.out Tryz.underlying23 rfl (szHb _) ?_) | (refine wpList_storeLkB rfl _ _ rfl w3.heap.size rfl lk rfl ⟨1, fun _ => P.k0, nz, 0, 0⟩ (some ⟨k, 0, none⟩) 1 164 hg5 ?_; intro z6 hg6 hf6) | fail)
 have h6r := hf6.heap H5.out.2.1 (by simp <;> omega)
 have h6k : z6.cell? ⟨k, 0, none⟩ = some (.int .i64 P.k0) := by rw [World.cell?_of_block (a := ⟨k, 0, none⟩) (hf6.block k (World.block_lt_of_cell? z5 ⟨k, 0, none⟩ H5.out.2.2) (by simp <;> omega))]; exact H5.out.2.2
 have HX : Hid (z6.rangeAt w3.heap.size 0 (Cd.brl ⟨1, fun _ => P.k0, lk, 0, 0⟩ (some ⟨k, 0, none⟩) 1)) := br_range hg6
 have hb6 : Below w.heap.size w z6 := H5.out.1.trans (hf6.below (by have := H5.out.1.size; omega) (by simp <;> omega))
 have H6 := hidV (And.intro h6k hb6)
 clear hg5 hg6 hf6 h6k hb6 H5 HL5
 go_wp2_with (first | (refine wpList_load_mid rfl 164 _ rfl w3.heap.size 0 rfl (Cd.brl ⟨1, fun _ => P.k0, lk, 0, 0⟩ (some ⟨k, 0, none⟩) 1) _ HX.out Tryz.underlying164 rfl (Cd.szBl _ _ _) ?_) | (refine wpList_storeG 164 Cd.szB rfl _ _ rfl (w.heap.size + 1) rfl (Cd.bv ⟨1, fun _ => P.k0, lk, 0, 0⟩ (some ⟨k, 0, none⟩) 1) (Cd.bv ⟨0, nz, nz, 0, 0⟩ none 0) (Cd.bv_size _ _ _) (Cd.bv_size _ _ _) (Cd.bv_one _ _ _) 164 rfl h6r ?_; intro z7 hg7 hf7) | fail)
 refine bodyPost_ret (results_cell_row Tryz.results77 _ z7 (w.heap.size + 1) 164 _ (0, 0) _ rfl hg7 Tryz.underlying164 rfl (Cd.szBv _ _ _)) rfl ⟨k, rfl, ?_, by omega, H6.out.2.trans (hf7.below (by have := H6.out.2.size; omega) (by simp))⟩
 rw [World.cell?_of_block (a := ⟨k, 0, none⟩) (hf7.block k (World.block_lt_of_cell? z6 ⟨k, 0, none⟩ H6.out.1) (by simp <;> omega))]
 exact H6.out.1

end Go.Proofs.YtjnepkggdkccaaaGreatDoor
/- The document's Check. -/
namespace Go.Proofs.YtjnepkggdkccaaaGreatDoor.Cd
open Go.RowKit

/-- A branch of noughts. -/
def b0 : Bv := ⟨0, fun _ => 0, fun _ => 0, 0, 0⟩
theorem run_allocR (w : World) : (Instr.alloc 126 true (.tuple #[])).run Tryz.prog w = .ok (.pointer (some ⟨w.heap.size, 0, none⟩)) (w.alloc (.cells (bv b0 none 0) 126)) := by kernel_rfl
section
variable {ops : Array Oper} {rest : List Oper} {o : Oper} {a : Act} {w : World} {Q : Exit → Act → World → Prop}
theorem wpList_allocR (hgd : o.guard = none) (ho : o.op = .alloc 126)
  (h : wpList Tryz.prog ops Q rest (a.put o.dst (.pointer (some ⟨w.heap.size, 0, none⟩))) (w.alloc (.cells (bv b0 none 0) 126))) : wpList Tryz.prog ops Q (o :: rest) a w := by
 refine wpList_plain hgd fun K hK => ?_
 unfold Oper.wp execOp
 simp only [ho, Sem.run_bind, run_allocR, Result.andThen]
 exact hK _ _ h
/-- A whole branch stored into a variable of its own. -/
theorem wpList_storeR (T : TypeId) (hT : (Tryz.prog.info? T).map (·.size) = some 35) (hgd : o.guard = none) (x y : Operand) (ho : o.op = .store T x y) (g : Nat) (hx : a.eval x = .pointer (some ⟨g, 0, none⟩)) (v u : Bv) (ka ua : Option Addr) (kc uc : Nat) (t : TypeId) (hy : a.eval y = .agg (bv v ka kc)) (hg : w.heap[g]? = some (.cells (bv u ua uc) t (0, 0)))
  (h : ∀ w', w'.heap[g]? = some (.cells (bv v ka kc) t (0, 0)) → Frm [g] w w' → wpList Tryz.prog ops Q rest (a.put o.dst undef) w') : wpList Tryz.prog ops Q (o :: rest) a w := by
 refine wpList_store_mid hgd T x y ho g 0 (bv v ka kc) hx hy ?_ (by rw [bv_size]; exact hT) (bv_one v ka kc) (h _ ?_ (setCells_frm g _ 0 w))
 ·intro j hj
  rw [bv_size] at hj
  refine ⟨?_, ?_⟩
  ·rw [Nat.zero_add, cell_of_row w g j _ t _ hg]
   simp [bv_size, hj]
  ·rw [Nat.zero_add]; exact frozen_of_row w g j _ t hg
 ·have := setCells_at g (bv v ka kc).toList 0 w [] (bv u ua uc).toList t (by simpa using hg) rfl (by simp [bv_size])
  rw [this]
  simp [bv_size, List.drop_eq_nil_of_le]
end
theorem BBox.below {w w' : World} {g : Nat} {x : Bv} {ka : Option Addr} {kc : Nat} (h : BBox w g x ka kc) (hb : Below w.heap.size w w') : BBox w' g x ka kc := by
 have hl : g < w.heap.size := World.block_lt_of_cell? w ⟨g, 0, none⟩ h.c0
 exact ⟨by rw [hb.cell (p := ⟨g, 0, none⟩) hl]; exact h.c0, by rw [hb.cell (p := ⟨g, 33, none⟩) hl]; exact h.c33, by rw [hb.cell (p := ⟨g, 34, none⟩) hl]; exact h.c34⟩

set_option maxRecDepth 100000 in
set_option maxHeartbeats 3200000 in
theorem rcheck_any (ad : Option Addr) (n cap : Nat) (X : Nat → Bv) (w : World) (h : BrAt w ad n X) (hn : n ≤ 1000000) (hx : ∀ i, i < n → (X i).n ≤ 1000000) :
  Calls Tryz.prog 86 #[.agg #[.slice ad n cap]] w fun e w' => e = .returned (.int .i64 (chkE X n)) ∧ Below w.heap.size w w' := by
 have HB : Hid (BrAt w ad n X) := h
 have hb0 : Below w.heap.size w (w.alloc (.cells #[.slice ad n cap] 122)) := (Below.refl _ w).alloc (Nat.le_refl _) _
 have hc0 : (w.alloc (.cells #[.slice ad n cap] 122)).cell? ⟨w.heap.size, 0, none⟩ = some (.slice ad n cap) := by simp
 clear h
 by_cases h1 : n < 1
 ·have h1' : (n : Int) < 1 := by omega
  have HE : Hid (chkE X n = 1) := if_neg (fun h => by have := h.1; omega)
  go_enter Tryz.func86, Tryz.ntmps86
  go_wp2
  go_ret
  exact ⟨by rw [HE.out]; rfl, hb0⟩
 have h1' : ¬ (n : Int) < 1 := by omega
 by_cases h2 : 8 < n
 ·have h2' : (8 : Int) < n := by omega
  have HE : Hid (chkE X n = 1) := if_neg (fun h => by have := h.1; omega)
  go_enter Tryz.func86, Tryz.ntmps86
  go_wp2
  go_ret
  exact ⟨by rw [HE.out]; rfl, hb0⟩
 have h2' : ¬ (8 : Int) < n := by omega
 go_enter Tryz.func86, Tryz.ntmps86
 go_wp2
 generalize w.alloc (.cells #[.slice ad n cap] 122) = W0 at *
 go_loopw [3, 4, 5, 6] (fun iv _ _ _ wr => ∃ i : Nat, i ≤ n ∧ iv = .int .i64 i ∧ AllOk X i ∧ Below w.heap.size w wr ∧ wr.cell? ⟨w.heap.size, 0, none⟩ = some (.slice ad n cap)) (fun iv _ _ _ _ => n + 1 - (intOf iv).toNat)
 case atStart => exact ⟨0, by omega, rfl, fun j hj => by omega, hb0, hc0⟩
 case round =>
  clear hb0 hc0
  obtain ⟨i, hi, rfl, hk, hb, hc0⟩ := hrel
  have HK : Hid (AllOk X i) := hk
  clear hk
  by_cases hlt : i < n
  ·have hlt' : (i : Int) < n := by omega
   obtain ⟨b, off, rfl, hc⟩ := HB.out.at_ (by omega)
   obtain ⟨ka, kc, hr0, hI0⟩ := hc i hlt
   have HR : Hid (wr.rangeAt b (off + i * 35) (brl (X i) ka kc)) := range_below hr0 hb
   have HI : Hid (IsAt w ka (X i).n (X i).z) := hI0
   have hxi := hx i hlt
   have hsz := World.block_lt_of_cell? wr ⟨w.heap.size, 0, none⟩ hc0
   clear hc hr0 hI0
   have HB1 : Hid (∀ w' : World, w'.heap[wr.heap.size]? = some (.cells (bv (X i) ka kc) 126 (0, 0)) → Frm [wr.heap.size] (wr.alloc (.cells (bv b0 none 0) 126)) w' → Below w.heap.size w w' ∧ w'.cell? ⟨w.heap.size, 0, none⟩ = some (.slice (some ⟨b, off, none⟩) n cap) ∧ BBox w' wr.heap.size (X i) ka kc ∧ w.heap.size < w'.heap.size) := by
    intro w' h1 h2
    have h3 : Below wr.heap.size (wr.alloc (.cells (bv b0 none 0) 126)) w' := h2.below (by simp) (by simp)
    have h4 : Below wr.heap.size wr w' := ((Below.refl _ wr).alloc (Nat.le_refl _) _).trans h3
    refine ⟨hb.trans (h4.mono hb.size), ?_, bbox_of h1, Nat.lt_of_lt_of_le hsz h4.size⟩
    rw [h4.cell (p := ⟨w.heap.size, 0, none⟩) hsz]; exact hc0
   by_cases g0 : ((X i).n : Int) < 1
   ·have HE : Hid (chkE X n = 1) := if_neg (fun hh => by have h := hh.2 i hlt; have := h.1.2; omega)
    go_wp2_with (first | (refine wpList_load_mid rfl 126 _ rfl b (off + i * 35) rfl (brl (X i) ka kc) _ HR.out Tryz.underlying126 rfl (szRl _ _ _) ?_) | (refine wpList_allocR rfl rfl ?_) | (refine wpList_storeR _ szR rfl _ _ rfl wr.heap.size rfl (X i) b0 ka none kc 0 126 rfl (heap_alloc_new wr _) ?_; intro w1 hg1 hf1; obtain ⟨hb1, c10, ⟨c0, c33, c34⟩, hs1⟩ := HB1.out w1 hg1 hf1; clear hg1 hf1) | fail)
    go_ret
    exact ⟨by rw [HE.out]; rfl, hb1⟩
   by_cases g1 : (X i).af < 0
   ·have HE : Hid (chkE X n = 1) := if_neg (fun hh => by have h := hh.2 i hlt; have := h.2.1; omega)
    go_wp2_with (first | (refine wpList_load_mid rfl 126 _ rfl b (off + i * 35) rfl (brl (X i) ka kc) _ HR.out Tryz.underlying126 rfl (szRl _ _ _) ?_) | (refine wpList_allocR rfl rfl ?_) | (refine wpList_storeR _ szR rfl _ _ rfl wr.heap.size rfl (X i) b0 ka none kc 0 126 rfl (heap_alloc_new wr _) ?_; intro w1 hg1 hf1; obtain ⟨hb1, c10, ⟨c0, c33, c34⟩, hs1⟩ := HB1.out w1 hg1 hf1; clear hg1 hf1) | fail)
    go_ret
    exact ⟨by rw [HE.out]; rfl, hb1⟩
   by_cases g2 : 1099511627776 < (X i).af
   ·have HE : Hid (chkE X n = 1) := if_neg (fun hh => by have h := hh.2 i hlt; have := h.2.1; omega)
    go_wp2_with (first | (refine wpList_load_mid rfl 126 _ rfl b (off + i * 35) rfl (brl (X i) ka kc) _ HR.out Tryz.underlying126 rfl (szRl _ _ _) ?_) | (refine wpList_allocR rfl rfl ?_) | (refine wpList_storeR _ szR rfl _ _ rfl wr.heap.size rfl (X i) b0 ka none kc 0 126 rfl (heap_alloc_new wr _) ?_; intro w1 hg1 hf1; obtain ⟨hb1, c10, ⟨c0, c33, c34⟩, hs1⟩ := HB1.out w1 hg1 hf1; clear hg1 hf1) | fail)
    go_ret
    exact ⟨by rw [HE.out]; rfl, hb1⟩
   by_cases g3 : (X i).ol < 0
   ·have HE : Hid (chkE X n = 1) := if_neg (fun hh => by have h := hh.2 i hlt; have := h.2.2; omega)
    go_wp2_with (first | (refine wpList_load_mid rfl 126 _ rfl b (off + i * 35) rfl (brl (X i) ka kc) _ HR.out Tryz.underlying126 rfl (szRl _ _ _) ?_) | (refine wpList_allocR rfl rfl ?_) | (refine wpList_storeR _ szR rfl _ _ rfl wr.heap.size rfl (X i) b0 ka none kc 0 126 rfl (heap_alloc_new wr _) ?_; intro w1 hg1 hf1; obtain ⟨hb1, c10, ⟨c0, c33, c34⟩, hs1⟩ := HB1.out w1 hg1 hf1; clear hg1 hf1) | fail)
    go_ret
    exact ⟨by rw [HE.out]; rfl, hb1⟩
   by_cases g4 : 65536 < (X i).ol
   ·have HE : Hid (chkE X n = 1) := if_neg (fun hh => by have h := hh.2 i hlt; have := h.2.2; omega)
    go_wp2_with (first | (refine wpList_load_mid rfl 126 _ rfl b (off + i * 35) rfl (brl (X i) ka kc) _ HR.out Tryz.underlying126 rfl (szRl _ _ _) ?_) | (refine wpList_allocR rfl rfl ?_) | (refine wpList_storeR _ szR rfl _ _ rfl wr.heap.size rfl (X i) b0 ka none kc 0 126 rfl (heap_alloc_new wr _) ?_; intro w1 hg1 hf1; obtain ⟨hb1, c10, ⟨c0, c33, c34⟩, hs1⟩ := HB1.out w1 hg1 hf1; clear hg1 hf1) | fail)
    go_ret
    exact ⟨by rw [HE.out]; rfl, hb1⟩
   go_wp2_with (first | (refine wpList_load_mid rfl 126 _ rfl b (off + i * 35) rfl (brl (X i) ka kc) _ HR.out Tryz.underlying126 rfl (szRl _ _ _) ?_) | (refine wpList_allocR rfl rfl ?_) | (refine wpList_storeR _ szR rfl _ _ rfl wr.heap.size rfl (X i) b0 ka none kc 0 126 rfl (heap_alloc_new wr _) ?_; intro w1 hg1 hf1; obtain ⟨hb1, c10, ⟨c0, c33, c34⟩, hs1⟩ := HB1.out w1 hg1 hf1; clear hg1 hf1) | fail)
   have HW : Hid (Below w.heap.size w w1 ∧ w1.cell? ⟨w.heap.size, 0, none⟩ = some (.slice (some ⟨b, off, none⟩) n cap) ∧ w.heap.size < w1.heap.size) := ⟨hb1, c10, hs1⟩
   have hI1 : IsAt w1 ka (X i).n (X i).z := HI.out.below hb1
   have HI1 : Hid (IsAt w1 ka (X i).n (X i).z) := hI1
   have HC0 : Hid (w1.cell? ⟨wr.heap.size, 0, none⟩ = some (.slice ka (X i).n kc)) := c0
   have hl0 : wr.heap.size < w1.heap.size := World.block_lt_of_cell? w1 ⟨wr.heap.size, 0, none⟩ c0
   have HO : Hid (BOk (X i) ↔ KOk (X i).z (X i).n) := ⟨fun h => h.1.1, fun h => ⟨⟨h, by omega⟩, ⟨g1, by omega⟩, ⟨g3, by omega⟩⟩⟩
   clear HB1 hb1 c10 c0 c33 c34 hs1 HR hI1 HI hc0 g1 g2 g3 g4
   have hb2 := Below.refl w1.heap.size w1
   go_loopw [5, 6] (fun lv kv wq => ∃ k : Nat, k ≤ (X i).n ∧ lv = .int .i64 (lastK (X i).z k) ∧ kv = .int .i64 k ∧ KOk (X i).z k ∧ Below w1.heap.size w1 wq) (fun _ kv _ => (X i).n + 1 - (intOf kv).toNat)
   case atStart => exact ⟨0, by omega, rfl, rfl, fun j hj => by omega, hb2⟩
   case round =>
    clear hb2
    rename World => wq
    obtain ⟨k, hk, rfl, rfl, hK, hbq⟩ := hrel
    have HKK : Hid (KOk (X i).z k) := hK
    clear hK
    have cq : wq.cell? ⟨wr.heap.size, 0, none⟩ = some (.slice ka (X i).n kc) := by rw [hbq.cell (p := ⟨wr.heap.size, 0, none⟩) hl0]; exact HC0.out
    by_cases hkl : k < (X i).n
    ·have hkl' : (k : Int) < (X i).n := by omega
     obtain ⟨b2, off2, rfl, hc2⟩ := HI1.out (by omega)
     have hck : wq.cell? ⟨b2, off2 + k, none⟩ = some (.int .i64 ((X i).z k)) := by
      have := hc2 k hkl
      rw [hbq.cell (p := ⟨b2, off2 + k, none⟩) (World.block_lt_of_cell? w1 ⟨b2, off2 + k, none⟩ this)]; exact this
     clear hc2
     by_cases p1 : lastK (X i).z k < (X i).z k
     ·have p1' : ¬ (X i).z k ≤ lastK (X i).z k := by omega
      by_cases p2 : (X i).z k < 16
      ·have p2' : ¬ 15 < (X i).z k := by omega
       have HN : Hid (KOk (X i).z (k + 1)) := fun j hj => by
        by_cases e : j = k
        ·subst e; exact ⟨p1, p2⟩
        ·exact HKK.out j (by omega)
       have e1 := lastK_succ (X i).z k
       generalize lastK (X i).z k = q at *
       go_wp2
       go_roundw
       case rel => exact ⟨k + 1, by omega, by rw [e1], by go_num, HN.out, hbq⟩
       case measure => simp [intOf]; omega
      ·have p2' : 15 < (X i).z k := by omega
       have HE : Hid (chkE X n = 1) := if_neg (fun hh => by have h := (HO.out.1 (hh.2 i hlt)) k hkl; omega)
       generalize lastK (X i).z k = q at *
       go_wp2
       go_ret
       exact ⟨by rw [HE.out]; rfl, HW.out.1.trans (hbq.mono HW.out.1.size)⟩
     ·have p1' : (X i).z k ≤ lastK (X i).z k := by omega
      have HE : Hid (chkE X n = 1) := if_neg (fun hh => by have h := (HO.out.1 (hh.2 i hlt)) k hkl; omega)
      generalize lastK (X i).z k = q at *
      go_wp2
      go_ret
      exact ⟨by rw [HE.out]; rfl, HW.out.1.trans (hbq.mono HW.out.1.size)⟩
    ·obtain rfl : k = (X i).n := by omega
     have hnn : ¬ (((X i).n : Int) < (X i).n) := by omega
     have HN : Hid (AllOk X (i + 1)) := fun j hj => by
      by_cases e : j = i
      ·subst e; exact HO.out.2 HKK.out
      ·exact HK.out j (by omega)
     go_wp2
     go_roundw
     case rel => exact ⟨i + 1, by omega, by go_num, HN.out, HW.out.1.trans (hbq.mono HW.out.1.size), by rw [hbq.cell (p := ⟨w.heap.size, 0, none⟩) HW.out.2.2]; exact HW.out.2.1⟩
     case measure => simp [intOf]; omega
  ·obtain rfl : i = n := by omega
   have hnn : ¬ ((i : Int) < i) := by omega
   have HE : Hid (chkE X i = 0) := if_pos ⟨by omega, HK.out⟩
   go_wp2
   go_ret
   exact ⟨by rw [HE.out]; rfl, hb⟩
end Go.Proofs.YtjnepkggdkccaaaGreatDoor.Cd
