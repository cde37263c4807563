/- build: a commitment's branches. -/
import Derived.Test.YtjnepkggdkccaaaGreatDoorOwnShelf07
import Derived.Deep.CutBlock
import Derived.Deep.DeepCutAuto
namespace Go.Proofs.YtjnepkggdkccaaaGreatDoor
open Go.RowKit

theorem br_range {w : World} {g : Nat} {x : Cd.Bv} {ka : Option Addr} {kc : Nat} {t : TypeId} {fr : Nat × Nat} (h : w.heap[g]? = some (.cells (Cd.bv x ka kc) t fr)) : w.rangeAt g 0 (Cd.brl x ka kc) := fun j v hv => by
 rw [Nat.zero_add, cell_of_row _ _ j _ _ _ h]
 simpa [Cd.bv] using hv


set_option maxRecDepth 100000 in
set_option maxHeartbeats 3200000 in
theorem branch_00 (P : Pm) (lk : Nat → Int) (y : Py) (h : Hd) (ka : Option Addr) (kc : Nat) (w : World) :
  Calls Tryz.prog 76 #[.agg (cmv ⟨P, 0, lk, y, h⟩ ka kc), .int .i64 0] w fun e w' => ∃ k, e = .returned (.agg (Cd.bv ⟨1, fun _ => P.k0, nz, 0, P.dl⟩ (some ⟨k, 0, none⟩) 1)) ∧ w'.cell? ⟨k, 0, none⟩ = some (.int .i64 P.k0) ∧ w.heap.size ≤ k ∧ Below w.heap.size w w' := by
 have hsz4 : ((((w.alloc (.cells (cmv ⟨P, 0, lk, y, h⟩ ka kc) 104)).alloc (.cells (Cd.bv ⟨0, nz, nz, 0, 0⟩ none 0) 164)).alloc (.cells #[.int .i64 P.k0] 3)).alloc (.cells (Cd.bv ⟨0, nz, nz, 0, 0⟩ none 0) 164)).heap.size = w.heap.size + 4 := by simp
 have hb4 : Below w.heap.size w ((((w.alloc (.cells (cmv ⟨P, 0, lk, y, h⟩ ka kc) 104)).alloc (.cells (Cd.bv ⟨0, nz, nz, 0, 0⟩ none 0) 164)).alloc (.cells #[.int .i64 P.k0] 3)).alloc (.cells (Cd.bv ⟨0, nz, nz, 0, 0⟩ none 0) 164)) := ((((Below.refl _ w).alloc (Nat.le_refl _) _).alloc (by simp) _).alloc (by simp <;> omega) _).alloc (by simp <;> omega) _
 have h4c : ((((w.alloc (.cells (cmv ⟨P, 0, lk, y, h⟩ ka kc) 104)).alloc (.cells (Cd.bv ⟨0, nz, nz, 0, 0⟩ none 0) 164)).alloc (.cells #[.int .i64 P.k0] 3)).alloc (.cells (Cd.bv ⟨0, nz, nz, 0, 0⟩ none 0) 164)).heap[w.heap.size]? = some (.cells (cmv ⟨P, 0, lk, y, h⟩ ka kc) 104 (0, 0)) := by
  rw [Below.heap_alloc _ _ _ (by simp <;> omega), Below.heap_alloc _ _ _ (by simp <;> omega), Below.heap_alloc _ _ _ (by simp)]; exact heap_alloc_new w _
 have h4r : ((((w.alloc (.cells (cmv ⟨P, 0, lk, y, h⟩ ka kc) 104)).alloc (.cells (Cd.bv ⟨0, nz, nz, 0, 0⟩ none 0) 164)).alloc (.cells #[.int .i64 P.k0] 3)).alloc (.cells (Cd.bv ⟨0, nz, nz, 0, 0⟩ none 0) 164)).heap[w.heap.size + 1]? = some (.cells (Cd.bv ⟨0, nz, nz, 0, 0⟩ none 0) 164 (0, 0)) := by
  rw [Below.heap_alloc _ _ _ (by simp <;> omega), Below.heap_alloc _ _ _ (by simp)]
  have := heap_alloc_new (w.alloc (.cells (cmv ⟨P, 0, lk, y, h⟩ ka kc) 104)) (.cells (Cd.bv ⟨0, nz, nz, 0, 0⟩ none 0) 164)
  simpa using this
 have h4k : ((((w.alloc (.cells (cmv ⟨P, 0, lk, y, h⟩ ka kc) 104)).alloc (.cells (Cd.bv ⟨0, nz, nz, 0, 0⟩ none 0) 164)).alloc (.cells #[.int .i64 P.k0] 3)).alloc (.cells (Cd.bv ⟨0, nz, nz, 0, 0⟩ none 0) 164)).heap[w.heap.size + 1 + 1]? = some (.cells #[.int .i64 P.k0] 3 (0, 0)) := by
  rw [Below.heap_alloc _ _ _ (by simp)]
  have := heap_alloc_new ((w.alloc (.cells (cmv ⟨P, 0, lk, y, h⟩ ka kc) 104)).alloc (.cells (Cd.bv ⟨0, nz, nz, 0, 0⟩ none 0) 164)) (.cells #[.int .i64 P.k0] 3)
  simpa using this
 have h4b : ((((w.alloc (.cells (cmv ⟨P, 0, lk, y, h⟩ ka kc) 104)).alloc (.cells (Cd.bv ⟨0, nz, nz, 0, 0⟩ none 0) 164)).alloc (.cells #[.int .i64 P.k0] 3)).alloc (.cells (Cd.bv ⟨0, nz, nz, 0, 0⟩ none 0) 164)).heap[w.heap.size + 1 + 1 + 1]? = some (.cells (Cd.bv ⟨0, nz, nz, 0, 0⟩ none 0) 164 (0, 0)) := by
  have := heap_alloc_new (((w.alloc (.cells (cmv ⟨P, 0, lk, y, h⟩ ka kc) 104)).alloc (.cells (Cd.bv ⟨0, nz, nz, 0, 0⟩ none 0) 164)).alloc (.cells #[.int .i64 P.k0] 3)) (.cells (Cd.bv ⟨0, nz, nz, 0, 0⟩ none 0) 164)
  simpa using this
 have ck : ((w.alloc (.cells (cmv ⟨P, 0, lk, y, h⟩ ka kc) 104)).alloc (.cells (Cd.bv ⟨0, nz, nz, 0, 0⟩ none 0) 164)).cell? ⟨w.heap.size, 34, none⟩ = some (.int .i64 P.k0) := by
  have := (cmBox (cml_range (w := ((w.alloc (.cells (cmv ⟨P, 0, lk, y, h⟩ ka kc) 104)).alloc (.cells (Cd.bv ⟨0, nz, nz, 0, 0⟩ none 0) 164))) (g := w.heap.size) (c := ⟨P, 0, lk, y, h⟩) (ka := ka) (kc := kc) (by rw [Below.heap_alloc _ _ _ (by simp)]; exact heap_alloc_new w _))).k0
  exact this
 have es3 : (((w.alloc (.cells (cmv ⟨P, 0, lk, y, h⟩ ka kc) 104)).alloc (.cells (Cd.bv ⟨0, nz, nz, 0, 0⟩ none 0) 164)).alloc (.cells #[.int .i64 P.k0] 3)).heap.size = w.heap.size + 1 + 1 + 1 := by simp
 have es2 : ((w.alloc (.cells (cmv ⟨P, 0, lk, y, h⟩ ka kc) 104)).alloc (.cells (Cd.bv ⟨0, nz, nz, 0, 0⟩ none 0) 164)).heap.size = w.heap.size + 1 + 1 := by simp
 have H4 : Hid (_ ∧ _ ∧ _ ∧ _ ∧ _) := ⟨hb4, h4c, h4r, h4k, h4b⟩
 clear hb4 h4c h4r h4k h4b
 go_enter Tryz.func76, Tryz.ntmps76
 go_upto_region 4 with (first | (refine Go.Great.wpList_boxTo rfl _ _ rfl _ rfl _ rfl (cmv ⟨P, 0, lk, y, h⟩ ka kc) rfl ?_) | (refine wpList_allocG 164 (Cd.bv ⟨0, nz, nz, 0, 0⟩ none 0) run_allocBr rfl rfl ?_) | (refine wpList_kSlice rfl _ rfl P.k0 rfl ?_) | (refine wpList_brBuild (fun _ => P.k0) _ rfl _ rfl rfl ?_) | (refine wpList_storeG 164 Cd.szB rfl _ _ rfl _ rfl (Cd.bv ⟨1, fun _ => P.k0, nz, 0, 0⟩ _ 1) (Cd.bv ⟨0, nz, nz, 0, 0⟩ none 0) (Cd.bv_size _ _ _) (Cd.bv_size _ _ _) (Cd.bv_one _ _ _) 164 rfl (heap_alloc_new _ _) ?_; intro z5 hg5 hf5; rw [es3] at hg5 hf5; rw [es2] at hg5; have c38 := (cmBox (cml_range (hf5.heap H4.out.2.1 (by simp <;> omega)))).o; have c36 := (cmBox (cml_range (hf5.heap H4.out.2.1 (by simp <;> omega)))).dl; have f5 : ∀ k, z5.frozen? ⟨w.heap.size + 1 + 1 + 1, k, none⟩ = false := (fun k => frozen_of_row _ _ k _ _ hg5); have c34 := (Cd.bbox_of hg5).c34) | fail)
 have hx6 : (z5.setCell ⟨w.heap.size + 1 + 1 + 1, 34, none⟩ (.int .i64 P.dl)).heap[w.heap.size + 1 + 1 + 1]? = some (.cells (Cd.bv ⟨1, fun _ => P.k0, nz, 0, P.dl⟩ (some ⟨w.heap.size + 1 + 1, 0, none⟩) 1) 164 (0, 0)) := by
  have := heap_setCell_same z5 (w.heap.size + 1 + 1 + 1) 34 _ _ (.int .i64 P.dl) hg5
  rw [bv_s34] at this
  exact this
 have hf6 : Frm [w.heap.size + 1 + 1 + 1] ((((w.alloc (.cells (cmv ⟨P, 0, lk, y, h⟩ ka kc) 104)).alloc (.cells (Cd.bv ⟨0, nz, nz, 0, 0⟩ none 0) 164)).alloc (.cells #[.int .i64 P.k0] 3)).alloc (.cells (Cd.bv ⟨0, nz, nz, 0, 0⟩ none 0) 164)) (z5.setCell ⟨w.heap.size + 1 + 1 + 1, 34, none⟩ (.int .i64 P.dl)) := hf5.setCell _ _ (by simp)
 have hr6 := hf6.heap H4.out.2.2.1 (by simp)
 have hk6 := hf6.heap H4.out.2.2.2.1 (by simp)
 have hb6 : Below w.heap.size w (z5.setCell ⟨w.heap.size + 1 + 1 + 1, 34, none⟩ (.int .i64 P.dl)) := H4.out.1.trans (hf6.below (by simp <;> omega) (by simp <;> omega))
 clear c38 c36 c34 f5 hg5 hf5 hf6 ck es3 es2 hsz4 H4
 generalize z5.setCell ⟨w.heap.size + 1 + 1 + 1, 34, none⟩ (.int .i64 P.dl) = z6 at *
 have HX : Hid (z6.rangeAt (w.heap.size + 1 + 1 + 1) 0 (Cd.brl ⟨1, fun _ => P.k0, nz, 0, P.dl⟩ (some ⟨w.heap.size + 1 + 1, 0, none⟩) 1)) := br_range hx6
 have HK6 := hidV (And.intro hk6 hb6)
 clear hx6 hk6 hb6
 go_wp2_with (first | (refine wpList_load_mid rfl 164 _ rfl (w.heap.size + 1 + 1 + 1) 0 rfl (Cd.brl ⟨1, fun _ => P.k0, nz, 0, P.dl⟩ (some ⟨w.heap.size + 1 + 1, 0, none⟩) 1) _ HX.out Tryz.underlying164 rfl (Cd.szBl _ _ _) ?_) | (refine wpList_storeG 164 Cd.szB rfl _ _ rfl (w.heap.size + 1) rfl (Cd.bv ⟨1, fun _ => P.k0, nz, 0, P.dl⟩ (some ⟨w.heap.size + 1 + 1, 0, none⟩) 1) (Cd.bv ⟨0, nz, nz, 0, 0⟩ none 0) (Cd.bv_size _ _ _) (Cd.bv_size _ _ _) (Cd.bv_one _ _ _) 164 rfl hr6 ?_; intro z7 hg7 hf7) | fail)
 refine bodyPost_ret (results_cell_row Tryz.results76 _ z7 (w.heap.size + 1) 164 _ (0, 0) _ rfl hg7 Tryz.underlying164 rfl (Cd.szBv _ _ _)) rfl ⟨_, rfl, ?_, by omega, HK6.out.2.trans (hf7.below (by have := HK6.out.2.size; omega) (by simp))⟩
 rw [cell_of_row _ _ 0 _ _ _ (hf7.heap HK6.out.1 (by simp))]
 rfl


set_option maxRecDepth 100000 in
set_option maxHeartbeats 3200000 in
theorem branch_01 (P : Pm) (lk : Nat → Int) (y : Py) (h : Hd) (ka : Option Addr) (kc : Nat) (w : World) :
  Calls Tryz.prog 76 #[.agg (cmv ⟨P, 1, lk, y, h⟩ ka kc), .int .i64 0] w fun e w' => ∃ k, e = .returned (.agg (Cd.bv ⟨1, fun _ => P.k0, nz, 0, 0⟩ (some ⟨k, 0, none⟩) 1)) ∧ w'.cell? ⟨k, 0, none⟩ = some (.int .i64 P.k0) ∧ w.heap.size ≤ k ∧ Below w.heap.size w w' := by
 have hsz4 : ((((w.alloc (.cells (cmv ⟨P, 1, lk, y, h⟩ ka kc) 104)).alloc (.cells (Cd.bv ⟨0, nz, nz, 0, 0⟩ none 0) 164)).alloc (.cells #[.int .i64 P.k0] 3)).alloc (.cells (Cd.bv ⟨0, nz, nz, 0, 0⟩ none 0) 164)).heap.size = w.heap.size + 4 := by simp
 have hb4 : Below w.heap.size w ((((w.alloc (.cells (cmv ⟨P, 1, lk, y, h⟩ ka kc) 104)).alloc (.cells (Cd.bv ⟨0, nz, nz, 0, 0⟩ none 0) 164)).alloc (.cells #[.int .i64 P.k0] 3)).alloc (.cells (Cd.bv ⟨0, nz, nz, 0, 0⟩ none 0) 164)) := ((((Below.refl _ w).alloc (Nat.le_refl _) _).alloc (by simp) _).alloc (by simp <;> omega) _).alloc (by simp <;> omega) _
 have h4c : ((((w.alloc (.cells (cmv ⟨P, 1, lk, y, h⟩ ka kc) 104)).alloc (.cells (Cd.bv ⟨0, nz, nz, 0, 0⟩ none 0) 164)).alloc (.cells #[.int .i64 P.k0] 3)).alloc (.cells (Cd.bv ⟨0, nz, nz, 0, 0⟩ none 0) 164)).heap[w.heap.size]? = some (.cells (cmv ⟨P, 1, lk, y, h⟩ ka kc) 104 (0, 0)) := by
  rw [Below.heap_alloc _ _ _ (by simp <;> omega), Below.heap_alloc _ _ _ (by simp <;> omega), Below.heap_alloc _ _ _ (by simp)]; exact heap_alloc_new w _
 have h4r : ((((w.alloc (.cells (cmv ⟨P, 1, lk, y, h⟩ ka kc) 104)).alloc (.cells (Cd.bv ⟨0, nz, nz, 0, 0⟩ none 0) 164)).alloc (.cells #[.int .i64 P.k0] 3)).alloc (.cells (Cd.bv ⟨0, nz, nz, 0, 0⟩ none 0) 164)).heap[w.heap.size + 1]? = some (.cells (Cd.bv ⟨0, nz, nz, 0, 0⟩ none 0) 164 (0, 0)) := by
  rw [Below.heap_alloc _ _ _ (by simp <;> omega), Below.heap_alloc _ _ _ (by simp)]
  have := heap_alloc_new (w.alloc (.cells (cmv ⟨P, 1, lk, y, h⟩ ka kc) 104)) (.cells (Cd.bv ⟨0, nz, nz, 0, 0⟩ none 0) 164)
  simpa using this
 have h4k : ((((w.alloc (.cells (cmv ⟨P, 1, lk, y, h⟩ ka kc) 104)).alloc (.cells (Cd.bv ⟨0, nz, nz, 0, 0⟩ none 0) 164)).alloc (.cells #[.int .i64 P.k0] 3)).alloc (.cells (Cd.bv ⟨0, nz, nz, 0, 0⟩ none 0) 164)).heap[w.heap.size + 1 + 1]? = some (.cells #[.int .i64 P.k0] 3 (0, 0)) := by
  rw [Below.heap_alloc _ _ _ (by simp)]
  have := heap_alloc_new ((w.alloc (.cells (cmv ⟨P, 1, lk, y, h⟩ ka kc) 104)).alloc (.cells (Cd.bv ⟨0, nz, nz, 0, 0⟩ none 0) 164)) (.cells #[.int .i64 P.k0] 3)
  simpa using this
 have h4b : ((((w.alloc (.cells (cmv ⟨P, 1, lk, y, h⟩ ka kc) 104)).alloc (.cells (Cd.bv ⟨0, nz, nz, 0, 0⟩ none 0) 164)).alloc (.cells #[.int .i64 P.k0] 3)).alloc (.cells (Cd.bv ⟨0, nz, nz, 0, 0⟩ none 0) 164)).heap[w.heap.size + 1 + 1 + 1]? = some (.cells (Cd.bv ⟨0, nz, nz, 0, 0⟩ none 0) 164 (0, 0)) := by
  have := heap_alloc_new (((w.alloc (.cells (cmv ⟨P, 1, lk, y, h⟩ ka kc) 104)).alloc (.cells (Cd.bv ⟨0, nz, nz, 0, 0⟩ none 0) 164)).alloc (.cells #[.int .i64 P.k0] 3)) (.cells (Cd.bv ⟨0, nz, nz, 0, 0⟩ none 0) 164)
  simpa using this
 have ck : ((w.alloc (.cells (cmv ⟨P, 1, lk, y, h⟩ ka kc) 104)).alloc (.cells (Cd.bv ⟨0, nz, nz, 0, 0⟩ none 0) 164)).cell? ⟨w.heap.size, 34, none⟩ = some (.int .i64 P.k0) := by
  have := (cmBox (cml_range (w := ((w.alloc (.cells (cmv ⟨P, 1, lk, y, h⟩ ka kc) 104)).alloc (.cells (Cd.bv ⟨0, nz, nz, 0, 0⟩ none 0) 164))) (g := w.heap.size) (c := ⟨P, 1, lk, y, h⟩) (ka := ka) (kc := kc) (by rw [Below.heap_alloc _ _ _ (by simp)]; exact heap_alloc_new w _))).k0
  exact this
 have es3 : (((w.alloc (.cells (cmv ⟨P, 1, lk, y, h⟩ ka kc) 104)).alloc (.cells (Cd.bv ⟨0, nz, nz, 0, 0⟩ none 0) 164)).alloc (.cells #[.int .i64 P.k0] 3)).heap.size = w.heap.size + 1 + 1 + 1 := by simp
 have es2 : ((w.alloc (.cells (cmv ⟨P, 1, lk, y, h⟩ ka kc) 104)).alloc (.cells (Cd.bv ⟨0, nz, nz, 0, 0⟩ none 0) 164)).heap.size = w.heap.size + 1 + 1 := by simp
 have H4 : Hid (_ ∧ _ ∧ _ ∧ _ ∧ _) := ⟨hb4, h4c, h4r, h4k, h4b⟩
 clear hb4 h4c h4r h4k h4b
 go_enter Tryz.func76, Tryz.ntmps76
 go_upto_region 4 with (first | (refine Go.Great.wpList_boxTo rfl _ _ rfl _ rfl _ rfl (cmv ⟨P, 1, lk, y, h⟩ ka kc) rfl ?_) | (refine wpList_allocG 164 (Cd.bv ⟨0, nz, nz, 0, 0⟩ none 0) run_allocBr rfl rfl ?_) | (refine wpList_kSlice rfl _ rfl P.k0 rfl ?_) | (refine wpList_brBuild (fun _ => P.k0) _ rfl _ rfl rfl ?_) | (refine wpList_storeG 164 Cd.szB rfl _ _ rfl _ rfl (Cd.bv ⟨1, fun _ => P.k0, nz, 0, 0⟩ _ 1) (Cd.bv ⟨0, nz, nz, 0, 0⟩ none 0) (Cd.bv_size _ _ _) (Cd.bv_size _ _ _) (Cd.bv_one _ _ _) 164 rfl (heap_alloc_new _ _) ?_; intro z5 hg5 hf5; rw [es3] at hg5 hf5; rw [es2] at hg5; have c38 := (cmBox (cml_range (hf5.heap H4.out.2.1 (by simp <;> omega)))).o; have c36 := (cmBox (cml_range (hf5.heap H4.out.2.1 (by simp <;> omega)))).dl; have f5 : ∀ k, z5.frozen? ⟨w.heap.size + 1 + 1 + 1, k, none⟩ = false := (fun k => frozen_of_row _ _ k _ _ hg5); have c34 := (Cd.bbox_of hg5).c34) | fail)
 have hx6 : (z5).heap[w.heap.size + 1 + 1 + 1]? = some (.cells (Cd.bv ⟨1, fun _ => P.k0, nz, 0, 0⟩ (some ⟨w.heap.size + 1 + 1, 0, none⟩) 1) 164 (0, 0)) := by
  exact hg5
 have hf6 : Frm [w.heap.size + 1 + 1 + 1] ((((w.alloc (.cells (cmv ⟨P, 1, lk, y, h⟩ ka kc) 104)).alloc (.cells (Cd.bv ⟨0, nz, nz, 0, 0⟩ none 0) 164)).alloc (.cells #[.int .i64 P.k0] 3)).alloc (.cells (Cd.bv ⟨0, nz, nz, 0, 0⟩ none 0) 164)) (z5) := hf5
 have hr6 := hf6.heap H4.out.2.2.1 (by simp)
 have hk6 := hf6.heap H4.out.2.2.2.1 (by simp)
 have hb6 : Below w.heap.size w (z5) := H4.out.1.trans (hf6.below (by simp <;> omega) (by simp <;> omega))
 clear c38 c36 c34 f5 hg5 hf5 hf6 ck es3 es2 hsz4 H4
 generalize z5 = z6 at *
 have HX : Hid (z6.rangeAt (w.heap.size + 1 + 1 + 1) 0 (Cd.brl ⟨1, fun _ => P.k0, nz, 0, 0⟩ (some ⟨w.heap.size + 1 + 1, 0, none⟩) 1)) := br_range hx6
 have HK6 := hidV (And.intro hk6 hb6)
 clear hx6 hk6 hb6
 go_wp2_with (first | (refine wpList_load_mid rfl 164 _ rfl (w.heap.size + 1 + 1 + 1) 0 rfl (Cd.brl ⟨1, fun _ => P.k0, nz, 0, 0⟩ (some ⟨w.heap.size + 1 + 1, 0, none⟩) 1) _ HX.out Tryz.underlying164 rfl (Cd.szBl _ _ _) ?_) | (refine wpList_storeG 164 Cd.szB rfl _ _ rfl (w.heap.size + 1) rfl (Cd.bv ⟨1, fun _ => P.k0, nz, 0, 0⟩ (some ⟨w.heap.size + 1 + 1, 0, none⟩) 1) (Cd.bv ⟨0, nz, nz, 0, 0⟩ none 0) (Cd.bv_size _ _ _) (Cd.bv_size _ _ _) (Cd.bv_one _ _ _) 164 rfl hr6 ?_; intro z7 hg7 hf7) | fail)
 refine bodyPost_ret (results_cell_row Tryz.results76 _ z7 (w.heap.size + 1) 164 _ (0, 0) _ rfl hg7 Tryz.underlying164 rfl (Cd.szBv _ _ _)) rfl ⟨_, rfl, ?_, by omega, HK6.out.2.trans (hf7.below (by have := HK6.out.2.size; omega) (by simp))⟩
 rw [cell_of_row _ _ 0 _ _ _ (hf7.heap HK6.out.1 (by simp))]
 rfl


set_option maxRecDepth 100000 in
set_option maxHeartbeats 3200000 in
theorem branch_10 (P : Pm) (lk : Nat → Int) (y : Py) (h : Hd) (ka : Option Addr) (kc : Nat) (w : World) :
  Calls Tryz.prog 76 #[.agg (cmv ⟨P, 0, lk, y, h⟩ ka kc), .int .i64 1] w fun e w' => ∃ k, e = .returned (.agg (Cd.bv ⟨1, fun _ => P.k1, nz, 0, 0⟩ (some ⟨k, 0, none⟩) 1)) ∧ w'.cell? ⟨k, 0, none⟩ = some (.int .i64 P.k1) ∧ w.heap.size ≤ k ∧ Below w.heap.size w w' := by
 have hsz4 : ((((w.alloc (.cells (cmv ⟨P, 0, lk, y, h⟩ ka kc) 104)).alloc (.cells (Cd.bv ⟨0, nz, nz, 0, 0⟩ none 0) 164)).alloc (.cells #[.int .i64 P.k1] 3)).alloc (.cells (Cd.bv ⟨0, nz, nz, 0, 0⟩ none 0) 164)).heap.size = w.heap.size + 4 := by simp
 have hb4 : Below w.heap.size w ((((w.alloc (.cells (cmv ⟨P, 0, lk, y, h⟩ ka kc) 104)).alloc (.cells (Cd.bv ⟨0, nz, nz, 0, 0⟩ none 0) 164)).alloc (.cells #[.int .i64 P.k1] 3)).alloc (.cells (Cd.bv ⟨0, nz, nz, 0, 0⟩ none 0) 164)) := ((((Below.refl _ w).alloc (Nat.le_refl _) _).alloc (by simp) _).alloc (by simp <;> omega) _).alloc (by simp <;> omega) _
 have h4c : ((((w.alloc (.cells (cmv ⟨P, 0, lk, y, h⟩ ka kc) 104)).alloc (.cells (Cd.bv ⟨0, nz, nz, 0, 0⟩ none 0) 164)).alloc (.cells #[.int .i64 P.k1] 3)).alloc (.cells (Cd.bv ⟨0, nz, nz, 0, 0⟩ none 0) 164)).heap[w.heap.size]? = some (.cells (cmv ⟨P, 0, lk, y, h⟩ ka kc) 104 (0, 0)) := by
  rw [Below.heap_alloc _ _ _ (by simp <;> omega), Below.heap_alloc _ _ _ (by simp <;> omega), Below.heap_alloc _ _ _ (by simp)]; exact heap_alloc_new w _
 have h4r : ((((w.alloc (.cells (cmv ⟨P, 0, lk, y, h⟩ ka kc) 104)).alloc (.cells (Cd.bv ⟨0, nz, nz, 0, 0⟩ none 0) 164)).alloc (.cells #[.int .i64 P.k1] 3)).alloc (.cells (Cd.bv ⟨0, nz, nz, 0, 0⟩ none 0) 164)).heap[w.heap.size + 1]? = some (.cells (Cd.bv ⟨0, nz, nz, 0, 0⟩ none 0) 164 (0, 0)) := by
  rw [Below.heap_alloc _ _ _ (by simp <;> omega), Below.heap_alloc _ _ _ (by simp)]
  have := heap_alloc_new (w.alloc (.cells (cmv ⟨P, 0, lk, y, h⟩ ka kc) 104)) (.cells (Cd.bv ⟨0, nz, nz, 0, 0⟩ none 0) 164)
  simpa using this
 have h4k : ((((w.alloc (.cells (cmv ⟨P, 0, lk, y, h⟩ ka kc) 104)).alloc (.cells (Cd.bv ⟨0, nz, nz, 0, 0⟩ none 0) 164)).alloc (.cells #[.int .i64 P.k1] 3)).alloc (.cells (Cd.bv ⟨0, nz, nz, 0, 0⟩ none 0) 164)).heap[w.heap.size + 1 + 1]? = some (.cells #[.int .i64 P.k1] 3 (0, 0)) := by
  rw [Below.heap_alloc _ _ _ (by simp)]
  have := heap_alloc_new ((w.alloc (.cells (cmv ⟨P, 0, lk, y, h⟩ ka kc) 104)).alloc (.cells (Cd.bv ⟨0, nz, nz, 0, 0⟩ none 0) 164)) (.cells #[.int .i64 P.k1] 3)
  simpa using this
 have h4b : ((((w.alloc (.cells (cmv ⟨P, 0, lk, y, h⟩ ka kc) 104)).alloc (.cells (Cd.bv ⟨0, nz, nz, 0, 0⟩ none 0) 164)).alloc (.cells #[.int .i64 P.k1] 3)).alloc (.cells (Cd.bv ⟨0, nz, nz, 0, 0⟩ none 0) 164)).heap[w.heap.size + 1 + 1 + 1]? = some (.cells (Cd.bv ⟨0, nz, nz, 0, 0⟩ none 0) 164 (0, 0)) := by
  have := heap_alloc_new (((w.alloc (.cells (cmv ⟨P, 0, lk, y, h⟩ ka kc) 104)).alloc (.cells (Cd.bv ⟨0, nz, nz, 0, 0⟩ none 0) 164)).alloc (.cells #[.int .i64 P.k1] 3)) (.cells (Cd.bv ⟨0, nz, nz, 0, 0⟩ none 0) 164)
  simpa using this
 have ck : ((w.alloc (.cells (cmv ⟨P, 0, lk, y, h⟩ ka kc) 104)).alloc (.cells (Cd.bv ⟨0, nz, nz, 0, 0⟩ none 0) 164)).cell? ⟨w.heap.size, 35, none⟩ = some (.int .i64 P.k1) := by
  have := (cmBox (cml_range (w := ((w.alloc (.cells (cmv ⟨P, 0, lk, y, h⟩ ka kc) 104)).alloc (.cells (Cd.bv ⟨0, nz, nz, 0, 0⟩ none 0) 164))) (g := w.heap.size) (c := ⟨P, 0, lk, y, h⟩) (ka := ka) (kc := kc) (by rw [Below.heap_alloc _ _ _ (by simp)]; exact heap_alloc_new w _))).k1
  exact this
 have es3 : (((w.alloc (.cells (cmv ⟨P, 0, lk, y, h⟩ ka kc) 104)).alloc (.cells (Cd.bv ⟨0, nz, nz, 0, 0⟩ none 0) 164)).alloc (.cells #[.int .i64 P.k1] 3)).heap.size = w.heap.size + 1 + 1 + 1 := by simp
 have es2 : ((w.alloc (.cells (cmv ⟨P, 0, lk, y, h⟩ ka kc) 104)).alloc (.cells (Cd.bv ⟨0, nz, nz, 0, 0⟩ none 0) 164)).heap.size = w.heap.size + 1 + 1 := by simp
 have H4 : Hid (_ ∧ _ ∧ _ ∧ _ ∧ _) := ⟨hb4, h4c, h4r, h4k, h4b⟩
 clear hb4 h4c h4r h4k h4b
 go_enter Tryz.func76, Tryz.ntmps76
 go_upto_region 4 with (first | (refine Go.Great.wpList_boxTo rfl _ _ rfl _ rfl _ rfl (cmv ⟨P, 0, lk, y, h⟩ ka kc) rfl ?_) | (refine wpList_allocG 164 (Cd.bv ⟨0, nz, nz, 0, 0⟩ none 0) run_allocBr rfl rfl ?_) | (refine wpList_kSlice rfl _ rfl P.k1 rfl ?_) | (refine wpList_brBuild (fun _ => P.k1) _ rfl _ rfl rfl ?_) | (refine wpList_storeG 164 Cd.szB rfl _ _ rfl _ rfl (Cd.bv ⟨1, fun _ => P.k1, nz, 0, 0⟩ _ 1) (Cd.bv ⟨0, nz, nz, 0, 0⟩ none 0) (Cd.bv_size _ _ _) (Cd.bv_size _ _ _) (Cd.bv_one _ _ _) 164 rfl (heap_alloc_new _ _) ?_; intro z5 hg5 hf5; rw [es3] at hg5 hf5; rw [es2] at hg5; have c38 := (cmBox (cml_range (hf5.heap H4.out.2.1 (by simp <;> omega)))).o; have c36 := (cmBox (cml_range (hf5.heap H4.out.2.1 (by simp <;> omega)))).dl; have f5 : ∀ k, z5.frozen? ⟨w.heap.size + 1 + 1 + 1, k, none⟩ = false := (fun k => frozen_of_row _ _ k _ _ hg5); have c34 := (Cd.bbox_of hg5).c34) | fail)
 have hx6 : (z5).heap[w.heap.size + 1 + 1 + 1]? = some (.cells (Cd.bv ⟨1, fun _ => P.k1, nz, 0, 0⟩ (some ⟨w.heap.size + 1 + 1, 0, none⟩) 1) 164 (0, 0)) := by
  exact hg5
 have hf6 : Frm [w.heap.size + 1 + 1 + 1] ((((w.alloc (.cells (cmv ⟨P, 0, lk, y, h⟩ ka kc) 104)).alloc (.cells (Cd.bv ⟨0, nz, nz, 0, 0⟩ none 0) 164)).alloc (.cells #[.int .i64 P.k1] 3)).alloc (.cells (Cd.bv ⟨0, nz, nz, 0, 0⟩ none 0) 164)) (z5) := hf5
 have hr6 := hf6.heap H4.out.2.2.1 (by simp)
 have hk6 := hf6.heap H4.out.2.2.2.1 (by simp)
 have hb6 : Below w.heap.size w (z5) := H4.out.1.trans (hf6.below (by simp <;> omega) (by simp <;> omega))
 clear c38 c36 c34 f5 hg5 hf5 hf6 ck es3 es2 hsz4 H4
 generalize z5 = z6 at *
 have HX : Hid (z6.rangeAt (w.heap.size + 1 + 1 + 1) 0 (Cd.brl ⟨1, fun _ => P.k1, nz, 0, 0⟩ (some ⟨w.heap.size + 1 + 1, 0, none⟩) 1)) := br_range hx6
 have HK6 := hidV (And.intro hk6 hb6)
 clear hx6 hk6 hb6
 go_wp2_with (first | (refine wpList_load_mid rfl 164 _ rfl (w.heap.size + 1 + 1 + 1) 0 rfl (Cd.brl ⟨1, fun _ => P.k1, nz, 0, 0⟩ (some ⟨w.heap.size + 1 + 1, 0, none⟩) 1) _ HX.out Tryz.underlying164 rfl (Cd.szBl _ _ _) ?_) | (refine wpList_storeG 164 Cd.szB rfl _ _ rfl (w.heap.size + 1) rfl (Cd.bv ⟨1, fun _ => P.k1, nz, 0, 0⟩ (some ⟨w.heap.size + 1 + 1, 0, none⟩) 1) (Cd.bv ⟨0, nz, nz, 0, 0⟩ none 0) (Cd.bv_size _ _ _) (Cd.bv_size _ _ _) (Cd.bv_one _ _ _) 164 rfl hr6 ?_; intro z7 hg7 hf7) | fail)
 refine bodyPost_ret (results_cell_row Tryz.results76 _ z7 (w.heap.size + 1) 164 _ (0, 0) _ rfl hg7 Tryz.underlying164 rfl (Cd.szBv _ _ _)) rfl ⟨_, rfl, ?_, by omega, HK6.out.2.trans (hf7.below (by have := HK6.out.2.size; omega) (by simp))⟩
 rw [cell_of_row _ _ 0 _ _ _ (hf7.heap HK6.out.1 (by simp))]
 rfl


set_option maxRecDepth 100000 in
set_option maxHeartbeats 3200000 in
theorem branch_11 (P : Pm) (lk : Nat → Int) (y : Py) (h : Hd) (ka : Option Addr) (kc : Nat) (w : World) :
  Calls Tryz.prog 76 #[.agg (cmv ⟨P, 1, lk, y, h⟩ ka kc), .int .i64 1] w fun e w' => ∃ k, e = .returned (.agg (Cd.bv ⟨1, fun _ => P.k1, nz, 0, P.dl⟩ (some ⟨k, 0, none⟩) 1)) ∧ w'.cell? ⟨k, 0, none⟩ = some (.int .i64 P.k1) ∧ w.heap.size ≤ k ∧ Below w.heap.size w w' := by
 have hsz4 : ((((w.alloc (.cells (cmv ⟨P, 1, lk, y, h⟩ ka kc) 104)).alloc (.cells (Cd.bv ⟨0, nz, nz, 0, 0⟩ none 0) 164)).alloc (.cells #[.int .i64 P.k1] 3)).alloc (.cells (Cd.bv ⟨0, nz, nz, 0, 0⟩ none 0) 164)).heap.size = w.heap.size + 4 := by simp
 have hb4 : Below w.heap.size w ((((w.alloc (.cells (cmv ⟨P, 1, lk, y, h⟩ ka kc) 104)).alloc (.cells (Cd.bv ⟨0, nz, nz, 0, 0⟩ none 0) 164)).alloc (.cells #[.int .i64 P.k1] 3)).alloc (.cells (Cd.bv ⟨0, nz, nz, 0, 0⟩ none 0) 164)) := ((((Below.refl _ w).alloc (Nat.le_refl _) _).alloc (by simp) _).alloc (by simp <;> omega) _).alloc (by simp <;> omega) _
 have h4c : ((((w.alloc (.cells (cmv ⟨P, 1, lk, y, h⟩ ka kc) 104)).alloc (.cells (Cd.bv ⟨0, nz, nz, 0, 0⟩ none 0) 164)).alloc (.cells #[.int .i64 P.k1] 3)).alloc (.cells (Cd.bv ⟨0, nz, nz, 0, 0⟩ none 0) 164)).heap[w.heap.size]? = some (.cells (cmv ⟨P, 1, lk, y, h⟩ ka kc) 104 (0, 0)) := by
  rw [Below.heap_alloc _ _ _ (by simp <;> omega), Below.heap_alloc _ _ _ (by simp <;> omega), Below.heap_alloc _ _ _ (by simp)]; exact heap_alloc_new w _
 have h4r : ((((w.alloc (.cells (cmv ⟨P, 1, lk, y, h⟩ ka kc) 104)).alloc (.cells (Cd.bv ⟨0, nz, nz, 0, 0⟩ none 0) 164)).alloc (.cells #[.int .i64 P.k1] 3)).alloc (.cells (Cd.bv ⟨0, nz, nz, 0, 0⟩ none 0) 164)).heap[w.heap.size + 1]? = some (.cells (Cd.bv ⟨0, nz, nz, 0, 0⟩ none 0) 164 (0, 0)) := by
  rw [Below.heap_alloc _ _ _ (by simp <;> omega), Below.heap_alloc _ _ _ (by simp)]
  have := heap_alloc_new (w.alloc (.cells (cmv ⟨P, 1, lk, y, h⟩ ka kc) 104)) (.cells (Cd.bv ⟨0, nz, nz, 0, 0⟩ none 0) 164)
  simpa using this
 have h4k : ((((w.alloc (.cells (cmv ⟨P, 1, lk, y, h⟩ ka kc) 104)).alloc (.cells (Cd.bv ⟨0, nz, nz, 0, 0⟩ none 0) 164)).alloc (.cells #[.int .i64 P.k1] 3)).alloc (.cells (Cd.bv ⟨0, nz, nz, 0, 0⟩ none 0) 164)).heap[w.heap.size + 1 + 1]? = some (.cells #[.int .i64 P.k1] 3 (0, 0)) := by
  rw [Below.heap_alloc _ _ _ (by simp)]
  have := heap_alloc_new ((w.alloc (.cells (cmv ⟨P, 1, lk, y, h⟩ ka kc) 104)).alloc (.cells (Cd.bv ⟨0, nz, nz, 0, 0⟩ none 0) 164)) (.cells #[.int .i64 P.k1] 3)
  simpa using this
 have h4b : ((((w.alloc (.cells (cmv ⟨P, 1, lk, y, h⟩ ka kc) 104)).alloc (.cells (Cd.bv ⟨0, nz, nz, 0, 0⟩ none 0) 164)).alloc (.cells #[.int .i64 P.k1] 3)).alloc (.cells (Cd.bv ⟨0, nz, nz, 0, 0⟩ none 0) 164)).heap[w.heap.size + 1 + 1 + 1]? = some (.cells (Cd.bv ⟨0, nz, nz, 0, 0⟩ none 0) 164 (0, 0)) := by
  have := heap_alloc_new (((w.alloc (.cells (cmv ⟨P, 1, lk, y, h⟩ ka kc) 104)).alloc (.cells (Cd.bv ⟨0, nz, nz, 0, 0⟩ none 0) 164)).alloc (.cells #[.int .i64 P.k1] 3)) (.cells (Cd.bv ⟨0, nz, nz, 0, 0⟩ none 0) 164)
  simpa using this
 have ck : ((w.alloc (.cells (cmv ⟨P, 1, lk, y, h⟩ ka kc) 104)).alloc (.cells (Cd.bv ⟨0, nz, nz, 0, 0⟩ none 0) 164)).cell? ⟨w.heap.size, 35, none⟩ = some (.int .i64 P.k1) := by
  have := (cmBox (cml_range (w := ((w.alloc (.cells (cmv ⟨P, 1, lk, y, h⟩ ka kc) 104)).alloc (.cells (Cd.bv ⟨0, nz, nz, 0, 0⟩ none 0) 164))) (g := w.heap.size) (c := ⟨P, 1, lk, y, h⟩) (ka := ka) (kc := kc) (by rw [Below.heap_alloc _ _ _ (by simp)]; exact heap_alloc_new w _))).k1
  exact this
 have es3 : (((w.alloc (.cells (cmv ⟨P, 1, lk, y, h⟩ ka kc) 104)).alloc (.cells (Cd.bv ⟨0, nz, nz, 0, 0⟩ none 0) 164)).alloc (.cells #[.int .i64 P.k1] 3)).heap.size = w.heap.size + 1 + 1 + 1 := by simp
 have es2 : ((w.alloc (.cells (cmv ⟨P, 1, lk, y, h⟩ ka kc) 104)).alloc (.cells (Cd.bv ⟨0, nz, nz, 0, 0⟩ none 0) 164)).heap.size = w.heap.size + 1 + 1 := by simp
 have H4 : Hid (_ ∧ _ ∧ _ ∧ _ ∧ _) := ⟨hb4, h4c, h4r, h4k, h4b⟩
 clear hb4 h4c h4r h4k h4b
 go_enter Tryz.func76, Tryz.ntmps76
 go_upto_region 4 with (first | (refine Go.Great.wpList_boxTo rfl _ _ rfl _ rfl _ rfl (cmv ⟨P, 1, lk, y, h⟩ ka kc) rfl ?_) | (refine wpList_allocG 164 (Cd.bv ⟨0, nz, nz, 0, 0⟩ none 0) run_allocBr rfl rfl ?_) | (refine wpList_kSlice rfl _ rfl P.k1 rfl ?_) | (refine wpList_brBuild (fun _ => P.k1) _ rfl _ rfl rfl ?_) | (refine wpList_storeG 164 Cd.szB rfl _ _ rfl _ rfl (Cd.bv ⟨1, fun _ => P.k1, nz, 0, 0⟩ _ 1) (Cd.bv ⟨0, nz, nz, 0, 0⟩ none 0) (Cd.bv_size _ _ _) (Cd.bv_size _ _ _) (Cd.bv_one _ _ _) 164 rfl (heap_alloc_new _ _) ?_; intro z5 hg5 hf5; rw [es3] at hg5 hf5; rw [es2] at hg5; have c38 := (cmBox (cml_range (hf5.heap H4.out.2.1 (by simp <;> omega)))).o; have c36 := (cmBox (cml_range (hf5.heap H4.out.2.1 (by simp <;> omega)))).dl; have f5 : ∀ k, z5.frozen? ⟨w.heap.size + 1 + 1 + 1, k, none⟩ = false := (fun k => frozen_of_row _ _ k _ _ hg5); have c34 := (Cd.bbox_of hg5).c34) | fail)
 have hx6 : (z5.setCell ⟨w.heap.size + 1 + 1 + 1, 34, none⟩ (.int .i64 P.dl)).heap[w.heap.size + 1 + 1 + 1]? = some (.cells (Cd.bv ⟨1, fun _ => P.k1, nz, 0, P.dl⟩ (some ⟨w.heap.size + 1 + 1, 0, none⟩) 1) 164 (0, 0)) := by
  have := heap_setCell_same z5 (w.heap.size + 1 + 1 + 1) 34 _ _ (.int .i64 P.dl) hg5
  rw [bv_s34] at this
  exact this
 have hf6 : Frm [w.heap.size + 1 + 1 + 1] ((((w.alloc (.cells (cmv ⟨P, 1, lk, y, h⟩ ka kc) 104)).alloc (.cells (Cd.bv ⟨0, nz, nz, 0, 0⟩ none 0) 164)).alloc (.cells #[.int .i64 P.k1] 3)).alloc (.cells (Cd.bv ⟨0, nz, nz, 0, 0⟩ none 0) 164)) (z5.setCell ⟨w.heap.size + 1 + 1 + 1, 34, none⟩ (.int .i64 P.dl)) := hf5.setCell _ _ (by simp)
 have hr6 := hf6.heap H4.out.2.2.1 (by simp)
 have hk6 := hf6.heap H4.out.2.2.2.1 (by simp)
 have hb6 : Below w.heap.size w (z5.setCell ⟨w.heap.size + 1 + 1 + 1, 34, none⟩ (.int .i64 P.dl)) := H4.out.1.trans (hf6.below (by simp <;> omega) (by simp <;> omega))
 clear c38 c36 c34 f5 hg5 hf5 hf6 ck es3 es2 hsz4 H4
 generalize z5.setCell ⟨w.heap.size + 1 + 1 + 1, 34, none⟩ (.int .i64 P.dl) = z6 at *
 have HX : Hid (z6.rangeAt (w.heap.size + 1 + 1 + 1) 0 (Cd.brl ⟨1, fun _ => P.k1, nz, 0, P.dl⟩ (some ⟨w.heap.size + 1 + 1, 0, none⟩) 1)) := br_range hx6
 have HK6 := hidV (And.intro hk6 hb6)
 clear hx6 hk6 hb6
 go_wp2_with (first | (refine wpList_load_mid rfl 164 _ rfl (w.heap.size + 1 + 1 + 1) 0 rfl (Cd.brl ⟨1, fun _ => P.k1, nz, 0, P.dl⟩ (some ⟨w.heap.size + 1 + 1, 0, none⟩) 1) _ HX.out Tryz.underlying164 rfl (Cd.szBl _ _ _) ?_) | (refine wpList_storeG 164 Cd.szB rfl _ _ rfl (w.heap.size + 1) rfl (Cd.bv ⟨1, fun _ => P.k1, nz, 0, P.dl⟩ (some ⟨w.heap.size + 1 + 1, 0, none⟩) 1) (Cd.bv ⟨0, nz, nz, 0, 0⟩ none 0) (Cd.bv_size _ _ _) (Cd.bv_size _ _ _) (Cd.bv_one _ _ _) 164 rfl hr6 ?_; intro z7 hg7 hf7) | fail)
 refine bodyPost_ret (results_cell_row Tryz.results76 _ z7 (w.heap.size + 1) 164 _ (0, 0) _ rfl hg7 Tryz.underlying164 rfl (Cd.szBv _ _ _)) rfl ⟨_, rfl, ?_, by omega, HK6.out.2.trans (hf7.below (by have := HK6.out.2.size; omega) (by simp))⟩
 rw [cell_of_row _ _ 0 _ _ _ (hf7.heap HK6.out.1 (by simp))]
 rfl

end Go.Proofs.YtjnepkggdkccaaaGreatDoor
