/- The document's ReadHash of too few bytes. -/
import Derived.Test.YtelpkbdobeofgaaDoorRefHs
namespace Go.Proofs.YtelpkbdobeofgaaDoor
open Go.RowKit

set_option maxRecDepth 100000 in
set_option maxHeartbeats 1600000 in
theorem refHash_short (ad : Option Addr) (n cap : Nat) (w : World) (hn : n < 32) :
    Calls Tryd.prog 15 #[.agg #[.slice ad n cap, .int .i64 0]] w fun e w' => e = .returned (.tuple #[.agg #[.slice ad n cap, .int .i64 12], .agg (hv nz)]) ∧ Below w.heap.size w w' := by
  have hni : (n : Int) < 32 := by omega
  go_enter Tryd.func15, Tryd.ntmps15
  go_wp2_with (first | (refine wpList_allocH rfl rfl ?_))
  have hR := four_ret w #[.slice ad n cap, .int .i64 0] #[.slice none 0 0, .int .i64 0] rfl
  generalize ((((w.alloc (.cells #[.slice ad n cap, .int .i64 0] 27)).alloc (.cells #[.slice none 0 0, .int .i64 0] 27)).alloc (.cells (hv nz) 44)).alloc (.cells (hv nz) 44)) = W at *
  refine wp_region_held_drew (S := RetS w.heap.size #[.slice ad n cap, .int .i64 0] nz w) (by kernel_rfl) hR.drew (fun hHeld => ?_)
  refine wpAnyH_take (i := 0) (oi := { dst := some 15, op := .load 27 (.tmp 1), type := 27, pos := "ref.go:207", after := #[], guard := none }) (v := .agg #[.slice ad n cap, .int .i64 0]) rfl (by kernel_rfl) (by kernel_rfl) (by kernel_rfl) (fun _ _ _ h => h) (yieldsIf_load_mid (by rfl) _ _ rfl w.heap.size 0 rfl [.slice ad n cap, .int .i64 0] _ (fun w' hS => range_row hS.1) Tryd.underlying27 rfl rsz) hHeld ?_
  simp only [Act.put, List.setIfInBounds_toArray, List.set_cons_zero, List.set_cons_succ]
  refine wpAnyH_take (i := 2) (oi := { dst := some 17, op := .load 44 (.tmp 4), type := 44, pos := "ref.go:207", after := #[{ on := 3, ground := .gcOnly .lateStores }], guard := none }) (v := .agg (hv nz)) rfl (by kernel_rfl) (by kernel_rfl) (by kernel_rfl) (fun _ _ _ h => h) (yieldsIf_load_mid (by rfl) _ _ rfl (w.heap.size + 1 + 1 + 1) 0 rfl (bl nz 32) _ (fun w' hS => by rw [← hv_list]; exact range_row hS.2.2.2.1) Tryd.underlying44 rfl (by rw [bl_length]; exact hsz)) hHeld ?_
  simp only [Act.put, List.setIfInBounds_toArray, List.set_cons_zero, List.set_cons_succ]
  refine wpAnyH_ready (rs := [1]) (by kernel_rfl) (by simp) ?_
  refine AllReadyH.cons (o := { dst := some 16, op := .call { callee := .value (.func 23), args := #[.tmp 15, .const (.int .i64 12)], argTypes := #[27, 3] }, type := 27, pos := "ref.go:207", after := #[{ on := 0, ground := .data }], guard := none }) rfl (fun K hK => ?_) AllReadyH.nil
  go_simp
  refine (fail_0 _ _ _ _ _).mono ?_
  rintro e w1 ⟨rfl, rfl⟩
  have hHeld := (hHeld.alloc (.cells #[.slice ad n cap, .int .i64 12] 27)).alloc (.cells #[.slice ad n cap, .int .i64 12] 27)
  refine hK.out _ _ hHeld (fun _ => ?_)
  clear hK K
  generalize ((W.drew.alloc (.cells #[.slice ad n cap, .int .i64 12] 27)).alloc (.cells #[.slice ad n cap, .int .i64 12] 27)) = W1 at *
  refine wpAnyH_ready (rs := [3]) (by kernel_rfl) (by simp) ?_
  refine AllReadyH.cons (o := { dst := none, op := .store 27 (.tmp 2) (.tmp 16), type := 0, pos := "ref.go:207", after := #[{ on := 1, ground := .data }, { on := 1, ground := .chain }, { on := 0, ground := .phase }, { on := 1, ground := .phase }, { on := 2, ground := .textOnly .lateStores }], guard := none }) rfl (fun K hK => ?_) AllReadyH.nil
  rw [if_pos (by rfl)]
  refine wp_store_mid _ _ _ rfl _ 0 #[.slice ad n cap, .int .i64 12] rfl rfl (there_row hHeld.2.1.choose_spec.2 (by rw [hHeld.2.1.choose_spec.1]; exact Nat.le_refl 2)) rsz (by simp [Value.oneCell']) ?_
  have h2 := hHeld.one (c' := #[.slice ad n cap, .int .i64 12]) rfl
  refine hK.out _ _ h2.1 (fun _ => ?_)
  clear hK K
  simp only [Act.put]
  refine wpAnyH_ready (rs := [4]) (by kernel_rfl) (by simp) ?_
  refine AllReadyH.cons (o := { dst := none, op := .store 44 (.tmp 3) (.tmp 17), type := 0, pos := "ref.go:207", after := #[{ on := 2, ground := .data }, { on := 3, ground := .chain }, { on := 0, ground := .phase }, { on := 1, ground := .phase }, { on := 2, ground := .phase }, { on := 3, ground := .phase }], guard := none }) rfl (fun K hK => ?_) AllReadyH.nil
  rw [if_pos (by rfl)]
  refine wp_store_mid _ _ _ rfl _ 0 (hv nz) rfl rfl (there_row h2.1.2.2.1.choose_spec (by simp [hv_size])) (hszv nz) (hv_one nz) ?_
  have h3 := h2.1.two h2.2 rfl
  refine hK.out _ _ h3.1 (fun _ => ?_)
  clear hK K
  refine wpAnyH_done (by kernel_rfl) ?_ _
  simp only [Act.put]
  go_wp2_with fail
  exact bodyPost_ret (v := .tuple #[.agg #[.slice ad n cap, .int .i64 12], .agg (hv nz)]) (results_RH Tryd.results15 _ _ _ _ _ _ rfl h3.2.1 rfl h3.2.2) rfl ⟨rfl, h3.1.2.2.2.2⟩
end Go.Proofs.YtelpkbdobeofgaaDoor
