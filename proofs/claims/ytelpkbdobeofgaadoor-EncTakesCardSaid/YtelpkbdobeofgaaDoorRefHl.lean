/- The document's ReadHash of enough bytes. -/
import Derived.Test.YtelpkbdobeofgaaDoorRefHt
namespace Go.Proofs.YtelpkbdobeofgaaDoor
open Go.RowKit

theorem mix_at (z : Nat → Int) (q : Nat) (hq : q < 32) : (hv (mix z q))[q]? = some (.int .u8 0) := by
  simp [hv, bl, mix, hq]
theorem setCell_mix {w : World} {g q : Nat} {z : Nat → Int} (h : w.heap[g]? = some (.cells (hv (mix z q)) 44 (0, 0))) : (w.setCell ⟨g, q, none⟩ (.int .u8 (z q))).heap[g]? = some (.cells (hv (mix z (q + 1))) 44 (0, 0)) := by
  rw [heap_setCell_same w g q _ _ _ h, mix_step]

theorem RetS.setH {s q : Nat} {cr : Array Value} {z : Nat → Int} {w w' : World} (h : RetS s cr (mix z q) w w') : RetS s cr (mix z (q + 1)) w (w'.setCell ⟨s + 1 + 1 + 1, q, none⟩ (.int .u8 (z q))) := by
  obtain ⟨h0, ⟨c, hc, h1⟩, ⟨u, h2⟩, h3, hb⟩ := h
  exact ⟨(Below.heap_setCell _ _ _ _ (by simp; omega)).trans h0, ⟨c, hc, (Below.heap_setCell _ _ _ _ (by simp)).trans h1⟩, ⟨u, (Below.heap_setCell _ _ _ _ (by simp)).trans h2⟩, setCell_mix h3, hb.setCell (by simp; omega) _⟩
theorem RetS.set0 {s : Nat} {v0 v e : Value} {z : Nat → Int} {w w' : World} (h : RetS s #[v0, e] z w w') : RetS s #[v, e] z w (w'.setCell ⟨s, 0, none⟩ v) := by
  obtain ⟨h0, ⟨c, hc, h1⟩, ⟨u, h2⟩, h3, hb⟩ := h
  exact ⟨two_set0 h0, ⟨c, hc, (Below.heap_setCell _ _ _ _ (by simp)).trans h1⟩, ⟨u, (Below.heap_setCell _ _ _ _ (by simp; omega)).trans h2⟩, (Below.heap_setCell _ _ _ _ (by simp; omega)).trans h3, hb.setCell (by simp) _⟩
/-- The first 32. -/
def cut (z : Nat → Int) : Nat → Int := mix z 32
theorem mix_z32 (z : Nat → Int) : mix z 32 = cut z := rfl
theorem hv_cut (z : Nat → Int) : hv (cut z) = hv z := mix_32 z

/-- What is left behind a sum. -/
def RHPost (w : World) (n : Nat) (z : Nat → Int) (ad : Option Addr) (e : Ending) (w' : World) : Prop :=
  ∃ ad' cap', e = .returned (.tuple #[.agg #[.slice ad' (n - 32) cap', .int .i64 0], .agg (hv z)]) ∧ n - 32 ≤ cap' ∧ (∀ wo, SlAt wo ad n z → SlAt wo ad' (n - 32) (fun j => z (j + 32))) ∧ Below w.heap.size w w'

set_option maxRecDepth 100000 in
set_option maxHeartbeats 1600000 in
theorem refHash_long (b off n cap : Nat) (z : Nat → Int) (w : World) (hn : 32 ≤ n) (hlc : n ≤ cap) (hz : ∀ j, j < n → 0 ≤ z j ∧ z j ≤ 255) (hc : ∀ j, j < n → w.cell? ⟨b, off + j, none⟩ = some (.int .u8 (z j))) :
    Calls Tryd.prog 15 #[.agg #[.slice (some ⟨b, off, none⟩) n cap, .int .i64 0]] w fun e w' => RHPost w n z (some ⟨b, off, none⟩) e w' := by
  have hni : ¬ (n : Int) < 32 := by omega
  have hblt : b < w.heap.size := World.block_lt_of_cell? w ⟨b, off + 0, none⟩ (hc 0 (by omega))
  have HC : Hid (∀ j, j < n → w.cell? ⟨b, off + j, none⟩ = some (.int .u8 (z j))) := hc
  have HZ : Hid (∀ j, j < n → 0 ≤ z j ∧ z j ≤ 255) := hz
  clear hc hz
  go_enter Tryd.func15, Tryd.ntmps15
  go_wp2_with (first | (refine wpList_allocH rfl rfl ?_))
  have hR := four_ret w #[.slice (some ⟨b, off, none⟩) n cap, .int .i64 0] #[.slice none 0 0, .int .i64 0] rfl
  generalize ((((w.alloc (.cells #[.slice (some ⟨b, off, none⟩) n cap, .int .i64 0] 27)).alloc (.cells #[.slice none 0 0, .int .i64 0] 27)).alloc (.cells (hv nz) 44)).alloc (.cells (hv nz) 44)) = W at *
  go_loopw [5] (fun i wr => ∃ q : Nat, q ≤ 32 ∧ i = .int .i64 q ∧ RetS w.heap.size #[.slice (some ⟨b, off, none⟩) n cap, .int .i64 0] (mix z q) w wr) (fun i _ => 33 - (intOf i).toNat)
  case atStart => exact ⟨0, Nat.zero_le _, rfl, by have : mix z 0 = nz := by funext j; simp [mix, nz]
                                                   rw [this]; exact hR⟩
  case round =>
    obtain ⟨q, hq, rfl, hS⟩ := hrel
    have HH : Hid (RetS w.heap.size #[.slice (some ⟨b, off, none⟩) n cap, .int .i64 0] (mix z q) w wr) := hS
    have hc0 := (retS_cell hS 0).trans (show #[Value.slice (some ⟨b, off, none⟩) n cap, .int .i64 0][0]? = some (.slice (some ⟨b, off, none⟩) n cap) from rfl)
    clear hS hR
    by_cases hlt : q < 32
    · have hcz := (HH.out.2.2.2.2.cell (p := ⟨b, off + q, none⟩) hblt).trans (HC.out q (by omega))
      have hzq := HZ.out q (by omega)
      have hcs : wr.cell? ⟨w.heap.size + 1 + 1 + 1, q, none⟩ = some (.int .u8 0) := (cell_of_row _ _ q _ _ _ HH.out.2.2.2.1).trans (mix_at z q hlt)
      have hcf : wr.frozen? ⟨w.heap.size + 1 + 1 + 1, q, none⟩ = false := frozen_of_row _ _ q _ _ HH.out.2.2.2.1
      have hqn : (q : Int) < (n : Int) := by omega
      have hq3 : (q : Int) < 32 := by omega
      go_wp2
      refine ⟨⟨q + 1, by omega, by go_num, HH.out.setH⟩, by simp [intOf]; omega⟩
    · have : q = 32 := by omega
      subst this
      have hf0 : wr.frozen? ⟨w.heap.size, 0, none⟩ = false := frozen_of_row _ _ 0 _ _ HH.out.1
      by_cases hcap : cap = 32
      · subst hcap
        obtain rfl : n = 32 := by omega
        go_wp2
        have hR := (HH.out).set0 (v := .slice (some ⟨b, off, none⟩) 0 0)
        rw [mix_z32] at hR
        generalize (wr.setCell ⟨w.heap.size, 0, none⟩ (.slice (some ⟨b, off, none⟩) 0 0)) = W1 at *
        refine wp_region_held_drew (S := RetS w.heap.size #[.slice (some ⟨b, off, none⟩) 0 0, .int .i64 0] (cut z) w) (by kernel_rfl) hR.drew (fun hHeld => ?_)
        refine wpAnyH_take (i := 0) (oi := { dst := some 33, op := .load 27 (.tmp 1), type := 27, pos := "ref.go:213", after := #[], guard := none }) (v := .agg #[.slice (some ⟨b, off, none⟩) 0 0, .int .i64 0]) rfl (by kernel_rfl) (by kernel_rfl) (by kernel_rfl) (fun _ _ _ h => h) (yieldsIf_load_mid (by rfl) _ _ rfl w.heap.size 0 rfl [.slice (some ⟨b, off, none⟩) 0 0, .int .i64 0] _ (fun w' hS => range_row hS.1) Tryd.underlying27 rfl rsz) hHeld ?_
        simp only [Act.put, List.setIfInBounds_toArray, List.set_cons_zero, List.set_cons_succ]
        refine wpAnyH_take (i := 1) (oi := { dst := some 34, op := .load 44 (.tmp 4), type := 44, pos := "ref.go:213", after := #[{ on := 2, ground := .gcOnly .lateStores }], guard := none }) (v := .agg (hv (cut z))) rfl (by kernel_rfl) (by kernel_rfl) (by kernel_rfl) (fun _ _ _ h => h) (yieldsIf_load_mid (by rfl) _ _ rfl (w.heap.size + 1 + 1 + 1) 0 rfl (bl (cut z) 32) _ (fun w' hS => by rw [← hv_list]; exact range_row hS.2.2.2.1) Tryd.underlying44 rfl (by rw [bl_length]; exact hsz)) hHeld ?_
        simp only [Act.put, List.setIfInBounds_toArray, List.set_cons_zero, List.set_cons_succ]
        refine wpAnyH_ready (rs := [2]) (by kernel_rfl) (by simp) ?_
        refine AllReadyH.cons (o := { dst := none, op := .store 27 (.tmp 2) (.tmp 33), type := 0, pos := "ref.go:213", after := #[{ on := 0, ground := .data }, { on := 0, ground := .phase }, { on := 1, ground := .textOnly .lateStores }], guard := none }) rfl (fun K hK => ?_) AllReadyH.nil
        rw [if_pos (by rfl)]
        refine wp_store_mid _ _ _ rfl _ 0 #[.slice (some ⟨b, off, none⟩) 0 0, .int .i64 0] rfl rfl (there_row hHeld.2.1.choose_spec.2 (by rw [hHeld.2.1.choose_spec.1]; exact Nat.le_refl 2)) rsz (by simp [Value.oneCell']) ?_
        have h2 := hHeld.one (c' := #[.slice (some ⟨b, off, none⟩) 0 0, .int .i64 0]) rfl
        refine hK.out _ _ h2.1 (fun _ => ?_)
        clear hK K
        simp only [Act.put]
        refine wpAnyH_ready (rs := [3]) (by kernel_rfl) (by simp) ?_
        refine AllReadyH.cons (o := { dst := none, op := .store 44 (.tmp 3) (.tmp 34), type := 0, pos := "ref.go:213", after := #[{ on := 1, ground := .data }, { on := 2, ground := .chain }, { on := 0, ground := .phase }, { on := 1, ground := .phase }, { on := 2, ground := .phase }], guard := none }) rfl (fun K hK => ?_) AllReadyH.nil
        rw [if_pos (by rfl)]
        refine wp_store_mid _ _ _ rfl _ 0 (hv (cut z)) rfl rfl (there_row h2.1.2.2.1.choose_spec (by simp [hv_size])) (hszv (cut z)) (hv_one (cut z)) ?_
        have h3 := h2.1.two h2.2 rfl
        refine hK.out _ _ h3.1 (fun _ => ?_)
        clear hK K
        refine wpAnyH_done (by kernel_rfl) ?_ _
        simp only [Act.put]
        go_wp2_with fail
        refine bodyPost_ret (v := .tuple #[.agg #[.slice (some ⟨b, off, none⟩) 0 0, .int .i64 0], .agg (hv (cut z))]) (results_RH Tryd.results15 _ _ _ _ _ _ rfl h3.2.1 rfl h3.2.2) rfl ⟨_, _, by rw [hv_cut], by omega, fun wo hwo => ?_, h3.1.2.2.2.2⟩
        exact SlAt.zero _ _
      · go_wp2
        have hR := (HH.out).set0 (v := .slice (some ⟨b, off + 32, none⟩) (n - 32) (cap - 32))
        rw [mix_z32] at hR
        generalize (wr.setCell ⟨w.heap.size, 0, none⟩ (.slice (some ⟨b, off + 32, none⟩) (n - 32) (cap - 32))) = W1 at *
        refine wp_region_held_drew (S := RetS w.heap.size #[.slice (some ⟨b, off + 32, none⟩) (n - 32) (cap - 32), .int .i64 0] (cut z) w) (by kernel_rfl) hR.drew (fun hHeld => ?_)
        refine wpAnyH_take (i := 0) (oi := { dst := some 33, op := .load 27 (.tmp 1), type := 27, pos := "ref.go:213", after := #[], guard := none }) (v := .agg #[.slice (some ⟨b, off + 32, none⟩) (n - 32) (cap - 32), .int .i64 0]) rfl (by kernel_rfl) (by kernel_rfl) (by kernel_rfl) (fun _ _ _ h => h) (yieldsIf_load_mid (by rfl) _ _ rfl w.heap.size 0 rfl [.slice (some ⟨b, off + 32, none⟩) (n - 32) (cap - 32), .int .i64 0] _ (fun w' hS => range_row hS.1) Tryd.underlying27 rfl rsz) hHeld ?_
        simp only [Act.put, List.setIfInBounds_toArray, List.set_cons_zero, List.set_cons_succ]
        refine wpAnyH_take (i := 1) (oi := { dst := some 34, op := .load 44 (.tmp 4), type := 44, pos := "ref.go:213", after := #[{ on := 2, ground := .gcOnly .lateStores }], guard := none }) (v := .agg (hv (cut z))) rfl (by kernel_rfl) (by kernel_rfl) (by kernel_rfl) (fun _ _ _ h => h) (yieldsIf_load_mid (by rfl) _ _ rfl (w.heap.size + 1 + 1 + 1) 0 rfl (bl (cut z) 32) _ (fun w' hS => by rw [← hv_list]; exact range_row hS.2.2.2.1) Tryd.underlying44 rfl (by rw [bl_length]; exact hsz)) hHeld ?_
        simp only [Act.put, List.setIfInBounds_toArray, List.set_cons_zero, List.set_cons_succ]
        refine wpAnyH_ready (rs := [2]) (by kernel_rfl) (by simp) ?_
        refine AllReadyH.cons (o := { dst := none, op := .store 27 (.tmp 2) (.tmp 33), type := 0, pos := "ref.go:213", after := #[{ on := 0, ground := .data }, { on := 0, ground := .phase }, { on := 1, ground := .textOnly .lateStores }], guard := none }) rfl (fun K hK => ?_) AllReadyH.nil
        rw [if_pos (by rfl)]
        refine wp_store_mid _ _ _ rfl _ 0 #[.slice (some ⟨b, off + 32, none⟩) (n - 32) (cap - 32), .int .i64 0] rfl rfl (there_row hHeld.2.1.choose_spec.2 (by rw [hHeld.2.1.choose_spec.1]; exact Nat.le_refl 2)) rsz (by simp [Value.oneCell']) ?_
        have h2 := hHeld.one (c' := #[.slice (some ⟨b, off + 32, none⟩) (n - 32) (cap - 32), .int .i64 0]) rfl
        refine hK.out _ _ h2.1 (fun _ => ?_)
        clear hK K
        simp only [Act.put]
        refine wpAnyH_ready (rs := [3]) (by kernel_rfl) (by simp) ?_
        refine AllReadyH.cons (o := { dst := none, op := .store 44 (.tmp 3) (.tmp 34), type := 0, pos := "ref.go:213", after := #[{ on := 1, ground := .data }, { on := 2, ground := .chain }, { on := 0, ground := .phase }, { on := 1, ground := .phase }, { on := 2, ground := .phase }], guard := none }) rfl (fun K hK => ?_) AllReadyH.nil
        rw [if_pos (by rfl)]
        refine wp_store_mid _ _ _ rfl _ 0 (hv (cut z)) rfl rfl (there_row h2.1.2.2.1.choose_spec (by simp [hv_size])) (hszv (cut z)) (hv_one (cut z)) ?_
        have h3 := h2.1.two h2.2 rfl
        refine hK.out _ _ h3.1 (fun _ => ?_)
        clear hK K
        refine wpAnyH_done (by kernel_rfl) ?_ _
        simp only [Act.put]
        go_wp2_with fail
        refine bodyPost_ret (v := .tuple #[.agg #[.slice (some ⟨b, off + 32, none⟩) (n - 32) (cap - 32), .int .i64 0], .agg (hv (cut z))]) (results_RH Tryd.results15 _ _ _ _ _ _ rfl h3.2.1 rfl h3.2.2) rfl ?_
        exact ⟨some ⟨b, off + 32, none⟩, cap - 32, by rw [hv_cut], by omega, fun wo hwo => by have := hwo.drop (k := 32); simpa [Addr.add_lit] using this, h3.1.2.2.2.2⟩
end Go.Proofs.YtelpkbdobeofgaaDoor
