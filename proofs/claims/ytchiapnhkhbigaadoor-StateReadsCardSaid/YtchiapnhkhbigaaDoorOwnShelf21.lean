/- The document's Hash. -/
import Derived.Test.YtchiapnhkhbigaaDoorOwnShelf20
import Derived.Deep.RegionWith
import Derived.Deep.RegionLaw
import Derived.Deep.DrawnRows
namespace Go.Proofs.YtchiapnhkhbigaaDoor
open Go.RowKit
attribute [local go_sem ↓] Go.wp_at_zero Go.wp_at_succ
theorem step_append_B {ops : Array Oper} {o : Oper} {a : Act} {w : World} {K : Act → World → Prop} {Q : Exit → Act → World → Prop} {E : Prop} (hgd : o.guard = none) (s x : Operand) (ho : o.op = .call { callee := .builtin .append, args := #[s, x], argTypes := #[47, 47] })
    (w0 : World) (v u : Value) (L ys : List Int) (hs : a.eval s = v) (hx : a.eval x = u) (hown : Ow w0 w v L) (hu : BSrc w u ys) (hy : ∀ y, y ∈ ys → 0 ≤ y ∧ y ≤ 255) (hlen : L.length + ys.length ≤ 140737488355328)
    (h : ∀ v' w1, Ow w0 w1 v' (L ++ ys) → K (a.put o.dst v') w1) : if Region.wanted o (yielded ops a.tmps) = true then Oper.wp Tryd.prog o a w K Q else E := by
  have hw : Region.wanted o (yielded ops a.tmps) = true := by simp [Region.wanted, hgd]
  rw [if_pos hw]
  obtain ⟨v', w1, hr, h2⟩ := run_append_B w w0 o.type v u L ys hown hu hy hlen
  unfold Oper.wp execOp
  simp only [ho, resolve, invoke, builtin, Sem.run_bind, Sem.run_pure, Result.andThen_ok, List.map_toArray, List.map_cons, List.map_nil, hs, hx, hr]
  exact h v' w1 h2
theorem Ow.old {w0 w : World} {v : Value} {L : List Int} (h : Ow w0 w v L) {k : Nat} {ob : Obj} (hk : w0.heap[k]? = some ob) : w.heap[k]? = some ob := by
  rw [h.below.block k (lt_of_block hk)]; exact hk
set_option maxRecDepth 100000 in
set_option maxHeartbeats 1600000 in
theorem refHash_any (ad : Option Addr) (l : List Int) (cap : Nat) (z : Nat → Int) (w : World) (hs : SlAt w ad l.length (fn l)) (hnil : ad = none → l.length = 0 ∧ cap = 0) (hn : l.length + 64 ≤ 140737488351232) (hz : ∀ j, j < 32 → 0 ≤ z j ∧ z j ≤ 255) :
    Calls Tryd.prog 43 #[.slice ad l.length cap, .agg (hv z)] w fun e w' => ∃ v, e = .returned v ∧ Ow w w' v (l ++ hB z) := by
  have HS : Hid (SlAt w ad l.length (fn l)) := hs
  have HN : Hid ((w.alloc (.cells (hv z) 55)).heap[w.heap.size]? = some (.cells (hv z) 55 (0, 0))) := heap_alloc_new w (.cells (hv z) 55)
  have HZ : Hid (∀ y, y ∈ hB z → 0 ≤ y ∧ y ≤ 255) := by
    intro y hy
    simp [hB] at hy
    obtain ⟨j, hj, rfl⟩ := hy
    exact hz j hj
  have hbl : Below w.heap.size w (w.alloc (.cells (hv z) 55)) := (Below.refl _ w).alloc (Nat.le_refl _) _
  clear hs hz
  go_enter Tryd.func43, Tryd.ntmps43
  go_wp2_with (first | (refine Go.Great.wpList_boxTo rfl _ _ rfl _ rfl _ rfl (hv z) rfl ?_) | fail)
  go_region_law (first
    | (refine step_append_B rfl (.tmp 6) (.tmp 7) rfl (w.alloc (.cells (hv z) 55)).drew _ _ l (hB z) (by rfl) (by rfl) hO (hash_src (hB_bl z) (hO.old HN.out)) HZ.out (by rw [hB_length]; omega) ?_; intro v2 w3 hO2)
    | (go_simp; go_at_call 72; refine (refOwn_any ad l cap _ ((HS.out.below hbl).below (Below.refl _ _).drew) hnil (by omega)).mono ?_; rintro e w2 ⟨vo, rfl, hO⟩))
  all_goals
    have hR := (hO2.mono (Below.refl _ _).drew).mono hbl
    clear hO hO2
    go_wp2
    go_ret
    exact ⟨v2, rfl, hR⟩
end Go.Proofs.YtchiapnhkhbigaaDoor
