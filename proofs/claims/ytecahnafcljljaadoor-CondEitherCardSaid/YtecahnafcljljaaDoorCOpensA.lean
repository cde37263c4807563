/- cond.Opens of any condition at any branch, whatever is shown. -/
import Derived.Test.YtecahnafcljljaaDoorCOpensW
import Derived.Test.YtecahnafcljljaaDoorBKeyed
namespace Go.Proofs.YtecahnafcljljaaDoor
open Go.RowKit Go.Shelf Go.Sort

/-- A sum's bytes as ints. -/
def sZ (R : List Nat) : Nat → Int := fun j => (R.getD j 0 : Nat)
theorem sv_sZ {R : List Nat} (h : R.length = 32) : sv R = hv (sZ R) := by
  unfold sv sl8 hv bl sZ
  congr 1
  apply List.ext_getElem?
  intro j
  by_cases hj : j < 32
  · simp [List.getElem?_map, List.getElem?_range hj, List.getElem?_eq_getElem (show j < R.length by omega), List.getD_eq_getElem?_getD]
  · rw [List.getElem?_eq_none (by simp; omega), List.getElem?_eq_none (by simp; omega)]
theorem sZ_bd (b : List Nat) : Zb (sZ (sumF b)) := fun j _ => by have := endL_lt (feed (new0 []) b).h j; have h2 : (sumF b).getD j 0 < 256 := endL_lt _ j; unfold sZ; omega
theorem guardHs : Tryd.prog.eqGuardType Tryd.prog.depth 44 = false := by kernel_rfl
theorem eqIn_hv {z y : Nat → Int} (hz : Zb z) (hy : Zb y) (w : World) : (Op.equalIn 10000 44 (.agg (hv z)) (.agg (hv y))).run Tryd.prog w = .ok (hq z y) w := by
  rw [hv_ub hz, hv_ub hy]
  exact run_equalIn_bytes w 9998 44 5 32 Tryd.underlying44 Tryd.underlying5 hsz1 (ub z) (ub y) (by simp [ub]) (by simp [ub])
theorem exec_neV {a : Act} {o : Oper} (x y : Operand) (ho : o.op = .binOp .neq 44 x y 44) {z u : Nat → Int} (hz : Zb z) (hu : Zb u) (hx : a.eval x = .agg (hv z)) (hy : a.eval y = .agg (hv u)) {c : Bool} (hc : hq z u = !c) (w : World) :
    (execOp a.eval o).run Tryd.prog w = .ok (.value (.bool c)) w := by
  have e1 : (binOp .neq 44 (.agg (hv z)) (.agg (hv u))).run Tryd.prog w = .ok (.bool c) w := by
    go_simp
    simp [eqIn_hv hz hu, Result.andThen, hc]
  unfold execOp
  simp only [ho, hx, hy, Sem.run_bind, run_eqGuard_agg w .neq 44 x y _ _ guardHs, e1, Result.andThen_ok, Sem.run_pure]

set_option maxRecDepth 20000 in
theorem lock_any (ad : Option Addr) (cap : Nat) (b : List Nat) (w : World) (hT : Tab w) (hgl : 3 ≤ w.heap.size) (hB : SlB w ad b) (hb : ∀ i, b.getD i 0 < 256) (hcap : b.length ≤ cap) (hl : b.length ≤ 140737488355328) :
    Calls Tryd.prog 14 #[.slice ad b.length cap] w fun e w' => e = .returned (.agg (hv (sZ (sumF b)))) ∧ Below w.heap.size w w' := by
  have hRl : (sumF b).length = 32 := endL_len _
  rw [← sv_sZ hRl]
  have hn0 : (w.alloc (.cells (sv z32) 44)).heap[w.heap.size]? = some (.cells (sv z32) 44 (0, 0)) := heap_alloc_new w _
  have hF0 : Frm [] w (w.alloc (.cells (sv z32) 44)) := (Frm.refl [] w).alloc _
  have hl0 : w.heap.size < (w.alloc (.cells (sv z32) 44)).heap.size := by simp
  have hcall := sum_any ad cap b (w.alloc (.cells (sv z32) 44)) (hT.frm hF0 (by simp)) (by omega) (hB.below hF0) hb hcap hl
  obtain ⟨R, hR⟩ : ∃ R, R = sumF b := ⟨_, rfl⟩
  rw [← hR] at hcall hRl ⊢
  clear hR
  go_enter Tryd.func14, Tryd.ntmps14
  go_wp2_with (first | (refine wpList_allocHs rfl rfl ?_) | fail)
  refine hcall.mono ?_
  rintro e W1 ⟨rfl, hb1⟩
  clear hcall
  have hr1 : W1.heap[w.heap.size]? = some (.cells (sv z32) 44 (0, 0)) := by rw [hb1.block _ hl0]; exact hn0
  have hF1 : Frm [] w W1 := hF0.trans (Frm.ofBelow hb1)
  clear hb1 hn0 hF0 hl0
  go_wp2_with (first | (refine wpList_storeRow 44 hsz rfl _ _ rfl w.heap.size rfl (sv R) (sv z32) (by rw [sv_size, hRl]) (by simp [sv_size, z32]) (sv_one _) 44 rfl hr1 ?_; intro W3 hg3 hf3) | fail)
  have h1 : Frm [w.heap.size] w W3 := (hF1.mono (by simp)).trans hf3
  exact bodyPost_ret (results_cell_row Tryd.results14 _ W3 w.heap.size 44 (sv R) (0, 0) _ rfl hg3 Tryd.underlying44 rfl (by rw [sv_size, hRl]; exact hsz)) rfl ⟨rfl, h1.below (Nat.le_refl _) (by simp)⟩
end Go.Proofs.YtecahnafcljljaaDoor
