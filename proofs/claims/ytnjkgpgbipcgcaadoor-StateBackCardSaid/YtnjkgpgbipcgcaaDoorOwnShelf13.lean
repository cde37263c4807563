/- state.Check and what it calls. -/
import Derived.Test.YtnjkgpgbipcgcaaDoorOwnShelf12
namespace Go.Proofs.YtnjkgpgbipcgcaaDoor
open Go.RowKit

theorem within_any (n l m : Int) (w : World) :
    Calls Tryd.prog 32 #[.int .i64 n, .int .i64 l, .int .i64 m] w fun e w' => e = .returned (.bool (decide (l ≤ n ∧ n ≤ m))) ∧ w' = w := by
  by_cases h : l ≤ n
  · go_enter Tryd.func32, Tryd.ntmps32
    go_wp2
    go_ret
    simp [h]
  · have e : decide (l ≤ n ∧ n ≤ m) = false := by simp; omega
    rw [e]
    go_enter Tryd.func32, Tryd.ntmps32
    go_wp2
    go_ret
    simp
theorem isSide_any (n : Int) (w : World) :
    Calls Tryd.prog 34 #[.int .i64 n] w fun e w' => e = .returned (.bool (decide (n = 0 ∨ n = 1))) ∧ w' = w := by
  by_cases h : n = 0
  · subst h
    go_enter Tryd.func34, Tryd.ntmps34
    go_wp2
    go_ret
    simp
  · have e : decide (n = 0 ∨ n = 1) = decide (n = 1) := by simp [h]
    have e0 : (n == 0) = false := by simp [h]
    rw [e]
    go_enter Tryd.func34, Tryd.ntmps34
    go_wp2
    go_ret
    exact ⟨rfl, rfl⟩
theorem slots_any (s : Sv) (p : Pl) (w : World) (hs : s.pn + s.hn ≤ 1000000) :
    Calls Tryd.prog 35 #[.agg (svv s p)] w fun e w' => e = .returned (.int .i64 ((s.pn + s.hn : Nat) : Int)) ∧ Below w.heap.size w w' := by
  unfold svv
  have hb0 : Below w.heap.size w (w.alloc (.cells (svv s p) 28)) := (Below.refl _ w).alloc (Nat.le_refl _) _
  unfold svv at hb0
  go_enter Tryd.func35, Tryd.ntmps35
  go_wp2
  go_ret
  exact ⟨by go_num, hb0⟩

set_option maxHeartbeats 800000 in
theorem mayHold_any (ka : Option Addr) (n kc : Nat) (z : Nat → Int) (w : World) (h : IsAt w ka n z) (hn : n ≤ 1000000) :
    Calls Tryd.prog 57 #[.slice ka n kc] w fun e w' => e = .returned (.bool (decide (KOk z n ∧ 0 < n))) ∧ Below w.heap.size w w' := by
  have HI : Hid (IsAt w ka n z) := h
  have hb0 := Below.refl w.heap.size w
  clear h
  go_enter Tryd.func57, Tryd.ntmps57
  go_wp2
  go_loopw [3, 5, 8] (fun lv kv iv wr => ∃ i : Nat, i ≤ n ∧ lv = .int .i64 (lastK z i) ∧ iv = .int .i64 i ∧ KOk z i ∧ Below w.heap.size w wr) (fun _ _ iv _ => n + 1 - (intOf iv).toNat)
  case atStart => exact ⟨0, by omega, rfl, rfl, fun j hj => by omega, hb0⟩
  case round =>
    clear hb0
    obtain ⟨i, hi, rfl, rfl, hk, hb⟩ := hrel
    have HK : Hid (KOk z i) := hk
    clear hk
    by_cases hlt : i < n
    · have hlt' : (i : Int) < n := by omega
      obtain ⟨b, off, rfl, hc⟩ := HI.out (by omega)
      have hci : wr.cell? ⟨b, off + i, none⟩ = some (.int .i64 (z i)) := by
        have := hc i hlt
        rw [hb.cell (p := ⟨b, off + i, none⟩) (World.block_lt_of_cell? w ⟨b, off + i, none⟩ this)]; exact this
      clear hc
      by_cases h1 : lastK z i < z i
      · have h1' : ¬ z i ≤ lastK z i := by omega
        by_cases h2 : z i < 16
        · have h2' : ¬ 16 ≤ z i := by omega
          have HN : Hid (KOk z (i + 1)) := fun j hj => by
            by_cases e : j = i
            · subst e; exact ⟨h1, h2⟩
            · exact HK.out j (by omega)
          have e1 := lastK_succ z i
          generalize lastK z i = q at *
          go_wp2
          go_roundw
          case rel => exact ⟨i + 1, by omega, by rw [e1], by go_num, HN.out, hb⟩
          case measure => simp [intOf]; omega
        · have h2' : 16 ≤ z i := by omega
          have HN : Hid (¬ KOk z n) := fun hk => h2 (hk i hlt).2
          generalize lastK z i = q at *
          go_wp2
          go_ret
          exact ⟨by simp [HN.out], hb⟩
      · have h1' : z i ≤ lastK z i := by omega
        have HN : Hid (¬ KOk z n) := fun hk => h1 (hk i hlt).1
        generalize lastK z i = q at *
        go_wp2
        go_ret
        exact ⟨by simp [HN.out], hb⟩
    · obtain rfl : i = n := by omega
      have hnn : ¬ ((i : Int) < i) := by omega
      have hk := HK.out
      go_wp2
      go_ret
      exact ⟨by simp, hb⟩

/-- A hold of noughts, and a payment. -/
def p0 : Py := ⟨0, 0, 0, 0, nz⟩
theorem run_allocP (w : World) : (Instr.alloc 44 true (.tuple #[])).run Tryd.prog w = .ok (.pointer (some ⟨w.heap.size, 0, none⟩)) (w.alloc (.cells (pyv p0) 44)) := by kernel_rfl
section
variable {ops : Array Oper} {rest : List Oper} {o : Oper} {a : Act} {w : World} {Q : Exit → Act → World → Prop}
theorem wpList_allocP (hgd : o.guard = none) (ho : o.op = .alloc 44)
    (h : wpList Tryd.prog ops Q rest (a.put o.dst (.pointer (some ⟨w.heap.size, 0, none⟩))) (w.alloc (.cells (pyv p0) 44))) : wpList Tryd.prog ops Q (o :: rest) a w := by
  refine wpList_plain hgd fun K hK => ?_
  unfold Oper.wp execOp
  simp only [ho, Sem.run_bind, run_allocP, Result.andThen]
  exact hK _ _ h
/-- A whole payment stored into a variable of its own. -/
theorem wpList_storeP (T : TypeId) (hT : (Tryd.prog.info? T).map (·.size) = some 36) (hgd : o.guard = none) (x y : Operand) (ho : o.op = .store T x y) (g : Nat) (hx : a.eval x = .pointer (some ⟨g, 0, none⟩)) (v u : Py) (t : TypeId) (hy : a.eval y = .agg (pyv v)) (hg : w.heap[g]? = some (.cells (pyv u) t (0, 0)))
    (h : ∀ w', w'.heap[g]? = some (.cells (pyv v) t (0, 0)) → Frm [g] w w' → wpList Tryd.prog ops Q rest (a.put o.dst undef) w') : wpList Tryd.prog ops Q (o :: rest) a w := by
  refine wpList_store_mid hgd T x y ho g 0 (pyv v) hx hy ?_ (by rw [pyv_size]; exact hT) (pyv_one v) (h _ ?_ (setCells_frm g _ 0 w))
  · intro j hj
    rw [pyv_size] at hj
    refine ⟨?_, ?_⟩
    · rw [Nat.zero_add, cell_of_row w g j _ t _ hg]
      simp [pyv_size, hj]
    · rw [Nat.zero_add]; exact frozen_of_row w g j _ t hg
  · have := setCells_at g (pyv v).toList 0 w [] (pyv u).toList t (by simpa using hg) rfl (by simp [pyv_size])
    rw [this]
    simp [pyv_size, List.drop_eq_nil_of_le]
end
theorem frm_new {w w' : World} {o : Obj} (h : Frm [w.heap.size] (w.alloc o) w') : Below w.heap.size w w' :=
  ((Below.refl _ w).alloc (Nat.le_refl _) o).trans (h.below (by simp) (by simp))
theorem szHl (z : Nat → Int) : (Tryd.prog.info? 31).map (·.size) = some (bl z 32).length := by rw [bl_length]; exact hsz
theorem wpList_wanted {P : Program} {ops : Array Oper} {rest : List Oper} {o : Oper} {a : Act} {w : World} {Q : Exit → Act → World → Prop} (hw : Region.wanted o (yielded ops a.tmps) = true) (h : ∀ K : Act → World → Prop, (∀ a w, wpList P ops Q rest a w → K a w) → o.wp P a w K Q) : wpList P ops Q (o :: rest) a w :=
  wpList_step fun K hK => by rw [if_pos hw]; exact h K hK
theorem build_H (w : World) : (Instr.build 31 #[]).run Tryd.prog w = .ok (.agg (hv nz)) w := by kernel_rfl
section
variable {ops : Array Oper} {rest : List Oper} {o : Oper} {a : Act} {w : World} {Q : Exit → Act → World → Prop}
/-- A sum loaded, guarded or not. -/
theorem wpList_loadHG (hw : Region.wanted o (yielded ops a.tmps) = true) (x : Operand) (ho : o.op = .load 31 x) (b q : Nat) (hx : a.eval x = .pointer (some ⟨b, q, none⟩)) (z : Nat → Int) (hc : w.rangeAt b q (bl z 32))
    (h : wpList Tryd.prog ops Q rest (a.put o.dst (.agg (hv z))) w) : wpList Tryd.prog ops Q (o :: rest) a w :=
  wpList_wanted hw fun _ hK => wp_load_mid 31 x ho b q hx (bl z 32) _ hc Tryd.underlying31 rfl (szHl z) (hK _ _ h)
/-- The zero sum, guarded or not. -/
theorem wpList_buildHG (hw : Region.wanted o (yielded ops a.tmps) = true) (ho : o.op = .build 31 #[])
    (h : wpList Tryd.prog ops Q rest (a.put o.dst (.agg (hv nz))) w) : wpList Tryd.prog ops Q (o :: rest) a w :=
  wpList_wanted hw fun K hK => by
    unfold Oper.wp execOp
    simp only [ho, List.map_toArray, List.map_nil, Sem.run_bind, build_H, Result.andThen]
    exact hK _ _ h
theorem guardHs : Tryd.prog.eqGuardType Tryd.prog.depth 31 = false := by kernel_rfl
/-- Two sums held against each other, guarded or not. -/
theorem wpList_eqHG (hw : Region.wanted o (yielded ops a.tmps) = true) (x y : Operand) (ho : o.op = .binOp .eql 31 x y 31) (z u : Nat → Int) (hx : a.eval x = .agg (hv z)) (hy : a.eval y = .agg (hv u)) (hz : Zb z) (hu : Zb u)
    (h : wpList Tryd.prog ops Q rest (a.put o.dst (.bool (hq z u))) w) : wpList Tryd.prog ops Q (o :: rest) a w :=
  wpList_wanted hw fun K hK => by
    have hr : (execOp a.eval o).run Tryd.prog w = .ok (.value (.bool (hq z u))) w := by
      unfold execOp
      simp only [ho, hx, hy, Sem.run_bind, run_eqGuard_agg w .eql 31 x y _ _ guardHs, eql_hv hz hu, Result.andThen_ok, Sem.run_pure]
    unfold Oper.wp
    rw [hr]
    exact hK _ _ h
end
end Go.Proofs.YtnjkgpgbipcgcaaDoor
