/- As the payments have it. -/
import Derived.Test.YtoefgfiabfkfaaaGreatDoorOwnShelf25
import Derived.Deep.AppendSrc
import Derived.Test.YtoefgfiabfkfaaaGreatDoorOwnShelf26
import Derived.Test.YtoefgfiabfkfaaaGreatDoorOwnShelf24
import Derived.Test.YtoefgfiabfkfaaaGreatDoorOwnShelf22
import Derived.Test.YtoefgfiabfkfaaaGreatDoorOwnShelf19
import Derived.Test.YtoefgfiabfkfaaaGreatDoorOwnShelf21
import Derived.Test.YtoefgfiabfkfaaaGreatDoorOwnShelf15
namespace Go.Proofs.YtoefgfiabfkfaaaGreatDoor
end Go.Proofs.YtoefgfiabfkfaaaGreatDoor
/- slices.Delete of one element at []state.Pay, out of a row of one's own. -/
namespace Go.Proofs.YtoefgfiabfkfaaaGreatDoor
open Go.RowKit Go.Lib

/-- Without the part at the place i. -/
def delF (f : Nat → List Value) (i : Nat) : Nat → List Value := fun j => if j < i then f j else f (j + 1)
theorem delF_mid (f : Nat → List Value) (i m : Nat) : flatL (delF f i) (i + m) = flatL f i ++ flatL (fun j => f (i + 1 + j)) m := by
 rw [flatL_add]
 congr 1
 ·exact flatL_congr i (fun j hj => by simp [delF, hj])
 ·exact flatL_congr m (fun j _ => by simp [delF]; rw [show i + j + 1 = i + 1 + j by omega, if_neg (by omega)])
theorem zero_one (c : Array Value) (n : Nat) (hc : 0 < c.size) (h : ∀ u ∈ c, u.oneCell' = true) : ∀ u ∈ (Builtin.zeroCells c n).toList, u.oneCell' = true := by
 intro u hu
 simp only [Builtin.zeroCells, Array.toList_map, List.mem_map] at hu
 obtain ⟨a, _, rfl⟩ := hu
 rw [getElem!_pos c _ (Nat.mod_lt _ hc)]
 exact h _ (Array.getElem_mem _)
theorem wpList_clear_run (w : World) {P : Program} {ops : Array Oper} {rest : List Oper} {o : Oper} {a : Act} {Q : Exit → Act → World → Prop} (hgd : o.guard = none) (x : Operand) (t : TypeId)
  (ho : o.op = .call ⟨.builtin .clear, #[x], #[t]⟩) (u : Value) (hx : a.eval x = u) {v' : Value} {w' : World}
  (hr : (Builtin.clear_ #[t] o.type #[u]).run P w = .ok v' w') (h : wpList P ops Q rest (a.put o.dst v') w') : wpList P ops Q (o :: rest) a w :=
 wpList_plain hgd fun _ hK => by
  unfold Oper.wp execOp
  simp only [ho, resolve, invoke, builtin, Sem.run_bind, Sem.run_pure, Result.andThen_ok, List.map_toArray, List.map_cons, List.map_nil, hx, hr]
  exact hK _ _ h
theorem step_append_run {P : Program} {ops : Array Oper} {o : Oper} {a : Act} {w : World} {K : Act → World → Prop} {Q : Exit → Act → World → Prop} {E : Prop}
  (hg : o.guard = none) (d x : Operand) (dT sT : TypeId) (hop : o.op = Op.call ⟨Callee.builtin Builtin.append, #[d, x], #[dT, sT]⟩)
  (v u : Value) (hd : a.eval d = v) (hx : a.eval x = u) {v' : Value} {w' : World} (hr : (Builtin.append_ #[dT, sT] o.type #[v, u]).run P w = .ok v' w') (hK : K (a.put o.dst v') w') :
  if Region.wanted o (yielded ops a.tmps) = true then Oper.wp P o a w K Q else E := by
 have hw : Region.wanted o (yielded ops a.tmps) = true := by simp [Region.wanted, hg]
 rw [if_pos hw]
 unfold Oper.wp
 simp [execOp, hop, resolve, invoke, builtin, hd, hx, hr, Result.andThen]
 exact hK
theorem pyv_one' (x : Py) : ∀ u ∈ pyv x, u.oneCell' = true := fun u hu => pyl_one x u (by simpa [pyv] using hu)

set_option maxHeartbeats 4000000 in
set_option maxRecDepth 100000 in
theorem delP_run (g n cap i : Nat) (cur : Array Value) (f : Nat → List Value) (w : World) (hg : w.heap[g]? = some (.cells cur 43 (0, 0))) (hcs : cur.size = cap * 36) (htk : cur.toList.take (n * 36) = flatL f n) (hmx : cap ≤ maxLen) (hf : ∀ j, j < n → (f j).length = 36) (hf1 : ∀ u ∈ flatL f n, u.oneCell' = true) (hi : i < n) (hnc : n ≤ cap) (hn : n ≤ 1000000) :
  Calls Tryz.prog 49 #[.slice (some ⟨g, 0, none⟩) n cap, .int .i64 i, .int .i64 ((i : Int) + 1)] w fun e w' => e = .returned (.slice (some ⟨g, 0, none⟩) (n - 1) cap) ∧ w' = (w.drew.setCells g (i * 36) ((flatL f n).drop ((i + 1) * 36))).setCells g ((n - 1) * 36) (Builtin.zeroCells (Value.cells (.agg (pyv p0))) 1).toList := by
 obtain ⟨i0, hi0, hz0, hz1, hz2⟩ := info_parts infoP
 have hll : (flatL f n).length = n * 36 := flatL_length n hf
 have hdl : ((flatL f n).drop ((i + 1) * 36)).length = (n - (i + 1)) * 36 := by rw [List.length_drop, hll, Nat.sub_mul]
 have hcell : ∀ j, j < cap * 36 → (w.cell? ⟨g, j, none⟩).isSome = true := fun j hj => by
  rw [cell_of_row _ _ _ _ _ _ hg, Array.getElem?_eq_getElem (by omega)]; rfl
 have hfz : ∀ j, w.frozen? ⟨g, j, none⟩ = false := fun j => frozen_of_row _ _ _ _ _ hg
 have hrow : ∀ j v, (flatL f n)[j]? = some v → w.cell? ⟨g, j, none⟩ = some v := fun j v hv => by
  have hj := (List.getElem?_eq_some_iff.1 hv).1
  rw [← htk, List.getElem?_take, if_pos (by omega), Array.getElem?_toList] at hv
  rw [cell_of_row _ _ _ _ _ _ hg]; exact hv
 obtain ⟨A, hA, hsrc⟩ : ∃ A : Addr, (if cap = i + 1 then some (⟨g, 0, none⟩ : Addr) else some ⟨g, (i + 1) * 36, none⟩) = some A ∧ Hid (∀ t u, ((flatL f n).drop ((i + 1) * 36))[t]? = some u → w.drew.cell? (A.add t) = some u) := by
  by_cases h : cap = i + 1
  ·refine ⟨⟨g, 0, none⟩, by simp [h], fun t u hu => ?_⟩
   have h0 : ((flatL f n).drop ((i + 1) * 36)).length = 0 := by rw [hdl]; omega
   rw [List.length_eq_zero_iff.1 h0] at hu
   simp at hu
  ·refine ⟨⟨g, (i + 1) * 36, none⟩, by simp [h], fun t u hu => ?_⟩
   rw [Addr.add_lit]
   exact hrow _ u (by rwa [List.getElem?_drop] at hu)
 have hap : ∀ ty sc, (Builtin.append_ #[34, 34] ty #[.slice (some ⟨g, 0, none⟩) i cap, .slice (some A) (n - (i + 1)) sc]).run Tryz.prog w.drew = .ok (.slice (some ⟨g, 0, none⟩) (n - 1) cap) (w.drew.setCells g (i * 36) ((flatL f n).drop ((i + 1) * 36))) := fun ty sc => by
  have h := run_append_room_src (P := Tryz.prog) w.drew 34 34 ty 43 i0 Tryz.underlying34 hi0 g 0 i cap (.slice (some A) (n - (i + 1)) sc) (n - (i + 1)) ((flatL f n).drop ((i + 1) * 36))
   (Src.ofSlice w.drew Tryz.underlying34 A (n - (i + 1)) sc _ (by rw [hz1]; exact hdl) hsrc.out (fun v hv => hf1 v (List.mem_of_mem_drop hv))) (by omega)
   (fun j hj => by rw [hz1, Nat.zero_add]; exact hcell _ (by rw [hdl] at hj; omega)) (fun j hj => hfz _)
  rw [hz1, Nat.zero_add, show i + (n - (i + 1)) = n - 1 by omega] at h
  exact h
 obtain ⟨W1, hW1⟩ : ∃ W1, W1 = w.drew.setCells g (i * 36) ((flatL f n).drop ((i + 1) * 36)) := ⟨_, rfl⟩
 have hsp1 : ∀ k, k < cap * 36 → (W1.cell? ⟨g, k, none⟩).isSome = true := fun k hk => by
  rw [hW1]
  exact isSome_setCells g _ (i * 36) w.drew (fun j hj => hcell _ (by rw [hdl] at hj; omega)) _ (hcell k hk)
 have hzl : (Builtin.zeroCells (Value.cells (.agg (pyv p0))) 1).toList.length = 36 := by rw [Array.length_toList, zeroCells_size]; exact (Nat.one_mul _).trans zero_p
 have hcl : ∀ ty sc, (Builtin.clear_ #[34] ty #[.slice (some ⟨g, (n - 1) * 36, none⟩) 1 sc]).run Tryz.prog W1 = .ok (.tuple #[]) (W1.setCells g ((n - 1) * 36) (Builtin.zeroCells (Value.cells (.agg (pyv p0))) 1).toList) := fun ty sc => by
  have hst := run_storeCells_cells (P := Tryz.prog) g ((n - 1) * 36) (Builtin.zeroCells (Value.cells (.agg (pyv p0))) 1).toList 0 W1 (fun j hj => by rw [hzl] at hj; exact hsp1 _ (by omega)) (fun j _ => by rw [hW1, World.frozen?_setCells]; exact hfz _) (zero_one _ 1 (by rw [show (Value.cells (.agg (pyv p0))).size = 36 from zero_p]; omega) (pyv_one' p0))
  rw [Nat.add_zero] at hst
  simp [Builtin.clear_, run_underlying Tryz.underlying34, zeroValue, typeInfo, hi0, hz0, hst]
 rw [← hW1] at hap
 have mixed : Tryz.prog.follows .mixedOrders = true := by kernel_rfl
 have hii : ((i : Int) == (i : Int) + 1) = false := by simp; omega
 have hii2 : ¬ ((i : Int) = (i : Int) + 1) := by omega
 have htn : ((i : Int) + 1).toNat = i + 1 := by omega
 have hb1 : (i : Int) + 1 ≤ (n : Int) := by omega
 have hb2 : (i : Int) ≤ (cap : Int) := by omega
 have hb3 : (i : Int) + 1 ≤ (cap : Int) := by omega
 have hb0 : (0 : Int) ≤ (i : Int) + 1 := by omega
 have hnc' : (n : Int) ≤ (cap : Int) := by omega
 have hn1 : ((n - 1 : Nat) : Int) ≤ (n : Int) := by omega
 have hn2 : ¬ (cap = n - 1) := by omega
 have hn3 : n - (n - 1) = 1 := by omega
 have hc63 : cap ≤ 9223372036854775807 := by unfold maxLen at hmx; omega
 have HW1 : Hid (W1 = w.drew.setCells g (i * 36) ((flatL f n).drop ((i + 1) * 36))) := hW1
 clear hi0 hz0 hz1 hz2 hll hdl hcell hfz hrow hsp1 hf hf1 hg hcs htk hzl hW1 hsrc
 go_enter Tryz.func49, Tryz.ntmps49
 go_wp2_with fail
 refine wp_region_noPanic ?_
 refine wp_region_held_drew (S := fun _ => True) (by kernel_rfl) trivial (fun hHeld => ?_)
 refine wpV 0 ⟨some 20, .move (.tmp 0), 34, _, _, none⟩ rfl ?_
 try simp only [Act.put, sqA, sqB, sqC]
 refine wpV 1 ⟨some 21, .move (.tmp 1), 3, _, _, none⟩ rfl ?_
 try simp only [Act.put, sqA, sqB, sqC]
 refine wpV 2 ⟨some 22, .slice 34 (.tmp 20) none (some (.tmp 21)) none, 34, _, _, none⟩ rfl ?_
 try simp only [Act.put, sqA, sqB, sqC]
 refine wpV 3 ⟨some 23, .move (.tmp 0), 34, _, _, none⟩ rfl ?_
 try simp only [Act.put, sqA, sqB, sqC]
 refine wpV 4 ⟨some 24, .move (.tmp 2), 3, _, _, none⟩ rfl ?_
 try simp only [Act.put, sqA, sqB, sqC]
 refine wpU 5 ⟨some 25, .slice 34 (.tmp 23) (some (.tmp 24)) none none, 34, _, _, none⟩ (v := .slice (some A) (n - (i + 1)) (cap - (i + 1))) rfl ?_ ?_
 ·intro wz hSw; (try dsimp only at hSw); go_simp; try (rw [hA]); try rfl
 try simp only [Act.put, sqA, sqB, sqC]
 refine wpAnyH_ready (rs := [6]) (by kernel_rfl) (by simp) ?_
 refine (AllReadyH.cons (o := ⟨some 26, .call ⟨.builtin .append, #[.tmp 22, .tmp 25], #[34, 34]⟩, 34, _, _, none⟩) rfl (fun K hK => ?_) AllReadyH.nil)
 refine step_append_run rfl (.tmp 22) (.tmp 25) 34 34 rfl (.slice (some ⟨g, 0, none⟩) i cap) (.slice (some A) (n - (i + 1)) (cap - (i + 1))) (by rfl) (by rfl) (hap _ _) ?_
 refine hK.out _ _ trivial (fun _ => ?_)
 clear hK K
 refine wpV 7 ⟨some 0, .assign (.tmp 26), 34, _, _, none⟩ rfl ?_
 try simp only [Act.put, sqA, sqB, sqC]
 refine wpAnyH_done (by kernel_rfl) (NoPanic.normal ?_) _
 try simp only [Act.put, sqA, sqB, sqC]
 clear hHeld hap hA
 go_wp2_with (first | (at_builtin; refine wpList_clear_run _ rfl _ 34 rfl _ rfl (hcl _ _) ?_) | fail)
 go_ret
 exact ⟨rfl, by rw [HW1.out]; rfl⟩
/-- What a Delete answers. -/
theorem delP_any (B : Nat) (ad : Option Addr) (n cap i : Nat) (f : Nat → List Value) (w : World) (hown : w.ownsRow B 43 36 (.slice ad n cap) n (flatL f n)) (hi : i < n) (hf : ∀ j, j < n → (f j).length = 36) (hf1 : ∀ u ∈ flatL f n, u.oneCell' = true) (hn : n ≤ 1000000) :
  Calls Tryz.prog 49 #[.slice ad n cap, .int .i64 i, .int .i64 ((i : Int) + 1)] w fun e w' => e = .returned (.slice ad (n - 1) cap) ∧ w'.ownsRow B 43 36 (.slice ad (n - 1) cap) (n - 1) (flatL (delF f i) (n - 1)) ∧ w.grownBy w' (Value.slice ad n cap).ownBlock := by
 obtain ⟨m, rfl⟩ : ∃ m, n = i + 1 + m := ⟨n - i - 1, by omega⟩
 have lX : (flatL f i).length = i * 36 := flatL_length i (fun j hj => hf j (by omega))
 have lM : (f i).length = 36 := hf i hi
 have lY : (flatL (fun j => f (i + 1 + j)) m).length = m * 36 := flatL_length m (fun j hj => hf _ (by omega))
 have eXY : flatL f (i + 1 + m) = flatL f i ++ (f i ++ flatL (fun j => f (i + 1 + j)) m) := by
  rw [flatL_add, flatL, List.append_assoc]
 have eD : (flatL f (i + 1 + m)).drop ((i + 1) * 36) = flatL (fun j => f (i + 1 + j)) m := by
  rw [eXY, ← List.append_assoc, List.drop_append_of_le_length (by simp only [List.length_append, lX, lM]; omega), List.drop_of_length_le (by simp only [List.length_append, lX, lM]; omega), List.nil_append]
 rcases hown.2 with ⟨_, h0⟩ | ⟨g, cap', cur, e1, hBg, hg, hnc, hmx, hcs, htk⟩
 ·omega
 ·cases e1
  refine (delP_run g (i + 1 + m) cap i cur f w hg hcs htk hmx hf hf1 hi hnc hn).mono ?_
  rintro e w' ⟨rfl, rfl⟩
  rw [eD]
  have e2 : i + 1 + m - 1 = i + m := by omega
  rw [e2]
  have ec : cur.toList = flatL f i ++ (f i ++ (flatL (fun j => f (i + 1 + j)) m ++ cur.toList.drop ((i + 1 + m) * 36))) := by
   have := List.take_append_drop ((i + 1 + m) * 36) cur.toList
   rw [htk, eXY] at this
   simpa using this.symm
  have lZ : (cur.toList.drop ((i + 1 + m) * 36)).length = (cap - (i + 1 + m)) * 36 := by rw [List.length_drop, Array.length_toList, hcs, Nat.sub_mul]
  obtain ⟨Z, hZ⟩ : ∃ Z, cur.toList.drop ((i + 1 + m) * 36) = Z := ⟨_, rfl⟩
  rw [hZ] at ec lZ
  have hzl : (Builtin.zeroCells (Value.cells (.agg (pyv p0))) 1).toList.length = 36 := by rw [Array.length_toList, zeroCells_size]; exact (Nat.one_mul _).trans zero_p
  obtain ⟨Q, hQ⟩ : ∃ Q, (Builtin.zeroCells (Value.cells (.agg (pyv p0))) 1).toList = Q := ⟨_, rfl⟩
  rw [hQ] at hzl ⊢
  have hg0 : w.drew.heap[g]? = some (.cells (flatL f i ++ (f i ++ (flatL (fun j => f (i + 1 + j)) m ++ Z))).toArray 43 (0, 0)) := by
   rw [← ec]
   show w.heap[g]? = _
   simpa using hg
  have s1 := setCells_at g (flatL (fun j => f (i + 1 + j)) m) (i * 36) w.drew _ _ 43 hg0 lX (by simp only [List.length_append, lM, lY, lZ]; omega)
  have s2 := setCells_at g Q ((i + m) * 36) _ _ _ 43 s1 (by simp only [List.length_append, lX, lY]; omega) (by simp only [List.length_drop, List.length_append, lM, lY, lZ, hzl]; omega)
  refine ⟨rfl, ⟨?_, .inr ⟨g, cap, _, rfl, hBg, s2, by omega, hmx, ?_, ?_⟩⟩, ?_⟩
  ·rw [delF_mid]
   simp only [List.length_append, lX, lY]
   omega
  ·simp only [List.size_toArray, List.length_append, List.length_drop, lX, lM, lY, lZ, hzl]
   omega
  ·rw [delF_mid]
   dsimp only
   rw [List.append_assoc, List.take_append_of_le_length (by simp only [List.length_append, lX, lY]; omega), List.take_of_length_le (by simp only [List.length_append, lX, lY]; omega)]
  ·have f1 := setCells_frm g (flatL (fun j => f (i + 1 + j)) m) (i * 36) w.drew
   have f2 := setCells_frm g Q ((i + m) * 36) (w.drew.setCells g (i * 36) (flatL (fun j => f (i + 1 + j)) m))
   have f3 := f1.trans f2
   exact ⟨f3.os, f3.tape, f3.output, f3.size, fun k hk hne => f3.block k hk (fun h => hne (by rw [List.mem_singleton.1 h]; rfl))⟩
end Go.Proofs.YtoefgfiabfkfaaaGreatDoor
/- As the payments have it. -/
namespace Go.Proofs.YtoefgfiabfkfaaaGreatDoor
end Go.Proofs.YtoefgfiabfkfaaaGreatDoor
/- Rows of holds with one more, one less; a state's variable. -/
namespace Go.Proofs.YtoefgfiabfkfaaaGreatDoor
open Go.RowKit

section
variable {ops : Array Oper} {rest : List Oper} {o : Oper} {a : Act} {w : World} {K : Act → World → Prop} {Q : Exit → Act → World → Prop} {E : Prop}
end
end Go.Proofs.YtoefgfiabfkfaaaGreatDoor
/- state.Keep. -/
namespace Go.Proofs.YtoefgfiabfkfaaaGreatDoor
open Go.RowKit

end Go.Proofs.YtoefgfiabfkfaaaGreatDoor
/- The document's within, payMay and holdMay. -/
namespace Go.Proofs.YtoefgfiabfkfaaaGreatDoor
open Go.RowKit

theorem rwithin_any (n l m : Int) (w : World) :
  Calls Tryz.prog 48 #[.int .i64 n, .int .i64 l, .int .i64 m] w fun e w' => e = .returned (.bool (decide (l ≤ n ∧ n ≤ m))) ∧ w' = w := by
 by_cases h : l ≤ n
 ·go_enter Tryz.func48, Tryz.ntmps48
  go_wp2
  go_ret
  simp [h]
 ·have e : decide (l ≤ n ∧ n ≤ m) = false := by simp; omega
  rw [e]
  go_enter Tryz.func48, Tryz.ntmps48
  go_wp2
  go_ret
  simp
/-- A payment that may be, by the document's words. -/
def PMay (x : Py) : Prop := 0 ≤ x.id ∧ POne x
instance (x : Py) : Decidable (PMay x) := inferInstanceAs (Decidable (_ ∧ _))
section
variable {ops : Array Oper} {rest : List Oper} {o : Oper} {a : Act} {w : World} {Q : Exit → Act → World → Prop}
/-- Two sums told apart, guarded or not. -/
theorem wpList_neHG (hw : Region.wanted o (yielded ops a.tmps) = true) (x y : Operand) (ho : o.op = .binOp .neq 28 x y 28) (z u : Nat → Int) (hx : a.eval x = .agg (hv z)) (hy : a.eval y = .agg (hv u)) (hz : Zb z) (hu : Zb u)
  (h : wpList Tryz.prog ops Q rest (a.put o.dst (.bool (!hq z u))) w) : wpList Tryz.prog ops Q (o :: rest) a w :=
 wpList_wanted hw fun K hK => by
  have e0 := eql_hv hz hu w
  have e1 : (binOp .neq 28 (.agg (hv z)) (.agg (hv u))).run Tryz.prog w = .ok (.bool (!hq z u)) w := by
   simp only [binOp, Sem.run_bind] at e0 ⊢
   revert e0
   cases hh : Sem.run Tryz.prog (Op.equal 28 (.agg (hv z)) (.agg (hv u))) w with
   | ok b w2 =>
    simp [Result.andThen]
   | halt hx w2 => simp [Result.andThen]
  have hr : (execOp a.eval o).run Tryz.prog w = .ok (.value (.bool (!hq z u))) w := by
   unfold execOp
   simp only [ho, hx, hy, Sem.run_bind, run_eqGuard_agg w .neq 28 x y _ _ guardHs, e1, Result.andThen_ok, Sem.run_pure]
  unfold Oper.wp
  rw [hr]
  exact hK _ _ h
end
set_option maxRecDepth 100000 in
set_option maxHeartbeats 3200000 in
theorem payMay_any (x : Py) (w : World) (hz : Zb x.lk) :
  Calls Tryz.prog 22 #[.agg (pyv x)] w fun e w' => e = .returned (.bool (decide (PMay x))) ∧ Below w.heap.size w w' := by
 have HZ : Hid (Zb x.lk) := hz
 have hb0 : Below w.heap.size w (w.alloc (.cells (pyv x) 30)) := (Below.refl _ w).alloc (Nat.le_refl _) _
 obtain ⟨c0, c1, c2, c3, cl⟩ := pbox_of (heap_alloc_new w (.cells (pyv x) 30))
 have HC : Hid ((w.alloc (.cells (pyv x) 30)).rangeAt w.heap.size 4 (bl x.lk 32)) := cl
 have HB : Hid (Below w.heap.size w (w.alloc (.cells (pyv x) 30))) := hb0
 clear cl hz hb0
 by_cases h0 : 0 ≤ x.id ∧ x.id ≤ 4294967296
 ·have hw0 := rwithin_any x.id 0 4294967296
  rw [decide_eq_true h0] at hw0
  by_cases h1 : 0 ≤ x.fr ∧ x.fr ≤ 1
  ·have hw1 := rwithin_any x.fr 0 1
   rw [decide_eq_true h1] at hw1
   by_cases h2 : 10 ≤ x.am ∧ x.am ≤ 1125899906842624
   ·have hw2 := rwithin_any x.am 10 1125899906842624
    rw [decide_eq_true h2] at hw2
    by_cases h3 : 0 ≤ x.af ∧ x.af ≤ 1099511627776
    ·have hw3 := rwithin_any x.af 0 1099511627776
     rw [decide_eq_true h3] at hw3
     by_cases h4 : hq x.lk nz = false
     ·have HE : Hid (decide (PMay x) = true) := decide_eq_true ⟨h0.1, h0.2, by omega, h2, h3, h4⟩
      have h4' : hq x.lk nz = false := h4
      clear h0 h1 h2 h3 h4
      go_enter Tryz.func22, Tryz.ntmps22
      go_wp2_with (first | (refine Go.Great.wpList_boxTo rfl _ _ rfl _ rfl _ rfl (pyv x) rfl ?_) | fail)
      generalize w.alloc (.cells (pyv x) 30) = W0 at *
      refine (hw0 _).mono ?_
      rintro e v0 ⟨rfl, rfl⟩
      clear hw0
      go_wp2_with fail
      refine (hw1 _).mono ?_
      rintro e v1 ⟨rfl, rfl⟩
      clear hw1
      go_wp2_with fail
      refine (hw2 _).mono ?_
      rintro e v2 ⟨rfl, rfl⟩
      clear hw2
      go_wp2_with fail
      refine (hw3 _).mono ?_
      rintro e v3 ⟨rfl, rfl⟩
      clear hw3
      go_wp2_with (first | (refine wpList_loadHG (by rfl) _ rfl w.heap.size 4 rfl x.lk HC.out ?_) | (refine wpList_buildHG (by rfl) rfl ?_) | (refine wpList_neHG (by rfl) _ _ rfl x.lk nz rfl rfl HZ.out nz_bd ?_) | fail)
      go_ret
      exact ⟨by rw [HE.out]; rfl, HB.out⟩
     ·have HE : Hid (decide (PMay x) = false) := decide_eq_false (fun h => h4 h.2.2.2.2.2)
      have h4' : hq x.lk nz = true := by simpa using h4
      clear h0 h1 h2 h3 h4
      go_enter Tryz.func22, Tryz.ntmps22
      go_wp2_with (first | (refine Go.Great.wpList_boxTo rfl _ _ rfl _ rfl _ rfl (pyv x) rfl ?_) | fail)
      generalize w.alloc (.cells (pyv x) 30) = W0 at *
      refine (hw0 _).mono ?_
      rintro e v0 ⟨rfl, rfl⟩
      clear hw0
      go_wp2_with fail
      refine (hw1 _).mono ?_
      rintro e v1 ⟨rfl, rfl⟩
      clear hw1
      go_wp2_with fail
      refine (hw2 _).mono ?_
      rintro e v2 ⟨rfl, rfl⟩
      clear hw2
      go_wp2_with fail
      refine (hw3 _).mono ?_
      rintro e v3 ⟨rfl, rfl⟩
      clear hw3
      go_wp2_with (first | (refine wpList_loadHG (by rfl) _ rfl w.heap.size 4 rfl x.lk HC.out ?_) | (refine wpList_buildHG (by rfl) rfl ?_) | (refine wpList_neHG (by rfl) _ _ rfl x.lk nz rfl rfl HZ.out nz_bd ?_) | fail)
      go_ret
      exact ⟨by rw [HE.out]; rfl, HB.out⟩
    ·have hw3 := rwithin_any x.af 0 1099511627776
     rw [decide_eq_false h3] at hw3
     have HE : Hid (decide (PMay x) = false) := decide_eq_false (fun h => h3 h.2.2.2.2.1)
     clear h0 h1 h2 h3
     go_enter Tryz.func22, Tryz.ntmps22
     go_wp2_with (first | (refine Go.Great.wpList_boxTo rfl _ _ rfl _ rfl _ rfl (pyv x) rfl ?_) | fail)
     generalize w.alloc (.cells (pyv x) 30) = W0 at *
     refine (hw0 _).mono ?_
     rintro e v0 ⟨rfl, rfl⟩
     clear hw0
     go_wp2_with fail
     refine (hw1 _).mono ?_
     rintro e v1 ⟨rfl, rfl⟩
     clear hw1
     go_wp2_with fail
     refine (hw2 _).mono ?_
     rintro e v2 ⟨rfl, rfl⟩
     clear hw2
     go_wp2_with fail
     refine (hw3 _).mono ?_
     rintro e v3 ⟨rfl, rfl⟩
     clear hw3
     go_wp2
     go_ret
     exact ⟨by rw [HE.out]; rfl, HB.out⟩
   ·have hw2 := rwithin_any x.am 10 1125899906842624
    rw [decide_eq_false h2] at hw2
    have HE : Hid (decide (PMay x) = false) := decide_eq_false (fun h => h2 h.2.2.2.1)
    clear h0 h1 h2
    go_enter Tryz.func22, Tryz.ntmps22
    go_wp2_with (first | (refine Go.Great.wpList_boxTo rfl _ _ rfl _ rfl _ rfl (pyv x) rfl ?_) | fail)
    generalize w.alloc (.cells (pyv x) 30) = W0 at *
    refine (hw0 _).mono ?_
    rintro e v0 ⟨rfl, rfl⟩
    clear hw0
    go_wp2_with fail
    refine (hw1 _).mono ?_
    rintro e v1 ⟨rfl, rfl⟩
    clear hw1
    go_wp2_with fail
    refine (hw2 _).mono ?_
    rintro e v2 ⟨rfl, rfl⟩
    clear hw2
    go_wp2
    go_ret
    exact ⟨by rw [HE.out]; rfl, HB.out⟩
  ·have hw1 := rwithin_any x.fr 0 1
   rw [decide_eq_false h1] at hw1
   have HE : Hid (decide (PMay x) = false) := decide_eq_false (fun h => h1 (by have := h.2.2.1; omega))
   clear h0 h1
   go_enter Tryz.func22, Tryz.ntmps22
   go_wp2_with (first | (refine Go.Great.wpList_boxTo rfl _ _ rfl _ rfl _ rfl (pyv x) rfl ?_) | fail)
   generalize w.alloc (.cells (pyv x) 30) = W0 at *
   refine (hw0 _).mono ?_
   rintro e v0 ⟨rfl, rfl⟩
   clear hw0
   go_wp2_with fail
   refine (hw1 _).mono ?_
   rintro e v1 ⟨rfl, rfl⟩
   clear hw1
   go_wp2
   go_ret
   exact ⟨by rw [HE.out]; rfl, HB.out⟩
 ·have hw0 := rwithin_any x.id 0 4294967296
  rw [decide_eq_false h0] at hw0
  have HE : Hid (decide (PMay x) = false) := decide_eq_false (fun h => h0 ⟨h.1, h.2.1⟩)
  clear h0
  go_enter Tryz.func22, Tryz.ntmps22
  go_wp2_with (first | (refine Go.Great.wpList_boxTo rfl _ _ rfl _ rfl _ rfl (pyv x) rfl ?_) | fail)
  generalize w.alloc (.cells (pyv x) 30) = W0 at *
  refine (hw0 _).mono ?_
  rintro e v0 ⟨rfl, rfl⟩
  clear hw0
  go_wp2
  go_ret
  exact ⟨by rw [HE.out]; rfl, HB.out⟩
end Go.Proofs.YtoefgfiabfkfaaaGreatDoor
