/- blake.round, whole. -/
import Derived.Test.YtoefgfiabfkfaaaGreatDoorOwnShelf03
import Derived.Test.YtoefgfiabfkfaaaGreatDoorOwnShelf02
namespace Go.Proofs.YtoefgfiabfkfaaaGreatDoor
open Go.RowKit

theorem sv_size (s : List Nat) : (sv s).size = s.length := by simp [sv, sl8]
set_option maxRecDepth 20000 in
set_option maxHeartbeats 4000000 in
theorem round_any (pv pm : Nat) (v m s : List Nat) (t tm : TypeId) (fm : Nat × Nat) (w : World)
  (hv : w.heap[pv]? = some (.cells (wv v) t (0, 0))) (hm : w.heap[pm]? = some (.cells (wv m) tm fm)) (hpm : pm ≠ pv)
  (ov : Wd 16 v) (om : Wd 16 m) (ls : s.length = 16) (os : ∀ k, s.getD k 0 < 16) :
  Calls Tryz.prog 89 #[.pointer (some ⟨pv, 0, none⟩), .pointer (some ⟨pm, 0, none⟩), .agg (sv s)] w fun e w' => e = .returned (.tuple #[]) ∧ w'.heap[pv]? = some (.cells (wv (roundF m s v)) t (0, 0)) ∧ Frm [pv] w w' := by
 have hs0 : (w.alloc (.cells (sv s) 165)).heap[w.heap.size]? = some (.cells (sv s) 165 (0, 0)) := heap_alloc_new w _
 have hv0 : (w.alloc (.cells (sv s) 165)).heap[pv]? = some (.cells (wv v) t (0, 0)) := by rw [Below.heap_alloc _ _ _ (lt_of_block hv)]; exact hv
 have hm0 : (w.alloc (.cells (sv s) 165)).heap[pm]? = some (.cells (wv m) tm fm) := by rw [Below.heap_alloc _ _ _ (lt_of_block hm)]; exact hm
 have hG0 : Frm [pv] w (w.alloc (.cells (sv s) 165)) := (Frm.refl _ w).alloc _
 have hpv := lt_of_block hv
 have hsv : w.heap.size ≠ pv := by omega
 have o0 : Wd 16 v := ov
 go_enter Tryz.func89, Tryz.ntmps89
 go_wp2_with (first | (refine Go.Great.wpList_boxTo rfl _ _ rfl _ rfl _ rfl (sv s) rfl ?_) | fail)
 generalize w.alloc (.cells (sv s) 165) = w0 at *
 refine regionG (N := 374) 6 0 4 8 12 0 1 "blake.go:157" (by kernel_rfl) chk1 _ _ _ pv pm w.heap.size v m s _ _ _ _ _ ⟨rfl, rfl, rfl, rfl, rfl⟩ (by omega) (by omega) hv0 hm0 hs0 o0 om ls os (by omega) (by omega) (by omega) (by omega) (by omega) (by omega) ?_
 intro A1 w1 f1 hv1 hF1
 have hm1 : w1.heap[pm]? = some (.cells (wv m) tm fm) := hF1.heap hm0 (by simpa using hpm)
 have hs1 : w1.heap[w.heap.size]? = some (.cells (sv s) 165 (0, 0)) := hF1.heap hs0 (by simpa using hsv)
 have o1 : Wd 16 (gAt m s 0 4 8 12 0 1 v) := gAt_ok m s _ _ _ _ _ _ o0
 have hG1 := hG0.trans hF1
 clear hF1 hm0 hs0 hv0 hG0 o0
 go_wp2_with fail
 refine regionG (N := 374) 52 1 5 9 13 2 3 "blake.go:158" (by kernel_rfl) chk2 _ _ _ pv pm w.heap.size (gAt m s 0 4 8 12 0 1 v) m s _ _ _ _ _ f1 (by omega) (by omega) hv1 hm1 hs1 o1 om ls os (by omega) (by omega) (by omega) (by omega) (by omega) (by omega) ?_
 intro A2 w2 f2 hv2 hF2
 have hm2 : w2.heap[pm]? = some (.cells (wv m) tm fm) := hF2.heap hm1 (by simpa using hpm)
 have hs2 : w2.heap[w.heap.size]? = some (.cells (sv s) 165 (0, 0)) := hF2.heap hs1 (by simpa using hsv)
 have o2 : Wd 16 (gAt m s 1 5 9 13 2 3 (gAt m s 0 4 8 12 0 1 v)) := gAt_ok m s _ _ _ _ _ _ o1
 have hG2 := hG1.trans hF2
 clear hF2 hm1 hs1 hv1 hG1 o1 f1
 go_wp2_with fail
 refine regionG (N := 374) 98 2 6 10 14 4 5 "blake.go:159" (by kernel_rfl) chk3 _ _ _ pv pm w.heap.size (gAt m s 1 5 9 13 2 3 (gAt m s 0 4 8 12 0 1 v)) m s _ _ _ _ _ f2 (by omega) (by omega) hv2 hm2 hs2 o2 om ls os (by omega) (by omega) (by omega) (by omega) (by omega) (by omega) ?_
 intro A3 w3 f3 hv3 hF3
 have hm3 : w3.heap[pm]? = some (.cells (wv m) tm fm) := hF3.heap hm2 (by simpa using hpm)
 have hs3 : w3.heap[w.heap.size]? = some (.cells (sv s) 165 (0, 0)) := hF3.heap hs2 (by simpa using hsv)
 have o3 : Wd 16 (gAt m s 2 6 10 14 4 5 (gAt m s 1 5 9 13 2 3 (gAt m s 0 4 8 12 0 1 v))) := gAt_ok m s _ _ _ _ _ _ o2
 have hG3 := hG2.trans hF3
 clear hF3 hm2 hs2 hv2 hG2 o2 f2
 go_wp2_with fail
 refine regionG (N := 374) 144 3 7 11 15 6 7 "blake.go:160" (by kernel_rfl) chk4 _ _ _ pv pm w.heap.size (gAt m s 2 6 10 14 4 5 (gAt m s 1 5 9 13 2 3 (gAt m s 0 4 8 12 0 1 v))) m s _ _ _ _ _ f3 (by omega) (by omega) hv3 hm3 hs3 o3 om ls os (by omega) (by omega) (by omega) (by omega) (by omega) (by omega) ?_
 intro A4 w4 f4 hv4 hF4
 have hm4 : w4.heap[pm]? = some (.cells (wv m) tm fm) := hF4.heap hm3 (by simpa using hpm)
 have hs4 : w4.heap[w.heap.size]? = some (.cells (sv s) 165 (0, 0)) := hF4.heap hs3 (by simpa using hsv)
 have o4 : Wd 16 (gAt m s 3 7 11 15 6 7 (gAt m s 2 6 10 14 4 5 (gAt m s 1 5 9 13 2 3 (gAt m s 0 4 8 12 0 1 v)))) := gAt_ok m s _ _ _ _ _ _ o3
 have hG4 := hG3.trans hF4
 clear hF4 hm3 hs3 hv3 hG3 o3 f3
 go_wp2_with fail
 refine regionG (N := 374) 190 0 5 10 15 8 9 "blake.go:161" (by kernel_rfl) chk5 _ _ _ pv pm w.heap.size (gAt m s 3 7 11 15 6 7 (gAt m s 2 6 10 14 4 5 (gAt m s 1 5 9 13 2 3 (gAt m s 0 4 8 12 0 1 v)))) m s _ _ _ _ _ f4 (by omega) (by omega) hv4 hm4 hs4 o4 om ls os (by omega) (by omega) (by omega) (by omega) (by omega) (by omega) ?_
 intro A5 w5 f5 hv5 hF5
 have hm5 : w5.heap[pm]? = some (.cells (wv m) tm fm) := hF5.heap hm4 (by simpa using hpm)
 have hs5 : w5.heap[w.heap.size]? = some (.cells (sv s) 165 (0, 0)) := hF5.heap hs4 (by simpa using hsv)
 have o5 : Wd 16 (gAt m s 0 5 10 15 8 9 (gAt m s 3 7 11 15 6 7 (gAt m s 2 6 10 14 4 5 (gAt m s 1 5 9 13 2 3 (gAt m s 0 4 8 12 0 1 v))))) := gAt_ok m s _ _ _ _ _ _ o4
 have hG5 := hG4.trans hF5
 clear hF5 hm4 hs4 hv4 hG4 o4 f4
 go_wp2_with fail
 refine regionG (N := 374) 236 1 6 11 12 10 11 "blake.go:162" (by kernel_rfl) chk6 _ _ _ pv pm w.heap.size (gAt m s 0 5 10 15 8 9 (gAt m s 3 7 11 15 6 7 (gAt m s 2 6 10 14 4 5 (gAt m s 1 5 9 13 2 3 (gAt m s 0 4 8 12 0 1 v))))) m s _ _ _ _ _ f5 (by omega) (by omega) hv5 hm5 hs5 o5 om ls os (by omega) (by omega) (by omega) (by omega) (by omega) (by omega) ?_
 intro A6 w6 f6 hv6 hF6
 have hm6 : w6.heap[pm]? = some (.cells (wv m) tm fm) := hF6.heap hm5 (by simpa using hpm)
 have hs6 : w6.heap[w.heap.size]? = some (.cells (sv s) 165 (0, 0)) := hF6.heap hs5 (by simpa using hsv)
 have o6 : Wd 16 (gAt m s 1 6 11 12 10 11 (gAt m s 0 5 10 15 8 9 (gAt m s 3 7 11 15 6 7 (gAt m s 2 6 10 14 4 5 (gAt m s 1 5 9 13 2 3 (gAt m s 0 4 8 12 0 1 v)))))) := gAt_ok m s _ _ _ _ _ _ o5
 have hG6 := hG5.trans hF6
 clear hF6 hm5 hs5 hv5 hG5 o5 f5
 go_wp2_with fail
 refine regionG (N := 374) 282 2 7 8 13 12 13 "blake.go:163" (by kernel_rfl) chk7 _ _ _ pv pm w.heap.size (gAt m s 1 6 11 12 10 11 (gAt m s 0 5 10 15 8 9 (gAt m s 3 7 11 15 6 7 (gAt m s 2 6 10 14 4 5 (gAt m s 1 5 9 13 2 3 (gAt m s 0 4 8 12 0 1 v)))))) m s _ _ _ _ _ f6 (by omega) (by omega) hv6 hm6 hs6 o6 om ls os (by omega) (by omega) (by omega) (by omega) (by omega) (by omega) ?_
 intro A7 w7 f7 hv7 hF7
 have hm7 : w7.heap[pm]? = some (.cells (wv m) tm fm) := hF7.heap hm6 (by simpa using hpm)
 have hs7 : w7.heap[w.heap.size]? = some (.cells (sv s) 165 (0, 0)) := hF7.heap hs6 (by simpa using hsv)
 have o7 : Wd 16 (gAt m s 2 7 8 13 12 13 (gAt m s 1 6 11 12 10 11 (gAt m s 0 5 10 15 8 9 (gAt m s 3 7 11 15 6 7 (gAt m s 2 6 10 14 4 5 (gAt m s 1 5 9 13 2 3 (gAt m s 0 4 8 12 0 1 v))))))) := gAt_ok m s _ _ _ _ _ _ o6
 have hG7 := hG6.trans hF7
 clear hF7 hm6 hs6 hv6 hG6 o6 f6
 go_wp2_with fail
 refine regionG (N := 374) 328 3 4 9 14 14 15 "blake.go:164" (by kernel_rfl) chk8 _ _ _ pv pm w.heap.size (gAt m s 2 7 8 13 12 13 (gAt m s 1 6 11 12 10 11 (gAt m s 0 5 10 15 8 9 (gAt m s 3 7 11 15 6 7 (gAt m s 2 6 10 14 4 5 (gAt m s 1 5 9 13 2 3 (gAt m s 0 4 8 12 0 1 v))))))) m s _ _ _ _ _ f7 (by omega) (by omega) hv7 hm7 hs7 o7 om ls os (by omega) (by omega) (by omega) (by omega) (by omega) (by omega) ?_
 intro A8 w8 f8 hv8 hF8
 have hm8 : w8.heap[pm]? = some (.cells (wv m) tm fm) := hF8.heap hm7 (by simpa using hpm)
 have hs8 : w8.heap[w.heap.size]? = some (.cells (sv s) 165 (0, 0)) := hF8.heap hs7 (by simpa using hsv)
 have o8 : Wd 16 (gAt m s 3 4 9 14 14 15 (gAt m s 2 7 8 13 12 13 (gAt m s 1 6 11 12 10 11 (gAt m s 0 5 10 15 8 9 (gAt m s 3 7 11 15 6 7 (gAt m s 2 6 10 14 4 5 (gAt m s 1 5 9 13 2 3 (gAt m s 0 4 8 12 0 1 v)))))))) := gAt_ok m s _ _ _ _ _ _ o7
 have hG8 := hG7.trans hF8
 clear hF8 hm7 hs7 hv7 hG7 o7 f7
 exact bodyPost_end (v := .tuple #[]) (by simp [results, Tryz.results89, go_sem]) f8.none ⟨rfl, hv8, hG8⟩
end Go.Proofs.YtoefgfiabfkfaaaGreatDoor
/- blake.wordsOf: a block's words. -/
namespace Go.Proofs.YtoefgfiabfkfaaaGreatDoor
open Go.RowKit

theorem sz64 : (Tryz.prog.info? 138).map (·.size) = some 64 := by kernel_rfl
theorem sz16 : (Tryz.prog.info? 161).map (·.size) = some 16 := by kernel_rfl
theorem run_alloc16 (w : World) : (Instr.alloc 161 true (.tuple #[])).run Tryz.prog w = .ok (.pointer (some ⟨w.heap.size, 0, none⟩)) (w.alloc (.cells (wv z16) 161)) := by kernel_rfl
section
variable {ops : Array Oper} {rest : List Oper} {o : Oper} {a : Act} {w : World} {Q : Exit → Act → World → Prop}
theorem wpList_alloc16 (hgd : o.guard = none) (ho : o.op = .alloc 161)
  (h : wpList Tryz.prog ops Q rest (a.put o.dst (.pointer (some ⟨w.heap.size, 0, none⟩))) (w.alloc (.cells (wv z16) 161))) : wpList Tryz.prog ops Q (o :: rest) a w := by
 refine wpList_plain hgd fun K hK => ?_
 unfold Oper.wp execOp
 simp only [ho, Sem.run_bind, run_alloc16, Result.andThen]
 exact hK _ _ h
theorem wpList_load16 (hgd : o.guard = none) (x : Operand) (ho : o.op = .load 161 x) (g : Nat) (hx : a.eval x = .pointer (some ⟨g, 0, none⟩)) (v : List Nat) (hl : v.length = 16) (t : TypeId) (fr : Nat × Nat) (hg : w.heap[g]? = some (.cells (wv v) t fr))
  (h : wpList Tryz.prog ops Q rest (a.put o.dst (.agg (wv v))) w) : wpList Tryz.prog ops Q (o :: rest) a w :=
 wpList_load_row hgd 161 x ho g hx t (wv v) fr _ hg Tryz.underlying161 rfl (by rw [wv_size, hl]; exact sz16) h
/-- A whole row of words stored into a variable of its own. -/
theorem wpList_store16 (hgd : o.guard = none) (x y : Operand) (ho : o.op = .store 161 x y) (g : Nat) (hx : a.eval x = .pointer (some ⟨g, 0, none⟩)) (v u : List Nat) (hl : v.length = 16) (hu : u.length = 16) (t : TypeId) (hy : a.eval y = .agg (wv v)) (hg : w.heap[g]? = some (.cells (wv u) t (0, 0)))
  (h : ∀ w', w'.heap[g]? = some (.cells (wv v) t (0, 0)) → Frm [g] w w' → wpList Tryz.prog ops Q rest (a.put o.dst undef) w') : wpList Tryz.prog ops Q (o :: rest) a w := by
 refine wpList_store_mid hgd 161 x y ho g 0 (wv v) hx hy ?_ (by rw [wv_size, hl]; exact sz16) (wv_one v) (h _ ?_ (setCells_frm g _ 0 w))
 ·intro j hj
  rw [wv_size, hl] at hj
  refine ⟨?_, ?_⟩
  ·rw [Nat.zero_add, cell_of_row w g j _ t _ hg]
   simp [wv_size, hu, hj]
  ·rw [Nat.zero_add]; exact frozen_of_row w g j _ t hg
 ·have := setCells_at g (wv v).toList 0 w [] (wv u).toList t (by simpa using hg) rfl (by simp [wv_size, hl, hu])
  rw [this]
  simp [wv_size, hl, hu, List.drop_eq_nil_of_le]
end
section
variable {ops : Array Oper} {rest : List Oper} {o : Oper} {a : Act} {w : World} {Q : Exit → Act → World → Prop}
theorem wpList_load64 (hgd : o.guard = none) (x : Operand) (ho : o.op = .load 138 x) (g : Nat) (hx : a.eval x = .pointer (some ⟨g, 0, none⟩)) (b : List Nat) (hl : b.length = 64) (t : TypeId) (fr : Nat × Nat) (hg : w.heap[g]? = some (.cells (sv b) t fr))
  (h : wpList Tryz.prog ops Q rest (a.put o.dst (.agg (sv b))) w) : wpList Tryz.prog ops Q (o :: rest) a w :=
 wpList_load_row hgd 138 x ho g hx t (sv b) fr _ hg Tryz.underlying138 rfl (by rw [sv_size, hl]; exact sz64) h
end
theorem run_idx {P : Program} {t e : TypeId} {n i : Nat} {cs : Array Value} {u : Value} {k : IntKind} (hu : P.underlying t = some (.array n e)) (hz : ∀ w, (sizeOf e).run P w = .ok 1 w) (ha : ∀ w, (isAgg e).run P w = .ok false w) (hi : i < n) (hc : cs[i]? = some u) (w : World) :
  (Instr.index t (.agg cs) (.int k (i : Int))).run P w = .ok u w := by
 simp [Instr.index, run_underlying hu, asIntOf, part, hz, ha, hi, hc]
theorem ag8 (w : World) : (isAgg 5).run Tryz.prog w = .ok false w := by kernel_rfl
theorem ag32 (w : World) : (isAgg 120).run Tryz.prog w = .ok false w := by kernel_rfl
theorem or_W (a b : Nat) (ha : a < 4294967296) (hb : b < 4294967296) : bits .or .u32 (a : Int) (b : Int) = ((a ||| b : Nat) : Int) := by
 have := u32_or (a : Int) b (by omega) (by omega) (by omega) (by omega)
 simpa using this

set_option maxRecDepth 20000 in
set_option maxHeartbeats 4000000 in
theorem wordsOf_any (b : List Nat) (w : World) (hb : By 64 b) :
  Calls Tryz.prog 88 #[.agg (sv b)] w fun e w' => e = .returned (.agg (wv (mP b 64))) ∧ Below w.heap.size w w' := by
 have hn0 : (((w.alloc (.cells (sv b) 138)).alloc (.cells (wv z16) 161)).alloc (.cells (wv z16) 161)).heap[w.heap.size]? = some (.cells (sv b) 138 (0, 0)) := by
  rw [Below.heap_alloc _ _ _ (by simp; omega), Below.heap_alloc _ _ _ (by simp)]; exact heap_alloc_new w _
 have hn1 : (((w.alloc (.cells (sv b) 138)).alloc (.cells (wv z16) 161)).alloc (.cells (wv z16) 161)).heap[w.heap.size + 1]? = some (.cells (wv z16) 161 (0, 0)) := by
  rw [Below.heap_alloc _ _ _ (by simp)]
  have := heap_alloc_new (w.alloc (.cells (sv b) 138)) (.cells (wv z16) 161)
  simpa using this
 have hn2 : (((w.alloc (.cells (sv b) 138)).alloc (.cells (wv z16) 161)).alloc (.cells (wv z16) 161)).heap[w.heap.size + 1 + 1]? = some (.cells (wv z16) 161 (0, 0)) := by
  have := heap_alloc_new ((w.alloc (.cells (sv b) 138)).alloc (.cells (wv z16) 161)) (.cells (wv z16) 161)
  simpa using this
 have hb0 : Below w.heap.size w (((w.alloc (.cells (sv b) 138)).alloc (.cells (wv z16) 161)).alloc (.cells (wv z16) 161)) := (((Below.refl _ w).alloc (Nat.le_refl _) _).alloc (by simp) _).alloc (by simp; omega) _
 go_enter Tryz.func88, Tryz.ntmps88
 go_wp2_with (first | (refine Go.Great.wpList_boxTo rfl _ _ rfl _ rfl _ rfl (sv b) rfl ?_) | (refine wpList_alloc16 rfl rfl ?_) | (refine wpList_load64 rfl _ rfl w.heap.size rfl b hb.1 _ _ hn0 ?_) | fail)
 generalize (((w.alloc (.cells (sv b) 138)).alloc (.cells (wv z16) 161)).alloc (.cells (wv z16) 161)) = W0 at *
 go_loopw [7] (fun i (w' : World) => ∃ k : Nat, k ≤ 64 ∧ i = .int .i64 k ∧ w'.heap[w.heap.size + 1 + 1]? = some (.cells (wv (mP b k)) 161 (0, 0)) ∧ Frm [w.heap.size + 1 + 1] W0 w') (fun i _ => 64 - (intOf i).toNat)
 case atStart => exact ⟨0, by omega, rfl, hn2, Frm.refl _ _⟩
 case round =>
  obtain ⟨k, hk, rfl, hm, hF⟩ := hrel
  by_cases hlt : k < 64
  ·have hk' : (k : Int) < 64 := by omega
   obtain ⟨x, hx⟩ : ∃ x, x = b.getD k 0 := ⟨_, rfl⟩
   obtain ⟨y, hy⟩ : ∃ y, y = (mP b k).getD (k / 4) 0 := ⟨_, rfl⟩
   have hxl : x < 256 := by rw [hx]; exact hb.2 k
   have hxi : (x : Int) ≤ 255 := by omega
   have hyl : y < 4294967296 := by rw [hy]; exact (mP_ok hb.2 k).2 _
   have hix : (sv b)[k]? = some (.int .u8 (x : Nat)) := by rw [hx]; exact sv_at (by rw [hb.1]; exact hlt)
   have hrun : ∀ wx, (Instr.index 138 (.agg (sv b)) (.int .i64 (k : Int))).run Tryz.prog wx = .ok (.int .u8 (x : Nat)) wx := fun wx => run_idx Tryz.underlying138 hsz1 ag8 hlt hix wx
   obtain ⟨q, hq⟩ : ∃ q, q = k / 4 := ⟨_, rfl⟩
   have hq4 : (q : Int) < 16 := by omega
   have hqi : (k : Int) / 4 = q := by omega
   have hc : wr.drew.cell? ⟨w.heap.size + 1 + 1, q, none⟩ = some (.int .u32 (y : Nat)) := by
    rw [cell_of_row wr.drew _ q _ _ _ hm, hy, ← hq]; exact wv_at (by rw [(mP_ok hb.2 k).1]; omega)
   have hf : wr.drew.frozen? ⟨w.heap.size + 1 + 1, q, none⟩ = false := frozen_of_row wr.drew _ q _ _ hm
   have HN : Hid (∀ z : Nat, z = y ||| (x <<< (8 * (k % 4))) → (wr.drew.setCell ⟨w.heap.size + 1 + 1, q, none⟩ (.int .u32 (z : Nat))).heap[w.heap.size + 1 + 1]? = some (.cells (wv (mP b (k + 1))) 161 (0, 0)) ∧ Frm [w.heap.size + 1 + 1] W0 (wr.drew.setCell ⟨w.heap.size + 1 + 1, q, none⟩ (.int .u32 (z : Nat)))) := by
    intro z hz
    refine ⟨?_, hF.drew.setCell _ _ (by simp)⟩
    have := wv_set (w := wr.drew) hm q z
    rw [this, mP, ← hq, hz, hy, hx, ← hq]
   clear hix hm hF
   have hrc : k % 4 = 0 ∨ k % 4 = 1 ∨ k % 4 = 2 ∨ k % 4 = 3 := by omega
   rcases hrc with hr | hr | hr | hr
   ·have e3 : (k : Int).tmod 4 = 0 := by rw [Int.tmod_eq_emod_of_nonneg (by omega)]; omega
    have e4 : IntKind.i64.wrap 0 = 0 := by kernel_rfl
    have e1 : IntKind.i64.wrap (q : Int) = q := by rw [IntKind.wrap_i64]; omega
    have e2 : IntKind.u32.wrap (x : Int) = x := by rw [IntKind.wrap_u32]; omega
    obtain ⟨z, hz⟩ : ∃ z, z = y ||| (x <<< (8 * (k % 4))) := ⟨_, rfl⟩
    have hor : bits .or .u32 (y : Int) (x : Int) = (z : Nat) := by
     have hs : (x : Int) = ((x <<< (8 * 0) : Nat) : Int) := by rw [Nat.shiftLeft_eq]; omega
     rw [hs, hz, hr]; exact or_W y _ hyl (shl_lt hxl (by omega))
    have HZ : Hid _ := HN.out z hz
    clear HN hr hx hy hq hz
    go_wp2_with fail
    refine region_seq (c := 12) (f := 60) (ts := [(0, 0), (0, 1), (0, 2), (1, 3), (0, 4), (0, 5), (0, 6), (0, 7), (0, 8), (0, 9), (0, 10), (0, 11), (2, 12)]) (by kernel_rfl) (by kernel_rfl) ?_
    refine seq_W (o := ⟨some 11, .move (.tmp 4), 3, _, _, none⟩) (v := ?_) rfl rfl (fun wz => ?_) ?_
    rotate_left
    ·go_simp; (try with_reducible rfl)
    try simp only [Act.put, sqA, sqB, sqC]
    refine seq_W (o := ⟨some 12, .binOp .quo 3 (.tmp 11) (.const (.int .i64 4)) 3, 3, _, _, none⟩) (v := ?_) rfl rfl (fun wz => ?_) ?_
    rotate_left
    ·go_simp; (try with_reducible rfl)
    try simp only [Act.put, sqA, sqB, sqC]
    refine seq_W (o := ⟨some 13, .indexAddr 161 (.tmp 3) (.tmp 12), 0, _, _, none⟩) (v := ?_) rfl rfl (fun wz => ?_) ?_
    rotate_left
    ·go_simp; (try with_reducible rfl)
    try simp only [Act.put, sqA, sqB, sqC]
    refine seq_R (o := ⟨some 14, .load 120 (.tmp 13), 120, _, _, none⟩) (v := ?_) rfl rfl ?_ ?_
    rotate_left
    ·go_simp; (try with_reducible rfl)
    try simp only [Act.put, sqA, sqB, sqC]
    refine seq_W (o := ⟨some 15, .move (.tmp 5), 5, _, _, none⟩) (v := ?_) rfl rfl (fun wz => ?_) ?_
    rotate_left
    ·go_simp; (try with_reducible rfl)
    try simp only [Act.put, sqA, sqB, sqC]
    refine seq_W (o := ⟨some 16, .convert 5 120 (.tmp 15), 120, _, _, none⟩) (v := ?_) rfl rfl (fun wz => ?_) ?_
    rotate_left
    ·go_simp; (try with_reducible rfl)
    try simp only [Act.put, sqA, sqB, sqC]
    refine seq_W (o := ⟨some 17, .move (.tmp 4), 3, _, _, none⟩) (v := ?_) rfl rfl (fun wz => ?_) ?_
    rotate_left
    ·go_simp; (try with_reducible rfl)
    try simp only [Act.put, sqA, sqB, sqC]
    refine seq_W (o := ⟨some 18, .binOp .rem 3 (.tmp 17) (.const (.int .i64 4)) 3, 3, _, _, none⟩) (v := ?_) rfl rfl (fun wz => ?_) ?_
    rotate_left
    ·go_simp; (try with_reducible rfl)
    try simp only [Act.put, sqA, sqB, sqC]
    refine seq_W (o := ⟨some 19, .binOp .mul 3 (.const (.int .i64 8)) (.tmp 18) 3, 3, _, _, none⟩) (v := ?_) rfl rfl (fun wz => ?_) ?_
    rotate_left
    ·go_simp; (try with_reducible rfl)
    try simp only [Act.put, sqA, sqB, sqC]
    refine seq_W (o := ⟨some 20, .binOp .shl 120 (.tmp 16) (.tmp 19) 3, 120, _, _, none⟩) (v := ?_) rfl rfl (fun wz => ?_) ?_
    rotate_left
    ·go_simp; (try with_reducible rfl)
    try simp only [Act.put, sqA, sqB, sqC]
    refine seq_W (o := ⟨some 21, .binOp .or 120 (.tmp 14) (.tmp 20) 120, 120, _, _, none⟩) (v := ?_) rfl rfl (fun wz => ?_) ?_
    rotate_left
    ·go_simp; (try with_reducible rfl)
    try simp only [Act.put, sqA, sqB, sqC]
    refine seq_W (o := ⟨some 22, .indexAddr 161 (.tmp 3) (.tmp 12), 0, _, _, none⟩) (v := ?_) rfl rfl (fun wz => ?_) ?_
    rotate_left
    ·go_simp; (try with_reducible rfl)
    try simp only [Act.put, sqA, sqB, sqC]
    refine seq_A (o := ⟨none, .store 120 (.tmp 22) (.tmp 21), 0, _, _, none⟩) rfl rfl (fun K hK => ?_)
    go_simp
    refine hK _ _ ?_
    clear hK K
    try simp only [Act.put, sqA, sqB, sqC]
    refine seq_nil (NoPanic.normal ?_)
    try simp only [Act.put, sqA, sqB, sqC]
    go_wp2
    go_roundw
    case rel => exact ⟨k + 1, by omega, by go_num, HZ.out.1, HZ.out.2⟩
    case measure => simp [intOf]; omega
   ·have e3 : (k : Int).tmod 4 = 1 := by rw [Int.tmod_eq_emod_of_nonneg (by omega)]; omega
    have e4 : IntKind.i64.wrap 8 = 8 := by kernel_rfl
    have e1 : IntKind.i64.wrap (q : Int) = q := by rw [IntKind.wrap_i64]; omega
    have e2 : IntKind.u32.wrap (x : Int) = x := by rw [IntKind.wrap_u32]; omega
    obtain ⟨z, hz⟩ : ∃ z, z = y ||| (x <<< (8 * (k % 4))) := ⟨_, rfl⟩
    have hor : bits .or .u32 (y : Int) (IntKind.u32.wrap ((x : Int) * 256)) = (z : Nat) := by
     have hs : (IntKind.u32.wrap ((x : Int) * 256)) = ((x <<< (8 * 1) : Nat) : Int) := by rw [IntKind.wrap_u32, Nat.shiftLeft_eq]; omega
     rw [hs, hz, hr]; exact or_W y _ hyl (shl_lt hxl (by omega))
    have HZ : Hid _ := HN.out z hz
    clear HN hr hx hy hq hz
    go_wp2_with fail
    refine region_seq (c := 12) (f := 60) (ts := [(0, 0), (0, 1), (0, 2), (1, 3), (0, 4), (0, 5), (0, 6), (0, 7), (0, 8), (0, 9), (0, 10), (0, 11), (2, 12)]) (by kernel_rfl) (by kernel_rfl) ?_
    refine seq_W (o := ⟨some 11, .move (.tmp 4), 3, _, _, none⟩) (v := ?_) rfl rfl (fun wz => ?_) ?_
    rotate_left
    ·go_simp; (try with_reducible rfl)
    try simp only [Act.put, sqA, sqB, sqC]
    refine seq_W (o := ⟨some 12, .binOp .quo 3 (.tmp 11) (.const (.int .i64 4)) 3, 3, _, _, none⟩) (v := ?_) rfl rfl (fun wz => ?_) ?_
    rotate_left
    ·go_simp; (try with_reducible rfl)
    try simp only [Act.put, sqA, sqB, sqC]
    refine seq_W (o := ⟨some 13, .indexAddr 161 (.tmp 3) (.tmp 12), 0, _, _, none⟩) (v := ?_) rfl rfl (fun wz => ?_) ?_
    rotate_left
    ·go_simp; (try with_reducible rfl)
    try simp only [Act.put, sqA, sqB, sqC]
    refine seq_R (o := ⟨some 14, .load 120 (.tmp 13), 120, _, _, none⟩) (v := ?_) rfl rfl ?_ ?_
    rotate_left
    ·go_simp; (try with_reducible rfl)
    try simp only [Act.put, sqA, sqB, sqC]
    refine seq_W (o := ⟨some 15, .move (.tmp 5), 5, _, _, none⟩) (v := ?_) rfl rfl (fun wz => ?_) ?_
    rotate_left
    ·go_simp; (try with_reducible rfl)
    try simp only [Act.put, sqA, sqB, sqC]
    refine seq_W (o := ⟨some 16, .convert 5 120 (.tmp 15), 120, _, _, none⟩) (v := ?_) rfl rfl (fun wz => ?_) ?_
    rotate_left
    ·go_simp; (try with_reducible rfl)
    try simp only [Act.put, sqA, sqB, sqC]
    refine seq_W (o := ⟨some 17, .move (.tmp 4), 3, _, _, none⟩) (v := ?_) rfl rfl (fun wz => ?_) ?_
    rotate_left
    ·go_simp; (try with_reducible rfl)
    try simp only [Act.put, sqA, sqB, sqC]
    refine seq_W (o := ⟨some 18, .binOp .rem 3 (.tmp 17) (.const (.int .i64 4)) 3, 3, _, _, none⟩) (v := ?_) rfl rfl (fun wz => ?_) ?_
    rotate_left
    ·go_simp; (try with_reducible rfl)
    try simp only [Act.put, sqA, sqB, sqC]
    refine seq_W (o := ⟨some 19, .binOp .mul 3 (.const (.int .i64 8)) (.tmp 18) 3, 3, _, _, none⟩) (v := ?_) rfl rfl (fun wz => ?_) ?_
    rotate_left
    ·go_simp; (try with_reducible rfl)
    try simp only [Act.put, sqA, sqB, sqC]
    refine seq_W (o := ⟨some 20, .binOp .shl 120 (.tmp 16) (.tmp 19) 3, 120, _, _, none⟩) (v := ?_) rfl rfl (fun wz => ?_) ?_
    rotate_left
    ·go_simp; (try with_reducible rfl)
    try simp only [Act.put, sqA, sqB, sqC]
    refine seq_W (o := ⟨some 21, .binOp .or 120 (.tmp 14) (.tmp 20) 120, 120, _, _, none⟩) (v := ?_) rfl rfl (fun wz => ?_) ?_
    rotate_left
    ·go_simp; (try with_reducible rfl)
    try simp only [Act.put, sqA, sqB, sqC]
    refine seq_W (o := ⟨some 22, .indexAddr 161 (.tmp 3) (.tmp 12), 0, _, _, none⟩) (v := ?_) rfl rfl (fun wz => ?_) ?_
    rotate_left
    ·go_simp; (try with_reducible rfl)
    try simp only [Act.put, sqA, sqB, sqC]
    refine seq_A (o := ⟨none, .store 120 (.tmp 22) (.tmp 21), 0, _, _, none⟩) rfl rfl (fun K hK => ?_)
    go_simp
    refine hK _ _ ?_
    clear hK K
    try simp only [Act.put, sqA, sqB, sqC]
    refine seq_nil (NoPanic.normal ?_)
    try simp only [Act.put, sqA, sqB, sqC]
    go_wp2
    go_roundw
    case rel => exact ⟨k + 1, by omega, by go_num, HZ.out.1, HZ.out.2⟩
    case measure => simp [intOf]; omega
   ·have e3 : (k : Int).tmod 4 = 2 := by rw [Int.tmod_eq_emod_of_nonneg (by omega)]; omega
    have e4 : IntKind.i64.wrap 16 = 16 := by kernel_rfl
    have e1 : IntKind.i64.wrap (q : Int) = q := by rw [IntKind.wrap_i64]; omega
    have e2 : IntKind.u32.wrap (x : Int) = x := by rw [IntKind.wrap_u32]; omega
    obtain ⟨z, hz⟩ : ∃ z, z = y ||| (x <<< (8 * (k % 4))) := ⟨_, rfl⟩
    have hor : bits .or .u32 (y : Int) (IntKind.u32.wrap ((x : Int) * 65536)) = (z : Nat) := by
     have hs : (IntKind.u32.wrap ((x : Int) * 65536)) = ((x <<< (8 * 2) : Nat) : Int) := by rw [IntKind.wrap_u32, Nat.shiftLeft_eq]; omega
     rw [hs, hz, hr]; exact or_W y _ hyl (shl_lt hxl (by omega))
    have HZ : Hid _ := HN.out z hz
    clear HN hr hx hy hq hz
    go_wp2_with fail
    refine region_seq (c := 12) (f := 60) (ts := [(0, 0), (0, 1), (0, 2), (1, 3), (0, 4), (0, 5), (0, 6), (0, 7), (0, 8), (0, 9), (0, 10), (0, 11), (2, 12)]) (by kernel_rfl) (by kernel_rfl) ?_
    refine seq_W (o := ⟨some 11, .move (.tmp 4), 3, _, _, none⟩) (v := ?_) rfl rfl (fun wz => ?_) ?_
    rotate_left
    ·go_simp; (try with_reducible rfl)
    try simp only [Act.put, sqA, sqB, sqC]
    refine seq_W (o := ⟨some 12, .binOp .quo 3 (.tmp 11) (.const (.int .i64 4)) 3, 3, _, _, none⟩) (v := ?_) rfl rfl (fun wz => ?_) ?_
    rotate_left
    ·go_simp; (try with_reducible rfl)
    try simp only [Act.put, sqA, sqB, sqC]
    refine seq_W (o := ⟨some 13, .indexAddr 161 (.tmp 3) (.tmp 12), 0, _, _, none⟩) (v := ?_) rfl rfl (fun wz => ?_) ?_
    rotate_left
    ·go_simp; (try with_reducible rfl)
    try simp only [Act.put, sqA, sqB, sqC]
    refine seq_R (o := ⟨some 14, .load 120 (.tmp 13), 120, _, _, none⟩) (v := ?_) rfl rfl ?_ ?_
    rotate_left
    ·go_simp; (try with_reducible rfl)
    try simp only [Act.put, sqA, sqB, sqC]
    refine seq_W (o := ⟨some 15, .move (.tmp 5), 5, _, _, none⟩) (v := ?_) rfl rfl (fun wz => ?_) ?_
    rotate_left
    ·go_simp; (try with_reducible rfl)
    try simp only [Act.put, sqA, sqB, sqC]
    refine seq_W (o := ⟨some 16, .convert 5 120 (.tmp 15), 120, _, _, none⟩) (v := ?_) rfl rfl (fun wz => ?_) ?_
    rotate_left
    ·go_simp; (try with_reducible rfl)
    try simp only [Act.put, sqA, sqB, sqC]
    refine seq_W (o := ⟨some 17, .move (.tmp 4), 3, _, _, none⟩) (v := ?_) rfl rfl (fun wz => ?_) ?_
    rotate_left
    ·go_simp; (try with_reducible rfl)
    try simp only [Act.put, sqA, sqB, sqC]
    refine seq_W (o := ⟨some 18, .binOp .rem 3 (.tmp 17) (.const (.int .i64 4)) 3, 3, _, _, none⟩) (v := ?_) rfl rfl (fun wz => ?_) ?_
    rotate_left
    ·go_simp; (try with_reducible rfl)
    try simp only [Act.put, sqA, sqB, sqC]
    refine seq_W (o := ⟨some 19, .binOp .mul 3 (.const (.int .i64 8)) (.tmp 18) 3, 3, _, _, none⟩) (v := ?_) rfl rfl (fun wz => ?_) ?_
    rotate_left
    ·go_simp; (try with_reducible rfl)
    try simp only [Act.put, sqA, sqB, sqC]
    refine seq_W (o := ⟨some 20, .binOp .shl 120 (.tmp 16) (.tmp 19) 3, 120, _, _, none⟩) (v := ?_) rfl rfl (fun wz => ?_) ?_
    rotate_left
    ·go_simp; (try with_reducible rfl)
    try simp only [Act.put, sqA, sqB, sqC]
    refine seq_W (o := ⟨some 21, .binOp .or 120 (.tmp 14) (.tmp 20) 120, 120, _, _, none⟩) (v := ?_) rfl rfl (fun wz => ?_) ?_
    rotate_left
    ·go_simp; (try with_reducible rfl)
    try simp only [Act.put, sqA, sqB, sqC]
    refine seq_W (o := ⟨some 22, .indexAddr 161 (.tmp 3) (.tmp 12), 0, _, _, none⟩) (v := ?_) rfl rfl (fun wz => ?_) ?_
    rotate_left
    ·go_simp; (try with_reducible rfl)
    try simp only [Act.put, sqA, sqB, sqC]
    refine seq_A (o := ⟨none, .store 120 (.tmp 22) (.tmp 21), 0, _, _, none⟩) rfl rfl (fun K hK => ?_)
    go_simp
    refine hK _ _ ?_
    clear hK K
    try simp only [Act.put, sqA, sqB, sqC]
    refine seq_nil (NoPanic.normal ?_)
    try simp only [Act.put, sqA, sqB, sqC]
    go_wp2
    go_roundw
    case rel => exact ⟨k + 1, by omega, by go_num, HZ.out.1, HZ.out.2⟩
    case measure => simp [intOf]; omega
   ·have e3 : (k : Int).tmod 4 = 3 := by rw [Int.tmod_eq_emod_of_nonneg (by omega)]; omega
    have e4 : IntKind.i64.wrap 24 = 24 := by kernel_rfl
    have e1 : IntKind.i64.wrap (q : Int) = q := by rw [IntKind.wrap_i64]; omega
    have e2 : IntKind.u32.wrap (x : Int) = x := by rw [IntKind.wrap_u32]; omega
    obtain ⟨z, hz⟩ : ∃ z, z = y ||| (x <<< (8 * (k % 4))) := ⟨_, rfl⟩
    have hor : bits .or .u32 (y : Int) (IntKind.u32.wrap ((x : Int) * 16777216)) = (z : Nat) := by
     have hs : (IntKind.u32.wrap ((x : Int) * 16777216)) = ((x <<< (8 * 3) : Nat) : Int) := by rw [IntKind.wrap_u32, Nat.shiftLeft_eq]; omega
     rw [hs, hz, hr]; exact or_W y _ hyl (shl_lt hxl (by omega))
    have HZ : Hid _ := HN.out z hz
    clear HN hr hx hy hq hz
    go_wp2_with fail
    refine region_seq (c := 12) (f := 60) (ts := [(0, 0), (0, 1), (0, 2), (1, 3), (0, 4), (0, 5), (0, 6), (0, 7), (0, 8), (0, 9), (0, 10), (0, 11), (2, 12)]) (by kernel_rfl) (by kernel_rfl) ?_
    refine seq_W (o := ⟨some 11, .move (.tmp 4), 3, _, _, none⟩) (v := ?_) rfl rfl (fun wz => ?_) ?_
    rotate_left
    ·go_simp; (try with_reducible rfl)
    try simp only [Act.put, sqA, sqB, sqC]
    refine seq_W (o := ⟨some 12, .binOp .quo 3 (.tmp 11) (.const (.int .i64 4)) 3, 3, _, _, none⟩) (v := ?_) rfl rfl (fun wz => ?_) ?_
    rotate_left
    ·go_simp; (try with_reducible rfl)
    try simp only [Act.put, sqA, sqB, sqC]
    refine seq_W (o := ⟨some 13, .indexAddr 161 (.tmp 3) (.tmp 12), 0, _, _, none⟩) (v := ?_) rfl rfl (fun wz => ?_) ?_
    rotate_left
    ·go_simp; (try with_reducible rfl)
    try simp only [Act.put, sqA, sqB, sqC]
    refine seq_R (o := ⟨some 14, .load 120 (.tmp 13), 120, _, _, none⟩) (v := ?_) rfl rfl ?_ ?_
    rotate_left
    ·go_simp; (try with_reducible rfl)
    try simp only [Act.put, sqA, sqB, sqC]
    refine seq_W (o := ⟨some 15, .move (.tmp 5), 5, _, _, none⟩) (v := ?_) rfl rfl (fun wz => ?_) ?_
    rotate_left
    ·go_simp; (try with_reducible rfl)
    try simp only [Act.put, sqA, sqB, sqC]
    refine seq_W (o := ⟨some 16, .convert 5 120 (.tmp 15), 120, _, _, none⟩) (v := ?_) rfl rfl (fun wz => ?_) ?_
    rotate_left
    ·go_simp; (try with_reducible rfl)
    try simp only [Act.put, sqA, sqB, sqC]
    refine seq_W (o := ⟨some 17, .move (.tmp 4), 3, _, _, none⟩) (v := ?_) rfl rfl (fun wz => ?_) ?_
    rotate_left
    ·go_simp; (try with_reducible rfl)
    try simp only [Act.put, sqA, sqB, sqC]
    refine seq_W (o := ⟨some 18, .binOp .rem 3 (.tmp 17) (.const (.int .i64 4)) 3, 3, _, _, none⟩) (v := ?_) rfl rfl (fun wz => ?_) ?_
    rotate_left
    ·go_simp; (try with_reducible rfl)
    try simp only [Act.put, sqA, sqB, sqC]
    refine seq_W (o := ⟨some 19, .binOp .mul 3 (.const (.int .i64 8)) (.tmp 18) 3, 3, _, _, none⟩) (v := ?_) rfl rfl (fun wz => ?_) ?_
    rotate_left
    ·go_simp; (try with_reducible rfl)
    try simp only [Act.put, sqA, sqB, sqC]
    refine seq_W (o := ⟨some 20, .binOp .shl 120 (.tmp 16) (.tmp 19) 3, 120, _, _, none⟩) (v := ?_) rfl rfl (fun wz => ?_) ?_
    rotate_left
    ·go_simp; (try with_reducible rfl)
    try simp only [Act.put, sqA, sqB, sqC]
    refine seq_W (o := ⟨some 21, .binOp .or 120 (.tmp 14) (.tmp 20) 120, 120, _, _, none⟩) (v := ?_) rfl rfl (fun wz => ?_) ?_
    rotate_left
    ·go_simp; (try with_reducible rfl)
    try simp only [Act.put, sqA, sqB, sqC]
    refine seq_W (o := ⟨some 22, .indexAddr 161 (.tmp 3) (.tmp 12), 0, _, _, none⟩) (v := ?_) rfl rfl (fun wz => ?_) ?_
    rotate_left
    ·go_simp; (try with_reducible rfl)
    try simp only [Act.put, sqA, sqB, sqC]
    refine seq_A (o := ⟨none, .store 120 (.tmp 22) (.tmp 21), 0, _, _, none⟩) rfl rfl (fun K hK => ?_)
    go_simp
    refine hK _ _ ?_
    clear hK K
    try simp only [Act.put, sqA, sqB, sqC]
    refine seq_nil (NoPanic.normal ?_)
    try simp only [Act.put, sqA, sqB, sqC]
    go_wp2
    go_roundw
    case rel => exact ⟨k + 1, by omega, by go_num, HZ.out.1, HZ.out.2⟩
    case measure => simp [intOf]; omega
  ·obtain rfl : k = 64 := by omega
   have hl := (mP_ok hb.2 64).1
   have hF1 : wr.heap[w.heap.size + 1]? = some (.cells (wv z16) 161 (0, 0)) := hF.heap hn1 (by simp)
   have hW : Hid (Below w.heap.size w wr) := hb0.trans (hF.below (by have := hb0.size; omega) (by simp; omega))
   go_wp2_with (first | (refine wpList_load16 rfl _ rfl (w.heap.size + 1 + 1) rfl (mP b 64) hl _ _ hm ?_) | (refine wpList_store16 rfl _ _ rfl (w.heap.size + 1) rfl (mP b 64) z16 hl rfl 161 rfl hF1 ?_; intro w2 hg2 hf2) | fail)
   exact bodyPost_ret (results_cell_row Tryz.results88 _ w2 (w.heap.size + 1) 161 (wv (mP b 64)) (0, 0) _ rfl hg2 Tryz.underlying161 rfl (by rw [wv_size, hl]; exact sz16)) rfl ⟨rfl, hW.out.trans (hf2.below (by have := hW.out.size; omega) (by simp))⟩
end Go.Proofs.YtoefgfiabfkfaaaGreatDoor
/- BLAKE2s on plain numbers: a block taken in, bytes fed, the sum. -/
namespace Go.Proofs.YtoefgfiabfkfaaaGreatDoor

/-- The eight first words; the rows. -/
def firstL : List Nat := [0x6a09e667, 0xbb67ae85, 0x3c6ef372, 0xa54ff53a, 0x510e527f, 0x9b05688c, 0x1f83d9ab, 0x5be0cd19]
def rowsL : List (List Nat) := [
 [0, 1, 2, 3, 4, 5, 6, 7, 8, 9, 10, 11, 12, 13, 14, 15],
 [14, 10, 4, 8, 9, 15, 13, 6, 1, 12, 0, 2, 11, 7, 5, 3],
 [11, 8, 12, 0, 5, 2, 15, 13, 10, 14, 3, 6, 7, 1, 9, 4],
 [7, 9, 3, 1, 13, 12, 11, 14, 2, 6, 5, 10, 4, 0, 15, 8],
 [9, 0, 5, 7, 2, 4, 10, 15, 14, 1, 11, 12, 6, 8, 3, 13],
 [2, 12, 6, 10, 0, 11, 8, 3, 4, 13, 7, 5, 15, 14, 1, 9],
 [12, 5, 1, 15, 14, 13, 4, 10, 0, 7, 6, 3, 9, 2, 8, 11],
 [13, 11, 7, 14, 12, 1, 3, 9, 5, 0, 15, 4, 8, 6, 2, 10],
 [6, 15, 14, 9, 11, 3, 0, 8, 12, 2, 13, 7, 1, 4, 10, 5],
 [10, 2, 8, 4, 7, 6, 1, 5, 15, 11, 9, 14, 3, 12, 13, 0]]
def rowL (r : Nat) : List Nat := rowsL.getD r []
def rowsF : List Nat := rowsL.flatten
theorem firstL_ok : Wd 8 firstL := ⟨rfl, fun i => by
 by_cases h : i < 8
 ·have : ∀ j : Fin 8, firstL.getD j.val 0 < 4294967296 := by decide
  exact this ⟨i, h⟩
 ·rw [List.getD_eq_getElem?_getD, List.getElem?_eq_none (by show 8 ≤ i; omega)]; decide⟩
theorem rowL_len {r : Nat} (h : r < 10) : (rowL r).length = 16 := by
 have : ∀ j : Fin 10, (rowL j.val).length = 16 := by decide
 exact this ⟨r, h⟩
theorem rowL_lt {r : Nat} (h : r < 10) (k : Nat) : (rowL r).getD k 0 < 16 := by
 by_cases hk : k < 16
 ·have : ∀ (j : Fin 10) (i : Fin 16), (rowL j.val).getD i.val 0 < 16 := by decide
  exact this ⟨r, h⟩ ⟨k, hk⟩
 ·rw [List.getD_eq_getElem?_getD, List.getElem?_eq_none (by rw [rowL_len h]; omega)]; decide
theorem rowsF_at {r k : Nat} (h : r < 10) (hk : k < 16) : rowsF[r * 16 + k]? = some ((rowL r).getD k 0) := by
 have : ∀ (j : Fin 10) (i : Fin 16), rowsF[j.val * 16 + i.val]? = some ((rowL j.val).getD i.val 0) := by decide
 exact this ⟨r, h⟩ ⟨k, hk⟩

/-- The sixteen words as they are begun. -/
def vP (h : List Nat) : Nat → List Nat
 | 0 => z16
 | i + 1 => ((vP h i).set i (h.getD i 0)).set (i + 8) (firstL.getD i 0)
def v2 (h : List Nat) (t : Nat) : List Nat :=
 ((vP h 8).set 12 (xorW ((vP h 8).getD 12 0) (t % 4294967296))).set 13 (xorW (((vP h 8).set 12 (xorW ((vP h 8).getD 12 0) (t % 4294967296))).getD 13 0) (t / 4294967296 % 4294967296))
def v3 (h : List Nat) (t : Nat) (last : Bool) : List Nat := if last then (v2 h t).set 14 (xorW 4294967295 ((v2 h t).getD 14 0)) else v2 h t
/-- r rounds. -/
def rP (m v : List Nat) : Nat → List Nat
 | 0 => v
 | r + 1 => roundF m (rowL r) (rP m v r)
def hP (h v : List Nat) : Nat → List Nat
 | 0 => h
 | i + 1 => (hP h v i).set i (xorW ((hP h v i).getD i 0) (xorW (v.getD i 0) (v.getD (i + 8) 0)))
/-- A block taken in. -/
def cF (h b : List Nat) (t : Nat) (last : Bool) : List Nat := hP h (rP (mP b 64) (v3 h t last) 10) 8

theorem z16_ok : Wd 16 z16 := mP_ok (b := []) (by simp) 0
theorem vP_ok {h : List Nat} (hh : Wd 8 h) : ∀ i, Wd 16 (vP h i)
 | 0 => z16_ok
 | i + 1 => ((vP_ok hh i).set _ (hh.2 i)).set _ (firstL_ok.2 i)
theorem v2_ok {h : List Nat} (hh : Wd 8 h) (t : Nat) : Wd 16 (v2 h t) := by
 have h1 : Wd 16 ((vP h 8).set 12 (xorW ((vP h 8).getD 12 0) (t % 4294967296))) := (vP_ok hh 8).set _ (xorW_lt ((vP_ok hh 8).2 12) (Nat.mod_lt _ (by decide)))
 exact h1.set _ (xorW_lt (h1.2 13) (Nat.mod_lt _ (by decide)))
theorem v3_ok {h : List Nat} (hh : Wd 8 h) (t : Nat) (last : Bool) : Wd 16 (v3 h t last) := by
 unfold v3
 split
 ·exact (v2_ok hh t).set _ (xorW_lt (by decide) ((v2_ok hh t).2 14))
 ·exact v2_ok hh t
theorem rP_ok {m v : List Nat} (hv : Wd 16 v) : ∀ r, Wd 16 (rP m v r)
 | 0 => hv
 | r + 1 => roundF_ok m _ (rP_ok hv r)
theorem hP_ok {h v : List Nat} (hh : Wd 8 h) (hv : Wd 16 v) : ∀ i, Wd 8 (hP h v i)
 | 0 => hh
 | i + 1 => (hP_ok hh hv i).set _ (xorW_lt ((hP_ok hh hv i).2 i) (xorW_lt (hv.2 i) (hv.2 (i + 8))))
theorem cF_ok {h b : List Nat} (hh : Wd 8 h) (t : Nat) (last : Bool) : Wd 8 (cF h b t last) := hP_ok hh (rP_ok (v3_ok hh t last) 10) 8
end Go.Proofs.YtoefgfiabfkfaaaGreatDoor
