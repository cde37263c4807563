/- slices.Insert of one element at []state.Pay, into a row of one's own. -/
import Derived.Test.YtoefgfiabfkfaaaGreatDoorOwnShelf18
import Derived.Laws.IdiomCopy
import Derived.Lib.AppendZerosOnto
import Derived.Lib.Overlaps
import Derived.Laws.NewBlocks
import Derived.Lib.Walk
import Derived.Lib.SliceRun
import Derived.Deep.RegionLaw
import Derived.Deep.DrawnRows
import Derived.Shelf.Spec.SlicesInsert
import Derived.Test.YtoefgfiabfkfaaaGreatDoorOwnShelf15
import Derived.Shelf.Abstract
import Derived.Deep.LoopGhost
namespace Go.Proofs.YtoefgfiabfkfaaaGreatDoor
open Go.RowKit Go.Lib

/-- 'copy' of rows of k cells each. -/
theorem run_copy_cellsK {P : Program} (k : Nat) (w : World) (dT sT ty elem : TypeId) (b o dLen dCap : Nat) (a : Addr) (sLen sCap m : Nat) (cs : List Value)
  (hu : P.underlying dT = some (.slice elem)) (hs : (P.info? elem).map (·.size) = some k) (hm : Nat.min sLen dLen = m) (hn : cs.length = m * k)
  (hsrc : ∀ j v, cs[j]? = some v → w.cell? (a.add j) = some v) (hc : ∀ j, j < cs.length → (w.cell? ⟨b, o + j, none⟩).isSome = true) (hf : ∀ j, j < cs.length → w.frozen? ⟨b, o + j, none⟩ = false) (h1 : ∀ v ∈ cs, v.oneCell' = true) :
  (Builtin.copy_ #[dT, sT] ty #[.slice (some ⟨b, o, none⟩) dLen dCap, .slice (some a) sLen sCap]).run P w = .ok (goInt m) (w.setCells b o cs) := by
 have hl := run_loadCells_list (P := P) w a cs hsrc
 have hst := run_storeCells_cells (P := P) b o cs 0 w (by simpa using hc) (by simpa using hf) h1
 rw [hn] at hl
 cases hq : P.info? elem with
 | none => simp [hq] at hs
 | some i =>
  have hi : i.size = k := by simpa [hq] using hs
  simp [Builtin.copy_, run_underlying hu, Builtin.lenOf, Builtin.firstCells, sizeOf, typeInfo, hq, hi, hm, hl, hst]
/-- One part more at the place i. -/
def insF (f : Nat → List Value) (i : Nat) (cs : List Value) : Nat → List Value := fun j => if j < i then f j else if j = i then cs else f (j - 1)
theorem insF_end (f : Nat → List Value) (n : Nat) (cs : List Value) : flatL (insF f n cs) (n + 1) = flatL f n ++ cs := by
 rw [flatL, flatL_congr n (g := f) (fun j hj => by simp [insF, hj])]
 simp [insF]
theorem insF_mid (f : Nat → List Value) (i m : Nat) (cs : List Value) : flatL (insF f i cs) (i + m + 1) = flatL f i ++ (cs ++ flatL (fun j => f (i + j)) m) := by
 rw [show i + m + 1 = i + (1 + m) by omega, flatL_add, flatL_add]
 congr 1
 ·exact flatL_congr i (fun j hj => by simp [insF, hj])
 ·congr 1
  ·simp [flatL, insF]
  ·exact flatL_congr m (fun j _ => by simp [insF]; rw [show i + (1 + j) - 1 = i + j by omega, if_neg (by omega)])
theorem zeroCells_size (c : Array Value) (n : Nat) : (Builtin.zeroCells c n).size = n * c.size := by
 simp [Builtin.zeroCells]
theorem own_cap (ad : Option Addr) (n c c' : Nat) : (Value.slice ad n c).ownBlock = (Value.slice ad n c').ownBlock := by cases ad <;> rfl
/-- What an Insert answers: a row of one's own, in the old block or a new one. -/
def InsR (B T k : Nat) (w : World) (ad : Option Addr) (n cap : Nat) (xs : List Value) (e : Ending) (w' : World) : Prop :=
 ∃ va vc, e = .returned (.slice va (n + 1) vc) ∧ w'.ownsRow B T k (.slice va (n + 1) vc) (n + 1) xs ∧ w.grownBy w' (Value.slice ad n cap).ownBlock

set_option maxHeartbeats 1600000 in
set_option maxRecDepth 100000 in
/-- At the end. -/
theorem insP_end (B : Nat) (ad : Option Addr) (n cap q : Nat) (f : Nat → List Value) (cs : List Value) (w : World) (hown : w.ownsRow B 43 36 (.slice ad n cap) n (flatL f n)) (hB : B ≤ w.heap.size) (hq : w.heap[q]? = some (.cells cs.toArray 43 (0, 0))) (hl : cs.length = 36) (h1 : ∀ u ∈ cs, u.oneCell' = true) (hn : n ≤ 1000000) :
  Calls Tryz.prog 20 #[.slice ad n cap, .int .i64 n, .slice (some ⟨q, 0, none⟩) 1 1] w fun e w' => InsR B 43 36 w ad n cap (flatL (insF f n cs) (n + 1)) e w' := by
 obtain ⟨i0, hi0, hz0, hz1, hz2⟩ := info_parts infoP
 have HI : Hid (Tryz.prog.info? 43 = some i0 ∧ i0.zero = some (.agg (pyv p0)) ∧ i0.size = 36 ∧ i0.bytes = 64) := ⟨hi0, hz0, hz1, hz2⟩
 have HO : Hid (w.ownsRow B 43 36 (.slice ad n cap) n (flatL f n)) := hown
 have HQ : Hid (∀ j u, cs[j]? = some u → w.cell? ((⟨q, 0, none⟩ : Addr).add j) = some u) := fun j u hj => by
  rw [Addr.add_lit, Nat.zero_add, cell_of_row _ _ j _ _ _ hq]
  simpa using hj
 have HC : Hid (cs.length = 36 ∧ ∀ u ∈ cs, u.oneCell' = true) := ⟨hl, h1⟩
 clear hi0 hz0 hz1 hz2 hown hq hl h1
 go_enter Tryz.func20, Tryz.ntmps20
 go_wp2_with (at_builtin; refine wpList_append_own_at _ rfl _ _ 34 rfl B 43 i0 (.agg (pyv p0)) 36 64 Tryz.underlying34 HI.out.1 HI.out.2.1 HI.out.2.2.1 HI.out.2.2.2 zero_p (by omega) _ n (flatL f n) rfl HO.out ⟨q, 0, none⟩ 1 1 cs rfl HC.out.1 HQ.out HC.out.2 (by unfold maxLen; omega) (by omega) hB ?_; intro v' w1 h2 h3 _ _; have H3 : Hid (w.grownBy w1 (Value.slice ad n cap).ownBlock) := h3; clear h3)
 all_goals
  go_ret
  obtain ⟨va, vc, rfl, _, _⟩ := own_frmV h2
  refine ⟨va, vc, rfl, ?_, by rw [own_cap ad n _ cap]; exact H3.out⟩
  rw [insF_end]
  exact h2
set_option maxHeartbeats 4000000 in
set_option maxRecDepth 100000 in
/-- There is room. -/
theorem insP_shift (g n cap i q : Nat) (cur : Array Value) (f : Nat → List Value) (cs : List Value) (w : World) (hg : w.heap[g]? = some (.cells cur 43 (0, 0))) (hcs : cur.size = cap * 36) (htk : cur.toList.take (n * 36) = flatL f n) (hmx : cap ≤ maxLen) (hf : ∀ j, j < n → (f j).length = 36) (hf1 : ∀ u ∈ flatL f n, u.oneCell' = true) (hi : i < n) (hroom : n + 1 ≤ cap) (hq : w.heap[q]? = some (.cells cs.toArray 43 (0, 0))) (hqg : q ≠ g) (hl : cs.length = 36) (h1 : ∀ u ∈ cs, u.oneCell' = true) (hn : n ≤ 1000000) :
  Calls Tryz.prog 20 #[.slice (some ⟨g, 0, none⟩) n cap, .int .i64 i, .slice (some ⟨q, 0, none⟩) 1 1] w fun e w' => e = .returned (.slice (some ⟨g, 0, none⟩) (n + 1) cap) ∧ w' = (w.drew.setCells g ((i + 1) * 36) ((flatL f n).drop (i * 36))).setCells g (i * 36) cs := by
 obtain ⟨i0, hi0, hz0, hz1, hz2⟩ := info_parts infoP
 have hz : ∀ w, (Go.sizeOf 43).run Tryz.prog w = .ok 36 w := fun w => by simp [Go.sizeOf, typeInfo, hi0, hz1]
 have hsz : (Tryz.prog.info? 43).map (·.size) = some 36 := by rw [hi0]; simp [hz1]
 have hov : ∀ lb cb, (callFunc 45 #[.slice (some ⟨q, 0, none⟩) 1 1, .slice (some ⟨g, (i + 1) * 36, none⟩) lb cb]).run Tryz.prog w = .ok (.value (.bool false)) w := fun lb cb => by
  rw [run_callFunc_extern Tryz.func45 (by kernel_rfl) (by kernel_rfl) (by kernel_rfl) (e := Extern.SlicesOverlaps.overlaps #[34, 34] #[4]) (by kernel_rfl),
   Lib.run_overlaps_apart w 34 4 43 Tryz.underlying34 36 hz ⟨q, 0, none⟩ ⟨g, (i + 1) * 36, none⟩ 1 1 lb cb hqg 43 43 36 cur.size (by simp [World.shape?, hq, hl]) (by simp [World.shape?, hg]) (by rw [hcs]; omega) (frozen_of_row _ _ _ _ _ hq) (frozen_of_row _ _ _ _ _ hq)]
  rfl
 have hll : (flatL f n).length = n * 36 := flatL_length n hf
 have hdl : ((flatL f n).drop (i * 36)).length = (n - i) * 36 := by rw [List.length_drop, hll, Nat.sub_mul]
 have hcell : ∀ j, j < cap * 36 → (w.cell? ⟨g, j, none⟩).isSome = true := fun j hj => by
  rw [cell_of_row _ _ _ _ _ _ hg, Array.getElem?_eq_getElem (by omega)]; rfl
 have hfz : ∀ j, w.frozen? ⟨g, j, none⟩ = false := fun j => frozen_of_row _ _ _ _ _ hg
 have hrow : ∀ j v, (flatL f n)[j]? = some v → w.cell? ⟨g, j, none⟩ = some v := fun j v hv => by
  have hj := (List.getElem?_eq_some_iff.1 hv).1
  rw [← htk, List.getElem?_take, if_pos (by omega), Array.getElem?_toList] at hv
  rw [cell_of_row _ _ _ _ _ _ hg]; exact hv
 have hcp1 : ∀ ty dc sc, (Builtin.copy_ #[34, 34] ty #[.slice (some ⟨g, (i + 1) * 36, none⟩) (n - i) dc, .slice (some ⟨g, i * 36, none⟩) (n + 1 - i) sc]).run Tryz.prog w.drew = .ok (goInt ((n - i : Nat) : Int)) (w.drew.setCells g ((i + 1) * 36) ((flatL f n).drop (i * 36))) := fun ty dc sc =>
  run_copy_cellsK 36 w.drew _ _ ty 43 g ((i + 1) * 36) (n - i) dc ⟨g, i * 36, none⟩ (n + 1 - i) sc (n - i) _ Tryz.underlying34 hsz (by simp only [Nat.min_def]; split <;> omega) hdl
   (fun j v hj => by rw [Addr.add_lit]; exact hrow _ v (by rwa [List.getElem?_drop] at hj))
   (fun j hj => hcell _ (by rw [hdl] at hj; omega)) (fun j hj => hfz _) (fun v hv => hf1 v (List.mem_of_mem_drop hv))
 obtain ⟨W1, hW1⟩ : ∃ W1, W1 = w.drew.setCells g ((i + 1) * 36) ((flatL f n).drop (i * 36)) := ⟨_, rfl⟩
 have hsp1 : ∀ k, k < cap * 36 → (W1.cell? ⟨g, k, none⟩).isSome = true := fun k hk => by
  rw [hW1]
  exact isSome_setCells g _ ((i + 1) * 36) w.drew (fun j hj => hcell _ (by rw [hdl] at hj; omega)) _ (hcell k hk)
 have hcp2 : ∀ (W : World), (∀ x, W.cell? x = W1.cell? x) → (∀ x, W.frozen? x = W1.frozen? x) → ∀ ty dc, (Builtin.copy_ #[34, 34] ty #[.slice (some ⟨g, i * 36, none⟩) (n + 1 - i) dc, .slice (some ⟨q, 0, none⟩) 1 1]).run Tryz.prog W = .ok (goInt 1) (W.setCells g (i * 36) cs) := fun W hWc hWf ty dc =>
  run_copy_cellsK 36 W _ _ ty 43 g (i * 36) (n + 1 - i) dc ⟨q, 0, none⟩ 1 1 1 cs Tryz.underlying34 hsz (by simp only [Nat.min_def]; split <;> omega) (by omega)
   (fun j v hj => by
    rw [Addr.add_lit, hWc, hW1, World.cell?_setCells_out g _ _ _ _ (fun h _ => absurd h hqg), Nat.zero_add]
    show w.cell? ⟨q, j, none⟩ = some v
    rw [cell_of_row _ _ j _ _ _ hq]
    simpa using hj)
   (fun j hj => by rw [hWc]; exact hsp1 _ (by omega)) (fun j hj => by rw [hWf, hW1, World.frozen?_setCells]; exact hfz _) h1
 rw [← hW1] at hcp1
 have mixed : Tryz.prog.follows .mixedOrders = true := by kernel_rfl
 have hz2' : ¬ ((i : Int) = (n : Int)) := by omega
 have hz2b : ((i : Int) == (n : Int)) = false := by simpa using hz2'
 have hw1 : IntKind.i64.wrap ((i : Int) + 1) = (i : Int) + 1 := by rw [IntKind.wrap_i64]; omega
 have hb1 : (0 : Int) ≤ (i : Int) + 1 := by omega
 have hin : i ≤ n := by omega
 have htn : ((i : Int) + 1).toNat = i + 1 := by omega
 have hb2 : ¬ (cap = i + 1) := by omega
 have hb3 : (i : Int) ≤ (n : Int) + 1 := by omega
 have hb4 : ¬ (cap = i) := by omega
 have hcap63 : cap ≤ 9223372036854775807 := by unfold maxLen at hmx; omega
 have HW1 : Hid (W1 = w.drew.setCells g ((i + 1) * 36) ((flatL f n).drop (i * 36))) := hW1
 clear hi0 hz0 hz1 hz2 hz hsz hll hdl hcell hfz hrow hsp1 hf hf1 hg hcs htk hq hl h1 hW1
 go_enter Tryz.func20, Tryz.ntmps20
 go_wp2_with (simp only [hov])
 go_region_law_o (refine step_copy_runI rfl _ _ 34 34 rfl _ _ (by simp [Act.eval, Act.put]) (by simp [Act.eval, Act.put]) (hcp1 _ _ _) ?_)
 go_wp2_with (at_builtin; refine wpList_copy_runI _ rfl _ _ 34 34 rfl _ _ rfl rfl (hcp2 _ (fun _ => rfl) (fun _ => rfl) _ _) ?_)
 go_ret
 first | exact ⟨rfl, rfl⟩ | exact ⟨rfl, by rw [HW1.out]⟩
set_option maxHeartbeats 4000000 in
set_option maxRecDepth 100000 in
/-- There is no room. -/
theorem insP_grow (g n cap i q : Nat) (f : Nat → List Value) (cs : List Value) (w : World) (hrow : ∀ j v, (flatL f n)[j]? = some v → w.cell? ⟨g, j, none⟩ = some v) (hf : ∀ j, j < n → (f j).length = 36) (hf1 : ∀ u ∈ flatL f n, u.oneCell' = true) (hi : i < n) (hnc : n ≤ cap) (hroom : cap < n + 1) (hq : w.heap[q]? = some (.cells cs.toArray 43 (0, 0))) (hl : cs.length = 36) (h1 : ∀ u ∈ cs, u.oneCell' = true) (hn : n ≤ 1000000) :
  Calls Tryz.prog 20 #[.slice (some ⟨g, 0, none⟩) n cap, .int .i64 i, .slice (some ⟨q, 0, none⟩) 1 1] w fun e w' => ∃ (G : Nat) (R : List Value), n + 1 ≤ G ∧ G ≤ maxLen ∧ R.length = (G - i) * 36 ∧ e = .returned (.slice (some ⟨w.heap.size, 0, none⟩) (n + 1) G) ∧ w' = (((w.alloc (.cells ((flatL f n).take (i * 36) ++ R).toArray 43)).drew.setCells w.heap.size (i * 36) cs).drew).setCells w.heap.size ((i + 1) * 36) ((flatL f n).drop (i * 36)) := by
 obtain ⟨i0, hi0, hz0, hz1, hz2⟩ := info_parts infoP
 have hsz : (Tryz.prog.info? 43).map (·.size) = some 36 := by rw [hi0]; simp [hz1]
 have hll : (flatL f n).length = n * 36 := flatL_length n hf
 have hbw : g < w.heap.size := World.block_lt_of_cell? w ⟨g, 0, none⟩ (hrow 0 _ (List.getElem?_eq_getElem (by omega)))
 have hvw : q < w.heap.size := lt_of_block hq
 have hkk : (n : Int) + 1 - (i : Int) = ((n + 1 - i : Nat) : Int) := by omega
 have hik : i + (n + 1 - i) = n + 1 := by omega
 have htl : ((flatL f n).take (i * 36)).length = i * 36 := by rw [List.length_take, hll]; omega
 have hold : (Builtin.firstCells i0.size i (.slice (some ⟨g, 0, none⟩) i cap)).run Tryz.prog w.drew = .ok ((flatL f n).take (i * 36)).toArray w.drew := by
  rw [hz1]
  exact run_firstCells_some w.drew 36 i ⟨g, 0, none⟩ i cap ((flatL f n).take (i * 36)) htl (fun j v hj => by
   rw [Addr.add_lit, Nat.zero_add]
   rw [List.getElem?_take] at hj
   split at hj
   ·exact hrow j v hj
   ·cases hj)
 have hrz : ∀ ty, (Builtin.append_ #[34, 3] ty #[.slice (some ⟨g, 0, none⟩) i cap, .int .i64 ((n : Int) + 1 - (i : Int))]).run Tryz.prog w =
   .ok (.slice (some ⟨w.heap.size, 0, none⟩) (n + 1) (grownCap w (n + 1) cap 43)) (w.drew.alloc (.cells (((flatL f n).take (i * 36)).toArray ++ Builtin.zeroCells (Value.cells (.agg (pyv p0))) (n + 1 - i) ++ Builtin.zeroCells (Value.cells (.agg (pyv p0))) (grownCap w (n + 1) cap 43 - (n + 1))) 43)) := fun ty => by
  have h := Lib.run_append_grow_zeros w 34 3 ty 43 i0 _ .i64 .i64 Tryz.underlying34 Tryz.underlying3 hi0 hz0 (some ⟨g, 0, none⟩) i cap ((flatL f n).take (i * 36)) hold (n + 1 - i) (by omega) (by omega) (by omega) (by omega) (by rw [hz2]; omega) (by rw [hz2, hik]; exact growslice_fits hroom (by omega))
  rw [hik] at h
  rw [hkk]
  exact h
 obtain ⟨G, hG⟩ : ∃ G, G = grownCap w (n + 1) cap 43 := ⟨_, rfl⟩
 have hGn : n + 1 ≤ G := by rw [hG]; exact grownCap_ge w _ _ _
 have hGm : G ≤ maxLen := by rw [hG]; exact grownCap_le_maxLen w _ _ _ (by unfold maxLen; omega)
 obtain ⟨R, hR⟩ : ∃ R : List Value, R = (Builtin.zeroCells (Value.cells (.agg (pyv p0))) (n + 1 - i) ++ Builtin.zeroCells (Value.cells (.agg (pyv p0))) (G - (n + 1))).toList := ⟨_, rfl⟩
 have hRl : R.length = (G - i) * 36 := by
  have hzc : (Value.cells (.agg (pyv p0))).size = 36 := zero_p
  rw [hR]
  rw [Array.length_toList, Array.size_append, zeroCells_size, zeroCells_size, hzc]
  omega
 have hROW : ((flatL f n).take (i * 36)).toArray ++ Builtin.zeroCells (Value.cells (.agg (pyv p0))) (n + 1 - i) ++ Builtin.zeroCells (Value.cells (.agg (pyv p0))) (G - (n + 1)) = ((flatL f n).take (i * 36) ++ R).toArray := by
  rw [hR]; simp [Array.append_assoc]
 rw [← hG] at hrz
 rw [hROW] at hrz
 obtain ⟨ROW, hRW⟩ : ∃ ROW : Array Value, ROW = ((flatL f n).take (i * 36) ++ R).toArray := ⟨_, rfl⟩
 have hRs : ROW.size = G * 36 := by rw [hRW]; simp only [List.size_toArray, List.length_append, htl, hRl]; omega
 rw [← hRW] at hrz
 obtain ⟨W1, hW1⟩ : ∃ W1, W1 = w.drew.alloc (.cells ROW 43) := ⟨_, rfl⟩
 rw [← hW1] at hrz
 have hN : ∀ j, j < G * 36 → (W1.cell? ⟨w.heap.size, j, none⟩).isSome = true := fun j hj => by
  rw [hW1, World.cell?_alloc_at (w := w.drew) ROW _ w.heap.size j rfl, Array.getElem?_eq_getElem (by omega)]; rfl
 have hNf : ∀ j, W1.frozen? ⟨w.heap.size, j, none⟩ = false := fun j => by rw [hW1]; exact World.frozen?_alloc_at (w := w.drew) ROW _ w.heap.size j rfl
 have hOb : ∀ j v, w.cell? ⟨g, j, none⟩ = some v → W1.cell? ⟨g, j, none⟩ = some v := fun j v h => by rw [hW1, World.cell?_alloc_past (w := w.drew) _ g j hbw]; exact h
 have hOv : ∀ j v, w.cell? ⟨q, j, none⟩ = some v → W1.cell? ⟨q, j, none⟩ = some v := fun j v h => by rw [hW1, World.cell?_alloc_past (w := w.drew) _ q j hvw]; exact h
 have hvs : ∀ j v, cs[j]? = some v → w.cell? ⟨q, j, none⟩ = some v := fun j v hj => by
  rw [cell_of_row _ _ j _ _ _ hq]
  simpa using hj
 have hcpA : ∀ (W : World), (∀ x, W.cell? x = W1.cell? x) → (∀ x, W.frozen? x = W1.frozen? x) → ∀ ty dc, (Builtin.copy_ #[34, 34] ty #[.slice (some ⟨w.heap.size, i * 36, none⟩) (n + 1 - i) dc, .slice (some ⟨q, 0, none⟩) 1 1]).run Tryz.prog W = .ok (goInt 1) (W.setCells w.heap.size (i * 36) cs) := fun W hWc hWf ty dc =>
  run_copy_cellsK 36 W _ _ ty 43 w.heap.size (i * 36) (n + 1 - i) dc ⟨q, 0, none⟩ 1 1 1 cs Tryz.underlying34 hsz (by simp only [Nat.min_def]; split <;> omega) (by omega)
   (fun j v hj => by rw [Addr.add_lit, hWc, Nat.zero_add]; exact hOv _ v (hvs j v hj))
   (fun j hj => by rw [hWc]; exact hN _ (by omega)) (fun j hj => by rw [hWf]; exact hNf _) h1
 have hbN : g ≠ w.heap.size := by omega
 have hdl : ((flatL f n).drop (i * 36)).length = (n - i) * 36 := by rw [List.length_drop, hll, Nat.sub_mul]
 have hcpB : ∀ (W : World), (∀ x, W.cell? x = (W1.setCells w.heap.size (i * 36) cs).cell? x) → (∀ x, W.frozen? x = (W1.setCells w.heap.size (i * 36) cs).frozen? x) → ∀ ty dc sc, (Builtin.copy_ #[34, 34] ty #[.slice (some ⟨w.heap.size, (i + 1) * 36, none⟩) (n - i) dc, .slice (some ⟨g, i * 36, none⟩) (n - i) sc]).run Tryz.prog W = .ok (goInt ((n - i : Nat) : Int)) (W.setCells w.heap.size ((i + 1) * 36) ((flatL f n).drop (i * 36))) := fun W hWc hWf ty dc sc =>
  run_copy_cellsK 36 W _ _ ty 43 w.heap.size ((i + 1) * 36) (n - i) dc ⟨g, i * 36, none⟩ (n - i) sc (n - i) _ Tryz.underlying34 hsz (by simp only [Nat.min_def]; split <;> omega) hdl
   (fun j v hj => by
    rw [Addr.add_lit, hWc, World.cell?_setCells_out _ _ _ _ _ (fun h _ => absurd h hbN)]
    exact hOb _ v (hrow _ v (by rwa [List.getElem?_drop] at hj)))
   (fun j hj => by rw [hWc]; exact isSome_setCells _ _ (i * 36) _ (fun t ht => hN _ (by omega)) _ (hN _ (by rw [hdl] at hj; omega)))
   (fun j hj => by rw [hWf, World.frozen?_setCells]; exact hNf _) (fun v hv => hf1 v (List.mem_of_mem_drop hv))
 subst hW1
 have hE1 : ∀ x, ((w.alloc (.cells ROW 43)).drew).cell? x = (w.drew.alloc (.cells ROW 43)).cell? x := fun x => rfl
 have hE2 : ∀ x, ((w.alloc (.cells ROW 43)).drew).frozen? x = (w.drew.alloc (.cells ROW 43)).frozen? x := fun x => rfl
 have hF1 : ∀ x, (((w.alloc (.cells ROW 43)).drew.setCells w.heap.size (i * 36) cs).drew).cell? x = ((w.drew.alloc (.cells ROW 43)).setCells w.heap.size (i * 36) cs).cell? x := fun x => rfl
 have hF2 : ∀ x, (((w.alloc (.cells ROW 43)).drew.setCells w.heap.size (i * 36) cs).drew).frozen? x = ((w.drew.alloc (.cells ROW 43)).setCells w.heap.size (i * 36) cs).frozen? x := fun x => rfl
 have hw1 : IntKind.i64.wrap ((i : Int) + 1) = (i : Int) + 1 := by rw [IntKind.wrap_i64]; omega
 have hb1 : (0 : Int) ≤ (i : Int) + 1 := by omega
 have hin : i ≤ n := by omega
 have htn : ((i : Int) + 1).toNat = i + 1 := by omega
 have hb3 : (i : Int) ≤ (n : Int) := by omega
 have mixed : Tryz.prog.follows .mixedOrders = true := by kernel_rfl
 have hz2' : ¬ ((i : Int) = (n : Int)) := by omega
 have hz2b : ((i : Int) == (n : Int)) = false := by simpa using hz2'
 have hz3 : (cap : Int) < (n : Int) + 1 := by omega
 have hGi : ¬ (G = i) := by omega
 have hGim : ¬ (G = i + 1) := by omega
 have hci : ¬ (cap = i) := by omega
 have hG63 : G ≤ 9223372036854775807 := by unfold maxLen at hGm; omega
 have HP : Hid (n + 1 ≤ G ∧ G ≤ maxLen ∧ R.length = (G - i) * 36 ∧ ROW = ((flatL f n).take (i * 36) ++ R).toArray) := ⟨hGn, hGm, hRl, hRW⟩
 clear hkk hik hold hROW hG hRl hRW hR hi0 hz0 hz1 hz2 hsz hll htl hRs hN hNf hOb hOv hvs hrow hf hf1 hq hl h1 hdl
 go_enter Tryz.func20, Tryz.ntmps20
 go_wp2_with (first
  | (at_builtin; refine Lib.wpList_append_run _ rfl _ _ _ _ rfl _ _ rfl rfl _ _ (hrz _) ?_)
  | (at_builtin; refine wpList_copy_runI _ rfl _ _ 34 34 rfl _ _ rfl rfl (hcpA _ hE1 hE2 _ _) ?_)
  | (at_builtin; refine wpList_copy_runI _ rfl _ _ 34 34 rfl _ _ rfl rfl (hcpB _ (fun _ => rfl) (fun _ => rfl) _ _ _) ?_))
 go_region_law_o (refine step_copy_runI rfl _ _ 34 34 rfl (.slice (some ⟨w.heap.size, (i + 1) * 36, none⟩) (n - i) (G - (i + 1))) (.slice (some ⟨g, i * 36, none⟩) (n - i) (cap - i)) (by simp [Act.eval, Act.put]) (by simp [Act.eval, Act.put]) (hcpB _ hF1 hF2 43 (G - (i + 1)) (cap - i)) ?_)
 go_wp2
 go_ret
 refine ⟨G, R, HP.out.1, HP.out.2.1, HP.out.2.2.1, rfl, ?_⟩
 rw [← HP.out.2.2.2]
theorem insP_any (B : Nat) (ad : Option Addr) (n cap i q : Nat) (f : Nat → List Value) (cs : List Value) (w : World) (hown : w.ownsRow B 43 36 (.slice ad n cap) n (flatL f n)) (hB : B ≤ w.heap.size) (hi : i ≤ n) (hf : ∀ j, j < n → (f j).length = 36) (hf1 : ∀ u ∈ flatL f n, u.oneCell' = true) (hq : w.heap[q]? = some (.cells cs.toArray 43 (0, 0))) (hqg : (Value.slice ad n cap).ownBlock ≠ some q) (hl : cs.length = 36) (h1 : ∀ u ∈ cs, u.oneCell' = true) (hn : n ≤ 1000000) :
  Calls Tryz.prog 20 #[.slice ad n cap, .int .i64 i, .slice (some ⟨q, 0, none⟩) 1 1] w fun e w' => InsR B 43 36 w ad n cap (flatL (insF f i cs) (n + 1)) e w' := by
 by_cases e : i = n
 ·subst e
  exact insP_end B ad i cap q f cs w hown hB hq hl h1 hn
 ·obtain ⟨m, rfl⟩ : ∃ m, n = i + m := ⟨n - i, by omega⟩
  have hlt : i < i + m := by omega
  have lX : (flatL f i).length = i * 36 := flatL_length i (fun j hj => hf j (by omega))
  have lY : (flatL (fun j => f (i + j)) m).length = m * 36 := flatL_length m (fun j hj => hf _ (by omega))
  have eXY := flatL_add f i m
  have eT : (flatL f (i + m)).take (i * 36) = flatL f i := by rw [eXY, List.take_append_of_le_length (by omega), List.take_of_length_le (by omega)]
  have eD : (flatL f (i + m)).drop (i * 36) = flatL (fun j => f (i + j)) m := by rw [eXY, List.drop_append_of_le_length (by omega), List.drop_of_length_le (by omega), List.nil_append]
  rcases hown.2 with ⟨_, h0⟩ | ⟨g, cap', cur, e1, hBg, hg, hnc, hmx, hcs, htk⟩
  ·omega
  ·cases e1
   by_cases hroom : i + m + 1 ≤ cap
   ·refine (insP_shift g (i + m) cap i q cur f cs w hg hcs htk hmx hf hf1 hlt hroom hq (fun e => hqg (by rw [e]; rfl)) hl h1 hn).mono ?_
    rintro e w' ⟨rfl, rfl⟩
    rw [eD]
    have ec : cur.toList = flatL f i ++ (flatL (fun j => f (i + j)) m ++ cur.toList.drop ((i + m) * 36)) := by
     have := List.take_append_drop ((i + m) * 36) cur.toList
     rw [htk, eXY] at this
     simpa using this.symm
    have lZ : (cur.toList.drop ((i + m) * 36)).length = (cap - (i + m)) * 36 := by rw [List.length_drop, Array.length_toList, hcs, Nat.sub_mul]
    obtain ⟨Z, hZ⟩ : ∃ Z, cur.toList.drop ((i + m) * 36) = Z := ⟨_, rfl⟩
    rw [hZ] at ec lZ
    have hg0 : w.drew.heap[g]? = some (.cells ((flatL f i ++ (flatL (fun j => f (i + j)) m ++ Z).take 36) ++ (flatL (fun j => f (i + j)) m ++ Z).drop 36).toArray 43 (0, 0)) := by
     rw [List.append_assoc, List.take_append_drop, ← ec]
     show w.heap[g]? = _
     simpa using hg
    have s1 := setCells_at g (flatL (fun j => f (i + j)) m) ((i + 1) * 36) w.drew _ _ 43 hg0 (by simp only [List.length_append, List.length_take, lX, lY, lZ]; omega) (by simp only [List.length_drop, List.length_append, lY, lZ]; omega)
    rw [List.append_assoc, List.append_assoc] at s1
    have s2 := setCells_at g cs (i * 36) _ _ _ 43 s1 lX (by simp only [List.length_append, List.length_take, lY, lZ, hl]; omega)
    refine ⟨_, _, rfl, ⟨?_, .inr ⟨g, cap, _, rfl, hBg, s2, hroom, hmx, ?_, ?_⟩⟩, ?_⟩
    ·rw [insF_mid]
     simp only [List.length_append, lX, lY, hl]
     omega
    ·simp only [List.size_toArray, List.length_append, List.length_drop, List.length_take, lX, lY, lZ, hl]
     omega
    ·rw [insF_mid]
     have ed : ((flatL (fun j => f (i + j)) m ++ Z).take 36 ++ (flatL (fun j => f (i + j)) m ++ ((flatL (fun j => f (i + j)) m ++ Z).drop 36).drop (flatL (fun j => f (i + j)) m).length)).drop cs.length = flatL (fun j => f (i + j)) m ++ ((flatL (fun j => f (i + j)) m ++ Z).drop 36).drop (flatL (fun j => f (i + j)) m).length := by
      rw [List.drop_append_of_le_length (by simp only [List.length_take, List.length_append, lY, lZ, hl]; omega), List.drop_of_length_le (by simp only [List.length_take, hl]; omega), List.nil_append]
     simp only [ed]
     have e3 : flatL f i ++ cs ++ (flatL (fun j => f (i + j)) m ++ ((flatL (fun j => f (i + j)) m ++ Z).drop 36).drop (flatL (fun j => f (i + j)) m).length) = (flatL f i ++ (cs ++ flatL (fun j => f (i + j)) m)) ++ ((flatL (fun j => f (i + j)) m ++ Z).drop 36).drop (flatL (fun j => f (i + j)) m).length := by simp
     rw [e3, List.take_append_of_le_length (by simp only [List.length_append, lX, lY, hl]; omega), List.take_of_length_le (by simp only [List.length_append, lX, lY, hl]; omega)]
    ·have f1 := setCells_frm g (flatL (fun j => f (i + j)) m) ((i + 1) * 36) w.drew
     have f2 := setCells_frm g cs (i * 36) (w.drew.setCells g ((i + 1) * 36) (flatL (fun j => f (i + j)) m))
     have f3 := f1.trans f2
     exact ⟨f3.os, f3.tape, f3.output, f3.size, fun k hk hne => f3.block k hk (fun h => hne (by rw [List.mem_singleton.1 h]; rfl))⟩
   ·refine (insP_grow g (i + m) cap i q f cs w (fun j v hv => ?_) hf hf1 hlt hnc (by omega) hq hl h1 hn).mono ?_
    ·have hj := (List.getElem?_eq_some_iff.1 hv).1
     rw [hown.1] at hj
     rw [← htk, List.getElem?_take, if_pos (by omega), Array.getElem?_toList] at hv
     rw [cell_of_row _ _ _ _ _ _ hg]; exact hv
    ·rintro e w' ⟨G, R, hGn, hGm, hRl, rfl, rfl⟩
     rw [eT, eD]
     have hg0 : ((w.alloc (.cells (flatL f i ++ R).toArray 43)).drew).heap[w.heap.size]? = some (.cells (flatL f i ++ R).toArray 43 (0, 0)) := heap_alloc_new w _
     have s1 := setCells_at w.heap.size cs (i * 36) _ _ _ 43 hg0 lX (by rw [hRl, hl]; omega)
     have s1' : ((((w.alloc (.cells (flatL f i ++ R).toArray 43)).drew).setCells w.heap.size (i * 36) cs).drew).heap[w.heap.size]? = some (.cells ((flatL f i ++ cs) ++ R.drop cs.length).toArray 43 (0, 0)) := s1
     have s2 := setCells_at w.heap.size (flatL (fun j => f (i + j)) m) ((i + 1) * 36) _ _ _ 43 s1' (by simp only [List.length_append, lX, hl]; omega) (by rw [List.length_drop, hRl, lY, hl]; omega)
     refine ⟨_, _, rfl, ⟨?_, .inr ⟨w.heap.size, G, _, rfl, hB, s2, hGn, hGm, ?_, ?_⟩⟩, ?_⟩
     ·rw [insF_mid]
      simp only [List.length_append, lX, lY, hl]
      omega
     ·simp only [List.size_toArray, List.length_append, List.length_drop, lX, lY, hl, hRl]
      omega
     ·rw [insF_mid]
      dsimp only
      rw [List.take_append_of_le_length (by simp only [List.length_append, lX, lY, hl]; omega), List.take_of_length_le (by simp only [List.length_append, lX, lY, hl]; omega), List.append_assoc]
     ·have f1 := setCells_frm w.heap.size cs (i * 36) (w.alloc (.cells (flatL f i ++ R).toArray 43)).drew
      have f2 := setCells_frm w.heap.size (flatL (fun j => f (i + j)) m) ((i + 1) * 36) ((((w.alloc (.cells (flatL f i ++ R).toArray 43)).drew).setCells w.heap.size (i * 36) cs).drew)
      have f3 := (f1.drew).trans f2
      have fA : Below w.heap.size w (w.alloc (.cells (flatL f i ++ R).toArray 43)).drew := ((Below.refl _ w).alloc (Nat.le_refl _) _).drew
      refine ⟨f3.os.trans fA.os, f3.tape.trans fA.tape, f3.output.trans fA.output, Nat.le_trans fA.size f3.size, fun k hk _ => ?_⟩
      rw [f3.block k (by have := fA.size; omega) (by simp; omega)]
      exact fA.block k hk
end Go.Proofs.YtoefgfiabfkfaaaGreatDoor
/- findPay: where an ID is among them. -/
namespace Go.Proofs.YtoefgfiabfkfaaaGreatDoor
open Go.RowKit

def cmpI (x y : Int) : Int := if x < y then -1 else if y < x then 1 else 0
theorem cmpI_neg {x y : Int} : cmpI x y < 0 ↔ x < y := by
 unfold cmpI
 by_cases h : x < y
 ·simp [h]
 ·by_cases h2 : y < x <;> simp [h, h2]
theorem cmpI_zero {x y : Int} : cmpI x y = 0 ↔ x = y := by
 unfold cmpI
 by_cases h : x < y
 ·simp [h]; omega
 ·by_cases h2 : y < x
  ·simp [h, h2]; omega
  ·simp [h, h2]; omega
theorem isNaN_any (x : Int) (w : World) : Calls Tryz.prog 62 #[.int .i64 x] w fun e w' => e = .returned (.bool false) ∧ w' = w := by
 have hx : (x != x) = false := by simp
 go_enter Tryz.func62, Tryz.ntmps62
 go_wp2
 go_ret
 exact ⟨rfl, rfl⟩
set_option maxHeartbeats 800000 in
theorem compare_any (x y : Int) (w : World) : Calls Tryz.prog 42 #[.int .i64 x, .int .i64 y] w fun e w' => e = .returned (.int .i64 (cmpI x y)) ∧ w' = w := by
 have h1 := isNaN_any x
 have h2 := isNaN_any y
 by_cases h : x < y
 ·have e : cmpI x y = -1 := by simp [cmpI, h]
  rw [e]
  go_enter Tryz.func42, Tryz.ntmps42
  go_wp2_with fail
  refine (h1 _).mono ?_
  rintro e w1 ⟨rfl, hw⟩
  rw [hw]
  go_wp2_with fail
  refine (h2 _).mono ?_
  rintro e w2 ⟨rfl, hw2⟩
  rw [hw2]
  clear h1 h2 hw hw2
  go_wp2
  go_ret
  exact ⟨rfl, rfl⟩
 ·by_cases h' : y < x
  ·have e : cmpI x y = 1 := by simp [cmpI, h, h']
   rw [e]
   go_enter Tryz.func42, Tryz.ntmps42
   go_wp2_with fail
   refine (h1 _).mono ?_
   rintro e w1 ⟨rfl, hw⟩
   rw [hw]
   go_wp2_with fail
   refine (h2 _).mono ?_
   rintro e w2 ⟨rfl, hw2⟩
   rw [hw2]
   clear h1 h2 hw hw2
   go_wp2
   go_ret
   exact ⟨rfl, rfl⟩
  ·have e : cmpI x y = 0 := by simp [cmpI, h, h']
   rw [e]
   go_enter Tryz.func42, Tryz.ntmps42
   go_wp2_with fail
   refine (h1 _).mono ?_
   rintro e w1 ⟨rfl, hw⟩
   rw [hw]
   go_wp2_with fail
   refine (h2 _).mono ?_
   rintro e w2 ⟨rfl, hw2⟩
   rw [hw2]
   clear h1 h2 hw hw2
   go_wp2
   go_ret
   exact ⟨rfl, rfl⟩
/-- Numbers that rise. -/
def Srt (f : Nat → Int) (n : Nat) : Prop := ∀ a b, a < b → b < n → f a < f b
/-- Where a number is found. -/
structure FndR (f : Nat → Int) (n : Nat) (x : Int) (i : Nat) (b : Bool) : Prop where
 le : i ≤ n
 hit : b = decide (i < n ∧ f i = x)
 lo : Srt f n → ∀ j, j < i → f j < x
 hi : Srt f n → ∀ j, i ≤ j → j < n → x ≤ f j
def FndO (f : Nat → Int) (n : Nat) (x : Int) (e : Ending) : Prop := ∃ (i : Nat) (b : Bool), e = .returned (.tuple #[.int .i64 (i : Int), .bool b]) ∧ FndR f n x i b
section
variable {ops : Array Oper} {rest : List Oper} {o : Oper} {a : Act} {w : World} {Q : Exit → Act → World → Prop}
/-- A payment loaded, guarded or not. -/
theorem wpList_loadPG (hw : Region.wanted o (yielded ops a.tmps) = true) (x : Operand) (ho : o.op = .load 43 x) (b q : Nat) (hx : a.eval x = .pointer (some ⟨b, q, none⟩)) (z : Py) (hc : w.rangeAt b q (pyl z))
  (h : wpList Tryz.prog ops Q rest (a.put o.dst (.agg (pyv z))) w) : wpList Tryz.prog ops Q (o :: rest) a w :=
 wpList_wanted hw fun _ hK => wp_load_mid 43 x ho b q hx (pyl z) _ hc Tryz.underlying43 rfl (szPl z) (hK _ _ h)
end

set_option maxRecDepth 100000 in
set_option maxHeartbeats 800000 in
theorem cmpP_any (x : Py) (id : Int) (w : World) : Calls Tryz.prog 41 #[.agg (pyv x), .int .i64 id] w fun e w' => e = .returned (.int .i64 (cmpI x.id id)) ∧ Below w.heap.size w w' := by
 have hc := compare_any x.id id
 have hb0 : Below w.heap.size w (w.alloc (.cells (pyv x) 43)) := (Below.refl _ w).alloc (Nat.le_refl _) _
 have c0 : (w.alloc (.cells (pyv x) 43)).cell? ⟨w.heap.size, 0, none⟩ = some (.int .i64 x.id) := by rw [cell_of_row _ _ 0 _ _ _ (heap_alloc_new w _)]; simp [pyv, pyl]
 go_enter Tryz.func41, Tryz.ntmps41
 go_wp2_with (first | (refine Go.Great.wpList_boxTo rfl _ _ rfl _ rfl _ rfl (pyv x) rfl ?_) | fail)
 generalize w.alloc (.cells (pyv x) 43) = W0 at *
 refine (hc _).mono ?_
 rintro e w1 ⟨rfl, hw⟩
 rw [hw]
 clear hc hw
 go_wp2
 go_ret
 exact ⟨rfl, hb0⟩
set_option maxRecDepth 100000 in
set_option maxHeartbeats 3200000 in
theorem bsP_any (ad : Option Addr) (n cap : Nat) (X : Nat → Py) (id : Int) (w : World) (h : PyAt w ad n X) (hn : n ≤ 1000000) :
  Calls Tryz.prog 40 #[.slice ad n cap, .int .i64 id, .func (.func 41) #[] #[]] w fun e w' => FndO (fun j => (X j).id) n id e ∧ Below w.heap.size w w' := by
 have HB : Hid (PyAt w ad n X) := h
 have eg : ∀ args w, (callFunc 41 args).run Tryz.prog w = .ok (.enter 41 args) w := enters_of Tryz.func41 (by kernel_rfl) rfl
 have hb0 := Below.refl w.heap.size w
 clear h
 go_enter Tryz.func40, Tryz.ntmps40
 go_wp2
 go_loopw [9, 10, 11] (fun lv hv _ wr => ∃ lo hi : Nat, lv = .int .i64 lo ∧ hv = .int .i64 hi ∧ lo ≤ hi ∧ hi ≤ n ∧ (Srt (fun j => (X j).id) n → ∀ j, j < lo → (X j).id < id) ∧ (Srt (fun j => (X j).id) n → ∀ j, hi ≤ j → j < n → id ≤ (X j).id) ∧ Below w.heap.size w wr) (fun lv hv _ _ => (intOf hv).toNat - (intOf lv).toNat)
 case atStart => exact ⟨0, n, rfl, rfl, by omega, by omega, fun _ j hj => by omega, fun _ j h1 h2 => by omega, hb0⟩
 case round =>
  clear hb0
  obtain ⟨lo, hi, rfl, rfl, hlh, hin, hA, hZ, hb⟩ := hrel
  have HA : Hid ((Srt (fun j => (X j).id) n → ∀ j, j < lo → (X j).id < id) ∧ (Srt (fun j => (X j).id) n → ∀ j, hi ≤ j → j < n → id ≤ (X j).id)) := ⟨hA, hZ⟩
  clear hA hZ
  by_cases hlt : lo < hi
  ·have hlt' : (lo : Int) < hi := by omega
   obtain ⟨m, hm⟩ : ∃ m : Nat, m = (lo + hi) / 2 := ⟨_, rfl⟩
   have hmi : ((lo : Int) + hi) / 2 = m := by omega
   have hm1 : lo ≤ m ∧ m < hi := by omega
   have hmn : m < n := by omega
   have hmn' : (m : Int) < n := by omega
   obtain ⟨b, off, rfl, hc⟩ := HB.out.at_ (by omega)
   have HR : Hid (wr.rangeAt b (off + m * 36) (pyl (X m))) := range_below (hc m hmn) hb
   have hcall := cmpP_any (X m) id wr
   clear hc hm
   by_cases hq : (X m).id < id
   ·have hq' : cmpI (X m).id id < 0 := cmpI_neg.2 hq
    have HN : Hid ((Srt (fun j => (X j).id) n → ∀ j, j < m + 1 → (X j).id < id) ∧ (Srt (fun j => (X j).id) n → ∀ j, hi ≤ j → j < n → id ≤ (X j).id)) := ⟨fun hs j hj => by
     by_cases e : j = m
     ·rw [e]; exact hq
     ·have := hs j m (by omega) hmn
      dsimp only at this
      omega, HA.out.2⟩
    clear HA hq
    generalize cmpI (X m).id id = cq at *
    go_wp2_with (first | (refine wpList_load_mid rfl 43 _ rfl b (off + m * 36) rfl (pyl (X m)) _ HR.out Tryz.underlying43 rfl (szPl _) ?_) | (refine wpList_loadPG (by rfl) _ rfl b (off + m * 36) rfl (X m) HR.out ?_) | (go_at_fn 41; refine hcall.mono ?_; rintro e w1 ⟨rfl, hb1⟩) | fail)
    go_roundw
    case rel => exact ⟨m + 1, hi, by go_num, rfl, by omega, by omega, HN.out.1, HN.out.2, hb.trans (hb1.mono hb.size)⟩
    case measure => simp [intOf]; omega
   ·have hq' : ¬ cmpI (X m).id id < 0 := fun h => hq (cmpI_neg.1 h)
    have HN : Hid ((Srt (fun j => (X j).id) n → ∀ j, j < lo → (X j).id < id) ∧ (Srt (fun j => (X j).id) n → ∀ j, m ≤ j → j < n → id ≤ (X j).id)) := ⟨HA.out.1, fun hs j h1 h2 => by
     by_cases e : j = m
     ·rw [e]; omega
     ·have := hs m j (by omega) h2
      dsimp only at this
      omega⟩
    clear HA hq
    generalize cmpI (X m).id id = cq at *
    go_wp2_with (first | (refine wpList_load_mid rfl 43 _ rfl b (off + m * 36) rfl (pyl (X m)) _ HR.out Tryz.underlying43 rfl (szPl _) ?_) | (refine wpList_loadPG (by rfl) _ rfl b (off + m * 36) rfl (X m) HR.out ?_) | (go_at_fn 41; refine hcall.mono ?_; rintro e w1 ⟨rfl, hb1⟩) | fail)
    go_roundw
    case rel => exact ⟨lo, m, rfl, rfl, by omega, by omega, HN.out.1, HN.out.2, hb.trans (hb1.mono hb.size)⟩
    case measure => simp [intOf]; omega
  ·have hnl : ¬ ((lo : Int) < hi) := by omega
   obtain rfl : lo = hi := by omega
   by_cases hmn : lo < n
   ·have hmn' : (lo : Int) < n := by omega
    have hm1 : (0 : Int) ≤ lo := by omega
    obtain ⟨b, off, rfl, hc⟩ := HB.out.at_ (by omega)
    obtain ⟨m, hm⟩ : ∃ m : Nat, m = lo := ⟨_, rfl⟩
    subst hm
    have HR : Hid (wr.rangeAt b (off + m * 36) (pyl (X m))) := range_below (hc m hmn) hb
    have hcall := cmpP_any (X m) id wr
    clear hc
    by_cases hq : (X m).id = id
    ·have hq' : cmpI (X m).id id = 0 := cmpI_zero.2 hq
     have HN : Hid (FndR (fun j => (X j).id) n id m true) := ⟨hin, by simp [hmn, hq], HA.out.1, HA.out.2⟩
     clear HA hq
     generalize cmpI (X m).id id = cq at *
     go_wp2_with (first | (refine wpList_load_mid rfl 43 _ rfl b (off + m * 36) rfl (pyl (X m)) _ HR.out Tryz.underlying43 rfl (szPl _) ?_) | (refine wpList_loadPG (by rfl) _ rfl b (off + m * 36) rfl (X m) HR.out ?_) | (go_at_fn 41; refine hcall.mono ?_; rintro e w1 ⟨rfl, hb1⟩) | fail)
     go_ret2
     exact ⟨⟨m, true, rfl, HN.out⟩, hb.trans (hb1.mono hb.size)⟩
    ·have hq' : ¬ cmpI (X m).id id = 0 := fun h => hq (cmpI_zero.1 h)
     have hqb : (cmpI (X m).id id == 0) = false := by simpa using hq'
     have HN : Hid (FndR (fun j => (X j).id) n id m false) := ⟨hin, by simp [hq], HA.out.1, HA.out.2⟩
     clear HA hq hq'
     generalize cmpI (X m).id id = cq at *
     go_wp2_with (first | (refine wpList_load_mid rfl 43 _ rfl b (off + m * 36) rfl (pyl (X m)) _ HR.out Tryz.underlying43 rfl (szPl _) ?_) | (refine wpList_loadPG (by rfl) _ rfl b (off + m * 36) rfl (X m) HR.out ?_) | (go_at_fn 41; refine hcall.mono ?_; rintro e w1 ⟨rfl, hb1⟩) | fail)
     go_ret2
     exact ⟨⟨m, false, rfl, HN.out⟩, hb.trans (hb1.mono hb.size)⟩
   ·have hmn' : ¬ (lo : Int) < n := by omega
    have HN : Hid (FndR (fun j => (X j).id) n id lo false) := ⟨hin, by simp [hmn], HA.out.1, HA.out.2⟩
    clear HA
    go_wp2
    go_ret2
    exact ⟨⟨lo, false, rfl, HN.out⟩, hb⟩
theorem findP_any (ad : Option Addr) (n cap : Nat) (X : Nat → Py) (id : Int) (w : World) (h : PyAt w ad n X) (hn : n ≤ 1000000) :
  Calls Tryz.prog 17 #[.slice ad n cap, .int .i64 id] w fun e w' => FndO (fun j => (X j).id) n id e ∧ Below w.heap.size w w' := by
 have hc := bsP_any ad n cap X id w h hn
 clear h
 go_enter Tryz.func17, Tryz.ntmps17
 go_wp2_with fail
 refine hc.mono ?_
 rintro e w1 ⟨⟨i, b, rfl, hf⟩, hb⟩
 have HF : Hid (FndR (fun j => (X j).id) n id i b) := hf
 clear hc hf
 go_wp2
 go_ret2
 exact ⟨⟨i, b, rfl, HF.out⟩, hb⟩
end Go.Proofs.YtoefgfiabfkfaaaGreatDoor
