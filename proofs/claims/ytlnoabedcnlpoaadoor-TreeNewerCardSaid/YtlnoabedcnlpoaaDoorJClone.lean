/- slices.Clone of a path; slices.Backward over one. -/
import Derived.Test.YtlnoabedcnlpoaaDoorJIow
import Derived.RangeFuncNested
import Derived.RangeFuncBound
import Derived.RangeFuncCalls
import Derived.RangeFuncLeaves
import Derived.Shelf.Abstract
import Derived.Shelf.RegionOpen
import Derived.WalkKit
import Derived.OwnWalkIn
import Derived.TacticsInMore
import Derived.LoopNIn
import Derived.LoopIn
namespace Go.Proofs.YtlnoabedcnlpoaaDoor
open Go.RowKit Go.Shelf

attribute [local go_sem] Oper.semAt_some

theorem neNilP (a : Addr) (n c : Nat) (w : World) : (binOp .eql 34 (.slice (some a) n c) (.slice none 0 0)).run Tryd.prog w = .ok (.bool false) w := by kernel_rfl
set_option maxRecDepth 100000 in
set_option maxHeartbeats 800000 in
theorem clone_any (ad : Option Addr) (n cap : Nat) (z : Nat → Int) (w : World) (h : IsAt w ad n z) (h1 : 1 ≤ n) (hn : n ≤ 1000000) :
    Calls Tryd.prog 25 #[.slice ad n cap] w fun e w' => ∃ v, e = .returned v ∧ IOw w w' v (keysL z n) := by
  have hs := src_of (sc := cap) h
  obtain ⟨b, off, rfl, hc⟩ := h (by omega)
  have N1 := new_alloc w #[] 3
  have HO := hidV (IOw.fresh (Below.refl _ w) N1)
  have HU := hidV (hs.below N1.below)
  have hne := neNilP ⟨b, off, none⟩ n cap w
  clear hs hc h N1
  go_enter Tryd.func25, Tryd.ntmps25
  go_wp2_with (at_builtin; refine wpList_append_I underP rfl _ _ rfl w _ _ [] (keysL z n) rfl rfl HO.out HU.out (by simp [keysL_length]; omega) ?_; intro v' w1 hO1 hk1; have HR := hidV hO1; clear hO1 hk1)
  go_ret
  exact ⟨_, rfl, by simpa using HR.out⟩

/-- The k greatest ranks, the greatest first. -/
def dn (n k : Nat) : List Nat := (List.range k).map fun i => n - 1 - i
theorem dn_length (n k : Nat) : (dn n k).length = k := by simp [dn]
theorem dn_succ (n k : Nat) : dn n (k + 1) = dn n k ++ [n - 1 - k] := by simp [dn, List.range_succ]
theorem dn_mem {n k j : Nat} (hk : k ≤ n) : j ∈ dn n k ↔ n - k ≤ j ∧ j < n := by
  simp only [dn, List.mem_map, List.mem_range]
  constructor
  · rintro ⟨i, hi, rfl⟩; omega
  · rintro ⟨h1, h2⟩; exact ⟨n - 1 - j, by omega, by omega⟩
/-- What a round is handed. -/
def encP (z : Nat → Int) {n : Nat} (x : Fin n) : Array Value := #[.int .i64 (x.val : Int), .int .i64 (z x.val)]
/-- What a round may not change: what is older, and one block. -/
def Kp (n₀ B : Nat) (X Y : World) : Prop := Below n₀ X Y ∧ Y.heap[B]? = X.heap[B]?
theorem kp_refl (n₀ B : Nat) (X : World) : Kp n₀ B X X := ⟨Below.refl _ _, rfl⟩
theorem kp_t {n₀ B : Nat} {X Y Z : World} (h : Kp n₀ B X Y) (k : Kp n₀ B Y Z) : Kp n₀ B X Z := ⟨h.1.trans k.1, k.2.trans h.2⟩
theorem kp_b {n₀ B : Nat} {w : World} (hn : n₀ ≤ w.heap.size) (hB : B < w.heap.size) (W : World) (l : Nat) (o o' : Obj) (hl : w.heap.size ≤ l) (h : W.heap[l]? = some o) (h1 : o.isCells = false) (h2 : o.isWalk = false) : Kp n₀ B W (W.putObj l o') :=
  ⟨belowK_b hn W l o o' hl h h1 h2, (grownBy_putObj' W l o').block B (by have := (Array.getElem?_eq_some_iff.1 h).1; omega) (fun e => by cases e; omega)⟩
set_option maxRecDepth 100000 in
set_option maxHeartbeats 2000000 in
theorem back1_in (F : Fence) (m : Nat) (h22 : F.fn 37) (hro : F.round = none) (hn : 1 ≤ m) (l B n₀ b off n cap : Nat) (z : Nat → Int) (hreach : n ≤ 1000000) (hb : b < n₀) (J Jx : List (Fin n) → World → Prop)
    (hY : ∀ pre x W, J pre W → pre.length < n → YieldAt F (m - 1) Tryd.prog l (encP z x) W fun e W' =>
      (e = .returned (.bool true) ∧ J (pre ++ [x]) W' ∧ Kp n₀ B W W') ∨ (e = .returned (.bool false) ∧ Jx (pre ++ [x]) W'))
    (W : World) (hBs : W.cell? ⟨B, 0, none⟩ = some (.slice (some ⟨b, off, none⟩) n cap)) (hc : ∀ j, j < n → W.cell? ⟨b, off + j, none⟩ = some (.int .i64 (z j))) (h0 : J [] W) :
    CallsIn F m Tryd.prog 37 #[.func (.yield l) #[] #[], .pointer (some ⟨B, 0, none⟩)] W fun e W' => (∃ v, e = .returned v) ∧
      ((∃ ys : List (Fin n), ys.map Fin.val = dn n n ∧ J ys W') ∨ (∃ pre : List (Fin n), (∃ k, k ≤ n ∧ pre.map Fin.val = dn n k) ∧ Jx pre W')) := by
  refine callsIn_of_wp Tryd.func37 rfl h22 ?_ hro
  simp only [Tryd.ntmps37, List.size_toArray, List.length_cons, List.length_nil, Nat.reduceAdd, Nat.reduceSub, Array.replicate_succ, Array.replicate_zero, List.push_toArray, List.append_toArray, List.nil_append, List.cons_append]
  have hw0 : IntKind.i64.wrap ((n : Int) - 1) = (n : Int) - 1 := by rw [IntKind.wrap_i64]; omega
  gi_wp2
  gi_loopw [3] (fun i wr => ∃ (r : Nat) (pre : List (Fin n)), r ≤ n ∧ i = .int .i64 ((r : Int) - 1) ∧ pre.map Fin.val = dn n (n - r) ∧ J pre wr ∧ Kp n₀ B W wr)
    (fun i _ => (intOf i + 1).toNat)
  case atStart => exact ⟨n, [], Nat.le_refl _, rfl, by simp [dn], h0, kp_refl _ _ _⟩
  case round =>
    obtain ⟨r, pre, hr, rfl, hpre, hJs, hnx⟩ := hrel
    have hB' : wr.cell? ⟨B, 0, none⟩ = some (.slice (some ⟨b, off, none⟩) n cap) := (World.cell?_of_block (a := ⟨B, 0, none⟩) hnx.2).trans hBs
    cases r with
    | zero =>
      have hm : ¬ (0 ≤ ((0 : Nat) : Int) - 1) := by omega
      gi_wp2
      go_end0
      exact ⟨⟨_, rfl⟩, .inl ⟨pre, by simpa using hpre, hJs⟩⟩
    | succ q =>
      have hql : q < n := by omega
      have hqi : ((q + 1 : Nat) : Int) - 1 = (q : Int) := by omega
      rw [hqi]
      have c0 := (hnx.1.cell (p := ⟨b, off + q, none⟩) hb).trans (hc q hql)
      have hpl : pre.length < n := by have := congrArg List.length hpre; simp [dn_length] at this; omega
      obtain ⟨fn, tmps, assign, body, hy, hR⟩ := hY pre ⟨q, hql⟩ wr hJs hpl
      have hnext : (pre ++ [(⟨q, hql⟩ : Fin n)]).map Fin.val = dn n (n - q) := by
        rw [show n - q = n - (q + 1) + 1 by omega, dn_succ, List.map_append, hpre]
        simp only [List.map_cons, List.map_nil]
        rw [show n - 1 - (n - (q + 1)) = q by omega]
      unfold encP at hy
      dsimp only at hy
      have hqI : (q : Int) < n := by omega
      have hq0 : (0 : Int) ≤ q := by omega
      have hw1 : IntKind.i64.wrap ((q : Int) - 1) = (q : Int) - 1 := by rw [IntKind.wrap_i64]; omega
      clear hc hpre
      gi_wp2
      refine hR.mono ?_
      rintro e W3 (⟨rfl, hJ3, hk3⟩ | ⟨rfl, hJx3⟩)
      · gi_wp2
        go_roundw
        case rel => exact ⟨q, pre ++ [⟨q, hql⟩], by omega, rfl, hnext, hJ3, kp_t hnx hk3⟩
        case measure => simp [intOf]
      · gi_wp2
        refine bodyPost_ret (results_none rfl _ _ _) rfl ?_
        exact ⟨⟨_, rfl⟩, .inr ⟨_, ⟨n - q, by omega, hnext⟩, hJx3⟩⟩
set_option maxHeartbeats 1000000 in
theorem back_in (F : Fence) (m : Nat) (h21 : F.fn 26) (hro : F.round = none) (a : Option Addr) (len cap : Nat) (w : World) :
    CallsIn F m Tryd.prog 26 #[.slice a len cap] w fun e w' => e = .returned (.func (.func 37) #[] #[.pointer (some ⟨w.heap.size, 0, none⟩)]) ∧ w' = w.alloc (.cells #[.slice a len cap] 34) := by
  refine callsIn_of_wp Tryd.func26 rfl h21 ?_ hro
  simp only [Tryd.ntmps26, List.size_toArray, List.length_cons, List.length_nil, Nat.reduceAdd, Nat.reduceSub, Array.replicate_succ, Array.replicate_zero, List.push_toArray, List.append_toArray, List.nil_append, List.cons_append]
  gi_wp2
  go_ret
  exact ⟨rfl, rfl⟩
theorem back_stops (F : Fence) (m : Nat) (h22 : F.fn 37) (hro : F.round = none) (hn : 1 ≤ m) (B n₀ b off n cap : Nat) (z : Nat → Int) (hreach : n ≤ 1000000) (w : World) (hB : B < w.heap.size) (hb : b < n₀) (hn0 : n₀ ≤ w.heap.size)
    (hBs : w.cell? ⟨B, 0, none⟩ = some (.slice (some ⟨b, off, none⟩) n cap)) (hc : ∀ j, j < n → w.cell? ⟨b, off + j, none⟩ = some (.int .i64 (z j))) :
    SeqStopsK F m Tryd.prog 37 #[.pointer (some ⟨B, 0, none⟩)] (encP z (n := n)) (Kp n₀ B) (fun ys => ys.map Fin.val = dn n n)
      (fun pre => ∃ k, k ≤ n ∧ pre.map Fin.val = dn n k) n w := fun l J Jx W hW _ _ hY h0 =>
  back1_in F m h22 hro hn l B n₀ b off n cap z hreach hb J Jx hY W ((hW.cell (p := ⟨B, 0, none⟩) hB).trans hBs) (fun j hj => (hW.cell (p := ⟨b, off + j, none⟩) (by show b < _; omega)).trans (hc j hj)) h0
end Go.Proofs.YtlnoabedcnlpoaaDoor
