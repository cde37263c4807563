/- Going over the loose writes backwards. -/
import Derived.RangeFuncNested
import Derived.RangeFuncBound
import Derived.RangeFuncCalls
import Derived.RangeFuncLeaves
import Derived.Shelf.Abstract
import Derived.Shelf.RegionOpen
import Derived.WalkKit
import Derived.OwnWalkIn
import Derived.TacticsInMore
import Derived.LoopNIn
import Derived.LoopIn
import Derived.Test.YtidmpblaeohfaaaGreatDoorPSettleW
import Derived.Test.YtidmpblaeohfaaaGreatDoorPWriteW
namespace Go.Proofs.YtidmpblaeohfaaaGreatDoor
open Go.RowKit Go.Shelf

attribute [local go_sem] Oper.semAt_some

/-- What a round is handed. -/
def encW (x : Nat × Int × Bs) : Array Value := #[.int .i64 (x.1 : Int), .agg #[.int .i64 x.2.1, .slice x.2.2.ad x.2.2.l.length x.2.2.cap]]
theorem drop_rev {L : List (Int × Bs)} {m : Nat} (h : m < L.length) : (L.drop m).reverse = (L.drop (m + 1)).reverse ++ [L[m]] := by
  rw [List.drop_eq_getElem_cons h, List.reverse_cons]
set_option maxRecDepth 100000 in
set_option maxHeartbeats 2000000 in
theorem back1_in (F : Fence) (n : Nat) (h22 : F.fn 116) (hro : F.round = none) (hn : 1 ≤ n) (l B n₀ g cap : Nat) (L : List (Int × Bs)) (hreach : L.length ≤ 1000000) (hb : g < n₀) (hBn : B < n₀) (J Jx : List (Nat × Int × Bs) → World → Prop)
    (hY : ∀ pre x W, J pre W → pre.length < L.length → YieldAt F (n - 1) Tryz.prog l (encW x) W fun e W' =>
      (e = .returned (.bool true) ∧ J (pre ++ [x]) W' ∧ Below n₀ W W') ∨ (e = .returned (.bool false) ∧ Jx (pre ++ [x]) W'))
    (W : World) (hBs : W.cell? ⟨B, 0, none⟩ = some (.slice (some ⟨g, 0, none⟩) L.length cap)) (hc : ∀ j u, (flatW L)[j]? = some u → W.cell? ⟨g, j, none⟩ = some u) (h0 : J [] W) :
    CallsIn F n Tryz.prog 116 #[.func (.yield l) #[] #[], .pointer (some ⟨B, 0, none⟩)] W fun e W' => (∃ v, e = .returned v) ∧
      ((∃ ys, ys.map Prod.snd = L.reverse ∧ J ys W') ∨ (∃ pre, (∃ r, r ≤ L.length ∧ pre.map Prod.snd = (L.drop r).reverse) ∧ Jx pre W')) := by
  refine callsIn_of_wp Tryz.func116 rfl h22 ?_ hro
  simp only [Tryz.ntmps116, List.size_toArray, List.length_cons, List.length_nil, Nat.reduceAdd, Nat.reduceSub, Array.replicate_succ, Array.replicate_zero, List.push_toArray, List.append_toArray, List.nil_append, List.cons_append]
  have hw0 : IntKind.i64.wrap ((L.length : Int) - 1) = (L.length : Int) - 1 := by rw [IntKind.wrap_i64]; omega
  gi_wp2
  gi_loopw [3] (fun i wr => ∃ (r : Nat) (pre : List (Nat × Int × Bs)), r ≤ L.length ∧ i = .int .i64 ((r : Int) - 1) ∧ pre.map Prod.snd = (L.drop r).reverse ∧ J pre wr ∧ Below n₀ W wr)
    (fun i _ => (intOf i + 1).toNat)
  case atStart => exact ⟨L.length, [], Nat.le_refl _, by simp, by simp, h0, Below.refl _ _⟩
  case round =>
    obtain ⟨r, pre, hr, rfl, hpre, hJs, hnx⟩ := hrel
    have hB' : wr.cell? ⟨B, 0, none⟩ = some (.slice (some ⟨g, 0, none⟩) L.length cap) := (hnx.cell (p := ⟨B, 0, none⟩) hBn).trans hBs
    cases r with
    | zero =>
      have hm : ¬ (0 ≤ ((0 : Nat) : Int) - 1) := by omega
      gi_wp2
      go_end0
      exact ⟨⟨_, rfl⟩, .inl ⟨pre, by simpa using hpre, hJs⟩⟩
    | succ m =>
      have hml : m < L.length := by omega
      have hmi : ((m + 1 : Nat) : Int) - 1 = (m : Int) := by omega
      rw [hmi]
      have c0 := (hnx.cell (p := ⟨g, m * 2, none⟩) hb).trans (hc _ _ (flatW_at0 L m L[m] (getL hml)))
      have c1 := (hnx.cell (p := ⟨g, m * 2 + 1, none⟩) hb).trans (hc _ _ (flatW_at1 L m L[m] (getL hml)))
      have hpl : pre.length < L.length := by have := congrArg List.length hpre; simp at this; omega
      obtain ⟨fn, tmps, assign, body, hy, hR⟩ := hY pre (m, L[m]) wr hJs hpl
      have hnext : (pre ++ [(m, L[m])]).map Prod.snd = (L.drop m).reverse := by rw [drop_rev hml, List.map_append, hpre]; rfl
      unfold encW at hy
      unfold Bs.v at c1
      dsimp only at hy c1
      generalize L[m] = x at *
      have hmI : (m : Int) < L.length := by omega
      have hm0 : (0 : Int) ≤ m := by omega
      have hw1 : IntKind.i64.wrap ((m : Int) - 1) = (m : Int) - 1 := by rw [IntKind.wrap_i64]; omega
      clear hc hpre
      gi_wp2
      refine hR.mono ?_
      rintro e W3 (⟨rfl, hJ3, hk3⟩ | ⟨rfl, hJx3⟩)
      · gi_wp2
        go_roundw
        case rel => exact ⟨m, pre ++ [(m, x)], by omega, by simp, hnext, hJ3, hnx.trans hk3⟩
        case measure => simp [intOf]
      · gi_wp2
        refine bodyPost_ret (results_none rfl _ _ _) rfl ?_
        exact ⟨⟨_, rfl⟩, .inr ⟨_, ⟨m, by omega, hnext⟩, hJx3⟩⟩
set_option maxRecDepth 100000 in
set_option maxHeartbeats 1000000 in
theorem back1_nil_in (F : Fence) (n : Nat) (h22 : F.fn 116) (hro : F.round = none) (l B : Nat) (J : List (Nat × Int × Bs) → World → Prop) (W : World) (hBs : W.cell? ⟨B, 0, none⟩ = some (.slice none 0 0)) (h0 : J [] W) :
    CallsIn F n Tryz.prog 116 #[.func (.yield l) #[] #[], .pointer (some ⟨B, 0, none⟩)] W fun e W' => (∃ v, e = .returned v) ∧ J [] W' := by
  refine callsIn_of_wp Tryz.func116 rfl h22 ?_ hro
  simp only [Tryz.ntmps116, List.size_toArray, List.length_cons, List.length_nil, Nat.reduceAdd, Nat.reduceSub, Array.replicate_succ, Array.replicate_zero, List.push_toArray, List.append_toArray, List.nil_append, List.cons_append]
  gi_wp2
  gi_loopw [3] (fun i wr => i = .int .i64 (-1) ∧ J [] wr) (fun _ _ => 0)
  case atStart => exact ⟨rfl, h0⟩
  case round =>
    obtain ⟨rfl, hJs⟩ := hrel
    gi_wp2
    go_end0
    exact ⟨⟨_, rfl⟩, hJs⟩
set_option maxHeartbeats 1000000 in
theorem back_in (F : Fence) (n : Nat) (h21 : F.fn 88) (hro : F.round = none) (a : Option Addr) (len cap : Nat) (w : World) :
    CallsIn F n Tryz.prog 88 #[.slice a len cap] w fun e w' => e = .returned (.func (.func 116) #[] #[.pointer (some ⟨w.heap.size, 0, none⟩)]) ∧ w' = w.alloc (.cells #[.slice a len cap] 73) := by
  refine callsIn_of_wp Tryz.func88 rfl h21 ?_ hro
  simp only [Tryz.ntmps88, List.size_toArray, List.length_cons, List.length_nil, Nat.reduceAdd, Nat.reduceSub, Array.replicate_succ, Array.replicate_zero, List.push_toArray, List.append_toArray, List.nil_append, List.cons_append]
  gi_wp2
  go_ret
  exact ⟨rfl, rfl⟩
theorem back_stops (F : Fence) (n : Nat) (h22 : F.fn 116) (hro : F.round = none) (hn : 1 ≤ n) (B n₀ : Nat) (lo : Value) (L : List (Int × Bs)) (hreach : L.length ≤ 1000000) (w : World) (hB : B < w.heap.size) (hBn : B < n₀)
    (hc : w.cell? ⟨B, 0, none⟩ = some lo) (hI : w.ownsRow 0 79 2 lo L.length (flatW L)) (hlo : ∀ k, lo.ownBlock = some k → k < n₀) :
    SeqStopsK F n Tryz.prog 116 #[.pointer (some ⟨B, 0, none⟩)] encW (Below n₀) (fun ys => ys.map Prod.snd = L.reverse)
      (fun pre => ∃ r, r ≤ L.length ∧ pre.map Prod.snd = (L.drop r).reverse) L.length w := fun l J Jx W hW _ _ hY h0 => by
  have hc' := (hW.cell (p := ⟨B, 0, none⟩) hB).trans hc
  rcases hI.2 with ⟨rfl, e⟩ | ⟨g, cap, cur, rfl, hb, hg, rest⟩
  · have : L = [] := List.eq_nil_of_length_eq_zero e
    subst this
    exact (back1_nil_in F n h22 hro l B J W hc' h0).mono fun e W' ⟨he, hj⟩ => ⟨he, .inl ⟨_, rfl, hj⟩⟩
  · refine back1_in F n h22 hro hn l B n₀ g cap L hreach (hlo g rfl) hBn J Jx hY W hc' (fun j u hu => ?_) h0
    have h1 := hI.cells (g := g) rfl j u hu
    rw [Addr.add_lit, Nat.zero_add] at h1
    rw [hW.cell (p := ⟨g, j, none⟩) (lt_of_block hg)]; exact h1
end Go.Proofs.YtidmpblaeohfaaaGreatDoor
