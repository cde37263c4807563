/- Going over the loose writes backwards. -/
import Derived.RangeFuncNested
import Derived.RangeFuncBound
import Derived.RangeFuncCalls
import Derived.RangeFuncLeaves
import Derived.Shelf.Abstract
import Derived.Shelf.RegionOpen
import Derived.WalkKit
import Derived.OwnWalkIn
import Derived.TacticsInMore
import Derived.LoopNIn
import Derived.LoopIn
import Derived.Test.YtbfajoeilpkofaaGreatDoorOwnShelf14
import Derived.Test.YtbfajoeilpkofaaGreatDoorOwnShelf15
namespace Go.Proofs.YtbfajoeilpkofaaGreatDoor
open Go.RowKit Go.Shelf

attribute [local go_sem] Oper.semAt_some

/-- What a round is handed. -/
def encW (x : Nat × Int × Bs) : Array Value := #[.int .i64 (x.1 : Int), .agg #[.int .i64 x.2.1, .slice x.2.2.ad x.2.2.l.length x.2.2.cap]]
theorem drop_rev {L : List (Int × Bs)} {m : Nat} (h : m < L.length) : (L.drop m).reverse = (L.drop (m + 1)).reverse ++ [L[m]] := by
  rw [List.drop_eq_getElem_cons h, List.reverse_cons]
set_option maxRecDepth 100000 in
set_option maxHeartbeats 2000000 in
theorem back1_in (F : Fence) (n : Nat) (h22 : F.fn 116) (hro : F.round = none) (hn : 1 ≤ n) (l B n₀ g cap : Nat) (L : List (Int × Bs)) (hreach : L.length ≤ 1000000) (hb : g < n₀) (hBn : B < n₀) (J Jx : List (Nat × Int × Bs) → World → Prop)
    (hY : ∀ pre x W, J pre W → pre.length < L.length → YieldAt F (n - 1) Tryz.prog l (encW x) W fun e W' =>
      (e = .returned (.bool true) ∧ J (pre ++ [x]) W' ∧ Below n₀ W W') ∨ (e = .returned (.bool false) ∧ Jx (pre ++ [x]) W'))
    (W : World) (hBs : W.cell? ⟨B, 0, none⟩ = some (.slice (some ⟨g, 0, none⟩) L.length cap)) (hc : ∀ j u, (flatW L)[j]? = some u → W.cell? ⟨g, j, none⟩ = some u) (h0 : J [] W) :
    CallsIn F n Tryz.prog 116 #[.func (.yield l) #[] #[], .pointer (some ⟨B, 0, none⟩)] W fun e W' => (∃ v, e = .returned v) ∧
      ((∃ ys, ys.map Prod.snd = L.reverse ∧ J ys W') ∨ (∃ pre, (∃ r, r ≤ L.length ∧ pre.map Prod.snd = (L.drop r).reverse) ∧ Jx pre W')) := by
  refine callsIn_of_wp Tryz.func116 rfl h22 ?_ hro
  simp only [Tryz.ntmps116, List.size_toArray, List.length_cons, List.length_nil, Nat.reduceAdd, Nat.reduceSub, Array.replicate_succ, Array.replicate_zero, List.push_toArray, List.append_toArray, List.nil_append, List.cons_append]
  have hw0 : IntKind.i64.wrap ((L.length : Int) - 1) = (L.length : Int) - 1 := by rw [IntKind.wrap_i64]; omega
  gi_wp2
  gi_loopw [3] (fun i wr => ∃ (r : Nat) (pre : List (Nat × Int × Bs)), r ≤ L.length ∧ i = .int .i64 ((r : Int) - 1) ∧ pre.map Prod.snd = (L.drop r).reverse ∧ J pre wr ∧ Below n₀ W wr)
    (fun i _ => (intOf i + 1).toNat)
  case atStart => exact ⟨L.length, [], Nat.le_refl _, by simp, by simp, h0, Below.refl _ _⟩
  case round =>
    obtain ⟨r, pre, hr, rfl, hpre, hJs, hnx⟩ := hrel
    have hB' : wr.cell? ⟨B, 0, none⟩ = some (.slice (some ⟨g, 0, none⟩) L.length cap) := (hnx.cell (p := ⟨B, 0, none⟩) hBn).trans hBs
    cases r with
    | zero =>
      have hm : ¬ (0 ≤ ((0 : Nat) : Int) - 1) := by omega
      gi_wp2
      go_end0
      exact ⟨⟨_, rfl⟩, .inl ⟨pre, by simpa using hpre, hJs⟩⟩
    | succ m =>
      have hml : m < L.length := by omega
      have hmi : ((m + 1 : Nat) : Int) - 1 = (m : Int) := by omega
      rw [hmi]
      have c0 := (hnx.cell (p := ⟨g, m * 2, none⟩) hb).trans (hc _ _ (flatW_at0 L m L[m] (getL hml)))
      have c1 := (hnx.cell (p := ⟨g, m * 2 + 1, none⟩) hb).trans (hc _ _ (flatW_at1 L m L[m] (getL hml)))
      have hpl : pre.length < L.length := by have := congrArg List.length hpre; simp at this; omega
      obtain ⟨fn, tmps, assign, body, hy, hR⟩ := hY pre (m, L[m]) wr hJs hpl
      have hnext : (pre ++ [(m, L[m])]).map Prod.snd = (L.drop m).reverse := by rw [drop_rev hml, List.map_append, hpre]; rfl
      unfold encW at hy
      unfold Bs.v at c1
      dsimp only at hy c1
      generalize L[m] = x at *
      have hmI : (m : Int) < L.length := by omega
      have hm0 : (0 : Int) ≤ m := by omega
      have hw1 : IntKind.i64.wrap ((m : Int) - 1) = (m : Int) - 1 := by rw [IntKind.wrap_i64]; omega
      clear hc hpre
      gi_wp2
      refine hR.mono ?_
      rintro e W3 (⟨rfl, hJ3, hk3⟩ | ⟨rfl, hJx3⟩)
      · gi_wp2
        go_roundw
        case rel => exact ⟨m, pre ++ [(m, x)], by omega, by simp, hnext, hJ3, hnx.trans hk3⟩
        case measure => simp [intOf]
      · gi_wp2
        refine bodyPost_ret (results_none rfl _ _ _) rfl ?_
        exact ⟨⟨_, rfl⟩, .inr ⟨_, ⟨m, by omega, hnext⟩, hJx3⟩⟩
set_option maxRecDepth 100000 in
set_option maxHeartbeats 1000000 in
theorem back1_nil_in (F : Fence) (n : Nat) (h22 : F.fn 116) (hro : F.round = none) (l B : Nat) (J : List (Nat × Int × Bs) → World → Prop) (W : World) (hBs : W.cell? ⟨B, 0, none⟩ = some (.slice none 0 0)) (h0 : J [] W) :
    CallsIn F n Tryz.prog 116 #[.func (.yield l) #[] #[], .pointer (some ⟨B, 0, none⟩)] W fun e W' => (∃ v, e = .returned v) ∧ J [] W' := by
  refine callsIn_of_wp Tryz.func116 rfl h22 ?_ hro
  simp only [Tryz.ntmps116, List.size_toArray, List.length_cons, List.length_nil, Nat.reduceAdd, Nat.reduceSub, Array.replicate_succ, Array.replicate_zero, List.push_toArray, List.append_toArray, List.nil_append, List.cons_append]
  gi_wp2
  gi_loopw [3] (fun i wr => i = .int .i64 (-1) ∧ J [] wr) (fun _ _ => 0)
  case atStart => exact ⟨rfl, h0⟩
  case round =>
    obtain ⟨rfl, hJs⟩ := hrel
    gi_wp2
    go_end0
    exact ⟨⟨_, rfl⟩, hJs⟩
set_option maxHeartbeats 1000000 in
theorem back_in (F : Fence) (n : Nat) (h21 : F.fn 88) (hro : F.round = none) (a : Option Addr) (len cap : Nat) (w : World) :
    CallsIn F n Tryz.prog 88 #[.slice a len cap] w fun e w' => e = .returned (.func (.func 116) #[] #[.pointer (some ⟨w.heap.size, 0, none⟩)]) ∧ w' = w.alloc (.cells #[.slice a len cap] 73) := by
  refine callsIn_of_wp Tryz.func88 rfl h21 ?_ hro
  simp only [Tryz.ntmps88, List.size_toArray, List.length_cons, List.length_nil, Nat.reduceAdd, Nat.reduceSub, Array.replicate_succ, Array.replicate_zero, List.push_toArray, List.append_toArray, List.nil_append, List.cons_append]
  gi_wp2
  go_ret
  exact ⟨rfl, rfl⟩
theorem back_stops (F : Fence) (n : Nat) (h22 : F.fn 116) (hro : F.round = none) (hn : 1 ≤ n) (B n₀ : Nat) (lo : Value) (L : List (Int × Bs)) (hreach : L.length ≤ 1000000) (w : World) (hB : B < w.heap.size) (hBn : B < n₀)
    (hc : w.cell? ⟨B, 0, none⟩ = some lo) (hI : w.ownsRow 0 79 2 lo L.length (flatW L)) (hlo : ∀ k, lo.ownBlock = some k → k < n₀) :
    SeqStopsK F n Tryz.prog 116 #[.pointer (some ⟨B, 0, none⟩)] encW (Below n₀) (fun ys => ys.map Prod.snd = L.reverse)
      (fun pre => ∃ r, r ≤ L.length ∧ pre.map Prod.snd = (L.drop r).reverse) L.length w := fun l J Jx W hW _ _ hY h0 => by
  have hc' := (hW.cell (p := ⟨B, 0, none⟩) hB).trans hc
  rcases hI.2 with ⟨rfl, e⟩ | ⟨g, cap, cur, rfl, hb, hg, rest⟩
  · have : L = [] := List.eq_nil_of_length_eq_zero e
    subst this
    exact (back1_nil_in F n h22 hro l B J W hc' h0).mono fun e W' ⟨he, hj⟩ => ⟨he, .inl ⟨_, rfl, hj⟩⟩
  · refine back1_in F n h22 hro hn l B n₀ g cap L hreach (hlo g rfl) hBn J Jx hY W hc' (fun j u hu => ?_) h0
    have h1 := hI.cells (g := g) rfl j u hu
    rw [Addr.add_lit, Nat.zero_add] at h1
    rw [hW.cell (p := ⟨g, j, none⟩) (lt_of_block hg)]; exact h1
end Go.Proofs.YtbfajoeilpkofaaGreatDoor
/- A page as it was written last. -/
namespace Go.Proofs.YtbfajoeilpkofaaGreatDoor
open Go.RowKit Go.Shelf

attribute [local go_sem] Oper.semAt_some

/-- A page as it was written last, safe or not. -/
def lastB (S : St) (pg : Int) : Bs := match S.loose.reverse.find? (fun x => x.1 == pg) with
  | some x => x.2
  | none => (S.safe[pg.toNat]?).getD nilBs
theorem lastB_none {S : St} {pg : Int} (h : ∀ x ∈ S.loose, x.1 ≠ pg) : lastB S pg = (S.safe[pg.toNat]?).getD nilBs := by
  have : S.loose.reverse.find? (fun x => x.1 == pg) = none := by
    rw [List.find?_eq_none]
    intro x hx
    simpa using h x (by simpa using hx)
  rw [lastB, this]
theorem lastB_some {S : St} {pg : Int} {r : Nat} {ini : List (Int × Bs)} {x : Int × Bs} (h : ini ++ [x] = (S.loose.drop r).reverse) (h1 : ∀ y ∈ ini, y.1 ≠ pg) (h2 : x.1 = pg) : lastB S pg = x.2 := by
  have e : S.loose.reverse = (ini ++ [x]) ++ (S.loose.take r).reverse := by rw [h, ← List.reverse_append, List.take_append_drop]
  have hf : S.loose.reverse.find? (fun x => x.1 == pg) = some x := by
    rw [e, List.find?_append, List.find?_append]
    have : ini.find? (fun x => x.1 == pg) = none := by
      rw [List.find?_eq_none]; intro y hy; simpa using h1 y hy
    rw [this]
    simp [h2]
  rw [lastB, hf]
theorem two_own {B Bx : Nat} {a b : Value} {t : TypeId} : OwnFrom B (fun (_ : Unit) (W : World) => W.heap[Bx]? = some (.cells #[a, b] t (0, 0))) := fun _ X Y row hs hg hr => by
  dsimp only at hs ⊢
  rw [hg.block Bx (lt_of_block hs) (fun e => by
    obtain ⟨_, o, ho, hc⟩ := hr Bx e.symm
    rw [hs] at ho
    cases ho
    cases hc)]
  exact hs
set_option maxRecDepth 100000 in
set_option maxHeartbeats 2000000 in
theorem last_in (Fc : Fence) (n : Nat) (hL : Fc.fn 54) (h21 : Fc.fn 88) (h22 : Fc.fn 116) (hro : Fc.round = none) (hn : 3 ≤ n) (p q : Nat) (lo : Value) (F : Nat → Prop) (S : St) (pg : Int) (w : World) (h : St0 w p q lo F S) (hp : 0 ≤ pg ∧ pg < S.safe.length) :
    CallsIn Fc n Tryz.prog 54 #[.pointer (some ⟨p, 0, none⟩), .int .i64 pg] w fun e W' => e = .returned (lastB S pg).v ∧ Below w.heap.size w W' := by
  have h1 : 1 ≤ n := by omega
  have hc1 := h.c1
  have hc0 := h.c0
  have lp := h.lt (k := p) (.inl rfl)
  obtain ⟨lad, lcap, rfl⟩ := h.lform
  refine callsIn_of_wp_marks Tryz.func54 rfl hL ?_ hro
  simp only [Tryz.ntmps54, List.size_toArray, List.length_cons, List.length_nil, Nat.reduceAdd, Nat.reduceSub, Array.replicate_succ, Array.replicate_zero, List.push_toArray, List.append_toArray, List.nil_append, List.cons_append]
  gi_wp2_with (gi_at_call 88; refine (back_in Fc (n - 1) h21 hro _ _ _ _).mono ?_; rintro e w' ⟨rfl, rfl⟩)
  have bP := ((Boxed.new w 3 (.int .i64 pg)).alloc (.cells #[.slice none 0 0] 29)).alloc (.cells #[.slice lad S.loose.length lcap] 73)
  have bR := (Boxed.new (w.alloc (.cells #[.int .i64 pg] 3)) 29 (.slice none 0 0)).alloc (.cells #[.slice lad S.loose.length lcap] 73)
  have bN := Boxed.new ((w.alloc (.cells #[.int .i64 pg] 3)).alloc (.cells #[.slice none 0 0] 29)) 73 (.slice lad S.loose.length lcap)
  simp only [World.size_alloc] at bR bN
  have hB0 : Below w.heap.size w (((w.alloc (.cells #[.int .i64 pg] 3)).alloc (.cells #[.slice none 0 0] 29)).alloc (.cells #[.slice lad S.loose.length lcap] 73)) := (((Below.refl _ w).alloc (Nat.le_refl _) _).alloc (by simp) _).alloc (by simp; omega) _
  have hsz : (((w.alloc (.cells #[.int .i64 pg] 3)).alloc (.cells #[.slice none 0 0] 29)).alloc (.cells #[.slice lad S.loose.length lcap] 73)).heap.size = w.heap.size + 3 := by simp
  obtain ⟨W0, hW0⟩ : ∃ W0, ((w.alloc (.cells #[.int .i64 pg] 3)).alloc (.cells #[.slice none 0 0] 29)).alloc (.cells #[.slice lad S.loose.length lcap] 73) = W0 := ⟨_, rfl⟩
  rw [hW0] at bP bR bN hB0 hsz ⊢
  clear hW0
  have hlo : W0.ownsRow 0 79 2 (.slice lad S.loose.length lcap) S.loose.length (flatW S.loose) := owns_row_keep h.loose fun k e => hB0.block k (h.ltlo e)
  refine wpIn_rangeFunc_ownH hro h1 (gf := 116) (lb := #[.pointer (some ⟨w.heap.size + 1 + 1, 0, none⟩)]) rfl h22 (enters_of Tryz.func116 (by kernel_rfl) rfl)
    (back_stops Fc (n - 1) h22 hro (by omega) (w.heap.size + 1 + 1) W0.heap.size _ S.loose h.few W0 (by omega) (by omega) bN.cell hlo (fun k e => by have := h.ltlo e; omega)) belowK_t (belowK_b (by omega)) (Below.refl _ _) (fun _ => rfl)
    (fun pre W => (Boxed W w.heap.size 3 (.int .i64 pg) ∧ Boxed W (w.heap.size + 1) 29 (.slice none 0 0)) ∧ (Below w.heap.size w W ∧ (W0.heap.size ≤ W.heap.size ∧ ∀ y ∈ pre, y.2.1 ≠ pg)))
    (fun (c : Code) (pre : List (Nat × Int × Bs)) (W : World) => Boxed W (w.heap.size + 1) 29 ((pre.getLast?.map fun y => y.2.2.v).getD undef) ∧ (Below w.heap.size w W ∧ c = .ret ∧ ∃ (ini : List (Nat × Int × Bs)) (x : Nat × Int × Bs), pre = ini ++ [x] ∧ (∀ y ∈ ini, y.2.1 ≠ pg) ∧ x.2.1 = pg))
    (OwnFrom.and (OwnFrom.and (Own.from (boxed_own _ _ _) _) (Own.from (boxed_own _ _ _) _)) (OwnFrom.and (ownFrom_below (Nat.le_refl _) (by omega)) (fun _ _ _ _ hs hg _ => ⟨Nat.le_trans hs.1 hg.size, hs.2⟩)))
    (fun c => OwnFrom.and (Own.from (boxed_own _ _ (fun pre : List (Nat × Int × Bs) => (pre.getLast?.map fun y => y.2.2.v).getD undef)) _) (OwnFrom.and (ownFrom_below (Nat.le_refl _) (by omega)) (fun _ _ _ _ hs _ _ => hs)))
    ⟨⟨bP, bR⟩, hB0, Nat.le_refl _, fun y hy => by cases hy⟩
    (fun x a' W => ∃ Bx, w.heap.size + 1 < Bx ∧ W.heap[Bx]? = some (.cells #[.int .i64 x.2.1, .slice x.2.2.ad x.2.2.l.length x.2.2.cap] 79 (0, 0)) ∧ a' = { tmps := #[.pointer (some ⟨p, 0, none⟩), .int .i64 pg, undef, .pointer (some ⟨w.heap.size, 0, none⟩), .pointer (some ⟨w.heap.size + 1, 0, none⟩), undef, .pointer (some ⟨Bx, 0, none⟩), .pointer (some ⟨p, 0, none⟩), .pointer (some ⟨p, 0, none⟩), .pointer (some ⟨p, 1, none⟩), .slice lad S.loose.length lcap, .func (.func 116) #[] #[.pointer (some ⟨w.heap.size + 1 + 1, 0, none⟩)], .int .i64 (x.1 : Int), .agg #[.int .i64 x.2.1, .slice x.2.2.ad x.2.2.l.length x.2.2.cap], undef, undef, undef, undef, undef, undef, undef, undef, undef, undef, undef, undef, undef], defers := [] })
    (fun x a' _ X Y row hs hg hr => by obtain ⟨Bx, h1, h2, h3⟩ := hs; exact ⟨Bx, h1, two_own () X Y row h2 hg hr, h3⟩)
    ?assign ?body ?done ?stop
  case assign =>
    rintro l pre x W K ⟨⟨bP1, bR1⟩, hB1, hW0, hne⟩ hK
    unfold encW
    gi_wp2
    exact hK _ _ ((KeepsOthers.alloc _ _).from _) ((Below.refl _ W).alloc hW0 _) ⟨⟨bP1.alloc _, bR1.alloc _⟩, hB1.alloc hB1.size _, by simp; omega, hne⟩ ⟨W.heap.size, bR1.lt, heap_alloc_new W _, rfl⟩
  case body =>
    rintro l pre x a' W hl ⟨r, hr⟩ ⟨⟨bP1, bR1⟩, hB1, hW0, hne⟩ ⟨Bx, hBx, bX, rfl⟩ hlt
    have cP := bP1.cell
    have cR := bR1.cell
    have fR := bR1.frozen
    have x0 : W.cell? ⟨Bx, 0, none⟩ = some (.int .i64 x.2.1) := by rw [cell_of_row _ _ 0 _ _ _ bX]; rfl
    have x1 : W.cell? ⟨Bx, 1, none⟩ = some (.slice x.2.2.ad x.2.2.l.length x.2.2.cap) := by rw [cell_of_row _ _ 1 _ _ _ bX]; rfl
    gi_wp2
    · rename_i hx
      have hx : x.2.1 = pg := eq_of_beq hx
      refine ⟨(KeepsOthers.setCell _ _ _).from _, ?_, hB1.setCell (p := ⟨w.heap.size + 1, 0, none⟩) (by simp) _, rfl, pre, x, rfl, hne, hx⟩
      have := bR1.set (.slice x.2.2.ad x.2.2.l.length x.2.2.cap)
      simpa [Bs.v] using this
    · rename_i hx
      have hx : x.2.1 ≠ pg := fun e => by simp [e] at hx
      exact ⟨KeepsFrom.refl _ _, Below.refl _ _, ⟨bP1, bR1⟩, hB1, hW0, fun y hy => (List.mem_append.1 hy).elim (hne y) (fun e => by simp at e; subst e; exact hx)⟩
  case done =>
    rintro D ys W hD hys ⟨⟨bP1, bR1⟩, hB1, hW0, hne⟩ hK
    have cP := bP1.cell
    have cR := bR1.cell
    have fR := bR1.frozen
    have k0 : W.cell? ⟨p, 0, none⟩ = some (.slice (some ⟨q, 0, none⟩) S.safe.length S.safe.length) := (hB1.cell (p := ⟨p, 0, none⟩) lp).trans hc0
    have kq : W.cell? ⟨q, pg.toNat, none⟩ = some ((S.safe[pg.toNat]?).getD nilBs).v := by
      rw [hB1.cell (p := ⟨q, pg.toNat, none⟩) (h.lt (.inr (.inl rfl))), cell_of_row _ _ _ _ _ _ h.safe]
      have : pg.toNat < S.safe.length := by omega
      simp [this]
    have hlast : lastB S pg = (S.safe[pg.toNat]?).getD nilBs := lastB_none fun x hx => by
      have : x ∈ ys.map Prod.snd := by rw [hys]; simpa using hx
      obtain ⟨y, hy, rfl⟩ := List.mem_map.1 this
      exact hne y hy
    rw [← hlast] at kq
    clear hlast
    have hp1 := hp.1
    have hp2 := hp.2
    obtain ⟨xa, xn, xc, hv⟩ : ∃ a n c, (lastB S pg).v = .slice a n c := ⟨_, _, _, rfl⟩
    rw [hv] at kq
    have hK' : (W.setCell ⟨w.heap.size + 1, 0, none⟩ (.slice xa xn xc)).drew.heap[D]? = some (.deferred (some [])) := (KeepsOthers.setCell W ⟨w.heap.size + 1, 0, none⟩ (.slice xa xn xc)).same D _ hK rfl
    have hc5 : ((W.setCell ⟨w.heap.size + 1, 0, none⟩ (.slice xa xn xc)).drew.putObj D (.deferred none)).cell? ⟨w.heap.size + 1, 0, none⟩ = some (.slice xa xn xc) := cell_kept (W := (W.setCell ⟨w.heap.size + 1, 0, none⟩ (.slice xa xn xc)).drew) (World.cell?_setCell_same' W ⟨w.heap.size + 1, 0, none⟩ (.slice xa xn xc) (by rw [cR]; rfl)) (grownBy_putObj' _ D (.deferred none)) (fun r e => by cases e; exact ⟨_, hK', rfl⟩)
    have hB5 : Below w.heap.size w ((W.setCell ⟨w.heap.size + 1, 0, none⟩ (.slice xa xn xc)).drew.putObj D (.deferred none)) := ((hB1.setCell (p := ⟨w.heap.size + 1, 0, none⟩) (by simp) _).drew).trans (belowK_b (w := w) (Nat.le_refl _) _ D _ _ (by omega) hK' rfl rfl)
    gi_wp2
    gi_region
    all_goals (gi_wp2; refine ⟨by simp, .inl ⟨_, _, rfl, run_takeDeferred hK', ?_⟩⟩; refine ⟨(lastB S pg).v, ?_, rfl, hB5⟩; rw [hv]; simp [results, Tryz.f54, go_sem, hc5])
  case stop =>
    rintro D c pre W hD ⟨r, hr, hpre⟩ ⟨bR1, hB1, rfl, ini, x, rfl, hne, hx⟩ hK
    have cR := bR1.cell
    have hlast : lastB S pg = x.2.2 := by
      rw [List.map_append] at hpre
      refine lastB_some hpre (fun y hy => ?_) hx
      obtain ⟨z, hz, rfl⟩ := List.mem_map.1 hy
      exact hne z hz
    gi_wp2
    refine ⟨by simp, .inl ⟨_, _, rfl, run_takeDeferred hK, ?_⟩⟩
    have hc5 := cell_kept cR (grownBy_putObj' _ D (.deferred none)) (fun r e => by cases e; exact ⟨_, hK, rfl⟩)
    refine ⟨(lastB S pg).v, ?_, rfl, hB1.trans (belowK_b (w := w) (Nat.le_refl _) W D _ _ (by omega) hK rfl rfl)⟩
    rw [hlast]
    simp [results, Tryz.f54, go_sem, hc5]
theorem last_any (p q : Nat) (lo : Value) (F : Nat → Prop) (S : St) (pg : Int) (w : World) (h : St0 w p q lo F S) (hp : 0 ≤ pg ∧ pg < S.safe.length) :
    Calls Tryz.prog 54 #[.pointer (some ⟨p, 0, none⟩), .int .i64 pg] w fun e W' => e = .returned (lastB S pg).v ∧ Below w.heap.size w W' :=
  callsIn_wide.1 (last_in Fence.wide 5 trivial trivial trivial rfl (by omega) p q lo F S pg w h hp)
theorem lastB_in {w : World} {p q : Nat} {lo : Value} {F : Nat → Prop} {S : St} {pg : Int} (h : St0 w p q lo F S) : BsAt w (lastB S pg) ∧ (lastB S pg).In F := by
  unfold lastB
  split
  · rename_i x hx
    have := h.ls x (by have := List.mem_of_find?_eq_some hx; simpa using this)
    exact ⟨this.1, this.2.1⟩
  · cases hs : S.safe[pg.toNat]? with
    | none => exact ⟨nilBs_at w, nilBs_in F⟩
    | some x => exact h.ps x (List.mem_of_getElem? hs)
end Go.Proofs.YtbfajoeilpkofaaGreatDoor
/- Read; Sync. -/
namespace Go.Proofs.YtbfajoeilpkofaaGreatDoor
open Go.RowKit

attribute [local go_sem ↓] Go.wp_at_zero Go.wp_at_succ

def rdE (S : St) (pg : Int) : Int := if ¬ (0 ≤ pg ∧ pg < S.safe.length) then 1 else if S.down = true then 13 else 0
/-- What a read answers. -/
def RdR (w : World) (l : List Int) (e : Ending) (w' : World) : Prop := ∃ ad cap, e = .returned (.tuple #[.slice ad l.length cap, .nilIface]) ∧ Ow w w' (.slice ad l.length cap) l
set_option maxRecDepth 100000 in
set_option maxHeartbeats 1600000 in
theorem read_ok (p q : Nat) (lo : Value) (F : Nat → Prop) (S : St) (pg : Int) (w : World) (h : St0 w p q lo F S) (hp : 0 ≤ pg ∧ pg < S.safe.length) (hd : S.down = false) :
    Calls Tryz.prog 23 #[.pointer (some ⟨p, 0, none⟩), .int .i64 pg] w (RdR w (lastB S pg).l) := by
  have hh := has_any p q lo F S pg w h
  have e1 : decide (0 ≤ pg ∧ pg < S.safe.length) = true := by simp [hp]
  rw [e1] at hh
  have h4 := h.c4
  rw [hd] at h4
  have hla := last_any p q lo F S pg w h hp
  have hcl : Hid (∀ w', Below w.heap.size w w' → Calls Tryz.prog 31 #[(lastB S pg).v] w' (ClR w' (lastB S pg).l)) := fun w' hb => by
    obtain ⟨h1, h2⟩ := lastB_in (pg := pg) h
    have h3 := h1.keep (w' := w') h2 fun k hk => hb.block k (h.ltF k hk)
    have := h3.len
    exact clone_any _ _ _ _ h3.lies h3.nil h3.bd (by omega)
  clear h hd e1 hp
  obtain ⟨xa, xn, xc, hv⟩ : ∃ a n c, (lastB S pg).v = .slice a n c := ⟨_, _, _, rfl⟩
  rw [hv] at hla hcl
  go_enter Tryz.func23, Tryz.ntmps23
  go_wp2_with fail
  refine hh.mono ?_
  rintro e w0 ⟨rfl, hw0⟩
  rw [hw0]
  clear hh hw0 w0
  go_wp2_with fail
  refine hla.mono ?_
  rintro e w1 ⟨rfl, hb1⟩
  have hc2 := hcl.out w1 hb1
  clear hla hcl
  go_wp2_with fail
  refine hc2.mono ?_
  rintro e w2 ⟨ad, cap, rfl, how⟩
  have HE : Hid (RdR w (lastB S pg).l (.returned (.tuple #[.slice ad (lastB S pg).l.length cap, .nilIface])) w2) := ⟨ad, cap, rfl, how.mono hb1⟩
  clear how hc2
  generalize (lastB S pg).l = l at *
  go_wp2
  go_ret2
  exact HE.out
set_option maxRecDepth 100000 in
set_option maxHeartbeats 1600000 in
theorem read_bad (p q : Nat) (lo : Value) (F : Nat → Prop) (S : St) (pg : Int) (w : World) (h : St0 w p q lo F S) (hn : rdE S pg ≠ 0) :
    Calls Tryz.prog 23 #[.pointer (some ⟨p, 0, none⟩), .int .i64 pg] w fun e w' => e = .returned (.tuple #[.slice none 0 0, errV (rdE S pg)]) ∧ w' = w := by
  have hh := has_any p q lo F S pg w h
  have h4 := h.c4
  clear h
  unfold rdE at hn ⊢
  by_cases hp : 0 ≤ pg ∧ pg < S.safe.length
  · have e1 : decide (0 ≤ pg ∧ pg < S.safe.length) = true := by simp [hp]
    rw [if_neg (by simpa using hp)] at hn ⊢
    by_cases hd : S.down = true
    · rw [if_pos hd]
      rw [e1] at hh
      rw [hd] at h4
      clear hn hp e1 hd
      rw [errV_ne (by decide)]
      go_enter Tryz.func23, Tryz.ntmps23
      go_wp2_with fail
      refine hh.mono ?_
      rintro e w0 ⟨rfl, hw0⟩
      rw [hw0]
      clear hh hw0 w0
      go_wp2
      go_ret2
      exact ⟨rfl, rfl⟩
    · rw [if_neg hd] at hn; exact absurd rfl hn
  · have e1 : decide (0 ≤ pg ∧ pg < S.safe.length) = false := by simpa using hp
    rw [if_pos hp]
    rw [e1] at hh
    clear hn hp e1 h4
    rw [errV_ne (by decide)]
    go_enter Tryz.func23, Tryz.ntmps23
    go_wp2_with fail
    refine hh.mono ?_
    rintro e w0 ⟨rfl, hw0⟩
    rw [hw0]
    clear hh hw0 w0
    go_wp2
    go_ret2
    exact ⟨rfl, rfl⟩
/-- Which error a write answers, ahead of its step. -/
def wrE (S : St) (pg : Int) (n : Nat) : Int := if ¬ (0 ≤ pg ∧ pg < S.safe.length) then 1 else if 4096 < n then 2 else if S.down = true then 13 else 0
set_option maxRecDepth 100000 in
set_option maxHeartbeats 1600000 in
theorem write_bad (p q : Nat) (lo : Value) (F : Nat → Prop) (S : St) (pg : Int) (ad : Option Addr) (n cap : Nat) (w : World) (h : St0 w p q lo F S) (hn : wrE S pg n ≠ 0) :
    Calls Tryz.prog 10 #[.pointer (some ⟨p, 0, none⟩), .int .i64 pg, .slice ad n cap] w fun e w' => e = .returned (errV (wrE S pg n)) ∧ w' = w := by
  have hh := has_any p q lo F S pg w h
  have h4 := h.c4
  clear h
  unfold wrE at hn ⊢
  by_cases hp : 0 ≤ pg ∧ pg < S.safe.length
  · have e1 : decide (0 ≤ pg ∧ pg < S.safe.length) = true := by simp [hp]
    rw [if_neg (by simpa using hp)] at hn ⊢
    rw [e1] at hh
    clear hp e1
    by_cases hl : 4096 < n
    · rw [if_pos hl]
      have hlI : (4096 : Int) < (n : Int) := by omega
      clear hn
      rw [errV_ne (by decide)]
      go_enter Tryz.func10, Tryz.ntmps10
      go_wp2_with fail
      refine hh.mono ?_
      rintro e w0 ⟨rfl, hw0⟩
      rw [hw0]
      clear hh hw0 w0
      go_wp2
      go_ret
      exact ⟨rfl, rfl⟩
    · rw [if_neg hl] at hn ⊢
      have hlI : ¬ (4096 : Int) < (n : Int) := by omega
      by_cases hd : S.down = true
      · rw [if_pos hd]
        rw [hd] at h4
        clear hn hd
        rw [errV_ne (by decide)]
        go_enter Tryz.func10, Tryz.ntmps10
        go_wp2_with fail
        refine hh.mono ?_
        rintro e w0 ⟨rfl, hw0⟩
        rw [hw0]
        clear hh hw0 w0
        go_wp2
        go_ret
        exact ⟨rfl, rfl⟩
      · rw [if_neg hd] at hn; exact absurd rfl hn
  · have e1 : decide (0 ≤ pg ∧ pg < S.safe.length) = false := by simpa using hp
    rw [if_pos hp]
    rw [e1] at hh
    clear hn hp e1 h4
    rw [errV_ne (by decide)]
    go_enter Tryz.func10, Tryz.ntmps10
    go_wp2_with fail
    refine hh.mono ?_
    rintro e w0 ⟨rfl, hw0⟩
    rw [hw0]
    clear hh hw0 w0
    go_wp2
    go_ret
    exact ⟨rfl, rfl⟩
end Go.Proofs.YtbfajoeilpkofaaGreatDoor
