/- A page as it was written last. -/
import Derived.Test.YtidmpblaeohfaaaGreatDoorPBack
namespace Go.Proofs.YtidmpblaeohfaaaGreatDoor
open Go.RowKit Go.Shelf

attribute [local go_sem] Oper.semAt_some

/-- A page as it was written last, safe or not. -/
def lastB (S : St) (pg : Int) : Bs := match S.loose.reverse.find? (fun x => x.1 == pg) with
  | some x => x.2
  | none => (S.safe[pg.toNat]?).getD nilBs
theorem lastB_none {S : St} {pg : Int} (h : ∀ x ∈ S.loose, x.1 ≠ pg) : lastB S pg = (S.safe[pg.toNat]?).getD nilBs := by
  have : S.loose.reverse.find? (fun x => x.1 == pg) = none := by
    rw [List.find?_eq_none]
    intro x hx
    simpa using h x (by simpa using hx)
  rw [lastB, this]
theorem lastB_some {S : St} {pg : Int} {r : Nat} {ini : List (Int × Bs)} {x : Int × Bs} (h : ini ++ [x] = (S.loose.drop r).reverse) (h1 : ∀ y ∈ ini, y.1 ≠ pg) (h2 : x.1 = pg) : lastB S pg = x.2 := by
  have e : S.loose.reverse = (ini ++ [x]) ++ (S.loose.take r).reverse := by rw [h, ← List.reverse_append, List.take_append_drop]
  have hf : S.loose.reverse.find? (fun x => x.1 == pg) = some x := by
    rw [e, List.find?_append, List.find?_append]
    have : ini.find? (fun x => x.1 == pg) = none := by
      rw [List.find?_eq_none]; intro y hy; simpa using h1 y hy
    rw [this]
    simp [h2]
  rw [lastB, hf]
theorem two_own {B Bx : Nat} {a b : Value} {t : TypeId} : OwnFrom B (fun (_ : Unit) (W : World) => W.heap[Bx]? = some (.cells #[a, b] t (0, 0))) := fun _ X Y row hs hg hr => by
  dsimp only at hs ⊢
  rw [hg.block Bx (lt_of_block hs) (fun e => by
    obtain ⟨_, o, ho, hc⟩ := hr Bx e.symm
    rw [hs] at ho
    cases ho
    cases hc)]
  exact hs
set_option maxRecDepth 100000 in
set_option maxHeartbeats 2000000 in
theorem last_in (Fc : Fence) (n : Nat) (hL : Fc.fn 54) (h21 : Fc.fn 88) (h22 : Fc.fn 116) (hro : Fc.round = none) (hn : 3 ≤ n) (p q : Nat) (lo : Value) (F : Nat → Prop) (S : St) (pg : Int) (w : World) (h : St0 w p q lo F S) (hp : 0 ≤ pg ∧ pg < S.safe.length) :
    CallsIn Fc n Tryz.prog 54 #[.pointer (some ⟨p, 0, none⟩), .int .i64 pg] w fun e W' => e = .returned (lastB S pg).v ∧ Below w.heap.size w W' := by
  have h1 : 1 ≤ n := by omega
  have hc1 := h.c1
  have hc0 := h.c0
  have lp := h.lt (k := p) (.inl rfl)
  obtain ⟨lad, lcap, rfl⟩ := h.lform
  refine callsIn_of_wp_marks Tryz.func54 rfl hL ?_ hro
  simp only [Tryz.ntmps54, List.size_toArray, List.length_cons, List.length_nil, Nat.reduceAdd, Nat.reduceSub, Array.replicate_succ, Array.replicate_zero, List.push_toArray, List.append_toArray, List.nil_append, List.cons_append]
  gi_wp2_with (gi_at_call 88; refine (back_in Fc (n - 1) h21 hro _ _ _ _).mono ?_; rintro e w' ⟨rfl, rfl⟩)
  have bP := ((Boxed.new w 3 (.int .i64 pg)).alloc (.cells #[.slice none 0 0] 29)).alloc (.cells #[.slice lad S.loose.length lcap] 73)
  have bR := (Boxed.new (w.alloc (.cells #[.int .i64 pg] 3)) 29 (.slice none 0 0)).alloc (.cells #[.slice lad S.loose.length lcap] 73)
  have bN := Boxed.new ((w.alloc (.cells #[.int .i64 pg] 3)).alloc (.cells #[.slice none 0 0] 29)) 73 (.slice lad S.loose.length lcap)
  simp only [World.size_alloc] at bR bN
  have hB0 : Below w.heap.size w (((w.alloc (.cells #[.int .i64 pg] 3)).alloc (.cells #[.slice none 0 0] 29)).alloc (.cells #[.slice lad S.loose.length lcap] 73)) := (((Below.refl _ w).alloc (Nat.le_refl _) _).alloc (by simp) _).alloc (by simp; omega) _
  have hsz : (((w.alloc (.cells #[.int .i64 pg] 3)).alloc (.cells #[.slice none 0 0] 29)).alloc (.cells #[.slice lad S.loose.length lcap] 73)).heap.size = w.heap.size + 3 := by simp
  obtain ⟨W0, hW0⟩ : ∃ W0, ((w.alloc (.cells #[.int .i64 pg] 3)).alloc (.cells #[.slice none 0 0] 29)).alloc (.cells #[.slice lad S.loose.length lcap] 73) = W0 := ⟨_, rfl⟩
  rw [hW0] at bP bR bN hB0 hsz ⊢
  clear hW0
  have hlo : W0.ownsRow 0 79 2 (.slice lad S.loose.length lcap) S.loose.length (flatW S.loose) := owns_row_keep h.loose fun k e => hB0.block k (h.ltlo e)
  refine wpIn_rangeFunc_ownH hro h1 (gf := 116) (lb := #[.pointer (some ⟨w.heap.size + 1 + 1, 0, none⟩)]) rfl h22 (enters_of Tryz.func116 (by kernel_rfl) rfl)
    (back_stops Fc (n - 1) h22 hro (by omega) (w.heap.size + 1 + 1) W0.heap.size _ S.loose h.few W0 (by omega) (by omega) bN.cell hlo (fun k e => by have := h.ltlo e; omega)) belowK_t (belowK_b (by omega)) (Below.refl _ _) (fun _ => rfl)
    (fun pre W => (Boxed W w.heap.size 3 (.int .i64 pg) ∧ Boxed W (w.heap.size + 1) 29 (.slice none 0 0)) ∧ (Below w.heap.size w W ∧ (W0.heap.size ≤ W.heap.size ∧ ∀ y ∈ pre, y.2.1 ≠ pg)))
    (fun (c : Code) (pre : List (Nat × Int × Bs)) (W : World) => Boxed W (w.heap.size + 1) 29 ((pre.getLast?.map fun y => y.2.2.v).getD undef) ∧ (Below w.heap.size w W ∧ c = .ret ∧ ∃ (ini : List (Nat × Int × Bs)) (x : Nat × Int × Bs), pre = ini ++ [x] ∧ (∀ y ∈ ini, y.2.1 ≠ pg) ∧ x.2.1 = pg))
    (OwnFrom.and (OwnFrom.and (Own.from (boxed_own _ _ _) _) (Own.from (boxed_own _ _ _) _)) (OwnFrom.and (ownFrom_below (Nat.le_refl _) (by omega)) (fun _ _ _ _ hs hg _ => ⟨Nat.le_trans hs.1 hg.size, hs.2⟩)))
    (fun c => OwnFrom.and (Own.from (boxed_own _ _ (fun pre : List (Nat × Int × Bs) => (pre.getLast?.map fun y => y.2.2.v).getD undef)) _) (OwnFrom.and (ownFrom_below (Nat.le_refl _) (by omega)) (fun _ _ _ _ hs _ _ => hs)))
    ⟨⟨bP, bR⟩, hB0, Nat.le_refl _, fun y hy => by cases hy⟩
    (fun x a' W => ∃ Bx, w.heap.size + 1 < Bx ∧ W.heap[Bx]? = some (.cells #[.int .i64 x.2.1, .slice x.2.2.ad x.2.2.l.length x.2.2.cap] 79 (0, 0)) ∧ a' = { tmps := #[.pointer (some ⟨p, 0, none⟩), .int .i64 pg, undef, .pointer (some ⟨w.heap.size, 0, none⟩), .pointer (some ⟨w.heap.size + 1, 0, none⟩), undef, .pointer (some ⟨Bx, 0, none⟩), .pointer (some ⟨p, 0, none⟩), .pointer (some ⟨p, 0, none⟩), .pointer (some ⟨p, 1, none⟩), .slice lad S.loose.length lcap, .func (.func 116) #[] #[.pointer (some ⟨w.heap.size + 1 + 1, 0, none⟩)], .int .i64 (x.1 : Int), .agg #[.int .i64 x.2.1, .slice x.2.2.ad x.2.2.l.length x.2.2.cap], undef, undef, undef, undef, undef, undef, undef, undef, undef, undef, undef, undef, undef], defers := [] })
    (fun x a' _ X Y row hs hg hr => by obtain ⟨Bx, h1, h2, h3⟩ := hs; exact ⟨Bx, h1, two_own () X Y row h2 hg hr, h3⟩)
    ?assign ?body ?done ?stop
  case assign =>
    rintro l pre x W K ⟨⟨bP1, bR1⟩, hB1, hW0, hne⟩ hK
    unfold encW
    gi_wp2
    exact hK _ _ ((KeepsOthers.alloc _ _).from _) ((Below.refl _ W).alloc hW0 _) ⟨⟨bP1.alloc _, bR1.alloc _⟩, hB1.alloc hB1.size _, by simp; omega, hne⟩ ⟨W.heap.size, bR1.lt, heap_alloc_new W _, rfl⟩
  case body =>
    rintro l pre x a' W hl ⟨r, hr⟩ ⟨⟨bP1, bR1⟩, hB1, hW0, hne⟩ ⟨Bx, hBx, bX, rfl⟩ hlt
    have cP := bP1.cell
    have cR := bR1.cell
    have fR := bR1.frozen
    have x0 : W.cell? ⟨Bx, 0, none⟩ = some (.int .i64 x.2.1) := by rw [cell_of_row _ _ 0 _ _ _ bX]; rfl
    have x1 : W.cell? ⟨Bx, 1, none⟩ = some (.slice x.2.2.ad x.2.2.l.length x.2.2.cap) := by rw [cell_of_row _ _ 1 _ _ _ bX]; rfl
    gi_wp2
    · rename_i hx
      have hx : x.2.1 = pg := eq_of_beq hx
      refine ⟨(KeepsOthers.setCell _ _ _).from _, ?_, hB1.setCell (p := ⟨w.heap.size + 1, 0, none⟩) (by simp) _, rfl, pre, x, rfl, hne, hx⟩
      have := bR1.set (.slice x.2.2.ad x.2.2.l.length x.2.2.cap)
      simpa [Bs.v] using this
    · rename_i hx
      have hx : x.2.1 ≠ pg := fun e => by simp [e] at hx
      exact ⟨KeepsFrom.refl _ _, Below.refl _ _, ⟨bP1, bR1⟩, hB1, hW0, fun y hy => (List.mem_append.1 hy).elim (hne y) (fun e => by simp at e; subst e; exact hx)⟩
  case done =>
    rintro D ys W hD hys ⟨⟨bP1, bR1⟩, hB1, hW0, hne⟩ hK
    have cP := bP1.cell
    have cR := bR1.cell
    have fR := bR1.frozen
    have k0 : W.cell? ⟨p, 0, none⟩ = some (.slice (some ⟨q, 0, none⟩) S.safe.length S.safe.length) := (hB1.cell (p := ⟨p, 0, none⟩) lp).trans hc0
    have kq : W.cell? ⟨q, pg.toNat, none⟩ = some ((S.safe[pg.toNat]?).getD nilBs).v := by
      rw [hB1.cell (p := ⟨q, pg.toNat, none⟩) (h.lt (.inr (.inl rfl))), cell_of_row _ _ _ _ _ _ h.safe]
      have : pg.toNat < S.safe.length := by omega
      simp [this]
    have hlast : lastB S pg = (S.safe[pg.toNat]?).getD nilBs := lastB_none fun x hx => by
      have : x ∈ ys.map Prod.snd := by rw [hys]; simpa using hx
      obtain ⟨y, hy, rfl⟩ := List.mem_map.1 this
      exact hne y hy
    rw [← hlast] at kq
    clear hlast
    have hp1 := hp.1
    have hp2 := hp.2
    obtain ⟨xa, xn, xc, hv⟩ : ∃ a n c, (lastB S pg).v = .slice a n c := ⟨_, _, _, rfl⟩
    rw [hv] at kq
    have hK' : (W.setCell ⟨w.heap.size + 1, 0, none⟩ (.slice xa xn xc)).drew.heap[D]? = some (.deferred (some [])) := (KeepsOthers.setCell W ⟨w.heap.size + 1, 0, none⟩ (.slice xa xn xc)).same D _ hK rfl
    have hc5 : ((W.setCell ⟨w.heap.size + 1, 0, none⟩ (.slice xa xn xc)).drew.putObj D (.deferred none)).cell? ⟨w.heap.size + 1, 0, none⟩ = some (.slice xa xn xc) := cell_kept (W := (W.setCell ⟨w.heap.size + 1, 0, none⟩ (.slice xa xn xc)).drew) (World.cell?_setCell_same' W ⟨w.heap.size + 1, 0, none⟩ (.slice xa xn xc) (by rw [cR]; rfl)) (grownBy_putObj' _ D (.deferred none)) (fun r e => by cases e; exact ⟨_, hK', rfl⟩)
    have hB5 : Below w.heap.size w ((W.setCell ⟨w.heap.size + 1, 0, none⟩ (.slice xa xn xc)).drew.putObj D (.deferred none)) := ((hB1.setCell (p := ⟨w.heap.size + 1, 0, none⟩) (by simp) _).drew).trans (belowK_b (w := w) (Nat.le_refl _) _ D _ _ (by omega) hK' rfl rfl)
    gi_wp2
    gi_region
    all_goals (gi_wp2; refine ⟨by simp, .inl ⟨_, _, rfl, run_takeDeferred hK', ?_⟩⟩; refine ⟨(lastB S pg).v, ?_, rfl, hB5⟩; rw [hv]; simp [results, Tryz.f54, go_sem, hc5])
  case stop =>
    rintro D c pre W hD ⟨r, hr, hpre⟩ ⟨bR1, hB1, rfl, ini, x, rfl, hne, hx⟩ hK
    have cR := bR1.cell
    have hlast : lastB S pg = x.2.2 := by
      rw [List.map_append] at hpre
      refine lastB_some hpre (fun y hy => ?_) hx
      obtain ⟨z, hz, rfl⟩ := List.mem_map.1 hy
      exact hne z hz
    gi_wp2
    refine ⟨by simp, .inl ⟨_, _, rfl, run_takeDeferred hK, ?_⟩⟩
    have hc5 := cell_kept cR (grownBy_putObj' _ D (.deferred none)) (fun r e => by cases e; exact ⟨_, hK, rfl⟩)
    refine ⟨(lastB S pg).v, ?_, rfl, hB1.trans (belowK_b (w := w) (Nat.le_refl _) W D _ _ (by omega) hK rfl rfl)⟩
    rw [hlast]
    simp [results, Tryz.f54, go_sem, hc5]
theorem last_any (p q : Nat) (lo : Value) (F : Nat → Prop) (S : St) (pg : Int) (w : World) (h : St0 w p q lo F S) (hp : 0 ≤ pg ∧ pg < S.safe.length) :
    Calls Tryz.prog 54 #[.pointer (some ⟨p, 0, none⟩), .int .i64 pg] w fun e W' => e = .returned (lastB S pg).v ∧ Below w.heap.size w W' :=
  callsIn_wide.1 (last_in Fence.wide 5 trivial trivial trivial rfl (by omega) p q lo F S pg w h hp)
theorem lastB_in {w : World} {p q : Nat} {lo : Value} {F : Nat → Prop} {S : St} {pg : Int} (h : St0 w p q lo F S) : BsAt w (lastB S pg) ∧ (lastB S pg).In F := by
  unfold lastB
  split
  · rename_i x hx
    have := h.ls x (by have := List.mem_of_find?_eq_some hx; simpa using this)
    exact ⟨this.1, this.2.1⟩
  · cases hs : S.safe[pg.toNat]? with
    | none => exact ⟨nilBs_at w, nilBs_in F⟩
    | some x => exact h.ps x (List.mem_of_getElem? hs)
end Go.Proofs.YtidmpblaeohfaaaGreatDoor
