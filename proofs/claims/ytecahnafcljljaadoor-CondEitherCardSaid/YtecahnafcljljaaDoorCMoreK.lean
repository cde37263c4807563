/- CondMore: what the walk wants: the input and the variables together; what is shown, its four cells; ints appended. -/
import Derived.Test.YtecahnafcljljaaDoorCMoreM
import Derived.Test.YtecahnafcljljaaDoorCSure
import Derived.Test.YtecahnafcljljaaDoorCLong
import Derived.Test.YtecahnafcljljaaDoorCIow0
namespace Go.Proofs.YtecahnafcljljaaDoor
open Go.RowKit Go.Shelf Go.Sort

theorem Glob.belowS {w w' : World} (h : Glob w) (hb : Below w.heap.size w w') : Glob w' := h.below hb h.pos
/-- What came in, and the variables. -/
structure Env (w : World) (ad : Option Addr) (n : Nat) (X : Nat → Bv) (sa : Option Addr) (sn : Nat) (sz : Nat → Int) (ta : Option Addr) (T : List Nat) : Prop where
  glob : Glob w
  tab : Tab w
  pos : 3 ≤ w.heap.size
  br : BrAt w ad n X
  si : IsAt w sa sn sz
  se : SlB w ta T
theorem Env.below {w w' : World} {ad : Option Addr} {n : Nat} {X : Nat → Bv} {sa : Option Addr} {sn : Nat} {sz : Nat → Int} {ta : Option Addr} {T : List Nat} (h : Env w ad n X sa sn sz ta T) (hb : Below w.heap.size w w') : Env w' ad n X sa sn sz ta T :=
  ⟨h.glob.belowS hb, h.tab.frm (Frm.ofBelow (S := []) hb) (by simp), by have := h.pos; have := hb.size; omega, h.br.below hb, h.si.below hb, h.se.below (Frm.ofBelow hb)⟩

/-- The four cells of what is shown. -/
def sn4 (sa : Option Addr) (sn sc : Nat) (ta : Option Addr) (tl tc : Nat) (ht ag : Int) : Array Value := #[.slice sa sn sc, .slice ta tl tc, .int .i64 ht, .int .i64 ag]
theorem szSn : (Tryd.prog.info? 28).map (·.size) = some 4 := by kernel_rfl
theorem szSnl (sa : Option Addr) (sn sc : Nat) (ta : Option Addr) (tl tc : Nat) (ht ag : Int) : (Tryd.prog.info? 28).map (·.size) = some (sn4 sa sn sc ta tl tc ht ag).toList.length := szSn
theorem sn4_one (sa : Option Addr) (sn sc : Nat) (ta : Option Addr) (tl tc : Nat) (ht ag : Int) : (sn4 sa sn sc ta tl tc ht ag).all (·.oneCell') = true := by simp [sn4, Value.oneCell']
theorem sn4_range {w : World} {g : Nat} {sa : Option Addr} {sn sc : Nat} {ta : Option Addr} {tl tc : Nat} {ht ag : Int} {t : TypeId} (h : w.heap[g]? = some (.cells (sn4 sa sn sc ta tl tc ht ag) t (0, 0))) : w.rangeAt g 0 (sn4 sa sn sc ta tl tc ht ag).toList := by
  intro j u hu
  rw [cell_of_row w g _ _ _ _ h, Nat.zero_add, ← Array.getElem?_toList]
  exact hu
theorem slice16 (w : World) : (Instr.buildSlice 25 16 #[(0, .int .i64 0), (1, .int .i64 1), (2, .int .i64 2), (3, .int .i64 3), (4, .int .i64 4), (5, .int .i64 5), (6, .int .i64 6), (7, .int .i64 7), (8, .int .i64 8), (9, .int .i64 9), (10, .int .i64 10), (11, .int .i64 11), (12, .int .i64 12), (13, .int .i64 13), (14, .int .i64 14), (15, .int .i64 15)]).run Tryd.prog w = .ok (.slice (some ⟨w.heap.size, 0, none⟩) 16 16) (w.alloc (.cells (iC [0, 1, 2, 3, 4, 5, 6, 7, 8, 9, 10, 11, 12, 13, 14, 15]).toArray 3)) := by kernel_rfl
section
variable {ops : Array Oper} {rest : List Oper} {o : Oper} {a : Act} {w : World} {Q : Exit → Act → World → Prop}
theorem wpList_append_I (hgd : o.guard = none) (s x : Operand) (ho : o.op = .call { callee := .builtin .append, args := #[s, x], argTypes := #[25, 25] })
    (w0 : World) (v u : Value) (L ys : List Int) (hs : a.eval s = v) (hx : a.eval x = u) (hown : IOw w0 w v L) (hu : ISrc w u ys) (hlen : L.length + ys.length ≤ 1000000)
    (h : ∀ v' w1, IOw w0 w1 v' (L ++ ys) → (∀ k, k < w.heap.size → v.ownBlock ≠ some k → w1.heap[k]? = w.heap[k]?) → wpList Tryd.prog ops Q rest (a.put o.dst v') w1) : wpList Tryd.prog ops Q (o :: rest) a w := by
  obtain ⟨v', w1, hr, h2, h3⟩ := run_append_I w w0 o.type v u L ys hown hu hlen
  refine wpList_plain hgd fun K hK => ?_
  unfold Oper.wp execOp
  simp only [ho, resolve, invoke, builtin, Sem.run_bind, Sem.run_pure, Result.andThen_ok, List.map_toArray, List.map_cons, List.map_nil, hs, hx, hr]
  exact hK _ _ (h v' w1 h2 h3)
theorem wpList_slice16 (hgd : o.guard = none) (ho : o.op = .buildSlice 25 16 #[(0, .const (.int .i64 0)), (1, .const (.int .i64 1)), (2, .const (.int .i64 2)), (3, .const (.int .i64 3)), (4, .const (.int .i64 4)), (5, .const (.int .i64 5)), (6, .const (.int .i64 6)), (7, .const (.int .i64 7)), (8, .const (.int .i64 8)), (9, .const (.int .i64 9)), (10, .const (.int .i64 10)), (11, .const (.int .i64 11)), (12, .const (.int .i64 12)), (13, .const (.int .i64 13)), (14, .const (.int .i64 14)), (15, .const (.int .i64 15))])
    (h : wpList Tryd.prog ops Q rest (a.put o.dst (.slice (some ⟨w.heap.size, 0, none⟩) 16 16)) (w.alloc (.cells (iC [0, 1, 2, 3, 4, 5, 6, 7, 8, 9, 10, 11, 12, 13, 14, 15]).toArray 3))) : wpList Tryd.prog ops Q (o :: rest) a w := by
  refine wpList_plain hgd fun K hK => ?_
  unfold Oper.wp execOp
  simp only [ho, List.map_toArray, List.map_cons, List.map_nil, Act.eval, Sem.run_bind, slice16, Result.andThen]
  exact hK _ _ h
end
theorem src16 (w : World) : ISrc (w.alloc (.cells (iC [0, 1, 2, 3, 4, 5, 6, 7, 8, 9, 10, 11, 12, 13, 14, 15]).toArray 3)) (.slice (some ⟨w.heap.size, 0, none⟩) 16 16) [0, 1, 2, 3, 4, 5, 6, 7, 8, 9, 10, 11, 12, 13, 14, 15] :=
  ⟨_, 16, rfl, .inr ⟨_, rfl, World.news_of_block (cs := (iC [0, 1, 2, 3, 4, 5, 6, 7, 8, 9, 10, 11, 12, 13, 14, 15]).toArray) (t := 3) (fr := (0, 0)) (heap_alloc_new w _)⟩⟩
theorem src_of {w : World} {sa : Option Addr} {sn sc : Nat} {sz : Nat → Int} (h : IsAt w sa sn sz) : ISrc w (.slice sa sn sc) (keysL sz sn) := by
  have h0 : sn = 0 ∧ sa = none ∨ ∃ a, sa = some a := by
    cases sa with
    | some a => exact .inr ⟨a, rfl⟩
    | none =>
      refine .inl ⟨?_, rfl⟩
      rcases Nat.eq_zero_or_pos sn with h1 | h1
      · exact h1
      · obtain ⟨b, off, e, _⟩ := h h1
        cases e
  refine ⟨sa, sc, by rw [keysL_length], ?_⟩
  rcases h0 with ⟨rfl, rfl⟩ | ⟨a, rfl⟩
  · exact .inl ⟨rfl, rfl⟩
  · refine .inr ⟨a, rfl, fun j v hj => ?_⟩
    have hl : j < sn := by
      have := (List.getElem?_eq_some_iff.1 hj).1
      simpa [iC, keysL_length] using this
    obtain ⟨b, off, e, hc⟩ := h (by omega)
    obtain rfl := Option.some.inj e
    have hv : v = .int .i64 (sz j) := by
      simp [iC, keysL, hl] at hj
      exact hj.symm
    rw [hv, Addr.add_lit]
    exact hc j hl
theorem IOw.sl {w0 w : World} {v : Value} {L : List Int} (h : IOw w0 w v L) : ∃ ad cap, v = .slice ad L.length cap := by
  rcases h.form with ⟨rfl, rfl⟩ | ⟨g, c, e, _⟩
  · exact ⟨none, 0, rfl⟩
  · exact ⟨_, _, e⟩
theorem owns_isAt {w : World} {B n cap : Nat} {ad : Option Addr} {L : List Int} (h : w.ownsRow B 3 1 (.slice ad n cap) L.length (iC L)) : IsAt w ad L.length (fi L) := by
  rcases h.2 with ⟨e, e2⟩ | ⟨g, c, cur, e, _⟩
  · intro h0; omega
  · cases e
    refine fun _ => ⟨g, 0, rfl, fun j hj => ?_⟩
    have := h.cells (g := g) rfl j (.int .i64 (fi L j)) (by simp [iC, fi, hj])
    rwa [Addr.add_lit] at this
theorem sn4_set0 {w : World} {g : Nat} {sa sa' : Option Addr} {sn sc sn' sc' : Nat} {ta : Option Addr} {tl tc : Nat} {ht ag : Int} {t : TypeId} (h : w.heap[g]? = some (.cells (sn4 sa sn sc ta tl tc ht ag) t (0, 0))) : (w.setCell ⟨g, 0, none⟩ (.slice sa' sn' sc')).heap[g]? = some (.cells (sn4 sa' sn' sc' ta tl tc ht ag) t (0, 0)) := by
  rw [heap_setCell_same w g 0 _ t _ h]; rfl
theorem sn4_set23 {w : World} {g : Nat} {sa : Option Addr} {sn sc : Nat} {ta : Option Addr} {tl tc : Nat} {ht ag ht' ag' : Int} {t : TypeId} (h : w.heap[g]? = some (.cells (sn4 sa sn sc ta tl tc ht ag) t (0, 0))) : ((w.setCell ⟨g, 2, none⟩ (.int .i64 ht')).setCell ⟨g, 3, none⟩ (.int .i64 ag')).heap[g]? = some (.cells (sn4 sa sn sc ta tl tc ht' ag') t (0, 0)) := by
  have h2 := heap_setCell_same w g 2 _ t (.int .i64 ht') h
  rw [heap_setCell_same _ g 3 _ t (.int .i64 ag') h2]; rfl
/-- What is shown with some of the signatures, while it is made: its block is the first behind W. -/
structure UR (W wr : World) (va : Option Addr) (vc : Nat) (L : List Int) (ta : Option Addr) (tl tc : Nat) (ht ag : Int) : Prop where
  below : Below W.heap.size W wr
  box : wr.heap[W.heap.size]? = some (.cells (sn4 va L.length vc ta tl tc ht ag) 28 (0, 0))
  own : wr.ownsRow (W.heap.size + 1) 3 1 (.slice va L.length vc) L.length (iC L)
theorem UR.keep {W wr wr' : World} {va : Option Addr} {vc : Nat} {L : List Int} {ta : Option Addr} {tl tc : Nat} {ht ag : Int} (h : UR W wr va vc L ta tl tc ht ag) (hb : Below wr.heap.size wr wr') : UR W wr' va vc L ta tl tc ht ag := by
  refine ⟨Below.transS h.below hb, by rw [hb.block _ (lt_of_block h.box)]; exact h.box, h.own.1, ?_⟩
  rcases h.own.2 with hn | ⟨g, cap, cur, e, hbs, hg, rest⟩
  · exact .inl hn
  · exact .inr ⟨g, cap, cur, e, hbs, by rw [hb.block _ (lt_of_block hg)]; exact hg, rest⟩
theorem UR.push {W wr w6 : World} {va va' : Option Addr} {vc vc' : Nat} {L : List Int} {q : Int} {ta : Option Addr} {tl tc : Nat} {ht ag : Int} (h : UR W wr va vc L ta tl tc ht ag) (hown : w6.ownsRow (W.heap.size + 1) 3 1 (.slice va' (L ++ [q]).length vc') (L ++ [q]).length (iC (L ++ [q]))) (hg : wr.grownBy w6 (Value.slice va L.length vc).ownBlock) :
    w6.cell? ⟨W.heap.size, 0, none⟩ = some (.slice va L.length vc) ∧ w6.frozen? ⟨W.heap.size, 0, none⟩ = false ∧ Below W.heap.size W w6 ∧ UR W (w6.setCell ⟨W.heap.size, 0, none⟩ (.slice va' (L ++ [q]).length vc')) va' vc' (L ++ [q]) ta tl tc ht ag := by
  have hlo := fun k e => (h.own.lt k e).1
  have b6 : w6.heap[W.heap.size]? = some (.cells (sn4 va L.length vc ta tl tc ht ag) 28 (0, 0)) := by
    rw [hg.block _ (lt_of_block h.box) (fun e => by have := hlo _ e.symm; omega)]; exact h.box
  have hb6 : Below W.heap.size W w6 := h.below.trans ⟨hg.os, hg.tape, hg.output, hg.size, fun k hk => hg.block k (by have := h.below.size; omega) (fun e => by have := hlo _ e.symm; omega)⟩
  refine ⟨by rw [cell_of_row w6 _ 0 _ _ _ b6]; rfl, frozen_of_row w6 _ 0 _ _ b6, hb6, hb6.setCell (Nat.le_refl _) _, sn4_set0 b6, hown.1, ?_⟩
  rcases hown.2 with hn | ⟨g, cap, cur, e, hbs, hgc, rest⟩
  · exact .inl hn
  · exact .inr ⟨g, cap, cur, e, hbs, by rw [Below.heap_setCell _ _ _ _ (by show g ≠ W.heap.size; omega)]; exact hgc, rest⟩
end Go.Proofs.YtecahnafcljljaaDoor
