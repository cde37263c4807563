/- CondEither: what its walk wants. -/
import Derived.Test.YtecahnafcljljaaDoorCOr
import Derived.Test.YtecahnafcljljaaDoorCGivenS
import Derived.Test.YtecahnafcljljaaDoorCLong
import Derived.Deep.CutBlock
import Derived.Deep.DeepCutAuto
namespace Go.Proofs.YtecahnafcljljaaDoor
open Go.RowKit Go.Shelf Go.Sort

section
variable {ops : Array Oper} {o : Oper} {a : Act} {w : World} {K : Act → World → Prop} {Q : Exit → Act → World → Prop} {E : Prop}
theorem run_allocC (w : World) : (Instr.alloc 38 true (.tuple #[])).run Tryd.prog w = .ok (.pointer (some ⟨w.heap.size, 0, none⟩)) (w.alloc (.cells #[.slice none 0 0] 38)) := by kernel_rfl
/-- A variable of a condition, made in whatever world. -/
theorem step_allocC (hgd : o.guard = none) (ho : o.op = .alloc 38)
    (h : ∀ p w', w'.heap[p]? = some (.cells #[.slice none 0 0] 38 (0, 0)) → w.heap.size ≤ p → Below w.heap.size w w' → K (a.put o.dst (.pointer (some ⟨p, 0, none⟩))) w') : if Region.wanted o (yielded ops a.tmps) = true then Oper.wp Tryd.prog o a w K Q else E := by
  have hw : Region.wanted o (yielded ops a.tmps) = true := by simp [Region.wanted, hgd]
  rw [if_pos hw]
  unfold Oper.wp execOp
  simp only [ho, Sem.run_bind, run_allocC, Result.andThen]
  exact h _ _ (heap_alloc_new w _) (Nat.le_refl _) ((Below.refl _ w).alloc (Nat.le_refl _) _)
theorem step_storeC (hgd : o.guard = none) (x y : Operand) (ho : o.op = .store 38 x y) (g : Nat) (hx : a.eval x = .pointer (some ⟨g, 0, none⟩)) (ad : Option Addr) (n cap : Nat) (hy : a.eval y = .agg #[.slice ad n cap]) (hg : w.heap[g]? = some (.cells #[.slice none 0 0] 38 (0, 0)))
    (h : ∀ w', w'.heap[g]? = some (.cells #[.slice ad n cap] 38 (0, 0)) → Frm [g] w w' → K (a.put o.dst undef) w') : if Region.wanted o (yielded ops a.tmps) = true then Oper.wp Tryd.prog o a w K Q else E := by
  have hw : Region.wanted o (yielded ops a.tmps) = true := by simp [Region.wanted, hgd]
  rw [if_pos hw]
  refine wp_store_mid 38 x y ho g 0 #[.slice ad n cap] hx hy ?_ szC (by simp [Value.oneCell']) (h _ ?_ (setCells_frm g _ 0 w))
  · intro j hj
    obtain rfl : j = 0 := by simpa using hj
    exact ⟨by rw [cell_of_row w g 0 _ _ _ hg]; rfl, frozen_of_row w g 0 _ _ hg⟩
  · exact heap_setCell_same w g 0 _ _ _ hg
end
theorem leaf_br {uA uB u4 w6 w7 : World} {p7 p8 : Nat} {ad : Option Addr} {n : Nat} {X : Nat → Bv} (hI : BrIn uB uA.heap.size ad n X) (hb : Below uB.heap.size uB u4) (hF6 : Frm [p7] u4 w6) (hF7 : Frm [p8] w6 w7) (h7 : p7 < uA.heap.size ∨ uB.heap.size ≤ p7) (h8 : p8 < uA.heap.size ∨ uB.heap.size ≤ p8) : BrAt w7 ad n X := by
  refine hI w7 (fun k h1 h2 => ?_)
  have hs := hb.size
  have hs6 := hF6.size
  rw [hF7.block k (by omega) (by simp; omega), hF6.block k (by omega) (by simp; omega), hb.block k h2]
/-- Both conditions given, each in a variable of its own. -/
structure EiR (U wc : World) (p7 p8 : Nat) (n : Nat) (X : Nat → Bv) (m : Nat) (Y : Nat → Bv) (ad1 : Option Addr) (cap1 : Nat) (ad2 : Option Addr) (cap2 : Nat) : Prop where
  below : Below U.heap.size U wc
  b7 : wc.heap[p7]? = some (.cells #[.slice ad1 n cap1] 38 (0, 0))
  b8 : wc.heap[p8]? = some (.cells #[.slice ad2 m cap2] 38 (0, 0))
  x : BrAt wc ad1 n X
  y : BrAt wc ad2 m Y
theorem opnA_left {X Y : Nat → Bv} {n m : Nat} {sz : Nat → Int} {sn : Nat} {T : List Nat} {ht ag : Int} (hX : COk X n) (hZ : COk (joinB X n Y) (n + m)) (i : Nat) (hi : i < n) : opnA (joinB X n Y) (n + m) i sz sn T ht ag = opnA X n i sz sn T ht ag := by
  unfold opnA
  rw [if_pos hX, if_pos hZ, if_pos (by omega), if_pos (by omega), Int.toNat_natCast, joinB_l hi]
theorem opnA_right {X Y : Nat → Bv} {n m : Nat} {sz : Nat → Int} {sn : Nat} {T : List Nat} {ht ag : Int} (hY : COk Y m) (hZ : COk (joinB X n Y) (n + m)) (k : Nat) (hk : k < m) : opnA (joinB X n Y) (n + m) ((n : Int) + k) sz sn T ht ag = opnA Y m k sz sn T ht ag := by
  unfold opnA
  rw [if_pos hY, if_pos hZ, if_pos (by omega), if_pos (by omega), Int.toNat_natCast, show ((n : Int) + k).toNat = n + k by omega, joinB_r]
theorem rem_ix (br : Int) (n : Nat) (h1 : 1 ≤ n) (h2 : n ≤ 1000000) : ∃ i : Nat, i < n ∧ wrap64 ((IntKind.u64.wrap br).tmod n) = (i : Int) := by
  have h0 : 0 ≤ IntKind.u64.wrap br := by rw [IntKind.wrap_u64]; omega
  have e : (IntKind.u64.wrap br).tmod n = IntKind.u64.wrap br % n := Int.tmod_eq_emod_of_nonneg h0
  have h3 := Int.emod_nonneg (IntKind.u64.wrap br) (b := (n : Int)) (by omega)
  have h4 := Int.emod_lt_of_pos (IntKind.u64.wrap br) (b := (n : Int)) (by omega)
  refine ⟨(IntKind.u64.wrap br % n).toNat, by omega, ?_⟩
  rw [e]
  unfold wrap64
  omega
/-- The variables that the last statement reads. -/
structure EBox (w : World) (p p7 p8 p9 p10 : Nat) (ad : Option Addr) (n cap : Nat) (ad1 : Option Addr) (cap1 : Nat) (ad2 : Option Addr) (m cap2 : Nat) (ado : Option Addr) (capo : Nat) (sa : Option Addr) (sn sc : Nat) (ta : Option Addr) (tl tc : Nat) (ht ag : Int) : Prop where
  c : w.cell? ⟨p, 0, none⟩ = some (.slice ad n cap)
  x : w.cell? ⟨p7, 0, none⟩ = some (.slice ad1 n cap1)
  y : w.cell? ⟨p8, 0, none⟩ = some (.slice ad2 m cap2)
  o : w.cell? ⟨p9, 0, none⟩ = some (.slice ado (n + m) capo)
  s : w.rangeAt p10 0 (sn4 sa sn sc ta tl tc ht ag).toList
theorem EBox.below {w w' : World} {p p7 p8 p9 p10 : Nat} {ad : Option Addr} {n cap : Nat} {ad1 : Option Addr} {cap1 : Nat} {ad2 : Option Addr} {m cap2 : Nat} {ado : Option Addr} {capo : Nat} {sa : Option Addr} {sn sc : Nat} {ta : Option Addr} {tl tc : Nat} {ht ag : Int} (h : EBox w p p7 p8 p9 p10 ad n cap ad1 cap1 ad2 m cap2 ado capo sa sn sc ta tl tc ht ag) (hb : Below w.heap.size w w') : EBox w' p p7 p8 p9 p10 ad n cap ad1 cap1 ad2 m cap2 ado capo sa sn sc ta tl tc ht ag :=
  ⟨by rw [hb.cell (World.block_lt_of_cell? w _ h.c)]; exact h.c, by rw [hb.cell (World.block_lt_of_cell? w _ h.x)]; exact h.x, by rw [hb.cell (World.block_lt_of_cell? w _ h.y)]; exact h.y, by rw [hb.cell (World.block_lt_of_cell? w _ h.o)]; exact h.o, range_below h.s hb⟩
theorem szSeenl (sa : Option Addr) (sn sc : Nat) (ta : Option Addr) (tl tc : Nat) (ht ag : Int) : (Tryd.prog.info? 31).map (·.size) = some (sn4 sa sn sc ta tl tc ht ag).toList.length := szSeen
/-- Whatever the last statement's calls want. -/
structure EAll (w0 w : World) (ad : Option Addr) (n : Nat) (X : Nat → Bv) (m : Nat) (Y : Nat → Bv) (ad1 ad2 ado : Option Addr) (sa : Option Addr) (sn : Nat) (sz : Nat → Int) (ta : Option Addr) (T : List Nat) : Prop where
  below : Below w0.heap.size w0 w
  env : Env w ad n X sa sn sz ta T
  x : BrAt w ad1 n X
  y : BrAt w ad2 m Y
  o : BrAt w ado (n + m) (joinB X n Y)
theorem EAll.next {w0 w w' : World} {ad : Option Addr} {n : Nat} {X : Nat → Bv} {m : Nat} {Y : Nat → Bv} {ad1 ad2 ado : Option Addr} {sa : Option Addr} {sn : Nat} {sz : Nat → Int} {ta : Option Addr} {T : List Nat} (h : EAll w0 w ad n X m Y ad1 ad2 ado sa sn sz ta T) (hb : Below w.heap.size w w') : EAll w0 w' ad n X m Y ad1 ad2 ado sa sn sz ta T :=
  ⟨Below.transS h.below hb, h.env.below hb, h.x.below hb, h.y.below hb, h.o.below hb⟩
open Go.ChangeShapes Go.WideShapes Go.ChangeAt in
/-- A branch and what is shown, as they came in. -/
theorem shown_in {H : Type} {enc : TypeId × Value → H} {W : World} {base fuel : Nat} {cs : List Value} {x : DataW H × List MemPlace} {spare : Nat → Bool} {held : Bool} (hsp : ∀ b, spare b = true)
    (hf : DataW.trod enc Tryd.prog W base spare held fuel 50 cs = some x) (hw : Light 50 x.1) :
    ∃ (br : Int) (sa : Option Addr) (sn sc : Nat) (sz : Nat → Int) (ta : Option Addr) (tc : Nat) (T : List Nat) (ht ag : Int), cs = [.int .i64 br, .slice sa sn sc, .slice ta T.length tc, .int .i64 ht, .int .i64 ag] ∧ Ib br ∧ SeenIn W sa sn sz ta tc T ht ag := by
  obtain ⟨xs, m, rfl, rfl, hcl, hxl, hfs⟩ := DataW.trod_struct Tryd.underlying50 hf
  have hcl' : cs.length = 5 := by rw [hcl]; kernel_rfl
  have hxl' : xs.length = 2 := hxl
  have cS : Tryd.prog.cellsOf 28 = 4 := by kernel_rfl
  have g0 : DataW.trod enc Tryd.prog W base spare held m 3 ((cs.drop 0).take (Tryd.prog.cellsOf 3)) = xs[0]? := hfs 0 _ rfl
  have g1 : DataW.trod enc Tryd.prog W base spare held m 28 ((cs.drop 1).take (Tryd.prog.cellsOf 28)) = xs[1]? := hfs 1 _ rfl
  rw [cellsI, take1 cs 0 (by omega), List.getElem?_eq_getElem (by omega)] at g0
  rw [cS, List.getElem?_eq_getElem (by omega), List.take_of_length_le (by simp; omega)] at g1
  have w1 : Light 28 (xs[1]'(by omega)).1 := fun q hq => hw q (by
    simp only [DataW.weights, Tryd.underlying50]
    exact DataW.weights_mem_each (j := 1) (t := 28) (d := (xs[1]'(by omega)).1) rfl (by rw [List.getElem?_map, List.getElem?_eq_getElem (by omega)]; rfl) q hq)
  obtain ⟨br, h0, _, w0⟩ := DataW.trod_int Tryd.underlying3 g0
  obtain ⟨sa, sn, sc, sz, ta, tc, T, ht, ag, h1, hs⟩ := seen_in hsp g1 w1
  refine ⟨br, sa, sn, sc, sz, ta, tc, T, ht, ag, ?_, bounds_i64 w0, hs⟩
  simp at h0
  have e0 : cs = cs[0] :: cs.drop 1 := by
    have := List.drop_eq_getElem_cons (l := cs) (i := 0) (by omega)
    simpa using this
  rw [e0, h0, h1]
end Go.Proofs.YtecahnafcljljaaDoor
