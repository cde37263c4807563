/- The document's outputs and places of a commitment, laid one behind the other. -/
import Derived.Test.YtjnepkggdkccaaaGreatDoorOwnShelf20
namespace Go.Proofs.YtjnepkggdkccaaaGreatDoor
open Go.RowKit

/-- What has been laid: each output's condition lies in blocks that nobody else uses, and in kx, where the key of the branch lies that all share. -/
structure LayD (w : World) (B kx : Nat) (x : Int) (os : List To) (zs : List (Int × Int)) (va : Option Addr) (vc : Nat) (ua : Option Addr) (uc : Nat) (A : Nat → Option Addr × Nat) (I : Nat → Nat × Nat) : Prop where
  fx : w.heap[kx]? = some (.cells #[.int .i64 x] 3 (0, 0))
  lt : kx < B ∧ B ≤ w.heap.size
  outs : w.ownsRow B 124 2 (.slice va os.length vc) os.length (flatL (oL os A) os.length)
  pls : w.ownsRow B 72 2 (.slice ua zs.length uc) zs.length (flatL (pL zs) zs.length)
  cond : ∀ j, j < os.length → ∀ w' : World, w'.heap[kx]? = w.heap[kx]? → (∀ k, (I j).1 ≤ k → k < (I j).2 → w'.heap[k]? = w.heap[k]?) → Cd.BrAt w' (A j).1 (os.getD j default).cn (os.getD j default).X
  int : ∀ j, j < os.length → B ≤ (I j).1 ∧ (I j).2 ≤ w.heap.size ∧ (A j).1 ≠ none
  apO : ∀ j, j < os.length → ∀ g, (Value.slice va os.length vc).ownBlock = some g → g < (I j).1 ∨ (I j).2 ≤ g
  apP : ∀ j, j < os.length → ∀ g, (Value.slice ua zs.length uc).ownBlock = some g → g < (I j).1 ∨ (I j).2 ≤ g
section
variable {w w1 : World} {B kx : Nat} {x : Int} {os : List To} {zs : List (Int × Int)} {va : Option Addr} {vc : Nat} {ua : Option Addr} {uc : Nat} {A : Nat → Option Addr × Nat} {I : Nat → Nat × Nat}
theorem LayD.below (h : LayD w B kx x os zs va vc ua uc A I) (hb : Below w.heap.size w w1) : LayD w1 B kx x os zs va vc ua uc A I := by
  have hs := hb.size
  refine ⟨heap_below hb h.fx, ⟨h.lt.1, by have := h.lt.2; omega⟩, own_below h.outs hb, own_below h.pls hb, fun j hj w' hx hw => h.cond j hj w' ?_ (fun k h1 h2 => ?_), fun j hj => ⟨(h.int j hj).1, by have := (h.int j hj).2.1; omega, (h.int j hj).2.2⟩, h.apO, h.apP⟩
  · rw [hx]; exact hb.block kx (lt_of_block h.fx)
  · rw [hw k h1 h2]
    exact hb.block k (by have := (h.int j hj).2.1; omega)
theorem LayD.pushO (h : LayD w B kx x os zs va vc ua uc A I) {y : To} {ca va' : Option Addr} {cc vc' lo hi : Nat}
    (hown : w1.ownsRow B 124 2 (.slice va' (os.length + 1) vc') (os.length + 1) (flatL (oL os A) os.length ++ tol y ca cc)) (hg : w.grownBy w1 (Value.slice va os.length vc).ownBlock) (hloc : (Value.slice va' (os.length + 1) vc').ownBlock = (Value.slice va os.length vc).ownBlock ∨ (Value.slice va' (os.length + 1) vc').ownBlock = some w.heap.size)
    (hc : ∀ w' : World, w'.heap[kx]? = w.heap[kx]? → (∀ k, lo ≤ k → k < hi → w'.heap[k]? = w.heap[k]?) → Cd.BrAt w' ca y.cn y.X) (hlo : B ≤ lo) (hhi : hi ≤ w.heap.size) (hva : ∀ g, (Value.slice va os.length vc).ownBlock = some g → g < lo) (hua : ∀ g, (Value.slice ua zs.length uc).ownBlock = some g → g < lo) (hca : ca ≠ none) :
    LayD w1 B kx x (os ++ [y]) zs va' vc' ua uc (fun j => if j = os.length then (ca, cc) else A j) (fun j => if j = os.length then (lo, hi) else I j) := by
  obtain ⟨l1, l7⟩ := h.lt
  have hlt := h.outs.lt
  have kept : ∀ k, k < w.heap.size → (∀ g, (Value.slice va os.length vc).ownBlock = some g → k ≠ g) → w1.heap[k]? = w.heap[k]? := fun k hk ho => hg.block k hk (fun e => ho k e.symm rfl)
  have keptB : ∀ k, k < B → w1.heap[k]? = w.heap[k]? := fun k hk => kept k (by omega) (fun g e => by have := (hlt g e).1; omega)
  have hnew : ∀ g, (Value.slice va' (os.length + 1) vc').ownBlock = some g → (Value.slice va os.length vc).ownBlock = some g ∨ g = w.heap.size := fun g e => by
    rcases hloc with h1 | h1
    · exact .inl (h1 ▸ e)
    · rw [h1] at e; exact .inr (by simpa using e.symm)
  have hll : (os ++ [y]).length = os.length + 1 := by simp
  have hsz := hg.size
  refine ⟨by rw [keptB kx l1]; exact h.fx, ⟨l1, by omega⟩, ?_, ?_, fun j hj w' hx hw => ?_, fun j hj => ?_, fun j hj g e => ?_, fun j hj g e => ?_⟩
  · rw [oL_push, hll]; exact hown
  · refine own_keep h.pls (fun g e => kept g (h.pls.lt g e).2 (fun g' e' he => ?_))
    subst he
    exact own_apart h.outs h.pls (by decide) g e' e
  · rw [hll] at hj
    rw [keptB kx l1] at hx
    by_cases ej : j = os.length
    · subst ej
      simp only [if_true] at hw ⊢
      have : (os ++ [y]).getD os.length default = y := by simp
      rw [this]
      exact hc w' hx (fun k h1 h2 => by rw [hw k h1 h2]; exact kept k (by omega) (fun g e => by have := hva g e; omega))
    · have hj' : j < os.length := by omega
      simp only [if_neg ej] at hw ⊢
      have : (os ++ [y]).getD j default = os.getD j default := by simp only [List.getD_eq_getElem?_getD, List.getElem?_append_left hj']
      rw [this]
      have hI := h.int j hj'
      exact h.cond j hj' w' hx (fun k h1 h2 => by rw [hw k h1 h2]; exact kept k (by omega) (fun g e => by have := h.apO j hj' g e; omega))
  · rw [hll] at hj
    by_cases ej : j = os.length
    · simp only [if_pos ej]; exact ⟨hlo, by omega, hca⟩
    · simp only [if_neg ej]
      have hI := h.int j (by omega)
      exact ⟨hI.1, by omega, hI.2.2⟩
  · rw [hll] at hj e
    by_cases ej : j = os.length
    · simp only [if_pos ej]
      rcases hnew g e with h1 | h1
      · have := hva g h1; omega
      · omega
    · simp only [if_neg ej]
      have hI := h.int j (by omega)
      rcases hnew g e with h1 | h1
      · exact h.apO j (by omega) g h1
      · omega
  · rw [hll] at hj
    by_cases ej : j = os.length
    · simp only [if_pos ej]; have := hua g e; omega
    · simp only [if_neg ej]; exact h.apP j (by omega) g e
theorem LayD.pushP (h : LayD w B kx x os zs va vc ua uc A I) {y : Int × Int} {ua' : Option Addr} {uc' : Nat}
    (hown : w1.ownsRow B 72 2 (.slice ua' (zs.length + 1) uc') (zs.length + 1) (flatL (pL zs) zs.length ++ [.int .i64 y.1, .int .i64 y.2])) (hg : w.grownBy w1 (Value.slice ua zs.length uc).ownBlock) (hloc : (Value.slice ua' (zs.length + 1) uc').ownBlock = (Value.slice ua zs.length uc).ownBlock ∨ (Value.slice ua' (zs.length + 1) uc').ownBlock = some w.heap.size) :
    LayD w1 B kx x os (zs ++ [y]) va vc ua' uc' A I := by
  obtain ⟨l1, l7⟩ := h.lt
  have hlt := h.pls.lt
  have kept : ∀ k, k < w.heap.size → (∀ g, (Value.slice ua zs.length uc).ownBlock = some g → k ≠ g) → w1.heap[k]? = w.heap[k]? := fun k hk ho => hg.block k hk (fun e => ho k e.symm rfl)
  have keptB : ∀ k, k < B → w1.heap[k]? = w.heap[k]? := fun k hk => kept k (by omega) (fun g e => by have := (hlt g e).1; omega)
  have hll : (zs ++ [y]).length = zs.length + 1 := by simp
  have hsz := hg.size
  refine ⟨by rw [keptB kx l1]; exact h.fx, ⟨l1, by omega⟩, ?_, ?_, fun j hj w' hx hw => ?_, fun j hj => ?_, h.apO, fun j hj g e => ?_⟩
  · refine own_keep h.outs (fun g e => kept g (h.outs.lt g e).2 (fun g' e' he => ?_))
    subst he
    exact own_apart h.outs h.pls (by decide) g e e'
  · rw [pL_push, hll]; exact hown
  · rw [keptB kx l1] at hx
    have hI := h.int j hj
    exact h.cond j hj w' hx (fun k h1 h2 => by rw [hw k h1 h2]; exact kept k (by omega) (fun g e => by have := h.apP j hj g e; omega))
  · have hI := h.int j hj
    exact ⟨hI.1, by omega, hI.2.2⟩
  · rw [hll] at e
    have hI := h.int j hj
    rcases hloc with h1 | h1
    · exact h.apP j hj g (h1 ▸ e)
    · rw [h1] at e
      have : g = w.heap.size := by simpa using e.symm
      omega
end
def LaidD (w : World) (B kx : Nat) (x : Int) (os : List To) (zs : List (Int × Int)) (va : Option Addr) (vc : Nat) (ua : Option Addr) (uc : Nat) : Prop := ∃ A I, LayD w B kx x os zs va vc ua uc A I
theorem infoTr : (Tryz.prog.info? 124).map (fun i => (i.zero, i.size, i.bytes)) = some (some (.agg #[.int .i64 0, .slice none 0 0]), 2, 32) := by kernel_rfl
theorem infoPr : (Tryz.prog.info? 72).map (fun i => (i.zero, i.size, i.bytes)) = some (some (.agg #[.int .i64 0, .int .i64 0]), 2, 16) := by kernel_rfl
theorem slice_tr (am : Int) (ca : Option Addr) (n cc : Nat) (w : World) : (Instr.buildSlice 56 1 #[(0, .agg #[.int .i64 am, .slice ca n cc])]).run Tryz.prog w = .ok (.slice (some ⟨w.heap.size, 0, none⟩) 1 1) (w.alloc (.cells #[.int .i64 am, .slice ca n cc] 124)) := by kernel_rfl
theorem slice_pr (x y : Int) (w : World) : (Instr.buildSlice 64 1 #[(0, .agg #[.int .i64 x, .int .i64 y])]).run Tryz.prog w = .ok (.slice (some ⟨w.heap.size, 0, none⟩) 1 1) (w.alloc (.cells #[.int .i64 x, .int .i64 y] 72)) := by kernel_rfl
theorem run_append_Tr (w : World) (B q : Nat) (ty : TypeId) (v : Value) (i : Nat) (xs : List Value) (am : Int) (ca : Option Addr) (n cc : Nat) (hown : w.ownsRow B 124 2 v i xs) (hB : B ≤ w.heap.size) (hq : w.heap[q]? = some (.cells #[.int .i64 am, .slice ca n cc] 124 (0, 0))) (hi : i ≤ 1000000) :
    ∃ va vc w1, (Builtin.append_ #[56, 56] ty #[v, .slice (some ⟨q, 0, none⟩) 1 1]).run Tryz.prog w = .ok (.slice va (i + 1) vc) w1 ∧ w1.ownsRow B 124 2 (.slice va (i + 1) vc) (i + 1) (xs ++ [.int .i64 am, .slice ca n cc]) ∧ w.grownBy w1 v.ownBlock ∧ ((Value.slice va (i + 1) vc).ownBlock = v.ownBlock ∨ (Value.slice va (i + 1) vc).ownBlock = some w.heap.size) := by
  obtain ⟨i0, hi0, hz0, hz1, hz2⟩ := info_parts infoTr
  obtain ⟨v', w1, hr, h2, h3, _, h5⟩ := run_append_own_at (P := Tryz.prog) w B 56 ty 124 i0 (.agg #[.int .i64 0, .slice none 0 0]) 2 32 Tryz.underlying56 hi0 hz0 hz1 hz2 rfl (by omega) v i xs hown ⟨q, 0, none⟩ 1 1 [.int .i64 am, .slice ca n cc] rfl (fun j u hj => by
      rw [Addr.add_lit, Nat.zero_add, cell_of_row _ _ j _ _ _ hq]
      simpa using hj) (fun u hu => by simp at hu; rcases hu with rfl | rfl <;> rfl) (by unfold maxLen; omega) (by omega) hB
  obtain ⟨va, vc, rfl, _, _⟩ := own_frmV h2
  exact ⟨va, vc, w1, hr, h2, h3, h5⟩
theorem run_append_Pr (w : World) (B q : Nat) (ty : TypeId) (v : Value) (i : Nat) (xs : List Value) (x y : Int) (hown : w.ownsRow B 72 2 v i xs) (hB : B ≤ w.heap.size) (hq : w.heap[q]? = some (.cells #[.int .i64 x, .int .i64 y] 72 (0, 0))) (hi : i ≤ 1000000) :
    ∃ va vc w1, (Builtin.append_ #[64, 64] ty #[v, .slice (some ⟨q, 0, none⟩) 1 1]).run Tryz.prog w = .ok (.slice va (i + 1) vc) w1 ∧ w1.ownsRow B 72 2 (.slice va (i + 1) vc) (i + 1) (xs ++ [.int .i64 x, .int .i64 y]) ∧ w.grownBy w1 v.ownBlock ∧ ((Value.slice va (i + 1) vc).ownBlock = v.ownBlock ∨ (Value.slice va (i + 1) vc).ownBlock = some w.heap.size) := by
  obtain ⟨i0, hi0, hz0, hz1, hz2⟩ := info_parts infoPr
  obtain ⟨v', w1, hr, h2, h3, _, h5⟩ := run_append_own_at (P := Tryz.prog) w B 64 ty 72 i0 (.agg #[.int .i64 0, .int .i64 0]) 2 16 Tryz.underlying64 hi0 hz0 hz1 hz2 rfl (by omega) v i xs hown ⟨q, 0, none⟩ 1 1 [.int .i64 x, .int .i64 y] rfl (fun j u hj => by
      rw [Addr.add_lit, Nat.zero_add, cell_of_row _ _ j _ _ _ hq]
      simpa using hj) (fun u hu => by simp at hu; rcases hu with rfl | rfl <;> rfl) (by unfold maxLen; omega) (by omega) hB
  obtain ⟨va, vc, rfl, _, _⟩ := own_frmV h2
  exact ⟨va, vc, w1, hr, h2, h3, h5⟩
section
variable {ops : Array Oper} {rest : List Oper} {o : Oper} {a : Act} {w : World} {Q : Exit → Act → World → Prop} {K : Act → World → Prop} {E : Prop}
/-- One more output, in a region that draws or not: a slice of one, then an append. -/
theorem step_sliceTr (hgd : o.guard = none) (x : Operand) (ho : o.op = .buildSlice 56 1 #[(0, x)]) (am : Int) (ca : Option Addr) (n cc : Nat) (hx : a.eval x = .agg #[.int .i64 am, .slice ca n cc])
    (h : ∀ q w1, w1.heap[q]? = some (.cells #[.int .i64 am, .slice ca n cc] 124 (0, 0)) → w.heap.size ≤ q → Below w.heap.size w w1 → K (a.put o.dst (.slice (some ⟨q, 0, none⟩) 1 1)) w1) : if Region.wanted o (yielded ops a.tmps) = true then Oper.wp Tryz.prog o a w K Q else E := by
  have hw : Region.wanted o (yielded ops a.tmps) = true := by simp [Region.wanted, hgd]
  rw [if_pos hw]
  unfold Oper.wp execOp
  simp only [ho, List.map_toArray, List.map_cons, List.map_nil, hx, Sem.run_bind, slice_tr, Result.andThen]
  exact h _ _ (heap_alloc_new _ _) (Nat.le_refl _) ((Below.refl _ _).alloc (Nat.le_refl _) _)
theorem step_append_Tr (hgd : o.guard = none) (s y : Operand) (ho : o.op = .call { callee := .builtin .append, args := #[s, y], argTypes := #[56, 56] }) {B kx : Nat} {x : Int} {os : List To} {zs : List (Int × Int)} {va : Option Addr} {vc : Nat} {ua : Option Addr} {uc : Nat} {A : Nat → Option Addr × Nat} {I : Nat → Nat × Nat} (hL : LayD w B kx x os zs va vc ua uc A I) (q : Nat) (O : To) (ca : Option Addr) (cc lo hi : Nat) (hs : a.eval s = .slice va os.length vc) (hx : a.eval y = .slice (some ⟨q, 0, none⟩) 1 1) (hq : w.heap[q]? = some (.cells #[.int .i64 O.am, .slice ca O.cn cc] 124 (0, 0))) (ho1 : os.length ≤ 1000000)
    (hc : ∀ w' : World, w'.heap[kx]? = w.heap[kx]? → (∀ k, lo ≤ k → k < hi → w'.heap[k]? = w.heap[k]?) → Cd.BrAt w' ca O.cn O.X) (hlo : B ≤ lo) (hhi : hi ≤ w.heap.size) (hva : ∀ g, (Value.slice va os.length vc).ownBlock = some g → g < lo) (hua : ∀ g, (Value.slice ua zs.length uc).ownBlock = some g → g < lo) (hca : ca ≠ none)
    (h : ∀ va' vc' w1, LaidD w1 B kx x (os ++ [O]) zs va' vc' ua uc → (∀ C, C ≤ B → Below C w w1) → K (a.put o.dst (.slice va' (os.length + 1) vc')) w1) : if Region.wanted o (yielded ops a.tmps) = true then Oper.wp Tryz.prog o a w K Q else E := by
  have hw : Region.wanted o (yielded ops a.tmps) = true := by simp [Region.wanted, hgd]
  rw [if_pos hw]
  obtain ⟨va', vc', w1, hr, h1, h2, h3⟩ := run_append_Tr w B q o.type (.slice va os.length vc) os.length _ O.am ca O.cn cc hL.outs hL.lt.2 hq ho1
  unfold Oper.wp execOp
  simp only [ho, resolve, invoke, builtin, Sem.run_bind, Sem.run_pure, Result.andThen_ok, List.map_toArray, List.map_cons, List.map_nil, hs, hx, hr]
  exact h _ _ _ ⟨_, _, hL.pushO h1 h2 h3 hc hlo hhi hva hua hca⟩ (fun C hC => ⟨h2.os, h2.tape, h2.output, h2.size, fun k hk => h2.block k (by have := hL.lt.2; omega) (fun e => by have := (hL.outs.lt k e.symm).1; omega)⟩)
theorem wpList_slicePr (hgd : o.guard = none) (x : Operand) (ho : o.op = .buildSlice 64 1 #[(0, x)]) (y z : Int) (hx : a.eval x = .agg #[.int .i64 y, .int .i64 z])
    (h : ∀ w1, New w w1 #[.int .i64 y, .int .i64 z] 72 → wpList Tryz.prog ops Q rest (a.put o.dst (.slice (some ⟨w.heap.size, 0, none⟩) 1 1)) w1) : wpList Tryz.prog ops Q (o :: rest) a w := by
  refine wpList_plain hgd fun K hK => ?_
  unfold Oper.wp execOp
  simp only [ho, List.map_toArray, List.map_cons, List.map_nil, hx, Sem.run_bind, slice_pr, Result.andThen]
  exact hK _ _ (h _ (new_alloc w _ _))
theorem wpList_append_Pr (hgd : o.guard = none) (s u : Operand) (ho : o.op = .call { callee := .builtin .append, args := #[s, u], argTypes := #[64, 64] }) {B kx : Nat} {x : Int} {os : List To} {zs : List (Int × Int)} {va : Option Addr} {vc : Nat} {ua : Option Addr} {uc : Nat} (hL : LaidD w B kx x os zs va vc ua uc) (q : Nat) (y z : Int) (hs : a.eval s = .slice ua zs.length uc) (hx : a.eval u = .slice (some ⟨q, 0, none⟩) 1 1) (hq : w.heap[q]? = some (.cells #[.int .i64 y, .int .i64 z] 72 (0, 0))) (ho1 : zs.length ≤ 1000000)
    (h : ∀ ua' uc' w1, LaidD w1 B kx x os (zs ++ [(y, z)]) va vc ua' uc' → (∀ C, C ≤ B → Below C w w1) → wpList Tryz.prog ops Q rest (a.put o.dst (.slice ua' (zs.length + 1) uc')) w1) : wpList Tryz.prog ops Q (o :: rest) a w := by
  obtain ⟨A, I, hL⟩ := hL
  obtain ⟨ua', uc', w1, hr, h1, h2, h3⟩ := run_append_Pr w B q o.type (.slice ua zs.length uc) zs.length _ y z hL.pls hL.lt.2 hq ho1
  refine wpList_plain hgd fun K hK => ?_
  unfold Oper.wp execOp
  simp only [ho, resolve, invoke, builtin, Sem.run_bind, Sem.run_pure, Result.andThen_ok, List.map_toArray, List.map_cons, List.map_nil, hs, hx, hr]
  exact hK _ _ (h _ _ _ ⟨A, I, hL.pushP (y := (y, z)) h1 h2 h3⟩ (fun C hC => ⟨h2.os, h2.tape, h2.output, h2.size, fun k hk => h2.block k (by have := hL.lt.2; omega) (fun e => by have := (hL.pls.lt k e.symm).1; omega)⟩))
end
end Go.Proofs.YtjnepkggdkccaaaGreatDoor
/- build.outputs: the walk. -/
namespace Go.Proofs.YtjnepkggdkccaaaGreatDoor
open Go.RowKit

theorem enter_own (args : Array Value) (w : World) : (callFunc 47 args).run Tryz.prog w = .ok (.enter 47 args) w := enters_of Tryz.func47 (by kernel_rfl) rfl args w
theorem enter_other (args : Array Value) (w : World) : (callFunc 48 args).run Tryz.prog w = .ok (.enter 48 args) w := enters_of Tryz.func48 (by kernel_rfl) rfl args w
theorem enter_paid (args : Array Value) (w : World) : (callFunc 49 args).run Tryz.prog w = .ok (.enter 49 args) w := enters_of Tryz.func49 (by kernel_rfl) rfl args w
theorem enter_held (args : Array Value) (w : World) : (callFunc 50 args).run Tryz.prog w = .ok (.enter 50 args) w := enters_of Tryz.func50 (by kernel_rfl) rfl args w
/-- While the outputs are laid. -/
structure OI (w v4 wr : World) (bs bo bp : Nat) (s : Sv) (p : Pl) (c : Cm) (ka : Option Addr) (kc : Nat) (os : List To) (zs : List (Int × Int)) : Prop where
  lay : LayS wr v4.heap.size bo bp w.heap.size c ka kc os zs
  box : wr.heap[bs]? = some (.cells (svv s p) 45 (0, 0))
  frm : FrB v4.heap.size [bo, bp, w.heap.size] v4 wr
  low : Below w.heap.size w v4 ∧ w.heap.size < bs ∧ bs < bo ∧ bo < bp ∧ bp < v4.heap.size
section
variable {w v4 wr w' : World} {bs bo bp : Nat} {s : Sv} {p : Pl} {c : Cm} {ka : Option Addr} {kc : Nat} {os os' : List To} {zs zs' : List (Int × Int)}
theorem OI.keep (h : OI w v4 wr bs bo bp s p c ka kc os zs) (hb : Below wr.heap.size wr w') : OI w v4 w' bs bo bp s p c ka kc os zs :=
  ⟨h.lay.below hb, heap_below hb h.box, h.frm.trans (FrB.ofBelow hb h.lay.fc.2), h.low⟩
theorem OI.post (h : OI w v4 wr bs bo bp s p c ka kc os zs) {e : Ending} (hp : LayPost v4.heap.size bo bp w.heap.size c ka kc os' zs' wr e w') : e = .returned (.tuple #[]) ∧ OI w v4 w' bs bo bp s p c ka kc os' zs' :=
  ⟨hp.1, hp.2.1, by rw [hp.2.2.block bs (by have := h.low; omega) (by have := h.low; simp; omega)]; exact h.box, h.frm.trans (hp.2.2.mono (by simp)), h.low⟩
theorem OI.setC (h : OI w v4 wr bs bo bp s p c ka kc os zs) {c' : Cm} {ka' : Option Addr} {kc' : Nat} (hf : Frm [w.heap.size] wr w') (hn : w'.heap[w.heap.size]? = some (.cells (cmv c' ka' kc') 104 (0, 0))) : OI w v4 w' bs bo bp s p c' ka' kc' os zs :=
  ⟨h.lay.setC hf hn, hf.heap h.box (by have := h.low; simp; omega), h.frm.trans (FrB.ofFrm hf h.lay.fc.2 (by simp)), h.low⟩
theorem OI.below (h : OI w v4 wr bs bo bp s p c ka kc os zs) : Below w.heap.size w wr := h.low.1.trans (h.frm.below h.low.1.size (by have := h.low; simp; omega))
theorem OI.o (h : OI w v4 wr bs bo bp s p c ka kc os zs) : wr.cell? ⟨w.heap.size, 38, none⟩ = some (.int .i64 c.o) := (cmBox (cml_range h.lay.fc.1)).o
theorem OI.pm (h : OI w v4 wr bs bo bp s p c ka kc os zs) : wr.rangeAt w.heap.size 0 (pml c.P) := (cmBox (cml_range h.lay.fc.1)).pm
theorem OI.st (h : OI w v4 wr bs bo bp s p c ka kc os zs) : wr.rangeAt bs 0 (svv s p).toList := sv_range h.box
end
theorem belowN {B : Nat} {a w : World} (h : Below B a w) (n : Nat) : Below B a (w.drewN n) := ⟨h.os, h.tape, h.output, h.size, h.block⟩
theorem kok_nn {z : Nat → Int} {n : Nat} (h : KOk z n) : ∀ j, j < n → 0 ≤ z j
  | 0, hj => by have := (h 0 hj).1; simp [lastK] at this; omega
  | j + 1, hj => by have h1 := (h (j + 1) hj).1; have h2 := kok_nn h j (by omega); rw [lastK_succ] at h1; omega
theorem paysO_zero (c : Cm) (s : Sv) : paysO c s 0 = sideO c s ∧ paysZ c s 0 = sideZ c s := by simp [paysO, paysZ]
theorem outsO_zero (c : Cm) (s : Sv) : outsO c s 0 = paysO c s s.pn ∧ outsZ c s 0 = paysZ c s s.pn := by simp [outsO, outsZ]
set_option maxRecDepth 100000 in
set_option maxHeartbeats 6400000 in
theorem outputs_any (c : Cm) (ka : Option Addr) (kc : Nat) (s : Sv) (p : Pl) (w : World) (hc : CmOk c) (h : SvAt w s p) (hs : SOk s) (hn : ∀ i, i < s.hn → (s.H i).n ≤ 300) :
    Calls Tryz.prog 26 #[.agg (cmv c ka kc), .agg (svv s p)] w fun e w' => ∃ va vc ua uc A I, e = .returned (.tuple #[.slice va (outsO c s s.hn).length vc, .slice ua (outsZ c s s.hn).length uc]) ∧ OutR w' w.heap.size (outsO c s s.hn) (outsZ c s s.hn) va vc ua uc A I ∧ Below w.heap.size w w' := by
  have HC : Hid (CmOk c) := hc
  have HSv : Hid (SvAt w s p ∧ SOk s ∧ ∀ i, i < s.hn → (s.H i).n ≤ 300) := ⟨h, hs, hn⟩
  have hwr : IntKind.i64.wrap (1 - c.o) = 1 - c.o := by have := hc.o; rw [IntKind.wrap_i64]; omega
  have hso : 0 ≤ c.o ∧ c.o ≤ 1 := by have := hc.o; omega
  have HL2 : Hid ((0 ≤ c.o ∧ c.o ≤ 1) ∧ (0 ≤ 1 - c.o ∧ 1 - c.o ≤ 1) ∧ ((0 ≤ s.a ∧ s.a ≤ 1125899906842624) ∧ (0 ≤ c.P.fe ∧ c.P.fe ≤ 1125899906842624))) := ⟨hso, by omega, hs.1.2.1, hc.fe⟩
  have HPN : Hid (s.pn + s.hn ≤ 8) := hs.2.1.1
  have hp8 := HPN.out
  clear hc h hs hn hso
  go_enter Tryz.func26, Tryz.ntmps26
  go_upto_region 4 with (first | (refine wpList_boxN rfl _ _ rfl (cmv c ka kc) rfl ?_; intro v1 N1) | (refine wpList_boxN rfl _ _ rfl (svv s p) rfl ?_; intro v2 N2) | (refine wpList_allocN 48 #[.slice none 0 0] run_allocTos rfl rfl ?_; intro v3 N3) | (refine wpList_allocN 61 #[.slice none 0 0] run_allocPls rfl rfl ?_; intro v4 N4) | fail)
  have HO4 : Hid (OI w v4 v4 v1.heap.size v2.heap.size v3.heap.size s p c ka kc [] []) := by
    have e1 := N1.size
    have e2 := N2.size
    have e3 := N3.size
    have e4 := N4.size
    exact ⟨lay_start (N4.old N3.blk) N4.blk (N4.old (N3.old (N2.old N1.blk))) ⟨by omega, by omega, by omega, by omega, by omega, by omega, Nat.le_refl _⟩, N4.old (N3.old N2.blk), FrB.refl _ _ _, Below.transS N1.below (Below.transS N2.below (Below.transS N3.below N4.below)), by omega, by omega, by omega, by omega⟩
  clear N1 N2 N3 N4
  generalize v1.heap.size = bs at *
  generalize v2.heap.size = bo at *
  generalize v3.heap.size = bp at *
  have c38 := HO4.out.o
  go_wp2_with (first | (refine wpList_load_mid rfl 40 _ rfl w.heap.size 0 rfl (pml c.P) _ HO4.out.pm Tryz.underlying40 rfl (szPml c.P) ?_) | (refine wpList_load_mid rfl 45 _ rfl bs 0 rfl (svv s p).toList _ HO4.out.st Tryz.underlying45 rfl szS ?_) | fail)
  refine (left_any c.P s p c.o v4 HL2.out.1 HL2.out.2.2).mono ?_
  rintro e v5 ⟨rfl, hb5⟩
  have HO5 := hidV (HO4.out.keep hb5)
  clear hb5 c38
  go_wp2_with fail
  refine (lay_any 47 enter_own 1 0 (leftF c.P s c.o) 2 (fun i => if i = 0 then brS c c.o else rvS c) v4.heap.size bo bp w.heap.size c ka kc [] [] v5 HO5.out.lay ?_ (by simp) (by simp)).mono ?_
  · refine (own_any c ka kc v5.drew HC.out.o (brS_ok HC.out _) (rvS_ok HC.out)).mono ?_
    rintro e w' ⟨b, rfl, h1, h2⟩
    exact ⟨b, rfl, h1, h2⟩
  rintro e v6 hp
  obtain ⟨rfl, hO6⟩ := HO5.out.post hp
  have HO6 := hidV hO6
  clear hp hO6 HO5 HO4
  have c38 := HO6.out.o
  go_wp2_with (first | (refine wpList_load_mid rfl 40 _ rfl w.heap.size 0 rfl (pml c.P) _ HO6.out.pm Tryz.underlying40 rfl (szPml c.P) ?_) | (refine wpList_load_mid rfl 45 _ rfl bs 0 rfl (svv s p).toList _ HO6.out.st Tryz.underlying45 rfl szS ?_) | fail)
  refine (left_any c.P s p (1 - c.o) v6 HL2.out.2.1 HL2.out.2.2).mono ?_
  rintro e v7 ⟨rfl, hb7⟩
  have HO7 := hidV (HO6.out.keep hb7)
  clear hb7 c38
  go_wp2_with fail
  refine (lay_any 48 enter_other 2 0 (leftF c.P s (1 - c.o)) 1 (fun _ => Cd.kb [keyS c.P (1 - c.o)]) v4.heap.size bo bp w.heap.size c ka kc _ _ v7 HO7.out.lay (other_any c ka kc v7.drew HC.out.o ?_) ?_ ?_).mono ?_
  · have := HC.out.k; unfold Ib; omega
  · have := ifL_len (leftF c.P s c.o) (ownO c s); simp only [List.nil_append]; unfold ownO at this; omega
  · have := ifL_len (leftF c.P s c.o) ((1, 0) : Int × Int); simp only [List.nil_append]; omega
  rintro e v8 hp
  obtain ⟨rfl, hO8⟩ := HO7.out.post hp
  have HO8 : Hid (OI w v4 v8 bs bo bp s p { c with y := c.y } ka kc (paysO c s 0) (paysZ c s 0)) := by rw [(paysO_zero c s).1, (paysO_zero c s).2]; exact hO8
  clear hp hO8 HO6 HO7 HL2 hwr
  have c3 : v8.cell? ⟨bs, 3, none⟩ = some (.slice p.pa s.pn p.pc) := HO8.out.st 3 _ rfl
  go_wp2_with fail
  clear c3
  go_loopw [10, 34] (fun _ iv wr => ∃ (i : Nat) (y : Py), i ≤ s.pn ∧ iv = .int .i64 i ∧ OI w v4 wr bs bo bp s p { c with y := y } ka kc (paysO c s i) (paysZ c s i)) (fun _ iv _ => s.pn + 1 - (intOf iv).toNat)
  case atStart => exact ⟨0, c.y, by omega, rfl, HO8.out⟩
  case round =>
    clear HO8
    obtain ⟨i, y, hi, rfl, hI⟩ := hrel
    have HI := hidV hI
    clear hI
    by_cases hlt : i < s.pn
    · have hlt' : (i : Int) < s.pn := by omega
      obtain ⟨b, off, hpa, hcc⟩ := HSv.out.1.py.at_ (by omega)
      have HR : Hid (wr.rangeAt b (off + i * 36) (pyl (s.P i))) := range_below (hcc i hlt) HI.out.below
      have HY : Hid (Zb (s.P i).lk ∧ POne (s.P i)) := ⟨HSv.out.1.py.lk i hlt, (HSv.out.2.1.2.1.2.1 i hlt).2⟩
      have HW : Hid (w.heap.size < wr.heap.size) := lt_of_block HI.out.lay.fc.1
      clear hcc
      rw [hpa]
      go_wp2_with (first | (refine wpList_load_mid rfl 97 _ rfl b (off + i * 36) rfl (pyl (s.P i)) _ HR.out Tryz.underlying97 rfl (szPl _) ?_) | (refine wpList_allocN 97 (pyv p0) run_allocPy rfl rfl ?_; intro z1 N1) | (refine wpList_storeG 97 szP rfl _ _ rfl wr.heap.size rfl (pyv (s.P i)) (pyv p0) (pyv_size _) (pyv_size _) (pyv_one _) 97 rfl N1.blk ?_; intro z2 hg2 hf2; have HI2 := hidV (HI.out.keep (N1.below.trans (hf2.below N1.below.size (by simp)) : Below wr.heap.size wr z2)); have HP2 := hidV (pyl_range hg2); clear N1 hf2) | (refine wpList_load_mid rfl 97 _ rfl wr.heap.size 0 rfl (pyl (s.P i)) _ HP2.out Tryz.underlying97 rfl (szPl _) ?_) | (refine wpList_storeCy rfl _ _ rfl w.heap.size rfl (s.P i) rfl { c with y := y } ka kc 104 HI2.out.lay.fc.1 ?_; intro z3 hg3 hf3; have HI3 : Hid (OI w v4 z3 bs bo bp s p { c with y := s.P i } ka kc (paysO c s i) (paysZ c s i)) := HI2.out.setC hf3 hg3; have hR3 := range_frm HP2.out hf3 (by have := HW.out; simp; omega); have c0 : z3.cell? ⟨wr.heap.size, 0, none⟩ = some (.int .i64 (s.P i).id) := hR3 0 _ rfl; have c2 : z3.cell? ⟨wr.heap.size, 2, none⟩ = some (.int .i64 (s.P i).am) := hR3 2 _ rfl; clear hR3 hg3 hf3 HI2 HP2 hg2) | fail)
      refine (lay_any 49 enter_paid 3 (s.P i).id (s.P i).am 3 (pdS { c with y := s.P i }) v4.heap.size bo bp w.heap.size { c with y := s.P i } ka kc _ _ z3 HI3.out.lay ?_ ?_ ?_).mono ?_
      · refine (paid_any { c with y := s.P i } ka kc z3.drew HC.out.o HY.out.2.2.1 (toS_ok (c := { c with y := s.P i }) ⟨HC.out.o, HC.out.k, HC.out.dl, HC.out.fe, HC.out.lk⟩ HY.out.1) (bkS_ok (c := { c with y := s.P i }) ⟨HC.out.o, HC.out.k, HC.out.dl, HC.out.fe, HC.out.lk⟩ HY.out.2.2.2.2.1) (rvS_ok (c := { c with y := s.P i }) ⟨HC.out.o, HC.out.k, HC.out.dl, HC.out.fe, HC.out.lk⟩)).mono ?_
        rintro e w' ⟨q, rfl, h1, h2⟩
        exact ⟨q, rfl, h1, h2⟩
      · have := paysO_len c s i; have := HPN.out; omega
      · have := paysO_len c s i; have := HPN.out; omega
      rintro e z4 hp
      obtain ⟨rfl, hI4⟩ := HI3.out.post hp
      have HI4 : Hid (OI w v4 z4 bs bo bp s p { c with y := s.P i } ka kc (paysO c s (i + 1)) (paysZ c s (i + 1))) := by
        obtain ⟨e1, e2⟩ := paysO_succ c s i HY.out.2.2.2.1.1
        rw [← e1, ← e2]
        exact hI4
      clear hp hI4 HI3 c0 c2
      go_wp2
      go_roundw
      case rel => exact ⟨i + 1, s.P i, by omega, by go_num, HI4.out⟩
      case measure => simp [intOf]; omega
    · obtain rfl : i = s.pn := by omega
      have hnn : ¬ ((s.pn : Int) < s.pn) := by omega
      have HJ : Hid (OI w v4 wr bs bo bp s p { c with y := y } ka kc (outsO c s 0) (outsZ c s 0)) := by rw [(outsO_zero c s).1, (outsO_zero c s).2]; exact HI.out
      have c4 : wr.cell? ⟨bs, 4, none⟩ = some (.slice p.ha s.hn p.hc) := HJ.out.st 4 _ rfl
      clear HI
      go_wp2_with fail
      clear c4 hnn
      generalize wr = v9 at *
      go_loopw [12, 50] (fun _ iv wr => ∃ (i : Nat) (x : Hd) (ka' : Option Addr) (kc' : Nat), i ≤ s.hn ∧ iv = .int .i64 i ∧ OI w v4 wr bs bo bp s p { c with y := y, h := x } ka' kc' (outsO c s i) (outsZ c s i)) (fun _ iv _ => s.hn + 1 - (intOf iv).toNat)
      case atStart => exact ⟨0, c.h, ka, kc, by omega, rfl, HJ.out⟩
      case round =>
        clear HJ
        rename World => wr
        obtain ⟨i, x, ka', kc', hi, rfl, hI⟩ := hrel
        have HI := hidV hI
        clear hI
        by_cases hlt : i < s.hn
        · have hlt' : (i : Int) < s.hn := by omega
          obtain ⟨b, off, hpa, hcc⟩ := HSv.out.1.hd.at_ (by omega)
          obtain ⟨ha, hk, hr0, hi0, hn0⟩ := hcc i hlt
          have HR : Hid (wr.rangeAt b (off + i * 3) (hdl (s.H i) ha hk)) := range_below hr0 HI.out.below
          have HY : Hid (IsAt w ha (s.H i).n (s.H i).z ∧ HOne (s.H i) ∧ (s.H i).n ≤ 300) := ⟨hi0, (HSv.out.2.1.2.1.2.2 i hlt).2, HSv.out.2.2 i hlt⟩
          have HW : Hid (w.heap.size < wr.heap.size) := lt_of_block HI.out.lay.fc.1
          clear hcc hr0 hi0 hn0
          rw [hpa]
          go_wp2_with (first | (refine wpList_load_mid rfl 99 _ rfl b (off + i * 3) rfl (hdl (s.H i) ha hk) _ HR.out Tryz.underlying99 rfl szH ?_) | (refine wpList_allocN 99 (hdv default none 0) run_allocHd rfl rfl ?_; intro z1 N1) | (refine wpList_storeG 99 szH rfl _ _ rfl wr.heap.size rfl (hdv (s.H i) ha hk) (hdv default none 0) rfl rfl (all_oneCell_toArray (hdl1 (s.H i) ha hk)) 99 rfl N1.blk ?_; intro z2 hg2 hf2; have HI2 := hidV (HI.out.keep (N1.below.trans (hf2.below N1.below.size (by simp)) : Below wr.heap.size wr z2)); have HP2 := hidV (hdl_range hg2); clear N1 hf2) | (refine wpList_load_mid rfl 99 _ rfl wr.heap.size 0 rfl (hdl (s.H i) ha hk) _ HP2.out Tryz.underlying99 rfl szH ?_) | (refine wpList_storeCh rfl _ _ rfl w.heap.size rfl (s.H i) ha hk rfl { c with y := y, h := x } ka' kc' 104 HI2.out.lay.fc.1 ?_; intro z3 hg3 hf3; have HI3 : Hid (OI w v4 z3 bs bo bp s p { c with y := y, h := s.H i } ha hk (outsO c s i) (outsZ c s i)) := HI2.out.setC hf3 hg3; have hR3 := range_frm HP2.out hf3 (by have := HW.out; simp; omega); have c0 : z3.cell? ⟨wr.heap.size, 0, none⟩ = some (.int .i64 (s.H i).id) := hR3 0 _ rfl; have c2 : z3.cell? ⟨wr.heap.size, 1, none⟩ = some (.int .i64 (s.H i).am) := hR3 1 _ rfl; have HA3 : Hid (IsAt z3 ha (s.H i).n (s.H i).z) := HY.out.1.below HI3.out.below; clear hR3 hg3 hf3 HI2 HP2 hg2) | fail)
          refine (lay_any 50 enter_held 4 (s.H i).id (s.H i).am 1 (fun _ => Cd.kb (Cd.insL (s.H i).z (s.H i).n)) v4.heap.size bo bp w.heap.size { c with y := y, h := s.H i } ha hk _ _ z3 HI3.out.lay ?_ ?_ ?_).mono ?_
          · refine held_any { c with y := y, h := s.H i } ha hk z3.drew (HA3.out.below (Below.refl _ _).drew) (fun j hj => ?_) (by have := HY.out.2.2; show (s.H i).n ≤ 1000000; omega)
            have h1 := kok_nn HY.out.2.1.2.2.1 j hj
            have h2 := (HY.out.2.1.2.2.1 j hj).2
            show Ib ((s.H i).z j)
            unfold Ib; omega
          · have := outsO_len c s i; have := HPN.out; omega
          · have := outsO_len c s i; have := HPN.out; omega
          rintro e z4 hp
          obtain ⟨rfl, hI4⟩ := HI3.out.post hp
          have HI4 : Hid (OI w v4 z4 bs bo bp s p { c with y := y, h := s.H i } ha hk (outsO c s (i + 1)) (outsZ c s (i + 1))) := by
            obtain ⟨e1, e2⟩ := outsO_succ c s i HY.out.2.1.2.1.1
            rw [← e1, ← e2]
            exact hI4
          clear hp hI4 HI3 c0 c2 HA3
          go_wp2
          go_roundw
          case rel => exact ⟨i + 1, s.H i, ha, hk, by omega, by go_num, HI4.out⟩
          case measure => simp [intOf]; omega
        · obtain rfl : i = s.hn := by omega
          have hnn : ¬ ((s.hn : Int) < s.hn) := by omega
          obtain ⟨va, vc, ua, uc, A, I, hL⟩ := HI.out.lay
          have HE : Hid (∀ n, OutR (wr.drewN n) w.heap.size (outsO c s s.hn) (outsZ c s s.hn) va vc ua uc A I ∧ Below w.heap.size w (wr.drewN n)) := fun n => ⟨(hL.below (belowN (Below.refl _ _) n)).out HI.out.low.1.size, belowN HI.out.below n⟩
          have c0 : wr.cell? ⟨bo, 0, none⟩ = some (.slice va (outsO c s s.hn).length vc) := by rw [cell_of_row _ _ 0 _ _ _ hL.fo]; rfl
          have c1 : wr.cell? ⟨bp, 0, none⟩ = some (.slice ua (outsZ c s s.hn).length uc) := by rw [cell_of_row _ _ 0 _ _ _ hL.fp]; rfl
          clear hL HI
          go_wp2_with fail
          go_quiet (fail)
          go_wp2
          go_ret2
          exact ⟨va, vc, ua, uc, A, I, rfl, HE.out _⟩
end Go.Proofs.YtjnepkggdkccaaaGreatDoor
