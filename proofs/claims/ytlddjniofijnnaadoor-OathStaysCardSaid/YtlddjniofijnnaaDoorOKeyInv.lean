/- What reads as a signature's key is one; a signature's variable: new, stored. -/
import Derived.Test.YtlddjniofijnnaaDoorOClone
namespace Go.Proofs.YtlddjniofijnnaaDoor
open Go.RowKit

theorem mapM_inv {α β : Type} {f : α → Option β} : ∀ (l : List α) (r : List β), l.mapM f = some r → ∀ x, x ∈ l → ∃ y, f x = some y
  | [], _, _, x, hx => by cases hx
  | a :: l, r, h, x, hx => by
    rw [List.mapM_cons] at h
    cases ha : f a with
    | none => rw [ha] at h; cases h
    | some b =>
      rw [ha] at h
      cases hl : l.mapM f with
      | none => rw [hl] at h; cases h
      | some r' =>
        rcases List.mem_cons.1 hx with rfl | hx
        · exact ⟨b, ha⟩
        · exact mapM_inv l r' hl x hx
theorem byte_inv (d : Nat) {v : Value} {ls : List Lit} (h : Tryd.prog.keyLits (d + 1) 5 [v] = some ls) : ∃ q : Int, v = .int .u8 q ∧ 0 ≤ q ∧ q ≤ 255 := by
  unfold Program.keyLits at h
  rw [Tryd.underlying5] at h
  cases v <;> simp at h
  obtain ⟨⟨rfl, hw⟩, _⟩ := h
  exact ⟨_, rfl, by simp [Lit.wf, IntKind.min, IntKind.max, IntKind.signed, IntKind.bits] at hw; omega⟩
theorem int_inv (d : Nat) {v : Value} {ls : List Lit} (h : Tryd.prog.keyLits (d + 1) 3 [v] = some ls) : ∃ q : Int, v = .int .i64 q ∧ Ib q := by
  unfold Program.keyLits at h
  rw [Tryd.underlying3] at h
  cases v <;> simp at h
  obtain ⟨⟨rfl, hw⟩, _⟩ := h
  exact ⟨_, rfl, by unfold Ib; simp [Lit.wf, IntKind.min, IntKind.max, IntKind.signed, IntKind.bits] at hw; omega⟩
theorem hash_inv (d : Nat) {cs : List Value} {ls : List Lit} (h : Tryd.prog.keyLits (d + 2) 32 cs = some ls) : ∃ z, cs = bl z 32 ∧ Zb z := by
  unfold Program.keyLits at h
  rw [Tryd.underlying32] at h
  simp only [cellsH, cellsB] at h
  split at h
  · rename_i hl
    cases hm : (List.range 32).mapM (fun i => Tryd.prog.keyLits (d + 1) 5 ((cs.drop (i * 1)).take 1)) with
    | none => rw [hm] at h; cases h
    | some r =>
      have each := mapM_inv _ _ hm
      have hb : ∀ i, i < 32 → ∃ q : Int, cs[i]? = some (.int .u8 q) ∧ 0 ≤ q ∧ q ≤ 255 := by
        intro i hi
        obtain ⟨y, hy⟩ := each i (List.mem_range.2 hi)
        have e : (cs.drop (i * 1)).take 1 = [cs[i]'(by omega)] := by
          rw [Nat.mul_one, List.drop_eq_getElem_cons (by omega)]; rfl
        rw [e] at hy
        obtain ⟨q, h1, h2⟩ := byte_inv d hy
        exact ⟨q, by rw [List.getElem?_eq_getElem (by omega), h1], h2⟩
      obtain ⟨z, hz⟩ := Go.Deep.choose_lt hb
      refine ⟨z, ?_, fun j hj => (hz j hj).2⟩
      apply List.ext_getElem?
      intro i
      by_cases hi : i < 32
      · rw [bl_at hi, (hz i hi).1]
      · rw [List.getElem?_eq_none (by omega), List.getElem?_eq_none (by simp [bl_length]; omega)]
  · cases h
theorem sig_inv (d : Nat) {cs : List Value} {ls : List Lit} (h : Tryd.prog.keyLits (d + 3) 52 cs = some ls) : ∃ n z, cs = .int .i64 n :: bl z 32 ∧ Ib n ∧ Zb z := by
  unfold Program.keyLits at h
  rw [Tryd.underlying52] at h
  simp only [cellsS] at h
  split at h
  · rename_i hl
    simp [cellsI, cellsH, Option.bind_eq_some_iff] at h
    obtain ⟨a, h1, _, ⟨c, h2, _⟩, _⟩ := h
    cases cs with
    | nil => simp at hl
    | cons v t =>
      have e1 : List.take 1 (v :: t) = [v] := rfl
      rw [e1] at h1
      obtain ⟨n, rfl, hn⟩ := int_inv (d + 1) h1
      obtain ⟨z, e2, hz⟩ := hash_inv d h2
      refine ⟨n, z, ?_, hn, hz⟩
      have e3 : List.take 32 t = t := List.take_of_length_le (by have := hl.1; simp at this; omega)
      simp only [List.tail_cons] at e2
      rw [← e3, e2]
  · cases h
theorem sig_invN {N : Nat} (hN : 3 ≤ N) {cs : List Value} {ls : List Lit} (h : Tryd.prog.keyLits N 52 cs = some ls) : ∃ n z, cs = .int .i64 n :: bl z 32 ∧ Ib n ∧ Zb z := by
  obtain ⟨d, rfl⟩ : ∃ d, N = d + 3 := ⟨N - 3, by omega⟩
  exact sig_inv d h
/-- What reads as a key is a signature. -/
theorem key_inv {v : Value} {l : Lit} (h : keyOf Tryd.prog 52 v = some l) : ∃ x : Sg, v = .agg (kv x.k x.z) ∧ Ib x.k ∧ Zb x.z := by
  have h0 := h
  unfold keyOf at h
  rw [Tryd.underlying52] at h
  simp only [ktS, Bool.true_and, tsize] at h
  split at h
  · rename_i hf
    cases hk : Tryd.prog.keyLits (116 + 1) 52 v.cells.toList with
    | none => rw [hk] at h; cases h
    | some ls =>
      obtain ⟨n, z, e, hn, hz⟩ := sig_invN (by omega) hk
      simp only [Value.formed, Tryd.underlying52] at hf
      cases v <;> simp at hf
      rename_i xs
      refine ⟨⟨n, z⟩, ?_, hn, hz⟩
      have : xs.toList = .int .i64 n :: bl z 32 := e
      show Value.agg xs = _
      unfold kv
      rw [← this]
  · cases h
theorem kv_inj {n m : Int} {z y : Nat → Int} (h : kv n z = kv m y) : n = m ∧ bl z 32 = bl y 32 := by
  have h2 : (Value.int .i64 n :: bl z 32) = (.int .i64 m :: bl y 32) := congrArg Array.toList h
  simp only [List.cons.injEq, Value.int.injEq, true_and] at h2
  exact h2
theorem key_bd {n : Int} {z : Nat → Int} {l : Lit} (h : keyOf Tryd.prog 52 (.agg (kv n z)) = some l) : Ib n ∧ Zb z ∧ l = kl n z := by
  obtain ⟨x, e, h1, h2⟩ := key_inv h
  simp only [Value.agg.injEq] at e
  obtain ⟨rfl, e2⟩ := kv_inj e
  have hz : Zb z := by
    intro j hj
    have : (bl z 32)[j]? = (bl x.z 32)[j]? := by rw [e2]
    rw [bl_at hj, bl_at hj] at this
    simp at this
    rw [this]; exact h2 j hj
  refine ⟨h1, hz, ?_⟩
  rw [keyOfS h1 hz] at h
  exact (Option.some.inj h).symm
theorem unit_inv (v : Value) (y : DataW Unit × List MemPlace) (h : unitElem v = some y) : ∃ _c : Unit, v = (fun _ : Unit => Value.agg #[]) _c := ⟨(), (unitElem_inv h).1⟩
theorem sigkey_inv (key : Value) (l : Lit) (h : keyOf Tryd.prog 52 key = some l) : ∃ x : Sg, key = (fun x : Sg => Value.agg (kv x.k x.z)) x := by
  obtain ⟨x, e, _⟩ := key_inv h
  exact ⟨x, e⟩

theorem kv_size (n : Int) (z : Nat → Int) : (kv n z).size = 33 := by simp [kv, bl_length]
theorem kv_one (n : Int) (z : Nat → Int) : (kv n z).all (·.oneCell') = true := all_oneCell_toArray (fun u hu => by
  rcases List.mem_cons.1 hu with rfl | h
  · rfl
  · exact bl_one z 32 u h)
theorem ksz : (Tryd.prog.info? 52).map (·.size) = some 33 := by kernel_rfl
theorem kszv (n : Int) (z : Nat → Int) : (Tryd.prog.info? 52).map (·.size) = some (kv n z).size := by rw [kv_size]; exact ksz
theorem run_allocK (w : World) : (Instr.alloc 52 true (.tuple #[])).run Tryd.prog w = .ok (.pointer (some ⟨w.heap.size, 0, none⟩)) (w.alloc (.cells (kv 0 nz) 52)) := by kernel_rfl
section
variable {ops : Array Oper} {rest : List Oper} {o : Oper} {a : Act} {w : World} {Q : Exit → Act → World → Prop}
theorem wpList_allocK (hgd : o.guard = none) (ho : o.op = .alloc 52)
    (h : wpList Tryd.prog ops Q rest (a.put o.dst (.pointer (some ⟨w.heap.size, 0, none⟩))) (w.alloc (.cells (kv 0 nz) 52))) : wpList Tryd.prog ops Q (o :: rest) a w := by
  refine wpList_plain hgd fun K hK => ?_
  unfold Oper.wp execOp
  simp only [ho, Sem.run_bind, run_allocK, Result.andThen]
  exact hK _ _ h
theorem wpList_storeK (hgd : o.guard = none) (x y : Operand) (ho : o.op = .store 52 x y) (g : Nat) (hx : a.eval x = .pointer (some ⟨g, 0, none⟩)) (n : Int) (z : Nat → Int) (n' : Int) (u : Nat → Int) (t : TypeId) (hy : a.eval y = .agg (kv n z)) (hg : w.heap[g]? = some (.cells (kv n' u) t (0, 0)))
    (h : ∀ w', w'.heap[g]? = some (.cells (kv n z) t (0, 0)) → Frm [g] w w' → wpList Tryd.prog ops Q rest (a.put o.dst undef) w') : wpList Tryd.prog ops Q (o :: rest) a w := by
  refine wpList_store_mid hgd 52 x y ho g 0 (kv n z) hx hy ?_ (kszv n z) (kv_one n z) (h _ ?_ (setCells_frm g _ 0 w))
  · intro j hj
    rw [kv_size] at hj
    refine ⟨?_, ?_⟩
    · rw [Nat.zero_add, cell_of_row w g j _ t _ hg]
      simp [kv_size, hj]
    · rw [Nat.zero_add]; exact frozen_of_row w g j _ t hg
  · have := setCells_at g (kv n z).toList 0 w [] (kv n' u).toList t (by simpa using hg) rfl (by simp [kv_size])
    rw [this]
    simp [kv_size, List.drop_eq_nil_of_le]
end

/-- A list laid into a book. -/
theorem BkAt.setRow {w : World} {B p m k : Nat} {g : Nat → Option Nat} {S : List (Int × List UInt8)} {v' : Value} (h : BkAt w B p m g S) (hk : k < 16) (hr : RowAt w B v' S.length) (hv : ∀ j, v'.ownBlock = some j → j ∉ fpL p m g) :
    BkAt (w.setCell ⟨p, 1 + k, none⟩ v') B p m (fun i => if i = k then v'.ownBlock else g i) S ∧ Frm [p] w (w.setCell ⟨p, 1 + k, none⟩ v') := by
  obtain ⟨⟨sl, d1, c2⟩, ⟨D, c3, c4⟩, c5, c6, c7, c8, c9⟩ := h
  have d5 := heap_setCell_same w p (1 + k) _ _ v' d1
  rw [bkc_set] at d5
  have hv' : ∀ j, v'.ownBlock = some j → j ≠ p ∧ j ≠ m ∧ ∀ i, i < 16 → g i ≠ some j := by
    intro j e
    have := hv j e
    exact ⟨fun h => this (mem_fpL.2 (.inl h)), fun h => this (mem_fpL.2 (.inr (.inl h))), fun i hi h => this (mem_fpL.2 (.inr (.inr ⟨i, hi, h⟩)))⟩
  refine ⟨⟨⟨_, d5, fun i hi => ?_⟩, ⟨D, owns_keep c3 (Below.heap_setCell _ _ _ _ (Ne.symm c5)), c4⟩, c5, fun i hi => ?_, fun i j q hi hj hij e e' => ?_, c8, c9⟩, (Frm.refl [p] w).setCell _ _ (by simp)⟩
  · by_cases e : i = k
    · subst e
      simp only [if_true]
      exact ⟨trivial, hr.keep fun j hj => Below.heap_setCell _ _ _ _ (hv' j hj).1⟩
    · simp only [if_neg e]
      refine ⟨(c2 i hi).1, (c2 i hi).2.keep fun j hj => Below.heap_setCell _ _ _ _ ?_⟩
      intro e'
      exact (c6 i hi).1 (by rw [← (c2 i hi).1, hj, e'])
  · by_cases e : i = k
    · simp only [if_pos e]
      exact ⟨fun h => (hv' p h).1 rfl, fun h => (hv' m h).2.1 rfl⟩
    · simp only [if_neg e]
      exact c6 i hi
  · by_cases ei : i = k
    · have ej : ¬ j = k := fun h => hij (ei.trans h.symm)
      simp only [if_pos ei] at e
      simp only [if_neg ej] at e'
      exact (hv' q e).2.2 j hj e'
    · simp only [if_neg ei] at e
      by_cases ej : j = k
      · simp only [if_pos ej] at e'
        exact (hv' q e').2.2 i hi e
      · simp only [if_neg ej] at e'
        exact c7 i j q hi hj hij e e'
end Go.Proofs.YtlddjniofijnnaaDoor
