/- give: a condition as the program's. -/
import Derived.Test.YtanchjfodcjlmaaGreatDoorOwnShelf13
import Derived.Maps.AppendAt
namespace Go.Proofs.YtanchjfodcjlmaaGreatDoor.Cd
open Go.RowKit

/-- Ints appended to nothing. -/
theorem append_keys (w : World) (ty : TypeId) (ka : Option Addr) (n kc : Nat) (z : Nat → Int) (h : IsAt w ka n z) (hn : n ≤ 1000000) :
    ∃ ka' kc' w1, (Builtin.append_ #[71, 71] ty #[.slice none 0 0, .slice ka n kc]).run Tryz.prog w = .ok (.slice ka' n kc') w1 ∧ IsAt w1 ka' n z ∧ Below w.heap.size w w1 ∧ (∀ a, ka' = some a → w.heap.size ≤ a.block ∧ a.block < w1.heap.size) := by
  obtain ⟨i0, hi0, hz0, hz1, hz2⟩ := info_parts infoI
  have own (a : Addr) (hc : ∀ j u, ((List.range n).map fun j => Value.int .i64 (z j))[j]? = some u → w.cell? (a.add j) = some u) := run_append_own_at (P := Tryz.prog) w w.heap.size 71 ty 3 i0 (.int .i64 0) 1 8 Tryz.underlying71 hi0 hz0 hz1 hz2 rfl (by decide) (.slice none 0 0) 0 [] (World.ownsRow_nil _ _ _ _) a n kc ((List.range n).map fun j => Value.int .i64 (z j)) (by simp) hc
      (fun u hu => by obtain ⟨y, _, rfl⟩ := List.mem_map.1 hu; rfl) (by simp only [maxLen]; omega) (by omega) (Nat.le_refl _)
  rcases Nat.eq_zero_or_pos n with h0 | hpos
  · subst h0
    cases ka with
    | none =>
      refine ⟨none, 0, w, ?_, fun h => by omega, Below.refl _ _, fun a h => by cases h⟩
      simp [Builtin.append_, run_underlying Tryz.underlying71, sizeOf, typeInfo, hi0, Builtin.lenOf, Builtin.firstCells]
    | some a =>
      obtain ⟨v', w1, hr, h2, h3, h4, _⟩ := own a (fun j u hu => by simp at hu)
      obtain rfl := h4.2 ⟨rfl, rfl⟩
      exact ⟨none, 0, w1, hr, fun h => by omega, ⟨h3.os, h3.tape, h3.output, h3.size, fun k hk => h3.block k hk (by simp [Value.ownBlock])⟩, fun a h => by cases h⟩
  · obtain ⟨b, off, rfl, hc⟩ := h hpos
    obtain ⟨v', w1, hr, h2, h3, h4, _⟩ := own ⟨b, off, none⟩ (fun j u hu => by
      simp only [List.getElem?_map, Option.map_eq_some_iff] at hu
      obtain ⟨q, h1, rfl⟩ := hu
      obtain ⟨h3, h4⟩ := List.getElem?_eq_some_iff.1 h1
      simp at h3 h4
      subst h4
      rw [Addr.add_lit]; exact hc _ h3)
    have hb : Below w.heap.size w w1 := ⟨h3.os, h3.tape, h3.output, h3.size, fun k hk => h3.block k hk (by simp [Value.ownBlock])⟩
    have hown := h2
    rw [Nat.zero_add, List.nil_append] at hown
    rcases hown.2 with ⟨rfl, e⟩ | ⟨g, cap, cur, rfl, hg, hgc, hcap, _, hcs, htk⟩
    · omega
    · refine ⟨_, cap, w1, hr, fun _ => ⟨g, 0, rfl, fun j hj => ?_⟩, hb, fun a e => ?_⟩
      · have := hown.cells (g := g) rfl j (.int .i64 (z j)) (by simp [hj])
        rwa [Addr.add_lit] at this
      · cases e; exact ⟨hg, lt_of_block hgc⟩

theorem run_allocB (w : World) : (Instr.alloc 101 true (.tuple #[])).run Tryz.prog w = .ok (.pointer (some ⟨w.heap.size, 0, none⟩)) (w.alloc (.cells (bv b0 none 0) 101)) := by kernel_rfl
theorem slice_b (x : Bv) (ka : Option Addr) (kc : Nat) (w : World) : (Instr.buildSlice 74 1 #[(0, .agg (bv x ka kc))]).run Tryz.prog w = .ok (.slice (some ⟨w.heap.size, 0, none⟩) 1 1) (w.alloc (.cells (bv x ka kc) 101)) := by kernel_rfl
theorem infoB : (Tryz.prog.info? 101).map (fun i => (i.zero, i.size, i.bytes)) = some (some (.agg (bv b0 none 0)), 35, 72) := by kernel_rfl
section
variable {ops : Array Oper} {rest : List Oper} {o : Oper} {a : Act} {w : World} {Q : Exit → Act → World → Prop}
theorem wpList_allocB (hgd : o.guard = none) (ho : o.op = .alloc 101)
    (h : wpList Tryz.prog ops Q rest (a.put o.dst (.pointer (some ⟨w.heap.size, 0, none⟩))) (w.alloc (.cells (bv b0 none 0) 101))) : wpList Tryz.prog ops Q (o :: rest) a w := by
  refine wpList_plain hgd fun K hK => ?_
  unfold Oper.wp execOp
  simp only [ho, Sem.run_bind, run_allocB, Result.andThen]
  exact hK _ _ h
theorem wpList_sliceB (hgd : o.guard = none) (x : Operand) (ho : o.op = .buildSlice 74 1 #[(0, x)]) (v : Bv) (ka : Option Addr) (kc : Nat) (hx : a.eval x = .agg (bv v ka kc))
    (h : wpList Tryz.prog ops Q rest (a.put o.dst (.slice (some ⟨w.heap.size, 0, none⟩) 1 1)) (w.alloc (.cells (bv v ka kc) 101))) : wpList Tryz.prog ops Q (o :: rest) a w := by
  refine wpList_plain hgd fun K hK => ?_
  unfold Oper.wp execOp
  simp only [ho, List.map_toArray, List.map_cons, List.map_nil, hx, Sem.run_bind, slice_b, Result.andThen]
  exact hK _ _ h
theorem wpList_appendK (hgd : o.guard = none) (s x : Operand) (ho : o.op = .call { callee := .builtin .append, args := #[s, x], argTypes := #[71, 71] })
    (ka : Option Addr) (n kc : Nat) (z : Nat → Int) (hs : a.eval s = .slice none 0 0) (hx : a.eval x = .slice ka n kc) (hI : IsAt w ka n z) (hn : n ≤ 1000000)
    (h : ∀ ka' kc' w1, IsAt w1 ka' n z → Below w.heap.size w w1 → (∀ a, ka' = some a → w.heap.size ≤ a.block ∧ a.block < w1.heap.size) → wpList Tryz.prog ops Q rest (a.put o.dst (.slice ka' n kc')) w1) : wpList Tryz.prog ops Q (o :: rest) a w := by
  obtain ⟨ka', kc', w1, hr, h2, h3, h4⟩ := append_keys w o.type ka n kc z hI hn
  refine wpList_plain hgd fun K hK => ?_
  unfold Oper.wp execOp
  simp only [ho, resolve, invoke, builtin, Sem.run_bind, Sem.run_pure, Result.andThen_ok, List.map_toArray, List.map_cons, List.map_nil, hs, hx, hr]
  exact hK _ _ (h ka' kc' w1 h2 h3 h4)
end

/-- The cells of n branches, one behind the other; the keys of the branch i at A i. -/
def flatB (X : Nat → Bv) (A : Nat → Option Addr × Nat) : Nat → List Value
  | 0 => []
  | n + 1 => flatB X A n ++ brl (X n) (A n).1 (A n).2
theorem flatB_length (X : Nat → Bv) (A : Nat → Option Addr × Nat) : ∀ n, (flatB X A n).length = n * 35
  | 0 => rfl
  | n + 1 => by rw [flatB, List.length_append, flatB_length X A n, brl_length]; omega
theorem flatB_congr {X : Nat → Bv} {A B : Nat → Option Addr × Nat} : ∀ n, (∀ i, i < n → A i = B i) → flatB X A n = flatB X B n
  | 0, _ => rfl
  | n + 1, h => by rw [flatB, flatB, flatB_congr n (fun i hi => h i (by omega)), h n (by omega)]
theorem flatB_at (X : Nat → Bv) (A : Nat → Option Addr × Nat) : ∀ n i r, i < n → r < 35 → (flatB X A n)[i * 35 + r]? = (brl (X i) (A i).1 (A i).2)[r]?
  | 0, _, _, h, _ => by omega
  | n + 1, i, r, h, hr => by
    rw [flatB]
    by_cases e : i = n
    · subst e
      rw [List.getElem?_append_right (by rw [flatB_length]; omega), flatB_length, Nat.add_sub_cancel_left]
    · rw [List.getElem?_append_left (by rw [flatB_length]; omega)]
      exact flatB_at X A n i r (by omega) hr
/-- What has been given of a condition: the first i branches. -/
structure GivR (w wr : World) (v : Value) (X : Nat → Bv) (A : Nat → Option Addr × Nat) (i : Nat) : Prop where
  below : Below w.heap.size w wr
  own : wr.ownsRow w.heap.size 101 35 v i (flatB X A i)
  keys : ∀ j, j < i → IsAt wr (A j).1 (X j).n (X j).z
  apart : ∀ j, j < i → ∀ a, (A j).1 = some a → w.heap.size ≤ a.block ∧ a.block < wr.heap.size ∧ v.ownBlock ≠ some a.block
/-- A condition whose branches and keys lie in blocks from B on: it stays whatever becomes of the others. -/
def BrIn (wr : World) (B : Nat) (ad : Option Addr) (n : Nat) (X : Nat → Bv) : Prop := ∀ w' : World, (∀ k, B ≤ k → k < wr.heap.size → w'.heap[k]? = wr.heap[k]?) → BrAt w' ad n X
theorem BrIn.brAt {wr : World} {B : Nat} {ad : Option Addr} {n : Nat} {X : Nat → Bv} (h : BrIn wr B ad n X) : BrAt wr ad n X := h wr (fun _ _ _ => rfl)
theorem BrIn.mono {wr : World} {B B' : Nat} {ad : Option Addr} {n : Nat} {X : Nat → Bv} (h : BrIn wr B ad n X) (hB : B' ≤ B) : BrIn wr B' ad n X := fun w' hw => h w' (fun k h1 h2 => hw k (by omega) h2)
theorem GivR.brIn {w wr : World} {v : Value} {X : Nat → Bv} {A : Nat → Option Addr × Nat} {i : Nat} (h : GivR w wr v X A i) (hok : ∀ j, j < i → (X j).Ok) : ∃ ad cap, v = .slice ad i cap ∧ BrIn wr w.heap.size ad i X := by
  rcases h.own.2 with ⟨rfl, rfl⟩ | ⟨g, cap, cur, rfl, hg, hgc, _⟩
  · exact ⟨none, 0, rfl, fun w' _ => BrAt.nil _ _ _⟩
  · refine ⟨_, cap, rfl, fun w' hw => ⟨hok, fun hn => ⟨g, 0, rfl, fun j hj => ⟨(A j).1, (A j).2, fun r u hu => ?_, fun hn2 => ?_⟩⟩⟩⟩
    · have hr : r < 35 := by
        have := (List.getElem?_eq_some_iff.1 hu).1
        rwa [brl_length] at this
      have := h.own.cells (g := g) rfl (j * 35 + r) u (by rw [flatB_at X A i j r hj hr]; exact hu)
      rw [Addr.add_lit] at this
      rw [Nat.add_assoc, World.cell?_of_block (a := ⟨g, 0 + (j * 35 + r), none⟩) (hw g hg (lt_of_block hgc))]
      exact this
    · obtain ⟨b, off, e, hc⟩ := h.keys j hj hn2
      refine ⟨b, off, e, fun q hq => ?_⟩
      rw [World.cell?_of_block (a := ⟨b, off + q, none⟩) (hw b (h.apart j hj _ e).1 (h.apart j hj _ e).2.1)]
      exact hc q hq
theorem GivR.brAt {w wr w' : World} {v : Value} {X : Nat → Bv} {A : Nat → Option Addr × Nat} {i : Nat} (h : GivR w wr v X A i) (hok : ∀ j, j < i → (X j).Ok) (hw : ∀ k, w.heap.size ≤ k → w'.heap[k]? = wr.heap[k]?) : ∃ ad cap, v = .slice ad i cap ∧ BrAt w' ad i X := by
  rcases h.own.2 with ⟨rfl, rfl⟩ | ⟨g, cap, cur, rfl, hg, _⟩
  · exact ⟨none, 0, rfl, BrAt.nil _ _ _⟩
  · refine ⟨_, cap, rfl, hok, fun hn => ⟨g, 0, rfl, fun j hj => ⟨(A j).1, (A j).2, fun r u hu => ?_, fun hn2 => ?_⟩⟩⟩
    · have hr : r < 35 := by
        have := (List.getElem?_eq_some_iff.1 hu).1
        rwa [brl_length] at this
      have := h.own.cells (g := g) rfl (j * 35 + r) u (by rw [flatB_at X A i j r hj hr]; exact hu)
      rw [Addr.add_lit] at this
      rw [Nat.add_assoc, World.cell?_of_block (a := ⟨g, 0 + (j * 35 + r), none⟩) (hw g hg)]
      exact this
    · obtain ⟨b, off, e, hc⟩ := h.keys j hj hn2
      refine ⟨b, off, e, fun q hq => ?_⟩
      rw [World.cell?_of_block (a := ⟨b, off + q, none⟩) (hw b (h.apart j hj _ e).1)]
      exact hc q hq
theorem GivR.keep {w wr w' : World} {v : Value} {X : Nat → Bv} {A : Nat → Option Addr × Nat} {i : Nat} (h : GivR w wr v X A i) (hb : Below wr.heap.size wr w') : GivR w w' v X A i := by
  obtain ⟨h1, h2, h3, h4⟩ := h
  refine ⟨Below.transS h1 hb, ⟨h2.1, ?_⟩, fun j hj => (h3 j hj).below hb, fun j hj a e => ?_⟩
  · rcases h2.2 with hn | ⟨g, cap, cur, e, hbs, hg, rest⟩
    · exact .inl hn
    · exact .inr ⟨g, cap, cur, e, hbs, by rw [hb.block _ (lt_of_block hg)]; exact hg, rest⟩
  · obtain ⟨p, q, r⟩ := h4 j hj a e
    exact ⟨p, Nat.lt_of_lt_of_le q hb.size, r⟩
theorem isAt_grown {w w' : World} {row : Option Nat} {ka : Option Addr} {n : Nat} {z : Nat → Int} (h : IsAt w ka n z) (hg : w.grownBy w' row) (ha : ∀ a, ka = some a → row ≠ some a.block) : IsAt w' ka n z := by
  intro hn
  obtain ⟨b, off, e, hc⟩ := h hn
  refine ⟨b, off, e, fun j hj => ?_⟩
  have h1 := hc j hj
  have hl : b < w.heap.size := World.block_lt_of_cell? w ⟨b, off + j, none⟩ h1
  rw [World.cell?_of_block (a := ⟨b, off + j, none⟩) (hg.block b hl (fun e2 => ha _ e e2.symm))]
  exact h1
theorem isAt_set {w : World} {g o : Nat} {u : Value} {ka : Option Addr} {n : Nat} {z : Nat → Int} (h : IsAt w ka n z) (ha : ∀ a, ka = some a → a.block ≠ g) : IsAt (w.setCell ⟨g, o, none⟩ u) ka n z := by
  intro hn
  obtain ⟨b, off, e, hc⟩ := h hn
  refine ⟨b, off, e, fun j hj => ?_⟩
  rw [World.cell?_of_block (a := ⟨b, off + j, none⟩) (Below.heap_setCell _ _ _ _ (ha _ e))]
  exact hc j hj
theorem GivR.next {w w4 w5 : World} {v v' : Value} {X : Nat → Bv} {A : Nat → Option Addr × Nat} {i : Nat} {ka : Option Addr} {kc : Nat} (h : GivR w w4 v X A i) (hown : w5.ownsRow w.heap.size 101 35 v' (i + 1) (flatB X A i ++ brl (X i) ka kc)) (hg : w4.grownBy w5 v.ownBlock)
    (hloc : v'.ownBlock = v.ownBlock ∨ v'.ownBlock = some w4.heap.size) (hI : IsAt w4 ka (X i).n (X i).z) (hA : ∀ a, ka = some a → w.heap.size ≤ a.block ∧ a.block < w4.heap.size ∧ v.ownBlock ≠ some a.block) :
    GivR w w5 v' X (fun j => if j = i then (ka, kc) else A j) (i + 1) := by
  have hlt := h.own.lt
  have hap : ∀ j, j < i + 1 → ∀ a, (if j = i then (ka, kc) else A j).1 = some a → w.heap.size ≤ a.block ∧ a.block < w4.heap.size ∧ v.ownBlock ≠ some a.block := by
    intro j hj a e
    by_cases ej : j = i
    · rw [if_pos ej] at e; exact hA a e
    · rw [if_neg ej] at e; exact h.apart j (by omega) a e
  refine ⟨?_, ?_, fun j hj => ?_, fun j hj a e => ?_⟩
  · exact h.below.trans ⟨hg.os, hg.tape, hg.output, hg.size, fun k hk => hg.block k (by have := h.below.size; omega) (fun e => by have := (hlt k e.symm).1; omega)⟩
  · rw [flatB, flatB_congr i (B := A) (fun j hj => if_neg (by omega))]
    simp only [if_true]
    exact hown
  · by_cases ej : j = i
    · subst ej
      simp only [if_true]
      exact isAt_grown hI hg (fun a e => (hA a e).2.2)
    · simp only [if_neg ej]
      exact isAt_grown (h.keys j (by omega)) hg (fun a e => (h.apart j (by omega) a e).2.2)
  · obtain ⟨p, q, r⟩ := hap j hj a e
    refine ⟨p, Nat.lt_of_lt_of_le q hg.size, fun e2 => ?_⟩
    rcases hloc with h1 | h1
    · exact r (h1.symm.trans e2)
    · rw [h1] at e2
      have : w4.heap.size = a.block := by simpa using e2
      omega

theorem bv_set0 (x : Bv) (ka ka' : Option Addr) (kc kc' : Nat) {w : World} {g : Nat} {t : TypeId} (h : w.heap[g]? = some (.cells (bv x ka kc) t (0, 0))) : (w.setCell ⟨g, 0, none⟩ (.slice ka' x.n kc')).heap[g]? = some (.cells (bv x ka' kc') t (0, 0)) := by
  rw [heap_setCell_same w g 0 _ t _ h]
  congr 2

theorem news_b (x : Bv) (ka : Option Addr) (kc : Nat) (w : World) (q : Nat) (hq : w.heap.size = q) : ∀ j u, (brl x ka kc)[j]? = some u → (w.alloc (.cells (bv x ka kc) 101)).cell? ((⟨q, 0, none⟩ : Addr).add j) = some u := by
  subst hq
  intro j u hj
  rw [Addr.add_lit, Nat.zero_add, cell_of_row _ _ j _ _ _ (heap_alloc_new w _)]
  simpa [bv] using hj

theorem new_b (x : Bv) (ka : Option Addr) (kc : Nat) (w : World) (q : Nat) (hq : w.heap.size = q) : (w.alloc (.cells (bv x ka kc) 101)).heap[q]? = some (.cells (bv x ka kc) 101 (0, 0)) := by
  subst hq
  exact heap_alloc_new w _
theorem zero_b : (Value.agg (bv b0 none 0)).cells.size = 35 := by simp [Value.cells, bv_size]
theorem wpList_appendB {ops : Array Oper} {rest : List Oper} {o : Oper} {a : Act} {w : World} {Q : Exit → Act → World → Prop} (hgd : o.guard = none) (s x : Operand) (ho : o.op = .call { callee := .builtin .append, args := #[s, x], argTypes := #[74, 74] })
    (W0 : World) (v : Value) (X : Nat → Bv) (A : Nat → Option Addr × Nat) (i : Nat) (ka : Option Addr) (kc q : Nat) (hs : a.eval s = v) (hx : a.eval x = .slice (some ⟨q, 0, none⟩) 1 1) (hR : GivR W0 w v X A i) (hq : w.heap[q]? = some (.cells (bv (X i) ka kc) 101 (0, 0))) (hi : i ≤ 1000000)
    (h : ∀ v' w', w'.ownsRow W0.heap.size 101 35 v' (i + 1) (flatB X A i ++ brl (X i) ka kc) → w.grownBy w' v.ownBlock → (v'.ownBlock = v.ownBlock ∨ v'.ownBlock = some w.heap.size) → wpList Tryz.prog ops Q rest (a.put o.dst v') w') : wpList Tryz.prog ops Q (o :: rest) a w := by
  obtain ⟨i0, hi0, hz0, hz1, hz2⟩ := info_parts infoB
  refine wpList_append_own_at _ hgd s x 74 ho W0.heap.size 101 i0 (.agg (bv b0 none 0)) 35 72 Tryz.underlying74 hi0 hz0 hz1 hz2 zero_b (by omega) v i (flatB X A i) hs hR.own ⟨q, 0, none⟩ 1 1 (brl (X i) ka kc) hx (by rw [brl_length]) (fun j u hj => ?_) (brl_one _ _ _) (by unfold maxLen; omega) (by omega) hR.below.size (fun v' w' h1 h2 _ h4 => h v' w' h1 h2 h4)
  rw [Addr.add_lit, Nat.zero_add, cell_of_row _ _ j _ _ _ hq]
  simpa [bv] using hj

theorem szC : (Tryz.prog.info? 76).map (·.size) = some 1 := by kernel_rfl

set_option maxRecDepth 100000 in
set_option maxHeartbeats 3200000 in
theorem give_in (ad : Option Addr) (n cap : Nat) (X : Nat → Bv) (w : World) (h : BrAt w ad n X) (hn : n ≤ 1000000) (hx : ∀ i, i < n → (X i).n ≤ 1000000) :
    Calls Tryz.prog 26 #[.agg #[.slice ad n cap]] w fun e w' => ∃ ad' cap', e = .returned (.agg #[.slice ad' n cap']) ∧ BrIn w' w.heap.size ad' n X ∧ Below w.heap.size w w' := by
  obtain ⟨i0, hi0, hz0, hz1, hz2⟩ := info_parts infoB
  have HI0 : Hid (Tryz.prog.info? 101 = some i0 ∧ i0.zero = some (.agg (bv b0 none 0)) ∧ i0.size = 35 ∧ i0.bytes = 72) := ⟨hi0, hz0, hz1, hz2⟩
  clear hi0 hz0 hz1 hz2
  have HB : Hid (BrAt w ad n X) := h
  have hb0 : Below w.heap.size w ((w.alloc (.cells #[.slice ad n cap] 68)).alloc (.cells #[.slice none 0 0] 76)) := ((Below.refl _ w).alloc (Nat.le_refl _) _).alloc (by simp) _
  have hc0 : ((w.alloc (.cells #[.slice ad n cap] 68)).alloc (.cells #[.slice none 0 0] 76)).cell? ⟨w.heap.size, 0, none⟩ = some (.slice ad n cap) := by
    rw [World.cell?_alloc_lt _ _ ⟨w.heap.size, 0, none⟩ (by simp)]; simp
  have hr0 : ((w.alloc (.cells #[.slice ad n cap] 68)).alloc (.cells #[.slice none 0 0] 76)).heap[w.heap.size + 1]? = some (.cells #[.slice none 0 0] 76 (0, 0)) := by
    have := heap_alloc_new (w.alloc (.cells #[.slice ad n cap] 68)) (.cells #[.slice none 0 0] 76)
    simpa using this
  clear h
  go_enter Tryz.func26, Tryz.ntmps26
  go_wp2
  generalize (w.alloc (.cells #[.slice ad n cap] 68)).alloc (.cells #[.slice none 0 0] 76) = W0 at *
  have hp0 : w.heap.size < W0.heap.size := World.block_lt_of_cell? W0 ⟨w.heap.size, 0, none⟩ hc0
  have hp1 : w.heap.size + 1 < W0.heap.size := lt_of_block hr0
  have HB0 : Hid (BrAt W0 ad n X) := HB.out.below hb0
  have HB1 : Hid (Below w.heap.size w W0 ∧ W0.heap[w.heap.size + 1]? = some (.cells #[.slice none 0 0] 76 (0, 0))) := ⟨hb0, hr0⟩
  have hg0 : GivR W0 W0 (.slice none 0 0) X (fun _ => (none, 0)) 0 := ⟨Below.refl _ _, World.ownsRow_nil _ _ _ _, fun j hj => by omega, fun j hj => by omega⟩
  clear hb0 hr0 HB
  go_loopw [3, 4, 5, 6] (fun sv iv _ _ wr => ∃ (i : Nat) (v : Value) (A : Nat → Option Addr × Nat), i ≤ n ∧ v = sv ∧ iv = .int .i64 i ∧ GivR W0 wr v X A i) (fun _ iv _ _ _ => n + 1 - (intOf iv).toNat)
  case atStart => exact ⟨0, _, _, by omega, rfl, rfl, hg0⟩
  case round =>
    clear hg0
    obtain ⟨i, v, A, hi, rfl, rfl, hR⟩ := hrel
    have HR : Hid (GivR W0 wr v X A i) := hR
    have cb : wr.cell? ⟨w.heap.size, 0, none⟩ = some (.slice ad n cap) := by rw [hR.below.cell (p := ⟨w.heap.size, 0, none⟩) hp0]; exact hc0
    have hws := hR.below.size
    clear hR
    by_cases hlt : i < n
    · have hlt' : (i : Int) < n := by omega
      obtain ⟨b, off, rfl, hc⟩ := HB0.out.at_ (by omega)
      obtain ⟨ka, kc, hq0, hI0⟩ := hc i hlt
      have hxi := hx i hlt
      have HQ : Hid (wr.rangeAt b (off + i * 35) (brl (X i) ka kc)) := range_below hq0 HR.out.below
      have HI : Hid (IsAt wr ka (X i).n (X i).z) := hI0.below HR.out.below
      have hpr : w.heap.size < wr.heap.size := by omega
      clear hc hq0 hI0 hc0
      have HS1 : Hid (∀ w' : World, w'.heap[wr.heap.size]? = some (.cells (bv (X i) ka kc) 101 (0, 0)) → Frm [wr.heap.size] (wr.alloc (.cells (bv b0 none 0) 101)) w' → Below wr.heap.size wr w' ∧ w'.cell? ⟨w.heap.size, 0, none⟩ = some (.slice (some ⟨b, off, none⟩) n cap) ∧ w'.cell? ⟨b, off + i * 35, none⟩ = some (.slice ka (X i).n kc) ∧ IsAt w' ka (X i).n (X i).z) := by
        intro w' h1 h2
        have h3 : Below wr.heap.size (wr.alloc (.cells (bv b0 none 0) 101)) w' := h2.below (by simp) (by simp)
        have h4 : Below wr.heap.size wr w' := ((Below.refl _ wr).alloc (Nat.le_refl _) _).trans h3
        exact ⟨h4, by rw [h4.cell (p := ⟨w.heap.size, 0, none⟩) hpr]; exact cb, range_below HQ.out h4 0 _ rfl, HI.out.below h4⟩
      have HS2 : Hid (∀ (w1 w2 : World) (ka' : Option Addr) (kc' : Nat), w1.heap[wr.heap.size]? = some (.cells (bv (X i) ka kc) 101 (0, 0)) → Below wr.heap.size wr w1 → Below w1.heap.size w1 w2 → w2.cell? ⟨wr.heap.size, 0, none⟩ = some (.slice ka (X i).n kc) ∧ w2.frozen? ⟨wr.heap.size, 0, none⟩ = false ∧ (w2.setCell ⟨wr.heap.size, 0, none⟩ (.slice ka' (X i).n kc')).heap[wr.heap.size]? = some (.cells (bv (X i) ka' kc') 101 (0, 0)) ∧ Below wr.heap.size wr (w2.setCell ⟨wr.heap.size, 0, none⟩ (.slice ka' (X i).n kc'))) := by
        intro w1 w2 ka' kc' h1 h2 h3
        have h4 : w2.heap[wr.heap.size]? = some (.cells (bv (X i) ka kc) 101 (0, 0)) := by rw [h3.block _ (lt_of_block h1)]; exact h1
        exact ⟨(bbox_of h4).c0, frozen_of_row w2 _ 0 _ _ h4, bv_set0 _ _ _ _ _ h4, (Below.transS h2 h3).setCell (by simp) _⟩
      have HR4 : Hid (∀ (w3 : World), Below wr.heap.size wr w3 → ∀ cs : Array Value, GivR W0 (w3.alloc (.cells cs 101)) v X A i) := fun w3 h3 cs => HR.out.keep (h3.alloc h3.size _)
      go_wp2_with (first | (refine wpList_load_mid rfl 73 _ rfl b (off + i * 35) rfl (brl (X i) ka kc) _ HQ.out Tryz.underlying73 rfl (szRl _ _ _) ?_) | (refine wpList_allocB rfl rfl ?_) | (refine wpList_storeR _ szB rfl _ _ rfl wr.heap.size rfl (X i) b0 ka none kc 0 101 rfl (heap_alloc_new wr _) ?_; intro w1 hg1 hf1; obtain ⟨hb1, c10, c1k, hI1⟩ := HS1.out w1 hg1 hf1; have HG1 : Hid (w1.heap[wr.heap.size]? = some (.cells (bv (X i) ka kc) 101 (0, 0)) ∧ Below wr.heap.size wr w1) := ⟨hg1, hb1⟩; clear hg1 hf1) | (refine wpList_appendK rfl _ _ rfl ka (X i).n kc (X i).z rfl rfl hI1 hxi ?_; intro ka' kc' w2 hI2 hb2 ha2; obtain ⟨k0, f0, hS3⟩ := HS2.out w1 w2 ka' kc' HG1.out.1 HG1.out.2 hb2; have HX : Hid (IsAt w2 ka' (X i).n (X i).z ∧ Below w1.heap.size w1 w2 ∧ ∀ a, ka' = some a → w1.heap.size ≤ a.block ∧ a.block < w2.heap.size) := ⟨hI2, hb2, ha2⟩; have HS3 : Hid _ := hS3; clear hI2 hb2 ha2 hS3 hI1 hb1 c10 c1k) | (refine wpList_load_row rfl 101 _ rfl wr.heap.size rfl _ (bv (X i) ka' kc') _ _ HS3.out.1 Tryz.underlying101 rfl (szBv _ _ _) ?_) | (refine wpList_sliceB rfl _ rfl (X i) ka' kc' rfl ?_) | (at_builtin; refine wpList_appendB rfl _ _ rfl W0 v X A i ka' kc' _ rfl rfl (HR4.out _ HS3.out.2 (bv (X i) ka' kc')) (heap_alloc_new _ _) (by omega) ?_; intro v' w5 hown' hgrow hloc) | fail)
      have HN : Hid (GivR W0 w5 v' X (fun j => if j = i then (ka', kc') else A j) (i + 1)) := by
        obtain ⟨hI2, hb2, ha2⟩ := HX.out
        have hl1 := lt_of_block HG1.out.1
        have hlv := HR.out.own.lt
        refine (HR4.out _ HS3.out.2 _).next hown' hgrow hloc ((isAt_set hI2 (fun a e => by have := (ha2 a e).1; omega)).below ((Below.refl _ _).alloc (Nat.le_refl _) _)) (fun a e => ⟨by have := (ha2 a e).1; omega, by have := (ha2 a e).2; simp [World.setCell]; omega, fun e2 => by have := (hlv _ e2).2; have := (ha2 a e).1; omega⟩)
      clear hown' hgrow hloc HX HS3 HG1 HR4 HS1 HS2
      go_roundw
      case rel => exact ⟨i + 1, v', _, by omega, rfl, by go_num, HN.out⟩
      case measure => simp [intOf]; omega
    · obtain rfl : i = n := by omega
      have hnn : ¬ ((i : Int) < i) := by omega
      have hr1 : wr.heap[w.heap.size + 1]? = some (.cells #[.slice none 0 0] 76 (0, 0)) := by rw [HR.out.below.block _ hp1]; exact HB1.out.2
      have c1 : wr.cell? ⟨w.heap.size + 1, 0, none⟩ = some (.slice none 0 0) := by rw [cell_of_row wr _ 0 _ _ _ hr1]; rfl
      have f1 : wr.frozen? ⟨w.heap.size + 1, 0, none⟩ = false := frozen_of_row wr _ 0 _ _ hr1
      obtain ⟨ad', cap', e, hBi⟩ := HR.out.brIn (fun j hj => HB0.out.ok j hj)
      subst e
      have hBr : BrIn (wr.setCell ⟨w.heap.size + 1, 0, none⟩ (.slice ad' i cap')) w.heap.size ad' i X := fun w' hw => hBi w' (fun k h1 h2 => by
        rw [hw k (by omega) (by simpa [World.setCell] using h2)]
        exact Below.heap_setCell _ _ _ _ (by show k ≠ w.heap.size + 1; omega))
      have HE : Hid (BrIn (wr.setCell ⟨w.heap.size + 1, 0, none⟩ (.slice ad' i cap')) w.heap.size ad' i X ∧ Below w.heap.size w (wr.setCell ⟨w.heap.size + 1, 0, none⟩ (.slice ad' i cap'))) := ⟨hBr, ((HB1.out.1).trans (HR.out.below.mono HB1.out.1.size)).setCell (by show w.heap.size ≤ w.heap.size + 1; omega) _⟩
      have HR1 : Hid ((wr.setCell ⟨w.heap.size + 1, 0, none⟩ (.slice ad' i cap')).heap[w.heap.size + 1]? = some (.cells #[.slice ad' i cap'] 76 (0, 0))) := heap_setCell_same wr _ 0 _ _ _ hr1
      clear hBr hBi HR hr1
      go_wp2
      exact bodyPost_ret (results_cell_row Tryz.results26 _ _ (w.heap.size + 1) 76 #[.slice ad' i cap'] (0, 0) _ rfl HR1.out Tryz.underlying76 rfl szC) rfl ⟨ad', ⟨cap', rfl⟩, HE.out⟩
theorem give_any (ad : Option Addr) (n cap : Nat) (X : Nat → Bv) (w : World) (h : BrAt w ad n X) (hn : n ≤ 1000000) (hx : ∀ i, i < n → (X i).n ≤ 1000000) :
    Calls Tryz.prog 26 #[.agg #[.slice ad n cap]] w fun e w' => ∃ ad' cap', e = .returned (.agg #[.slice ad' n cap']) ∧ BrAt w' ad' n X ∧ Below w.heap.size w w' := by
  refine (give_in ad n cap X w h hn hx).mono ?_
  rintro e w' ⟨ad', cap', rfl, h1, h2⟩
  exact ⟨ad', cap', rfl, h1.brAt, h2⟩
end Go.Proofs.YtanchjfodcjlmaaGreatDoor.Cd
