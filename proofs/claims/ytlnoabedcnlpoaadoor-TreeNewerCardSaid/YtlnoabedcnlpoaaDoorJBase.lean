/- Trees: what a tree says, its cells, its bounds; paths. -/
import Derived.Test.YtlnoabedcnlpoaaDoorOKit
import Derived.Deep.MidRow
import Derived.OrdersHeld
import Derived.Deep.DeepCutAuto
import Derived.Deep.CutBlock
namespace Go.Proofs.YtlnoabedcnlpoaaDoor
open Go.RowKit

def Zb (z : Nat → Int) : Prop := ∀ j, j < 32 → 0 ≤ z j ∧ z j ≤ 255
def Ib (n : Int) : Prop := -9223372036854775808 ≤ n ∧ n ≤ 9223372036854775807
theorem tsize : Tryd.prog.types.size = 141 := by kernel_rfl
theorem cellsH : Tryd.prog.cellsOf 23 = 32 := by kernel_rfl
theorem cellsI : Tryd.prog.cellsOf 3 = 1 := by kernel_rfl
theorem cellsB : Tryd.prog.cellsOf 5 = 1 := by kernel_rfl
theorem cellsS : Tryd.prog.cellsOf 26 = 1 := by kernel_rfl
theorem cellsP : Tryd.prog.cellsOf 25 = 33 := by kernel_rfl
theorem infoI : (Tryd.prog.info? 3).map (fun i => (i.zero, i.size, i.bytes)) = some (some (.int .i64 0), 1, 8) := by kernel_rfl
/-- Ints that lie at an address. -/
def IsAt (w : World) (ad : Option Addr) (n : Nat) (z : Nat → Int) : Prop := 0 < n → ∃ b off, ad = some ⟨b, off, none⟩ ∧ ∀ j, j < n → w.cell? ⟨b, off + j, none⟩ = some (.int .i64 (z j))
theorem IsAt.below {w w' : World} {ad : Option Addr} {n : Nat} {z : Nat → Int} (h : IsAt w ad n z) (hb : Below w.heap.size w w') : IsAt w' ad n z := by
  intro hn
  obtain ⟨b, off, e, hc⟩ := h hn
  refine ⟨b, off, e, fun j hj => ?_⟩
  have := hc j hj
  have hl : b < w.heap.size := World.block_lt_of_cell? w ⟨b, off + j, none⟩ this
  rw [hb.cell (p := ⟨b, off + j, none⟩) hl]; exact this
theorem IsAt.nil (w : World) (ad : Option Addr) (z : Nat → Int) : IsAt w ad 0 z := fun h => by omega
theorem IsAt.same {w : World} {ad : Option Addr} {n : Nat} {z y : Nat → Int} (h : IsAt w ad n z) (he : ∀ j, j < n → z j = y j) : IsAt w ad n y := fun hn => by
  obtain ⟨b, off, e, hc⟩ := h hn
  exact ⟨b, off, e, fun j hj => by rw [← he j hj]; exact hc j hj⟩
def lastK (z : Nat → Int) (j : Nat) : Int := if j = 0 then -1 else z (j - 1)
theorem lastK_succ (z : Nat → Int) (j : Nat) : lastK z (j + 1) = z j := by simp [lastK]
/-- Keys that are parties, ascending. -/
def KOk (z : Nat → Int) (n : Nat) : Prop := ∀ j, j < n → lastK z j < z j ∧ z j < 16
instance (z : Nat → Int) (n : Nat) : Decidable (KOk z n) := inferInstanceAs (Decidable (∀ j, j < n → _))

/-- What a tree says. -/
structure Tc where
  pt : Nat → Int
  n : Int
  am : Int
  kn : Nat
  kz : Nat → Int
  dp : Int
  fi : Int
  la : Int
  st : Int
  fe : Int
/-- Its 40 cells. -/
def tcl (c : Tc) (ka : Option Addr) (kc : Nat) : List Value := bl c.pt 32 ++ [.int .i64 c.n, .int .i64 c.am, .slice ka c.kn kc, .int .i64 c.dp, .int .i64 c.fi, .int .i64 c.la, .int .i64 c.st, .int .i64 c.fe]
theorem tcl_length (c : Tc) (ka : Option Addr) (kc : Nat) : (tcl c ka kc).length = 40 := by simp [tcl, bl_length]
def tcv (c : Tc) (ka : Option Addr) (kc : Nat) : Array Value := (tcl c ka kc).toArray
theorem tcv_size (c : Tc) (ka : Option Addr) (kc : Nat) : (tcv c ka kc).size = 40 := by simp [tcv, tcl_length]
theorem tcl_at (c : Tc) (ka : Option Addr) (kc : Nat) (k : Nat) (h : 32 ≤ k) : (tcl c ka kc)[k]? = [Value.int .i64 c.n, .int .i64 c.am, .slice ka c.kn kc, .int .i64 c.dp, .int .i64 c.fi, .int .i64 c.la, .int .i64 c.st, .int .i64 c.fe][k - 32]? := by
  rw [tcl, List.getElem?_append_right (by rw [bl_length]; exact h), bl_length]
theorem tcl_one (c : Tc) (ka : Option Addr) (kc : Nat) : ∀ u ∈ tcl c ka kc, u.oneCell' = true := by
  intro u hu
  simp only [tcl, List.mem_append] at hu
  rcases hu with hu | hu
  · exact bl_one _ _ _ hu
  · simp at hu
    rcases hu with rfl | rfl | rfl | rfl | rfl | rfl | rfl | rfl <;> rfl
theorem szT : (Tryd.prog.info? 32).map (·.size) = some 40 := by kernel_rfl
theorem szR : (Tryd.prog.info? 28).map (·.size) = some 40 := by kernel_rfl
theorem szTl (c : Tc) (ka : Option Addr) (kc : Nat) : (Tryd.prog.info? 32).map (·.size) = some (tcl c ka kc).length := by rw [tcl_length]; exact szT
theorem szRl (c : Tc) (ka : Option Addr) (kc : Nat) : (Tryd.prog.info? 28).map (·.size) = some (tcl c ka kc).length := by rw [tcl_length]; exact szR
theorem tcl_range {w : World} {g : Nat} {c : Tc} {ka : Option Addr} {kc : Nat} {t : TypeId} {fr : Nat × Nat} (h : w.heap[g]? = some (.cells (tcv c ka kc) t fr)) : w.rangeAt g 0 (tcl c ka kc) := fun j v hv => by
  rw [Nat.zero_add, cell_of_row _ _ j _ _ _ h]
  simpa [tcv] using hv
/-- What a block that holds a tree gives a walk. -/
structure TcBox (w : World) (g : Nat) (c : Tc) (ka : Option Addr) (kc : Nat) : Prop where
  am : w.cell? ⟨g, 33, none⟩ = some (.int .i64 c.am)
  ks : w.cell? ⟨g, 34, none⟩ = some (.slice ka c.kn kc)
  dp : w.cell? ⟨g, 35, none⟩ = some (.int .i64 c.dp)
  fi : w.cell? ⟨g, 36, none⟩ = some (.int .i64 c.fi)
  la : w.cell? ⟨g, 37, none⟩ = some (.int .i64 c.la)
  st : w.cell? ⟨g, 38, none⟩ = some (.int .i64 c.st)
  fe : w.cell? ⟨g, 39, none⟩ = some (.int .i64 c.fe)
theorem tcBox {w : World} {g : Nat} {c : Tc} {ka : Option Addr} {kc : Nat} (h : w.rangeAt g 0 (tcl c ka kc)) : TcBox w g c ka kc := by
  refine ⟨?_, ?_, ?_, ?_, ?_, ?_, ?_⟩
  · simpa using h 33 _ (tcl_at c ka kc 33 (by decide))
  · simpa using h 34 _ (tcl_at c ka kc 34 (by decide))
  · simpa using h 35 _ (tcl_at c ka kc 35 (by decide))
  · simpa using h 36 _ (tcl_at c ka kc 36 (by decide))
  · simpa using h 37 _ (tcl_at c ka kc 37 (by decide))
  · simpa using h 38 _ (tcl_at c ka kc 38 (by decide))
  · simpa using h 39 _ (tcl_at c ka kc 39 (by decide))

/-- A block was made: it holds these cells. -/
structure New (w w1 : World) (cs : Array Value) (t : TypeId) : Prop where
  blk : w1.heap[w.heap.size]? = some (.cells cs t (0, 0))
  size : w1.heap.size = w.heap.size + 1
  below : Below w.heap.size w w1
theorem new_alloc (w : World) (cs : Array Value) (t : TypeId) : New w (w.alloc (.cells cs t)) cs t := ⟨heap_alloc_new w _, by simp, (Below.refl _ _).alloc (Nat.le_refl _) _⟩
theorem heap_below {w w1 : World} (h : Below w.heap.size w w1) {k : Nat} {o : Obj} (hk : w.heap[k]? = some o) : w1.heap[k]? = some o := by rw [h.block _ (lt_of_block hk)]; exact hk
theorem New.old {w w1 : World} {cs : Array Value} {t : TypeId} (h : New w w1 cs t) {k : Nat} {o : Obj} (hk : w.heap[k]? = some o) : w1.heap[k]? = some o := heap_below h.below hk
section
variable {ops : Array Oper} {rest : List Oper} {o : Oper} {a : Act} {w : World} {Q : Exit → Act → World → Prop} {K : Act → World → Prop} {E : Prop}
theorem wpList_boxN (hg : o.guard = none) (t : TypeId) (x : Operand) (ho : o.op = .box t x) (cs : Array Value) (hx : (a.eval x).cells = cs)
    (h : ∀ w1, New w w1 cs t → wpList Tryd.prog ops Q rest (a.put o.dst (.pointer (some ⟨w.heap.size, 0, none⟩))) w1) : wpList Tryd.prog ops Q (o :: rest) a w :=
  wpList_boxTo hg t x ho _ rfl _ rfl cs hx (h _ (new_alloc w cs t))
theorem wpList_allocG (T : TypeId) (z : Array Value) (hrun : ∀ w : World, (Instr.alloc T true (.tuple #[])).run Tryd.prog w = .ok (.pointer (some ⟨w.heap.size, 0, none⟩)) (w.alloc (.cells z T))) (hgd : o.guard = none) (ho : o.op = .alloc T)
    (h : wpList Tryd.prog ops Q rest (a.put o.dst (.pointer (some ⟨w.heap.size, 0, none⟩))) (w.alloc (.cells z T))) : wpList Tryd.prog ops Q (o :: rest) a w := by
  refine wpList_plain hgd fun K hK => ?_
  unfold Oper.wp execOp
  simp only [ho, Sem.run_bind, hrun, Result.andThen]
  exact hK _ _ h
theorem wpList_allocN (T : TypeId) (z : Array Value) (hrun : ∀ w : World, (Instr.alloc T true (.tuple #[])).run Tryd.prog w = .ok (.pointer (some ⟨w.heap.size, 0, none⟩)) (w.alloc (.cells z T))) (hgd : o.guard = none) (ho : o.op = .alloc T)
    (h : ∀ w1, New w w1 z T → wpList Tryd.prog ops Q rest (a.put o.dst (.pointer (some ⟨w.heap.size, 0, none⟩))) w1) : wpList Tryd.prog ops Q (o :: rest) a w :=
  wpList_allocG T z hrun hgd ho (h _ (new_alloc w z T))
theorem wpList_storeG (T : TypeId) {n : Nat} (hT : (Tryd.prog.info? T).map (·.size) = some n) (hgd : o.guard = none) (x y : Operand) (ho : o.op = .store T x y) (g : Nat) (hx : a.eval x = .pointer (some ⟨g, 0, none⟩)) (cs old : Array Value) (hl : cs.size = n) (hu : old.size = n) (h1 : cs.all (·.oneCell') = true) (t : TypeId) (hy : a.eval y = .agg cs) (hg : w.heap[g]? = some (.cells old t (0, 0)))
    (h : ∀ w', w'.heap[g]? = some (.cells cs t (0, 0)) → Frm [g] w w' → wpList Tryd.prog ops Q rest (a.put o.dst undef) w') : wpList Tryd.prog ops Q (o :: rest) a w := by
  refine wpList_store_mid hgd T x y ho g 0 cs hx hy ?_ (by rw [hl]; exact hT) h1 (h _ ?_ (setCells_frm g _ 0 w))
  · intro j hj
    rw [hl] at hj
    refine ⟨?_, ?_⟩
    · rw [Nat.zero_add, cell_of_row w g j _ t _ hg]
      simp [hu, hj]
    · rw [Nat.zero_add]; exact frozen_of_row w g j _ t hg
  · have := setCells_at g cs.toList 0 w [] old.toList t (by simpa using hg) rfl (by simp [hl, hu])
    rw [this]
    simp [hl, hu, List.drop_eq_nil_of_le]
end
theorem hidV {p : Prop} (h : p) : Hid p := h

/-- How many steps less may one wait? What is left behind so many fees? -/
def stp (c : Tc) (h : Int) : Int := (h - c.la) / c.st
/-- The document's bounds, in its order. -/
def TOk1 (c : Tc) : Prop := (1 ≤ c.dp ∧ c.dp ≤ 8) ∧ 1 ≤ c.st ∧ 1 ≤ c.la ∧ (c.la ≤ c.fi ∧ c.fi ≤ 1099511627776)
instance (c : Tc) : Decidable (TOk1 c) := inferInstanceAs (Decidable (_ ∧ _))
def TOk2 (c : Tc) : Prop := c.fi + c.dp * (c.fi - c.la + 1) ≤ 1099511627776 ∧ stp c c.fi ≤ 255
instance (c : Tc) : Decidable (TOk2 c) := inferInstanceAs (Decidable (_ ∧ _))
def TOk3 (c : Tc) : Prop := (0 ≤ c.fe ∧ c.fe ≤ 1125899906842624) ∧ (10 ≤ c.am ∧ c.am ≤ 1125899906842624)
instance (c : Tc) : Decidable (TOk3 c) := inferInstanceAs (Decidable (_ ∧ _))
def chkT (c : Tc) : Int := if ¬ (TOk1 c ∧ TOk2 c ∧ TOk3 c) then 1 else if ¬ (2 ≤ c.kn ∧ KOk c.kz c.kn) then 33 else if c.am - c.dp * c.fe < 10 then 27 else 0
theorem chkT_ok {c : Tc} (h : chkT c = 0) : TOk1 c ∧ TOk2 c ∧ TOk3 c := by
  unfold chkT at h
  by_cases h1 : TOk1 c ∧ TOk2 c ∧ TOk3 c
  · exact h1
  · rw [if_pos h1] at h; cases h
/-- A tree that came in: where its keys lie. -/
structure TcIn (w : World) (c : Tc) (ka : Option Addr) : Prop where
  keys : IsAt w ka c.kn c.kz
  few : c.kn ≤ 1000000
  st : Ib c.st
theorem TcIn.below {w w' : World} {c : Tc} {ka : Option Addr} (h : TcIn w c ka) (hb : Below w.heap.size w w') : TcIn w' c ka := ⟨h.keys.below hb, h.few, h.st⟩
/-- The heights of a path. -/
def PathOk (c : Tc) (z : Nat → Int) (n : Nat) : Prop := (n : Int) = c.dp ∧ ∀ j, j < n → (c.la ≤ z j ∧ z j ≤ c.fi) ∧ (c.fi - z j) % c.st = 0
instance (c : Tc) (z : Nat → Int) (n : Nat) : Decidable (PathOk c z n) := inferInstanceAs (Decidable (_ ∧ _))
def isE (c : Tc) (z : Nat → Int) (n : Nat) : Int := if chkT c ≠ 0 then chkT c else if PathOk c z n then 0 else 1
theorem isE_ok {c : Tc} {z : Nat → Int} {n : Nat} (h : isE c z n = 0) : chkT c = 0 ∧ PathOk c z n := by
  unfold isE at h
  by_cases h1 : chkT c = 0
  · rw [if_neg (by simpa using h1)] at h
    by_cases h2 : PathOk c z n
    · exact ⟨h1, h2⟩
    · rw [if_neg h2] at h; cases h
  · rw [if_pos h1] at h; exact absurd h h1
end Go.Proofs.YtlnoabedcnlpoaaDoor
