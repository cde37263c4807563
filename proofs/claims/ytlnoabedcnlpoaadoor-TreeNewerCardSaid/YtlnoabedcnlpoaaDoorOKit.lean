/- What is kept outside of some blocks; sums of 32 bytes kept whole; errors by their numbers. (Parts of Kit, Clone and HashKit, without enc.) -/
import Derived.Test.YtlnoabedcnlpoaaDoorProg
import Derived.WalkKit
import Derived.WalkSpells
import Derived.WalkLawsBesides
import Derived.Laws.CopyOwn
import Derived.Deep.MidRow
import Derived.Stop.BytesEq
import Derived.Deep.RegionHeld3
namespace Go.Proofs.YtlnoabedcnlpoaaDoor
open Go.RowKit

def errV (e : Int) : Value := if e = 0 then .nilIface else .iface 64 (.int .i64 e)
theorem errV_ne {e : Int} (h : e ≠ 0) : errV e = .iface 64 (.int .i64 e) := if_neg h
/-- The n bytes z as cells. -/
def bl (z : Nat → Int) (n : Nat) : List Value := (List.range n).map fun j => .int .u8 (z j)
theorem bl_length (z : Nat → Int) (n : Nat) : (bl z n).length = n := by simp [bl]
theorem bl_get {z : Nat → Int} {n j : Nat} {u : Value} (h : (bl z n)[j]? = some u) : j < n ∧ u = .int .u8 (z j) := by
  simp only [bl, List.getElem?_map, Option.map_eq_some_iff] at h
  obtain ⟨a, h1, h2⟩ := h
  have := List.getElem?_eq_some_iff.1 h1
  obtain ⟨h3, h4⟩ := this
  simp at h3 h4
  exact ⟨h3, by rw [← h2, ← h4]⟩
theorem bl_at {z : Nat → Int} {n j : Nat} (h : j < n) : (bl z n)[j]? = some (.int .u8 (z j)) := by
  simp [bl, List.getElem?_map, List.getElem?_range h]
theorem bl_one (z : Nat → Int) (n : Nat) : ∀ u ∈ bl z n, u.oneCell' = true := by
  intro u hu
  simp only [bl, List.mem_map] at hu
  obtain ⟨_, _, rfl⟩ := hu
  rfl
/-- All blocks that were there, but those of S, are as they were; the streams too. -/
structure Frm (S : List Nat) (w w' : World) : Prop where
  os : w'.os = w.os
  tape : w'.tape = w.tape
  output : w'.output = w.output
  size : w.heap.size ≤ w'.heap.size
  block : ∀ k, k < w.heap.size → k ∉ S → w'.heap[k]? = w.heap[k]?

theorem Frm.refl (S : List Nat) (w : World) : Frm S w w := ⟨rfl, rfl, rfl, Nat.le_refl _, fun _ _ _ => rfl⟩
theorem Frm.trans {S : List Nat} {a b c : World} (h : Frm S a b) (k : Frm S b c) : Frm S a c :=
  ⟨k.os.trans h.os, k.tape.trans h.tape, k.output.trans h.output, Nat.le_trans h.size k.size, fun i hi hn => (k.block i (Nat.lt_of_lt_of_le hi h.size) hn).trans (h.block i hi hn)⟩
theorem Frm.mono {S T : List Nat} {a b : World} (h : Frm S a b) (hs : ∀ k, k ∈ S → k ∈ T) : Frm T a b :=
  ⟨h.os, h.tape, h.output, h.size, fun i hi hn => h.block i hi (fun e => hn (hs i e))⟩
/-- Blocks that were not there yet may be left out. -/
theorem Frm.old {S T : List Nat} {a b : World} (h : Frm S a b) (hs : ∀ k, k ∈ S → k < a.heap.size → k ∈ T) : Frm T a b :=
  ⟨h.os, h.tape, h.output, h.size, fun i hi hn => h.block i hi (fun e => hn (hs i e hi))⟩
theorem Frm.drewN {S : List Nat} {a b : World} (h : Frm S a b) (n : Nat) : Frm S a (b.drewN n) := ⟨h.os, h.tape, h.output, h.size, h.block⟩
theorem Frm.drew {S : List Nat} {a b : World} (h : Frm S a b) : Frm S a b.drew := ⟨h.os, h.tape, h.output, h.size, h.block⟩
theorem Frm.alloc {S : List Nat} {a b : World} (h : Frm S a b) (o : Obj) : Frm S a (b.alloc o) :=
  h.trans ⟨rfl, rfl, rfl, by simp, fun k hk _ => Below.heap_alloc _ _ _ hk⟩
theorem Frm.setCell {S : List Nat} {a b : World} (h : Frm S a b) (p : Addr) (u : Value) (hp : p.block ∈ S) : Frm S a (b.setCell p u) :=
  h.trans ⟨rfl, rfl, rfl, by simp [World.setCell], fun k _ hn => Below.heap_setCell _ _ _ _ (fun e => hn (by rw [e]; exact hp))⟩
theorem Frm.grown {S : List Nat} {a b c : World} {row : Option Nat} (h : Frm S a b) (hg : b.grownBy c row) (hr : ∀ k, row = some k → k ∈ S) : Frm S a c :=
  h.trans ⟨hg.os, hg.tape, hg.output, hg.size, fun k hk hn => hg.block k hk (fun e => hn (hr k e.symm))⟩
theorem Frm.below {S : List Nat} {a b : World} {B : Nat} (h : Frm S a b) (hB : B ≤ a.heap.size) (hs : ∀ k, k ∈ S → B ≤ k) : Below B a b :=
  ⟨h.os, h.tape, h.output, h.size, fun k hk => h.block k (by omega) (fun e => by have := hs k e; omega)⟩
theorem Frm.ofBelow {S : List Nat} {a b : World} (h : Below a.heap.size a b) : Frm S a b := ⟨h.os, h.tape, h.output, h.size, fun k hk _ => h.block k hk⟩
theorem Frm.heap {S : List Nat} {a b : World} (h : Frm S a b) {k : Nat} {o : Obj} (hk : a.heap[k]? = some o) (hn : k ∉ S) : b.heap[k]? = some o := by
  rw [h.block k (lt_of_block hk) hn]; exact hk

theorem bcell {W w1 : World} (hb : Below W.heap.size W w1) : (∀ b o, b < W.heap.size → w1.cell? ⟨b, o, none⟩ = W.cell? ⟨b, o, none⟩) ∧ (∀ b o, b < W.heap.size → w1.frozen? ⟨b, o, none⟩ = W.frozen? ⟨b, o, none⟩) :=
  ⟨fun b o h => hb.cell (p := ⟨b, o, none⟩) h, fun b o h => hb.frozen (p := ⟨b, o, none⟩) h⟩

section
variable {w : World} {b : Nat} {u v x : Value} {t : TypeId}
theorem two_cell0 (h : w.heap[b]? = some (.cells #[u, v] t (0, 0))) : w.cell? ⟨b, 0, none⟩ = some u := by simp [World.cell?, h]
theorem two_cell1 (h : w.heap[b]? = some (.cells #[u, v] t (0, 0))) : w.cell? ⟨b, 1, none⟩ = some v := by simp [World.cell?, h]
theorem two_free (h : w.heap[b]? = some (.cells #[u, v] t (0, 0))) (o : Nat) : w.frozen? ⟨b, o, none⟩ = false := by simp [World.frozen?, h]
theorem two_set0 (h : w.heap[b]? = some (.cells #[u, v] t (0, 0))) : (w.setCell ⟨b, 0, none⟩ x).heap[b]? = some (.cells #[x, v] t (0, 0)) := by
  have hlt := lt_of_block h
  have h' : w.heap[b] = .cells #[u, v] t (0, 0) := by simpa [Array.getElem?_eq_getElem hlt] using h
  show (w.heap.modify b _)[b]? = _
  rw [Array.getElem?_eq_getElem (by simpa using hlt), Array.getElem_modify_self, h']
  rfl
theorem two_set1 (h : w.heap[b]? = some (.cells #[u, v] t (0, 0))) : (w.setCell ⟨b, 1, none⟩ x).heap[b]? = some (.cells #[u, x] t (0, 0)) := by
  have hlt := lt_of_block h
  have h' : w.heap[b] = .cells #[u, v] t (0, 0) := by simpa [Array.getElem?_eq_getElem hlt] using h
  show (w.heap.modify b _)[b]? = _
  rw [Array.getElem?_eq_getElem (by simpa using hlt), Array.getElem_modify_self, h']
  rfl
end

/-- A sum's 32 cells. -/
def hv (z : Nat → Int) : Array Value := (bl z 32).toArray
theorem hv_size (z : Nat → Int) : (hv z).size = 32 := by simp [hv, bl_length]
theorem hv_list (z : Nat → Int) : (hv z).toList = bl z 32 := by simp [hv]
theorem hv_one (z : Nat → Int) : (hv z).all (·.oneCell') = true := by
  have : (hv z) = (bl z 32).toArray := rfl
  rw [this]
  exact all_oneCell_toArray (bl_one z 32)
theorem hsz : (Tryd.prog.info? 23).map (·.size) = some 32 := by kernel_rfl
theorem hszv (z : Nat → Int) : (Tryd.prog.info? 23).map (·.size) = some (hv z).size := by rw [hv_size]; exact hsz

/-- No byte but 0. -/
def nz : Nat → Int := fun _ => 0
theorem run_allocH (w : World) : (Instr.alloc 23 true (.tuple #[])).run Tryd.prog w = .ok (.pointer (some ⟨w.heap.size, 0, none⟩)) (w.alloc (.cells (hv nz) 23)) := by kernel_rfl

section
variable {ops : Array Oper} {rest : List Oper} {o : Oper} {a : Act} {w : World} {Q : Exit → Act → World → Prop}

theorem wpList_allocH (hgd : o.guard = none) (ho : o.op = .alloc 23)
    (h : wpList Tryd.prog ops Q rest (a.put o.dst (.pointer (some ⟨w.heap.size, 0, none⟩))) (w.alloc (.cells (hv nz) 23))) : wpList Tryd.prog ops Q (o :: rest) a w := by
  refine wpList_plain hgd fun K hK => ?_
  unfold Oper.wp execOp
  simp only [ho, Sem.run_bind, run_allocH, Result.andThen]
  exact hK _ _ h

theorem wpList_loadH (hgd : o.guard = none) (x : Operand) (ho : o.op = .load 23 x) (g : Nat) (hx : a.eval x = .pointer (some ⟨g, 0, none⟩)) (z : Nat → Int) (t : TypeId) (fr : Nat × Nat) (hg : w.heap[g]? = some (.cells (hv z) t fr))
    (h : wpList Tryd.prog ops Q rest (a.put o.dst (.agg (hv z))) w) : wpList Tryd.prog ops Q (o :: rest) a w :=
  wpList_load_row hgd 23 x ho g hx t (hv z) fr _ hg Tryd.underlying23 rfl (hszv z) h

theorem setCells_at (g : Nat) : ∀ (vs : List Value) (off : Nat) (w : World) (pre post : List Value) (t : TypeId), w.heap[g]? = some (.cells (pre ++ post).toArray t (0, 0)) → pre.length = off → vs.length ≤ post.length →
    (w.setCells g off vs).heap[g]? = some (.cells (pre ++ vs ++ post.drop vs.length).toArray t (0, 0))
  | [], _, w, pre, post, t, h, _, _ => by simpa [World.setCells] using h
  | v :: r, off, w, pre, p :: post, t, h, hp, hl => by
    rw [World.setCells]
    have h1 : (w.setCell ⟨g, off, none⟩ v).heap[g]? = some (.cells ((pre ++ [v]) ++ post).toArray t (0, 0)) := by
      rw [heap_setCell_same w g off _ t v h]
      congr 2
      apply Array.toList_inj.1
      simp [← hp]
    have := setCells_at g r (off + 1) _ (pre ++ [v]) post t h1 (by simp [hp]) (by simpa using hl)
    simpa using this
  | v :: r, off, w, pre, [], t, h, hp, hl => by simp at hl
theorem setCells_frm (g : Nat) : ∀ (vs : List Value) (off : Nat) (w : World), Frm [g] w (w.setCells g off vs)
  | [], _, w => Frm.refl _ w
  | v :: r, off, w => ((Frm.refl [g] w).setCell ⟨g, off, none⟩ v (by simp)).trans (setCells_frm g r (off + 1) _)

/-- A whole sum stored into a variable of its own. -/
theorem wpList_storeH (hgd : o.guard = none) (x y : Operand) (ho : o.op = .store 23 x y) (g : Nat) (hx : a.eval x = .pointer (some ⟨g, 0, none⟩)) (z u : Nat → Int) (t : TypeId) (hy : a.eval y = .agg (hv z)) (hg : w.heap[g]? = some (.cells (hv u) t (0, 0)))
    (h : ∀ w', w'.heap[g]? = some (.cells (hv z) t (0, 0)) → Frm [g] w w' → wpList Tryd.prog ops Q rest (a.put o.dst undef) w') : wpList Tryd.prog ops Q (o :: rest) a w := by
  refine wpList_store_mid hgd 23 x y ho g 0 (hv z) hx hy ?_ (hszv z) (hv_one z) (h _ ?_ (setCells_frm g _ 0 w))
  · intro j hj
    rw [hv_size] at hj
    refine ⟨?_, ?_⟩
    · rw [Nat.zero_add, cell_of_row w g j _ t _ hg]
      simp [hv_size, hj]
    · rw [Nat.zero_add]; exact frozen_of_row w g j _ t hg
  · have := setCells_at g (hv z).toList 0 w [] (hv u).toList t (by simpa using hg) rfl (by simp [hv_size])
    rw [this]
    simp [hv_size, List.drop_eq_nil_of_le]
end
def ub (z : Nat → Int) : List UInt8 := (List.range 32).map fun j => UInt8.ofNat (z j).toNat
theorem hv_ub {z : Nat → Int} (hz : ∀ j, j < 32 → 0 ≤ z j ∧ z j ≤ 255) : hv z = ((ub z).map Extern.Stop.cell).toArray := by
  unfold hv bl ub
  congr 1
  rw [List.map_map]
  apply List.map_congr_left
  intro j hj
  have := hz j (by simpa using hj)
  simp [Extern.Stop.cell]
  omega
/-- Whether two sums are the same. -/
def hq (z y : Nat → Int) : Bool := ub z == ub y
theorem hq_same (z : Nat → Int) : hq z z = true := by simp [hq]
theorem hsz1 (w : World) : (sizeOf 5).run Tryd.prog w = .ok 1 w := by kernel_rfl
theorem eql_hv {z y : Nat → Int} (hz : ∀ j, j < 32 → 0 ≤ z j ∧ z j ≤ 255) (hy : ∀ j, j < 32 → 0 ≤ y j ∧ y j ≤ 255) (w : World) :
    (binOp .eql 23 (.agg (hv z)) (.agg (hv y))).run Tryd.prog w = .ok (.bool (hq z y)) w := by
  rw [hv_ub hz, hv_ub hy]
  exact run_eql_bytes w 23 5 32 Tryd.underlying23 Tryd.underlying5 hsz1 (ub z) (ub y) (by simp [ub]) (by simp [ub])
theorem nz_bd : ∀ j, j < 32 → 0 ≤ nz j ∧ nz j ≤ 255 := fun _ _ => by simp [nz]

theorem Below.transS {w w1 w2 : World} (h : Below w.heap.size w w1) (k : Below w1.heap.size w1 w2) : Below w.heap.size w w2 := h.trans (k.mono h.size)
theorem range_below {W w : World} {b off : Nat} {vs : List Value} (h : W.rangeAt b off vs) (hb : Below W.heap.size W w) : w.rangeAt b off vs := by
  intro j v hv
  have h1 := h j v hv
  have hlt : b < W.heap.size := World.block_lt_of_cell? W ⟨b, off + j, none⟩ h1
  rw [hb.cell (p := ⟨b, off + j, none⟩) hlt]; exact h1
theorem wpList_boxTo {P : Program} {ops : Array Oper} {rest : List Oper} {o : Oper} {a : Act} {w : World} {Q : Exit → Act → World → Prop} (hg : o.guard = none) (t : TypeId) (x : Operand) (ho : o.op = .box t x)
    (dst : Option Tmp) (hdst : o.dst = dst) (N : Nat) (hN : w.heap.size = N) (cells : Array Value) (hx : (a.eval x).cells = cells)
    (h : wpList P ops Q rest (a.put dst (.pointer (some ⟨N, 0, none⟩))) (w.alloc (.cells cells t))) : wpList P ops Q (o :: rest) a w := by
  subst hdst hN hx
  refine wpList_plain hg fun K hK => ?_
  unfold Oper.wp execOp
  simp only [ho, Sem.run_bind, Instr.box, newVar, newRow, run_newObj_alloc, Sem.run_pure, Result.andThen_ok]
  exact hK _ _ h
end Go.Proofs.YtlnoabedcnlpoaaDoor
