/- Arrays of 32 bytes (sums), kept whole: a new one, loaded, stored, copied into, told as a result, compared. -/
import Derived.Test.YtmgjipemgdgjdaaClone
import Derived.Laws.CopyOwn
import Derived.Deep.MidRow
import Derived.Stop.BytesEq
namespace Go.Proofs.Ytmgjipemgdgjdaa
open Go.RowKit

/-- A sum's 32 cells. -/
def hv (z : Nat → Int) : Array Value := (bl z 32).toArray
theorem hv_size (z : Nat → Int) : (hv z).size = 32 := by simp [hv, bl_length]
theorem hv_list (z : Nat → Int) : (hv z).toList = bl z 32 := by simp [hv]
theorem hv_one (z : Nat → Int) : (hv z).all (·.oneCell') = true := by
  have : (hv z) = (bl z 32).toArray := rfl
  rw [this]
  exact all_oneCell_toArray (bl_one z 32)
theorem hsz : (Try.prog.info? 28).map (·.size) = some 32 := by kernel_rfl
theorem hszv (z : Nat → Int) : (Try.prog.info? 28).map (·.size) = some (hv z).size := by rw [hv_size]; exact hsz

/-- No byte but 0. -/
def nz : Nat → Int := fun _ => 0
theorem run_allocH (w : World) : (Instr.alloc 28 true (.tuple #[])).run Try.prog w = .ok (.pointer (some ⟨w.heap.size, 0, none⟩)) (w.alloc (.cells (hv nz) 28)) := by kernel_rfl

section
variable {ops : Array Oper} {rest : List Oper} {o : Oper} {a : Act} {w : World} {Q : Exit → Act → World → Prop}

theorem wpList_allocH (hgd : o.guard = none) (ho : o.op = .alloc 28)
    (h : wpList Try.prog ops Q rest (a.put o.dst (.pointer (some ⟨w.heap.size, 0, none⟩))) (w.alloc (.cells (hv nz) 28))) : wpList Try.prog ops Q (o :: rest) a w := by
  refine wpList_plain hgd fun K hK => ?_
  unfold Oper.wp execOp
  simp only [ho, Sem.run_bind, run_allocH, Result.andThen]
  exact hK _ _ h

theorem wpList_loadH (hgd : o.guard = none) (x : Operand) (ho : o.op = .load 28 x) (g : Nat) (hx : a.eval x = .pointer (some ⟨g, 0, none⟩)) (z : Nat → Int) (t : TypeId) (fr : Nat × Nat) (hg : w.heap[g]? = some (.cells (hv z) t fr))
    (h : wpList Try.prog ops Q rest (a.put o.dst (.agg (hv z))) w) : wpList Try.prog ops Q (o :: rest) a w :=
  wpList_load_row hgd 28 x ho g hx t (hv z) fr _ hg Try.underlying28 rfl (hszv z) h

theorem setCells_at (g : Nat) : ∀ (vs : List Value) (off : Nat) (w : World) (pre post : List Value) (t : TypeId), w.heap[g]? = some (.cells (pre ++ post).toArray t (0, 0)) → pre.length = off → vs.length ≤ post.length →
    (w.setCells g off vs).heap[g]? = some (.cells (pre ++ vs ++ post.drop vs.length).toArray t (0, 0))
  | [], _, w, pre, post, t, h, _, _ => by simpa [World.setCells] using h
  | v :: r, off, w, pre, p :: post, t, h, hp, hl => by
    rw [World.setCells]
    have h1 : (w.setCell ⟨g, off, none⟩ v).heap[g]? = some (.cells ((pre ++ [v]) ++ post).toArray t (0, 0)) := by
      rw [heap_setCell_same w g off _ t v h]
      congr 2
      apply Array.toList_inj.1
      simp [← hp]
    have := setCells_at g r (off + 1) _ (pre ++ [v]) post t h1 (by simp [hp]) (by simpa using hl)
    simpa using this
  | v :: r, off, w, pre, [], t, h, hp, hl => by simp at hl
theorem setCells_frm (g : Nat) : ∀ (vs : List Value) (off : Nat) (w : World), Frm [g] w (w.setCells g off vs)
  | [], _, w => Frm.refl _ w
  | v :: r, off, w => ((Frm.refl [g] w).setCell ⟨g, off, none⟩ v (by simp)).trans (setCells_frm g r (off + 1) _)

/-- A whole sum stored into a variable of its own. -/
theorem wpList_storeH (hgd : o.guard = none) (x y : Operand) (ho : o.op = .store 28 x y) (g : Nat) (hx : a.eval x = .pointer (some ⟨g, 0, none⟩)) (z u : Nat → Int) (t : TypeId) (hy : a.eval y = .agg (hv z)) (hg : w.heap[g]? = some (.cells (hv u) t (0, 0)))
    (h : ∀ w', w'.heap[g]? = some (.cells (hv z) t (0, 0)) → Frm [g] w w' → wpList Try.prog ops Q rest (a.put o.dst undef) w') : wpList Try.prog ops Q (o :: rest) a w := by
  refine wpList_store_mid hgd 28 x y ho g 0 (hv z) hx hy ?_ (hszv z) (hv_one z) (h _ ?_ (setCells_frm g _ 0 w))
  · intro j hj
    rw [hv_size] at hj
    refine ⟨?_, ?_⟩
    · rw [Nat.zero_add, cell_of_row w g j _ t _ hg]
      simp [hv_size, hj]
    · rw [Nat.zero_add]; exact frozen_of_row w g j _ t hg
  · have := setCells_at g (hv z).toList 0 w [] (hv u).toList t (by simpa using hg) rfl (by simp [hv_size])
    rw [this]
    simp [hv_size, List.drop_eq_nil_of_le]
end
theorem copy_hv (z u : Nat → Int) : ((hv u).toList.take 0 ++ (bl z 32 ++ (hv u).toList.drop (0 + (bl z 32).length))).toArray = hv z := by
  have h1 : (hv u).toList.drop (0 + (bl z 32).length) = [] := List.drop_eq_nil_of_le (by simp [hv_size, bl_length])
  rw [h1]
  simp [hv]

theorem hsz5 : (Try.prog.info? 5).map (·.size) = some 1 := by kernel_rfl
/-- 'copy(h[:], b)', b of 32 bytes at least. -/
theorem wpList_copyH {ops : Array Oper} {rest : List Oper} {o : Oper} {a : Act} {w : World} {Q : Exit → Act → World → Prop} {z u : Nat → Int} (hgd : o.guard = none) (d s : Operand) (ho : o.op = .call { callee := .builtin .copy, args := #[d, s], argTypes := #[25, 25] })
    (g : Nat) (ad : Addr) (n cap : Nat) (hd : a.eval d = .slice (some ⟨g, 0, none⟩) 32 32) (hs : a.eval s = .slice (some ad) n cap) (t : TypeId) (hg : w.heap[g]? = some (.cells (hv u) t (0, 0))) (hn : 32 ≤ n)
    (hsrc : ∀ j v, (bl z 32)[j]? = some v → w.cell? (ad.add j) = some v)
    (h : ∀ w', w'.heap[g]? = some (.cells (hv z) t (0, 0)) → Frm [g] w w' → wpList Try.prog ops Q rest (a.put o.dst (.int .i64 32)) w') : wpList Try.prog ops Q (o :: rest) a w := by
  refine wpList_copy_own hgd d s 25 25 ho 5 Try.underlying25 hsz5 g 0 32 32 ad n cap hd hs (hv u) t hg (bl z 32) (by rw [bl_length]; exact (Nat.min_eq_right hn).symm) hsrc (by simp [hv_size, bl_length]) (bl_one z 32) ?_
  have hlt := lt_of_block hg
  have h1 : (w.setRow g ((hv u).toList.take 0 ++ (bl z 32 ++ (hv u).toList.drop (0 + (bl z 32).length))).toArray).heap[g]? = some (.cells (hv z) t (0, 0)) := by
    rw [copy_hv z u]
    have h' : w.heap[g] = .cells (hv u) t (0, 0) := by simpa [Array.getElem?_eq_getElem hlt] using hg
    simp only [World.setRow]
    rw [Array.getElem?_eq_getElem (by simpa using hlt), Array.getElem_modify_self, h']
  have h2 : Frm [g] w (w.setRow g ((hv u).toList.take 0 ++ (bl z 32 ++ (hv u).toList.drop (0 + (bl z 32).length))).toArray) := by
    refine ⟨rfl, rfl, rfl, by simp, fun k _ hk => ?_⟩
    simp only [World.setRow, Array.getElem?_modify]
    rw [if_neg (fun e => hk (by simp [e]))]
  have h3 := h _ h1 h2
  rw [bl_length]
  exact h3

def ub (z : Nat → Int) : List UInt8 := (List.range 32).map fun j => UInt8.ofNat (z j).toNat
theorem hv_ub {z : Nat → Int} (hz : ∀ j, j < 32 → 0 ≤ z j ∧ z j ≤ 255) : hv z = ((ub z).map Extern.Stop.cell).toArray := by
  unfold hv bl ub
  congr 1
  rw [List.map_map]
  apply List.map_congr_left
  intro j hj
  have := hz j (by simpa using hj)
  simp [Extern.Stop.cell]
  omega
/-- Whether two sums are the same. -/
def hq (z y : Nat → Int) : Bool := ub z == ub y
theorem hq_same (z : Nat → Int) : hq z z = true := by simp [hq]
theorem hsz1 (w : World) : (sizeOf 5).run Try.prog w = .ok 1 w := by kernel_rfl
theorem eql_hv {z y : Nat → Int} (hz : ∀ j, j < 32 → 0 ≤ z j ∧ z j ≤ 255) (hy : ∀ j, j < 32 → 0 ≤ y j ∧ y j ≤ 255) (w : World) :
    (binOp .eql 28 (.agg (hv z)) (.agg (hv y))).run Try.prog w = .ok (.bool (hq z y)) w := by
  rw [hv_ub hz, hv_ub hy]
  exact run_eql_bytes w 28 5 32 Try.underlying28 Try.underlying5 hsz1 (ub z) (ub y) (by simp [ub]) (by simp [ub])
theorem nz_bd : ∀ j, j < 32 → 0 ≤ nz j ∧ nz j ≤ 255 := fun _ _ => by simp [nz]

theorem results_H3 {fn : Func} {p u v : Tmp} (h : fn.results = #[.cell p 28, .tmp u, .tmp v]) (tmps : Array Value) (w : World) (g : Nat) (t : TypeId) (z : Nat → Int) (fr : Nat × Nat)
    (hp : tmps.getD p undef = .pointer (some ⟨g, 0, none⟩)) (hg : w.heap[g]? = some (.cells (hv z) t fr)) :
    (results fn tmps).run Try.prog w = .ok (.tuple #[.agg (hv z), tmps.getD u undef, tmps.getD v undef]) w := by
  have hp' : tmps[p]?.getD undef = .pointer (some ⟨g, 0, none⟩) := by simpa using hp
  simp [results, h, hp', asAddr, run_loadVar_row w g t 28 (hv z) fr _ hg Try.underlying28 rfl (hszv z)]
theorem results_H1 {fn : Func} {p : Tmp} (h : fn.results = #[.cell p 28]) (tmps : Array Value) (w : World) (g : Nat) (t : TypeId) (z : Nat → Int) (fr : Nat × Nat)
    (hp : tmps.getD p undef = .pointer (some ⟨g, 0, none⟩)) (hg : w.heap[g]? = some (.cells (hv z) t fr)) :
    (results fn tmps).run Try.prog w = .ok (.agg (hv z)) w := results_cell_row h tmps w g t (hv z) fr _ hp hg Try.underlying28 rfl (hszv z)
end Go.Proofs.Ytmgjipemgdgjdaa
