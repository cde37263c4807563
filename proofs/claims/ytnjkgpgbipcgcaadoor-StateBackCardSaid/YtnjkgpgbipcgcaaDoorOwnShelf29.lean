/- A sum's end: the State's Sum. -/
import Derived.Test.YtnjkgpgbipcgcaaDoorOwnShelf28
import Derived.Lib.SliceRun
namespace Go.Proofs.YtnjkgpgbipcgcaaDoor
open Go.RowKit

def z8 : List Nat := List.replicate 8 0
/-- The sum's first n bytes. -/
def eP (h : List Nat) (n : Nat) : List Nat := (List.range 32).map fun j => if j < n then leP h j else 0
theorem eP_len (h : List Nat) (n : Nat) : (eP h n).length = 32 := by simp [eP]
theorem eP_set (h : List Nat) {n : Nat} (hn : n < 32) : (eP h n).set n (leP h n) = eP h (n + 1) := by
  apply List.ext_getElem?
  intro j
  rw [List.getElem?_set]
  simp only [eP, List.length_map, List.length_range, List.getElem?_map]
  by_cases hj : j < 32
  · rw [List.getElem?_range hj]
    by_cases e : n = j
    · subst e; simp [hn]
    · simp only [e, if_false, Option.map_some]
      by_cases h1 : j < n
      · simp [h1, show j < n + 1 by omega]
      · simp [h1, show ¬ j < n + 1 by omega]
  · rw [List.getElem?_eq_none (l := List.range 32) (by simp; omega)]
    have : ¬ n = j := by omega
    simp [this]
theorem eP_end (h : List Nat) : eP h 32 = endL h := by
  unfold eP endL
  apply List.map_congr_left
  intro j hj
  rw [if_pos (by simpa using hj)]
theorem sv_one (s : List Nat) : (sv s).all (·.oneCell') = true := all_oneCell_toArray (sl8_one s)
theorem sv_set {w : World} {g : Nat} {t : TypeId} {v : List Nat} (h : w.heap[g]? = some (.cells (sv v) t (0, 0))) (j x : Nat) :
    (w.setCell ⟨g, j, none⟩ (.int .u8 (x : Nat))).heap[g]? = some (.cells (sv (v.set j x)) t (0, 0)) := by
  rw [heap_setCell_same w g j _ t _ h]
  simp [sv, sl8, List.map_set]
theorem stc_one (h : List Nat) (tk : Nat) (b : List Nat) (fl : Nat) (wn : Int) : (stc h tk b fl wn).all (·.oneCell') = true := by
  refine all_oneCell_toArray (fun u hu => ?_)
  simp only [stl, wl, sl8, List.mem_append, List.mem_map, List.mem_cons, List.not_mem_nil, or_false] at hu
  rcases hu with ⟨_, _, rfl⟩ | rfl | ⟨_, _, rfl⟩ | rfl | rfl <;> rfl
theorem run_allocSt (w : World) : (Instr.alloc 166 true (.tuple #[])).run Tryd.prog w = .ok (.pointer (some ⟨w.heap.size, 0, none⟩)) (w.alloc (.cells (stc z8 0 z64 0 0) 166)) := by kernel_rfl
def z32 : List Nat := List.replicate 32 0
theorem eP_zero (h : List Nat) : eP h 0 = z32 := by
  unfold eP z32
  apply List.ext_getElem?
  intro j
  rw [List.getElem?_map, List.getElem?_replicate]
  by_cases hj : j < 32
  · rw [List.getElem?_range hj]; simp [hj]
  · rw [List.getElem?_eq_none (l := List.range 32) (by simp; omega)]; simp [hj]
theorem run_allocHs (w : World) : (Instr.alloc 31 true (.tuple #[])).run Tryd.prog w = .ok (.pointer (some ⟨w.heap.size, 0, none⟩)) (w.alloc (.cells (sv z32) 31)) := by kernel_rfl
section
variable {ops : Array Oper} {rest : List Oper} {o : Oper} {a : Act} {w : World} {Q : Exit → Act → World → Prop}
theorem wpList_allocHs (hgd : o.guard = none) (ho : o.op = .alloc 31)
    (h : wpList Tryd.prog ops Q rest (a.put o.dst (.pointer (some ⟨w.heap.size, 0, none⟩))) (w.alloc (.cells (sv z32) 31))) : wpList Tryd.prog ops Q (o :: rest) a w := by
  refine wpList_plain hgd fun K hK => ?_
  unfold Oper.wp execOp
  simp only [ho, Sem.run_bind, run_allocHs, Result.andThen]
  exact hK _ _ h
theorem wpList_buildHs (hgd : o.guard = none) (ho : o.op = .build 31 #[])
    (h : wpList Tryd.prog ops Q rest (a.put o.dst (.agg (sv z32))) w) : wpList Tryd.prog ops Q (o :: rest) a w := by
  have hrun : ∀ w, (Instr.build 31 #[]).run Tryd.prog w = .ok (.agg (sv z32)) w := fun w => by kernel_rfl
  refine wpList_plain hgd fun K hK => ?_
  unfold Oper.wp execOp
  simp only [ho, List.map_toArray, List.map_nil, Sem.run_bind, hrun, Result.andThen]
  exact hK _ _ h
theorem wpList_allocSt (hgd : o.guard = none) (ho : o.op = .alloc 166)
    (h : wpList Tryd.prog ops Q rest (a.put o.dst (.pointer (some ⟨w.heap.size, 0, none⟩))) (w.alloc (.cells (stc z8 0 z64 0 0) 166))) : wpList Tryd.prog ops Q (o :: rest) a w := by
  refine wpList_plain hgd fun K hK => ?_
  unfold Oper.wp execOp
  simp only [ho, Sem.run_bind, run_allocSt, Result.andThen]
  exact hK _ _ h
theorem wpList_loadSt (hgd : o.guard = none) (x : Operand) (ho : o.op = .load 166 x) (g : Nat) (hx : a.eval x = .pointer (some ⟨g, 0, none⟩)) (cs : Array Value) (hl : cs.size = 75) (t : TypeId) (fr : Nat × Nat) (hg : w.heap[g]? = some (.cells cs t fr))
    (h : wpList Tryd.prog ops Q rest (a.put o.dst (.agg cs)) w) : wpList Tryd.prog ops Q (o :: rest) a w :=
  wpList_load_row hgd 166 x ho g hx t cs fr _ hg Tryd.underlying166 rfl (by rw [hl]; exact szSt) h
theorem wpList_loadHs (hgd : o.guard = none) (x : Operand) (ho : o.op = .load 31 x) (g : Nat) (hx : a.eval x = .pointer (some ⟨g, 0, none⟩)) (z : List Nat) (hl : z.length = 32) (t : TypeId) (fr : Nat × Nat) (hg : w.heap[g]? = some (.cells (sv z) t fr))
    (h : wpList Tryd.prog ops Q rest (a.put o.dst (.agg (sv z))) w) : wpList Tryd.prog ops Q (o :: rest) a w :=
  wpList_load_row hgd 31 x ho g hx t (sv z) fr _ hg Tryd.underlying31 rfl (by rw [sv_size, hl]; exact hsz) h
theorem wpList_loadW (hgd : o.guard = none) (x : Operand) (ho : o.op = .load 163 x) (g : Nat) (hx : a.eval x = .pointer (some ⟨g, 0, none⟩)) (v : List Nat) (hl : v.length = 8) (hr : w.rangeAt g 0 (wl v))
    (h : wpList Tryd.prog ops Q rest (a.put o.dst (.agg (wv v))) w) : wpList Tryd.prog ops Q (o :: rest) a w :=
  wpList_load_mid hgd 163 x ho g 0 hx (wl v) _ hr Tryd.underlying163 rfl (by rw [wl_len, hl]; exact sz8) h
/-- A whole row stored into a variable of its own. -/
theorem wpList_storeRow (T : TypeId) {n : Nat} (hT : (Tryd.prog.info? T).map (·.size) = some n) (hgd : o.guard = none) (x y : Operand) (ho : o.op = .store T x y) (g : Nat) (hx : a.eval x = .pointer (some ⟨g, 0, none⟩)) (cs old : Array Value) (hl : cs.size = n) (hu : old.size = n) (h1 : cs.all (·.oneCell') = true) (t : TypeId) (hy : a.eval y = .agg cs) (hg : w.heap[g]? = some (.cells old t (0, 0)))
    (h : ∀ w', w'.heap[g]? = some (.cells cs t (0, 0)) → Frm [g] w w' → wpList Tryd.prog ops Q rest (a.put o.dst undef) w') : wpList Tryd.prog ops Q (o :: rest) a w := by
  refine wpList_store_mid hgd T x y ho g 0 cs hx hy ?_ (by rw [hl]; exact hT) h1 (h _ ?_ (setCells_frm g _ 0 w))
  · intro j hj
    rw [hl] at hj
    refine ⟨?_, ?_⟩
    · rw [Nat.zero_add, cell_of_row w g j _ t _ hg]
      simp [hu, hj]
    · rw [Nat.zero_add]; exact frozen_of_row w g j _ t hg
  · have := setCells_at g cs.toList 0 w [] old.toList t (by simpa using hg) rfl (by simp [hl, hu])
    rw [this]
    simp [hl, hu, List.drop_eq_nil_of_le]
theorem stc_wl {w : World} {p : Nat} {t : TypeId} {fr : Nat × Nat} {h b : List Nat} {tk fl : Nat} {wn : Int} (hp : w.heap[p]? = some (.cells (stc h tk b fl wn) t fr)) : w.rangeAt p 0 (wl h) := by
  intro j u hu
  rw [Nat.zero_add, cell_of_row w p j _ _ _ hp, ← hu]
  simp only [stc, stl, List.getElem?_toArray]
  rw [List.getElem?_append_left (List.getElem?_eq_some_iff.1 hu).1]
/-- 'clear(end.block[end.filled:])'. -/
theorem wpList_clearS (hgd : o.guard = none) (d : Operand) (ho : o.op = .call { callee := .builtin .clear, args := #[d], argTypes := #[37] }) {p fl c : Nat} {A : Option Addr} {h b : List Nat} {tk : Nat} {wn : Int} (hd : a.eval d = .slice A (64 - fl) c) (hA : fl < 64 → A = some ⟨p, 9 + fl, none⟩)
    (hp : w.heap[p]? = some (.cells (stc h tk b fl wn) 166 (0, 0))) (hh : h.length = 8) (hb : b.length = 64) (hf : fl ≤ 64)
    (hK : ∀ w', w'.heap[p]? = some (.cells (stc h tk (b.take fl ++ List.replicate (64 - fl) 0) fl wn) 166 (0, 0)) → Frm [p] w w' → wpList Tryd.prog ops Q rest (a.put o.dst (.tuple #[])) w') : wpList Tryd.prog ops Q (o :: rest) a w := by
  refine wpList_plain hgd fun K hKK => ?_
  by_cases h64 : fl = 64
  · subst h64
    have e : b.take 64 ++ List.replicate (64 - 64) 0 = b := by rw [List.take_of_length_le (by omega)]; simp
    rw [e] at hK
    have hrun : ∀ ty, (Builtin.clear_ #[37] ty #[.slice A 0 c]).run Tryd.prog w = .ok (.tuple #[]) w := fun ty => by
      cases A <;> simp [Builtin.clear_, run_underlying Tryd.underlying37]
    unfold Oper.wp
    simp [execOp, ho, resolve, invoke, builtin, hd, hrun, Result.andThen]
    exact hKK _ _ (hK w hp (Frm.refl _ w))
  · have hA' := hA (by omega)
    subst hA'
    have hsz0 : ∀ w, (zeroValue 5).run Tryd.prog w = .ok (.int .u8 0) w := fun w => by kernel_rfl
    have hrun : ∀ ty, (Builtin.clear_ #[37] ty #[.slice (some ⟨p, 9 + fl, none⟩) (64 - fl) c]).run Tryd.prog w = .ok (.tuple #[]) (w.setCells p (9 + fl) (List.replicate (64 - fl) (.int .u8 0))) := fun ty =>
      Lib.run_clear_slice w 37 5 ty (.int .u8 0) Tryd.underlying37 hsz0 rfl rfl p (9 + fl) (64 - fl) c (by omega)
        (fun j hj => by rw [cell_of_row w p _ _ _ _ hp]; have := stc_size (tk := tk) (fl := fl) (wr := wn) hh hb; simp [this]; omega)
        (fun j hj => frozen_of_row w p _ _ _ hp)
    have e0 : List.replicate (64 - fl) (Value.int .u8 0) = sl8 (List.replicate (64 - fl) 0) := by simp [sl8]
    have e1 := stc_copy (h := h) (b := b) (c := List.replicate (64 - fl) 0) (tk := tk) (fl := fl) (wr := wn) hh hb (o := fl) (by simp; omega)
    have h1 := setCells_at p (sl8 (List.replicate (64 - fl) 0)) (9 + fl) w ((stc h tk b fl wn).toList.take (9 + fl)) ((stc h tk b fl wn).toList.drop (9 + fl)) 166 (by rw [List.take_append_drop]; simpa using hp)
      (by have := stc_size (tk := tk) (fl := fl) (wr := wn) hh hb; simp [this]; omega) (by have := stc_size (tk := tk) (fl := fl) (wr := wn) hh hb; simp [this, sl8_len]; omega)
    rw [List.drop_drop, List.append_assoc, e1, List.drop_of_length_le (by simp; omega), List.append_nil] at h1
    have h2 := hK _ h1 (setCells_frm p _ _ w)
    unfold Oper.wp
    simp [execOp, ho, resolve, invoke, builtin, hd, hrun, Result.andThen, e0]
    exact hKK _ _ h2
end
end Go.Proofs.YtnjkgpgbipcgcaaDoor
