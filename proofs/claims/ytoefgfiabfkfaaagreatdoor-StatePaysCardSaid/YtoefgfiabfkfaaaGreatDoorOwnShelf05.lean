/- A State's cells. -/
import Derived.Test.YtoefgfiabfkfaaaGreatDoorOwnShelf04
namespace Go.Proofs.YtoefgfiabfkfaaaGreatDoor
open Go.RowKit

/-- A State's 75 cells. -/
def stl (h : List Nat) (tk : Nat) (b : List Nat) (fl : Nat) (wr : Int) : List Value := wl h ++ ([.int .u64 (tk : Nat)] ++ (sl8 b ++ [.int .i64 (fl : Nat), .int .i64 wr]))
def stc (h : List Nat) (tk : Nat) (b : List Nat) (fl : Nat) (wr : Int) : Array Value := (stl h tk b fl wr).toArray
theorem wl_len (v : List Nat) : (wl v).length = v.length := by simp [wl]
theorem sl8_len (v : List Nat) : (sl8 v).length = v.length := by simp [sl8]
section
variable {h b : List Nat} {tk fl : Nat} {wr : Int}
theorem stc_size (hh : h.length = 8) (hb : b.length = 64) : (stc h tk b fl wr).size = 75 := by simp [stc, stl, wl_len, sl8_len, hh, hb]
theorem stc_w (hh : h.length = 8) {i : Nat} (hi : i < 8) : (stc h tk b fl wr)[i]? = some (.int .u32 (h.getD i 0 : Nat)) := by
 simp only [stc, stl, List.getElem?_toArray]
 rw [List.getElem?_append_left (by rw [wl_len, hh]; exact hi)]
 simp [wl, List.getElem?_map, List.getElem?_eq_getElem (show i < h.length by omega), List.getD_eq_getElem?_getD]
theorem stc_t (hh : h.length = 8) : (stc h tk b fl wr)[8]? = some (.int .u64 (tk : Nat)) := by
 simp only [stc, stl, List.getElem?_toArray]
 rw [List.getElem?_append_right (by rw [wl_len, hh]; omega), wl_len, hh]; rfl
theorem stc_f (hh : h.length = 8) (hb : b.length = 64) : (stc h tk b fl wr)[73]? = some (.int .i64 (fl : Nat)) := by
 simp only [stc, stl, List.getElem?_toArray]
 rw [List.getElem?_append_right (by rw [wl_len, hh]; omega), wl_len, hh, List.getElem?_append_right (by simp)]
 rw [List.getElem?_append_right (by simp [sl8_len, hb])]; simp [sl8_len, hb]
theorem stc_r (hh : h.length = 8) (hb : b.length = 64) : (stc h tk b fl wr)[74]? = some (.int .i64 wr) := by
 simp only [stc, stl, List.getElem?_toArray]
 rw [List.getElem?_append_right (by rw [wl_len, hh]; omega), wl_len, hh, List.getElem?_append_right (by simp)]
 rw [List.getElem?_append_right (by simp [sl8_len, hb])]; simp [sl8_len, hb]
theorem stc_b (hh : h.length = 8) (hb : b.length = 64) {j : Nat} (hj : j < 64) : (stc h tk b fl wr)[9 + j]? = some (.int .u8 (b.getD j 0 : Nat)) := by
 simp only [stc, stl, List.getElem?_toArray]
 rw [List.getElem?_append_right (by rw [wl_len, hh]; omega), wl_len, hh, List.getElem?_append_right (by simp; omega)]
 rw [List.getElem?_append_left (by simp [sl8_len, hb]; omega)]
 rw [show 9 + j - 8 - [Value.int IntKind.u64 ((tk : Nat) : Int)].length = j by simp; omega]
 simp [sl8, List.getElem?_map, List.getElem?_eq_getElem (show j < b.length by omega), List.getD_eq_getElem?_getD]
theorem stc_set_w (hh : h.length = 8) {i x : Nat} (hi : i < 8) : (stc h tk b fl wr).setIfInBounds i (.int .u32 (x : Nat)) = stc (h.set i x) tk b fl wr := by
 simp only [stc, stl, List.setIfInBounds_toArray]
 rw [List.set_append_left _ _ (by rw [wl_len, hh]; exact hi)]
 simp [wl, List.map_set]
theorem stc_set_t (hh : h.length = 8) {x : Nat} : (stc h tk b fl wr).setIfInBounds 8 (.int .u64 (x : Nat)) = stc h x b fl wr := by
 simp only [stc, stl, List.setIfInBounds_toArray]
 rw [List.set_append_right _ _ (by rw [wl_len, hh]; omega), wl_len, hh]; rfl
theorem stc_set_f (hh : h.length = 8) (hb : b.length = 64) {x : Nat} : (stc h tk b fl wr).setIfInBounds 73 (.int .i64 (x : Nat)) = stc h tk b x wr := by
 simp only [stc, stl, List.setIfInBounds_toArray]
 rw [List.set_append_right _ _ (by rw [wl_len, hh]; omega), wl_len, hh, List.set_append_right _ _ (by simp), List.set_append_right _ _ (by simp [sl8_len, hb])]
 simp [sl8_len, hb]
theorem stc_set_r (hh : h.length = 8) (hb : b.length = 64) {x : Int} : (stc h tk b fl wr).setIfInBounds 74 (.int .i64 x) = stc h tk b fl x := by
 simp only [stc, stl, List.setIfInBounds_toArray]
 rw [List.set_append_right _ _ (by rw [wl_len, hh]; omega), wl_len, hh, List.set_append_right _ _ (by simp), List.set_append_right _ _ (by simp [sl8_len, hb])]
 simp [sl8_len, hb]
theorem stc_range {w : World} {p : Nat} {t : TypeId} {fr : Nat × Nat} (hp : w.heap[p]? = some (.cells (stc h tk b fl wr) t fr)) (hh : h.length = 8) (hb : b.length = 64) : w.rangeAt p 9 (sl8 b) := by
 intro j u hu
 have hj : j < 64 := by
  have := (List.getElem?_eq_some_iff.1 hu).1
  rw [sl8_len, hb] at this; exact this
 rw [cell_of_row w p (9 + j) _ _ _ hp, stc_b hh hb hj, ← hu]
 simp [sl8, List.getElem?_map, List.getElem?_eq_getElem (show j < b.length by omega), List.getD_eq_getElem?_getD]
end
/-- The package's two tables lie in their blocks. -/
structure Tab (w : World) : Prop where
 first : ∃ t fr, w.heap[1]? = some (.cells (wv firstL) t fr)
 rows : ∃ t fr, w.heap[2]? = some (.cells (sv rowsF) t fr)
theorem Tab.frm {w w' : World} {S : List Nat} (h : Tab w) (hf : Frm S w w') (hs : ∀ k, k ∈ S → 3 ≤ k) : Tab w' := by
 obtain ⟨⟨t, fr, h1⟩, ⟨t', fr', h2⟩⟩ := h
 exact ⟨⟨t, fr, hf.heap h1 (fun e => by have := hs _ e; omega)⟩, ⟨t', fr', hf.heap h2 (fun e => by have := hs _ e; omega)⟩⟩
theorem sz8 : (Tryz.prog.info? 137).map (·.size) = some 8 := by kernel_rfl
theorem sz16b : (Tryz.prog.info? 165).map (·.size) = some 16 := by kernel_rfl
theorem szSt : (Tryz.prog.info? 140).map (·.size) = some 75 := by kernel_rfl
section
variable {ops : Array Oper} {rest : List Oper} {o : Oper} {a : Act} {w : World} {Q : Exit → Act → World → Prop}
theorem wpList_loadF (hgd : o.guard = none) (x : Operand) (ho : o.op = .load 137 x) (g : Nat) (hx : a.eval x = .pointer (some ⟨g, 0, none⟩)) (v : List Nat) (hl : v.length = 8) (t : TypeId) (fr : Nat × Nat) (hg : w.heap[g]? = some (.cells (wv v) t fr))
  (h : wpList Tryz.prog ops Q rest (a.put o.dst (.agg (wv v))) w) : wpList Tryz.prog ops Q (o :: rest) a w :=
 wpList_load_row hgd 137 x ho g hx t (wv v) fr _ hg Tryz.underlying137 rfl (by rw [wv_size, hl]; exact sz8) h
theorem wpList_loadB (hgd : o.guard = none) (x : Operand) (ho : o.op = .load 138 x) (g : Nat) (hx : a.eval x = .pointer (some ⟨g, 9, none⟩)) (b : List Nat) (hl : b.length = 64) (hr : w.rangeAt g 9 (sl8 b))
  (h : wpList Tryz.prog ops Q rest (a.put o.dst (.agg (sv b))) w) : wpList Tryz.prog ops Q (o :: rest) a w :=
 wpList_load_mid hgd 138 x ho g 9 hx (sl8 b) _ hr Tryz.underlying138 rfl (by rw [sl8_len, hl]; exact sz64) h
theorem wpList_loadR (hgd : o.guard = none) (x : Operand) (ho : o.op = .load 165 x) (g j : Nat) (hx : a.eval x = .pointer (some ⟨g, j, none⟩)) (b : List Nat) (hl : b.length = 16) (hr : w.rangeAt g j (sl8 b))
  (h : wpList Tryz.prog ops Q rest (a.put o.dst (.agg (sv b))) w) : wpList Tryz.prog ops Q (o :: rest) a w :=
 wpList_load_mid hgd 165 x ho g j hx (sl8 b) _ hr Tryz.underlying165 rfl (by rw [sl8_len, hl]; exact sz16b) h
end
theorem rows_range {w : World} {g : Nat} {t : TypeId} {fr : Nat × Nat} (hg : w.heap[g]? = some (.cells (sv rowsF) t fr)) {r : Nat} (hr : r < 10) : w.rangeAt g (r * 16) (sl8 (rowL r)) := by
 intro j u hu
 have hj : j < 16 := by
  have := (List.getElem?_eq_some_iff.1 hu).1
  rw [sl8_len, rowL_len hr] at this; exact this
 rw [cell_of_row w g (r * 16 + j) _ _ _ hg]
 simp only [sv, sl8, List.getElem?_toArray, List.getElem?_map, rowsF_at hr hj] at hu ⊢
 rw [← hu, List.getElem?_eq_getElem (show j < (rowL r).length by rw [rowL_len hr]; exact hj)]
 simp [List.getD_eq_getElem?_getD, List.getElem?_eq_getElem (show j < (rowL r).length by rw [rowL_len hr]; exact hj)]
end Go.Proofs.YtoefgfiabfkfaaaGreatDoor
