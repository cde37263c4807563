/- BLAKE2s on plain numbers: a block taken in, bytes fed, the sum. -/
import Derived.Test.YtanchjfodcjlmaaGreatDoorOwnShelf01
import Derived.Test.YtanchjfodcjlmaaGreatDoorOwnShelf05
namespace Go.Proofs.YtanchjfodcjlmaaGreatDoor

/-- The eight first words; the rows. -/
def firstL : List Nat := [0x6a09e667, 0xbb67ae85, 0x3c6ef372, 0xa54ff53a, 0x510e527f, 0x9b05688c, 0x1f83d9ab, 0x5be0cd19]
def rowsL : List (List Nat) := [
  [0, 1, 2, 3, 4, 5, 6, 7, 8, 9, 10, 11, 12, 13, 14, 15],
  [14, 10, 4, 8, 9, 15, 13, 6, 1, 12, 0, 2, 11, 7, 5, 3],
  [11, 8, 12, 0, 5, 2, 15, 13, 10, 14, 3, 6, 7, 1, 9, 4],
  [7, 9, 3, 1, 13, 12, 11, 14, 2, 6, 5, 10, 4, 0, 15, 8],
  [9, 0, 5, 7, 2, 4, 10, 15, 14, 1, 11, 12, 6, 8, 3, 13],
  [2, 12, 6, 10, 0, 11, 8, 3, 4, 13, 7, 5, 15, 14, 1, 9],
  [12, 5, 1, 15, 14, 13, 4, 10, 0, 7, 6, 3, 9, 2, 8, 11],
  [13, 11, 7, 14, 12, 1, 3, 9, 5, 0, 15, 4, 8, 6, 2, 10],
  [6, 15, 14, 9, 11, 3, 0, 8, 12, 2, 13, 7, 1, 4, 10, 5],
  [10, 2, 8, 4, 7, 6, 1, 5, 15, 11, 9, 14, 3, 12, 13, 0]]
def rowL (r : Nat) : List Nat := rowsL.getD r []
def rowsF : List Nat := rowsL.flatten
theorem firstL_ok : Wd 8 firstL := ⟨rfl, fun i => by
  by_cases h : i < 8
  · have : ∀ j : Fin 8, firstL.getD j.val 0 < 4294967296 := by decide
    exact this ⟨i, h⟩
  · rw [List.getD_eq_getElem?_getD, List.getElem?_eq_none (by show 8 ≤ i; omega)]; decide⟩
theorem rowL_len {r : Nat} (h : r < 10) : (rowL r).length = 16 := by
  have : ∀ j : Fin 10, (rowL j.val).length = 16 := by decide
  exact this ⟨r, h⟩
theorem rowL_lt {r : Nat} (h : r < 10) (k : Nat) : (rowL r).getD k 0 < 16 := by
  by_cases hk : k < 16
  · have : ∀ (j : Fin 10) (i : Fin 16), (rowL j.val).getD i.val 0 < 16 := by decide
    exact this ⟨r, h⟩ ⟨k, hk⟩
  · rw [List.getD_eq_getElem?_getD, List.getElem?_eq_none (by rw [rowL_len h]; omega)]; decide
theorem rowsF_at {r k : Nat} (h : r < 10) (hk : k < 16) : rowsF[r * 16 + k]? = some ((rowL r).getD k 0) := by
  have : ∀ (j : Fin 10) (i : Fin 16), rowsF[j.val * 16 + i.val]? = some ((rowL j.val).getD i.val 0) := by decide
  exact this ⟨r, h⟩ ⟨k, hk⟩

/-- The sixteen words as they are begun. -/
def vP (h : List Nat) : Nat → List Nat
  | 0 => z16
  | i + 1 => ((vP h i).set i (h.getD i 0)).set (i + 8) (firstL.getD i 0)
def v2 (h : List Nat) (t : Nat) : List Nat :=
  ((vP h 8).set 12 (xorW ((vP h 8).getD 12 0) (t % 4294967296))).set 13 (xorW (((vP h 8).set 12 (xorW ((vP h 8).getD 12 0) (t % 4294967296))).getD 13 0) (t / 4294967296 % 4294967296))
def v3 (h : List Nat) (t : Nat) (last : Bool) : List Nat := if last then (v2 h t).set 14 (xorW 4294967295 ((v2 h t).getD 14 0)) else v2 h t
/-- r rounds. -/
def rP (m v : List Nat) : Nat → List Nat
  | 0 => v
  | r + 1 => roundF m (rowL r) (rP m v r)
def hP (h v : List Nat) : Nat → List Nat
  | 0 => h
  | i + 1 => (hP h v i).set i (xorW ((hP h v i).getD i 0) (xorW (v.getD i 0) (v.getD (i + 8) 0)))
/-- A block taken in. -/
def cF (h b : List Nat) (t : Nat) (last : Bool) : List Nat := hP h (rP (mP b 64) (v3 h t last) 10) 8

theorem z16_ok : Wd 16 z16 := mP_ok (b := []) (by simp) 0
theorem vP_ok {h : List Nat} (hh : Wd 8 h) : ∀ i, Wd 16 (vP h i)
  | 0 => z16_ok
  | i + 1 => ((vP_ok hh i).set _ (hh.2 i)).set _ (firstL_ok.2 i)
theorem v2_ok {h : List Nat} (hh : Wd 8 h) (t : Nat) : Wd 16 (v2 h t) := by
  have h1 : Wd 16 ((vP h 8).set 12 (xorW ((vP h 8).getD 12 0) (t % 4294967296))) := (vP_ok hh 8).set _ (xorW_lt ((vP_ok hh 8).2 12) (Nat.mod_lt _ (by decide)))
  exact h1.set _ (xorW_lt (h1.2 13) (Nat.mod_lt _ (by decide)))
theorem v3_ok {h : List Nat} (hh : Wd 8 h) (t : Nat) (last : Bool) : Wd 16 (v3 h t last) := by
  unfold v3
  split
  · exact (v2_ok hh t).set _ (xorW_lt (by decide) ((v2_ok hh t).2 14))
  · exact v2_ok hh t
theorem rP_ok {m v : List Nat} (hv : Wd 16 v) : ∀ r, Wd 16 (rP m v r)
  | 0 => hv
  | r + 1 => roundF_ok m _ (rP_ok hv r)
theorem hP_ok {h v : List Nat} (hh : Wd 8 h) (hv : Wd 16 v) : ∀ i, Wd 8 (hP h v i)
  | 0 => hh
  | i + 1 => (hP_ok hh hv i).set _ (xorW_lt ((hP_ok hh hv i).2 i) (xorW_lt (hv.2 i) (hv.2 (i + 8))))
theorem cF_ok {h b : List Nat} (hh : Wd 8 h) (t : Nat) (last : Bool) : Wd 8 (cF h b t last) := hP_ok hh (rP_ok (v3_ok hh t last) 10) 8
end Go.Proofs.YtanchjfodcjlmaaGreatDoor
/- A State's cells. -/
namespace Go.Proofs.YtanchjfodcjlmaaGreatDoor
open Go.RowKit

/-- A State's 75 cells. -/
def stl (h : List Nat) (tk : Nat) (b : List Nat) (fl : Nat) (wr : Int) : List Value := wl h ++ ([.int .u64 (tk : Nat)] ++ (sl8 b ++ [.int .i64 (fl : Nat), .int .i64 wr]))
def stc (h : List Nat) (tk : Nat) (b : List Nat) (fl : Nat) (wr : Int) : Array Value := (stl h tk b fl wr).toArray
theorem wl_len (v : List Nat) : (wl v).length = v.length := by simp [wl]
theorem sl8_len (v : List Nat) : (sl8 v).length = v.length := by simp [sl8]
section
variable {h b : List Nat} {tk fl : Nat} {wr : Int}
theorem stc_size (hh : h.length = 8) (hb : b.length = 64) : (stc h tk b fl wr).size = 75 := by simp [stc, stl, wl_len, sl8_len, hh, hb]
theorem stc_w (hh : h.length = 8) {i : Nat} (hi : i < 8) : (stc h tk b fl wr)[i]? = some (.int .u32 (h.getD i 0 : Nat)) := by
  simp only [stc, stl, List.getElem?_toArray]
  rw [List.getElem?_append_left (by rw [wl_len, hh]; exact hi)]
  simp [wl, List.getElem?_map, List.getElem?_eq_getElem (show i < h.length by omega), List.getD_eq_getElem?_getD]
theorem stc_t (hh : h.length = 8) : (stc h tk b fl wr)[8]? = some (.int .u64 (tk : Nat)) := by
  simp only [stc, stl, List.getElem?_toArray]
  rw [List.getElem?_append_right (by rw [wl_len, hh]; omega), wl_len, hh]; rfl
theorem stc_f (hh : h.length = 8) (hb : b.length = 64) : (stc h tk b fl wr)[73]? = some (.int .i64 (fl : Nat)) := by
  simp only [stc, stl, List.getElem?_toArray]
  rw [List.getElem?_append_right (by rw [wl_len, hh]; omega), wl_len, hh, List.getElem?_append_right (by simp)]
  rw [List.getElem?_append_right (by simp [sl8_len, hb])]; simp [sl8_len, hb]
theorem stc_r (hh : h.length = 8) (hb : b.length = 64) : (stc h tk b fl wr)[74]? = some (.int .i64 wr) := by
  simp only [stc, stl, List.getElem?_toArray]
  rw [List.getElem?_append_right (by rw [wl_len, hh]; omega), wl_len, hh, List.getElem?_append_right (by simp)]
  rw [List.getElem?_append_right (by simp [sl8_len, hb])]; simp [sl8_len, hb]
theorem stc_b (hh : h.length = 8) (hb : b.length = 64) {j : Nat} (hj : j < 64) : (stc h tk b fl wr)[9 + j]? = some (.int .u8 (b.getD j 0 : Nat)) := by
  simp only [stc, stl, List.getElem?_toArray]
  rw [List.getElem?_append_right (by rw [wl_len, hh]; omega), wl_len, hh, List.getElem?_append_right (by simp; omega)]
  rw [List.getElem?_append_left (by simp [sl8_len, hb]; omega)]
  rw [show 9 + j - 8 - [Value.int IntKind.u64 ((tk : Nat) : Int)].length = j by simp; omega]
  simp [sl8, List.getElem?_map, List.getElem?_eq_getElem (show j < b.length by omega), List.getD_eq_getElem?_getD]
theorem stc_set_w (hh : h.length = 8) {i x : Nat} (hi : i < 8) : (stc h tk b fl wr).setIfInBounds i (.int .u32 (x : Nat)) = stc (h.set i x) tk b fl wr := by
  simp only [stc, stl, List.setIfInBounds_toArray]
  rw [List.set_append_left _ _ (by rw [wl_len, hh]; exact hi)]
  simp [wl, List.map_set]
theorem stc_set_t (hh : h.length = 8) {x : Nat} : (stc h tk b fl wr).setIfInBounds 8 (.int .u64 (x : Nat)) = stc h x b fl wr := by
  simp only [stc, stl, List.setIfInBounds_toArray]
  rw [List.set_append_right _ _ (by rw [wl_len, hh]; omega), wl_len, hh]; rfl
theorem stc_set_f (hh : h.length = 8) (hb : b.length = 64) {x : Nat} : (stc h tk b fl wr).setIfInBounds 73 (.int .i64 (x : Nat)) = stc h tk b x wr := by
  simp only [stc, stl, List.setIfInBounds_toArray]
  rw [List.set_append_right _ _ (by rw [wl_len, hh]; omega), wl_len, hh, List.set_append_right _ _ (by simp), List.set_append_right _ _ (by simp [sl8_len, hb])]
  simp [sl8_len, hb]
theorem stc_set_r (hh : h.length = 8) (hb : b.length = 64) {x : Int} : (stc h tk b fl wr).setIfInBounds 74 (.int .i64 x) = stc h tk b fl x := by
  simp only [stc, stl, List.setIfInBounds_toArray]
  rw [List.set_append_right _ _ (by rw [wl_len, hh]; omega), wl_len, hh, List.set_append_right _ _ (by simp), List.set_append_right _ _ (by simp [sl8_len, hb])]
  simp [sl8_len, hb]
theorem stc_range {w : World} {p : Nat} {t : TypeId} {fr : Nat × Nat} (hp : w.heap[p]? = some (.cells (stc h tk b fl wr) t fr)) (hh : h.length = 8) (hb : b.length = 64) : w.rangeAt p 9 (sl8 b) := by
  intro j u hu
  have hj : j < 64 := by
    have := (List.getElem?_eq_some_iff.1 hu).1
    rw [sl8_len, hb] at this; exact this
  rw [cell_of_row w p (9 + j) _ _ _ hp, stc_b hh hb hj, ← hu]
  simp [sl8, List.getElem?_map, List.getElem?_eq_getElem (show j < b.length by omega), List.getD_eq_getElem?_getD]
end
/-- The package's two tables lie in their blocks. -/
structure Tab (w : World) : Prop where
  first : ∃ t fr, w.heap[2]? = some (.cells (wv firstL) t fr)
  rows : ∃ t fr, w.heap[3]? = some (.cells (sv rowsF) t fr)
theorem Tab.frm {w w' : World} {S : List Nat} (h : Tab w) (hf : Frm S w w') (hs : ∀ k, k ∈ S → 4 ≤ k) : Tab w' := by
  obtain ⟨⟨t, fr, h1⟩, ⟨t', fr', h2⟩⟩ := h
  exact ⟨⟨t, fr, hf.heap h1 (fun e => by have := hs _ e; omega)⟩, ⟨t', fr', hf.heap h2 (fun e => by have := hs _ e; omega)⟩⟩
theorem sz8 : (Tryz.prog.info? 181).map (·.size) = some 8 := by kernel_rfl
theorem sz16b : (Tryz.prog.info? 202).map (·.size) = some 16 := by kernel_rfl
theorem szSt : (Tryz.prog.info? 184).map (·.size) = some 75 := by kernel_rfl
section
variable {ops : Array Oper} {rest : List Oper} {o : Oper} {a : Act} {w : World} {Q : Exit → Act → World → Prop}
theorem wpList_loadF (hgd : o.guard = none) (x : Operand) (ho : o.op = .load 181 x) (g : Nat) (hx : a.eval x = .pointer (some ⟨g, 0, none⟩)) (v : List Nat) (hl : v.length = 8) (t : TypeId) (fr : Nat × Nat) (hg : w.heap[g]? = some (.cells (wv v) t fr))
    (h : wpList Tryz.prog ops Q rest (a.put o.dst (.agg (wv v))) w) : wpList Tryz.prog ops Q (o :: rest) a w :=
  wpList_load_row hgd 181 x ho g hx t (wv v) fr _ hg Tryz.underlying181 rfl (by rw [wv_size, hl]; exact sz8) h
theorem wpList_loadB (hgd : o.guard = none) (x : Operand) (ho : o.op = .load 182 x) (g : Nat) (hx : a.eval x = .pointer (some ⟨g, 9, none⟩)) (b : List Nat) (hl : b.length = 64) (hr : w.rangeAt g 9 (sl8 b))
    (h : wpList Tryz.prog ops Q rest (a.put o.dst (.agg (sv b))) w) : wpList Tryz.prog ops Q (o :: rest) a w :=
  wpList_load_mid hgd 182 x ho g 9 hx (sl8 b) _ hr Tryz.underlying182 rfl (by rw [sl8_len, hl]; exact sz64) h
theorem wpList_loadR (hgd : o.guard = none) (x : Operand) (ho : o.op = .load 202 x) (g j : Nat) (hx : a.eval x = .pointer (some ⟨g, j, none⟩)) (b : List Nat) (hl : b.length = 16) (hr : w.rangeAt g j (sl8 b))
    (h : wpList Tryz.prog ops Q rest (a.put o.dst (.agg (sv b))) w) : wpList Tryz.prog ops Q (o :: rest) a w :=
  wpList_load_mid hgd 202 x ho g j hx (sl8 b) _ hr Tryz.underlying202 rfl (by rw [sl8_len, hl]; exact sz16b) h
end
theorem rows_range {w : World} {g : Nat} {t : TypeId} {fr : Nat × Nat} (hg : w.heap[g]? = some (.cells (sv rowsF) t fr)) {r : Nat} (hr : r < 10) : w.rangeAt g (r * 16) (sl8 (rowL r)) := by
  intro j u hu
  have hj : j < 16 := by
    have := (List.getElem?_eq_some_iff.1 hu).1
    rw [sl8_len, rowL_len hr] at this; exact this
  rw [cell_of_row w g (r * 16 + j) _ _ _ hg]
  simp only [sv, sl8, List.getElem?_toArray, List.getElem?_map, rowsF_at hr hj] at hu ⊢
  rw [← hu, List.getElem?_eq_getElem (show j < (rowL r).length by rw [rowL_len hr]; exact hj)]
  simp [List.getD_eq_getElem?_getD, List.getElem?_eq_getElem (show j < (rowL r).length by rw [rowL_len hr]; exact hj)]
end Go.Proofs.YtanchjfodcjlmaaGreatDoor
