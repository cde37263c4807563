/- BLAKE2s on plain numbers: a block taken in, bytes fed, the sum. -/
import Derived.Test.YtnjkgpgbipcgcaaDoorOwnShelf17
namespace Go.Proofs.YtnjkgpgbipcgcaaDoor

/-- The eight first words; the rows. -/
def firstL : List Nat := [0x6a09e667, 0xbb67ae85, 0x3c6ef372, 0xa54ff53a, 0x510e527f, 0x9b05688c, 0x1f83d9ab, 0x5be0cd19]
def rowsL : List (List Nat) := [
  [0, 1, 2, 3, 4, 5, 6, 7, 8, 9, 10, 11, 12, 13, 14, 15],
  [14, 10, 4, 8, 9, 15, 13, 6, 1, 12, 0, 2, 11, 7, 5, 3],
  [11, 8, 12, 0, 5, 2, 15, 13, 10, 14, 3, 6, 7, 1, 9, 4],
  [7, 9, 3, 1, 13, 12, 11, 14, 2, 6, 5, 10, 4, 0, 15, 8],
  [9, 0, 5, 7, 2, 4, 10, 15, 14, 1, 11, 12, 6, 8, 3, 13],
  [2, 12, 6, 10, 0, 11, 8, 3, 4, 13, 7, 5, 15, 14, 1, 9],
  [12, 5, 1, 15, 14, 13, 4, 10, 0, 7, 6, 3, 9, 2, 8, 11],
  [13, 11, 7, 14, 12, 1, 3, 9, 5, 0, 15, 4, 8, 6, 2, 10],
  [6, 15, 14, 9, 11, 3, 0, 8, 12, 2, 13, 7, 1, 4, 10, 5],
  [10, 2, 8, 4, 7, 6, 1, 5, 15, 11, 9, 14, 3, 12, 13, 0]]
def rowL (r : Nat) : List Nat := rowsL.getD r []
def rowsF : List Nat := rowsL.flatten
theorem firstL_ok : Wd 8 firstL := ⟨rfl, fun i => by
  by_cases h : i < 8
  · have : ∀ j : Fin 8, firstL.getD j.val 0 < 4294967296 := by decide
    exact this ⟨i, h⟩
  · rw [List.getD_eq_getElem?_getD, List.getElem?_eq_none (by show 8 ≤ i; omega)]; decide⟩
theorem rowL_len {r : Nat} (h : r < 10) : (rowL r).length = 16 := by
  have : ∀ j : Fin 10, (rowL j.val).length = 16 := by decide
  exact this ⟨r, h⟩
theorem rowL_lt {r : Nat} (h : r < 10) (k : Nat) : (rowL r).getD k 0 < 16 := by
  by_cases hk : k < 16
  · have : ∀ (j : Fin 10) (i : Fin 16), (rowL j.val).getD i.val 0 < 16 := by decide
    exact this ⟨r, h⟩ ⟨k, hk⟩
  · rw [List.getD_eq_getElem?_getD, List.getElem?_eq_none (by rw [rowL_len h]; omega)]; decide
theorem rowsF_at {r k : Nat} (h : r < 10) (hk : k < 16) : rowsF[r * 16 + k]? = some ((rowL r).getD k 0) := by
  have : ∀ (j : Fin 10) (i : Fin 16), rowsF[j.val * 16 + i.val]? = some ((rowL j.val).getD i.val 0) := by decide
  exact this ⟨r, h⟩ ⟨k, hk⟩

/-- The sixteen words as they are begun. -/
def vP (h : List Nat) : Nat → List Nat
  | 0 => z16
  | i + 1 => ((vP h i).set i (h.getD i 0)).set (i + 8) (firstL.getD i 0)
def v2 (h : List Nat) (t : Nat) : List Nat :=
  ((vP h 8).set 12 (xorW ((vP h 8).getD 12 0) (t % 4294967296))).set 13 (xorW (((vP h 8).set 12 (xorW ((vP h 8).getD 12 0) (t % 4294967296))).getD 13 0) (t / 4294967296 % 4294967296))
def v3 (h : List Nat) (t : Nat) (last : Bool) : List Nat := if last then (v2 h t).set 14 (xorW 4294967295 ((v2 h t).getD 14 0)) else v2 h t
/-- r rounds. -/
def rP (m v : List Nat) : Nat → List Nat
  | 0 => v
  | r + 1 => roundF m (rowL r) (rP m v r)
def hP (h v : List Nat) : Nat → List Nat
  | 0 => h
  | i + 1 => (hP h v i).set i (xorW ((hP h v i).getD i 0) (xorW (v.getD i 0) (v.getD (i + 8) 0)))
/-- A block taken in. -/
def cF (h b : List Nat) (t : Nat) (last : Bool) : List Nat := hP h (rP (mP b 64) (v3 h t last) 10) 8

theorem z16_ok : Wd 16 z16 := mP_ok (b := []) (by simp) 0
theorem vP_ok {h : List Nat} (hh : Wd 8 h) : ∀ i, Wd 16 (vP h i)
  | 0 => z16_ok
  | i + 1 => ((vP_ok hh i).set _ (hh.2 i)).set _ (firstL_ok.2 i)
theorem v2_ok {h : List Nat} (hh : Wd 8 h) (t : Nat) : Wd 16 (v2 h t) := by
  have h1 : Wd 16 ((vP h 8).set 12 (xorW ((vP h 8).getD 12 0) (t % 4294967296))) := (vP_ok hh 8).set _ (xorW_lt ((vP_ok hh 8).2 12) (Nat.mod_lt _ (by decide)))
  exact h1.set _ (xorW_lt (h1.2 13) (Nat.mod_lt _ (by decide)))
theorem v3_ok {h : List Nat} (hh : Wd 8 h) (t : Nat) (last : Bool) : Wd 16 (v3 h t last) := by
  unfold v3
  split
  · exact (v2_ok hh t).set _ (xorW_lt (by decide) ((v2_ok hh t).2 14))
  · exact v2_ok hh t
theorem rP_ok {m v : List Nat} (hv : Wd 16 v) : ∀ r, Wd 16 (rP m v r)
  | 0 => hv
  | r + 1 => roundF_ok m _ (rP_ok hv r)
theorem hP_ok {h v : List Nat} (hh : Wd 8 h) (hv : Wd 16 v) : ∀ i, Wd 8 (hP h v i)
  | 0 => hh
  | i + 1 => (hP_ok hh hv i).set _ (xorW_lt ((hP_ok hh hv i).2 i) (xorW_lt (hv.2 i) (hv.2 (i + 8))))
theorem cF_ok {h b : List Nat} (hh : Wd 8 h) (t : Nat) (last : Bool) : Wd 8 (cF h b t last) := hP_ok hh (rP_ok (v3_ok hh t last) 10) 8
end Go.Proofs.YtnjkgpgbipcgcaaDoor
