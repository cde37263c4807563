/- The document's BLAKE2s on plain numbers: its words, its begin and its end are the same. -/
import Derived.Test.YtecahnafcljljaaDoorBMath3
namespace Go.Proofs.YtecahnafcljljaaDoor

/-- Word i of a block, as the document has it. -/
def wd (b : List Nat) (i : Nat) : Nat := b.getD (4 * i) 0 + 256 * b.getD (4 * i + 1) 0 + 65536 * b.getD (4 * i + 2) 0 + 16777216 * b.getD (4 * i + 3) 0
def mD (b : List Nat) (k : Nat) : List Nat := (List.range k).map (wd b)
theorem or_low (a x k : Nat) (ha : a < 2 ^ k) : a ||| (x <<< k) = a + 2 ^ k * x := by
  rw [Nat.or_comm, ← Nat.shiftLeft_add_eq_or_of_lt ha, Nat.shiftLeft_eq]
  rw [Nat.mul_comm, Nat.add_comm]
theorem wd_or (x y z u : Nat) (hx : x < 256) (hy : y < 256) (hz : z < 256) : (((0 ||| (x <<< 0)) ||| (y <<< 8)) ||| (z <<< 16)) ||| (u <<< 24) = x + 256 * y + 65536 * z + 16777216 * u := by
  rw [or_low 0 x 0 (by decide), or_low _ y 8 (by omega), or_low _ z 16 (by omega), or_low _ u 24 (by omega)]
  omega
theorem mP_at {b : List Nat} (hb : ∀ i, b.getD i 0 < 256) : ∀ k, k ≤ 16 → ∀ j, (mP b (4 * k)).getD j 0 = if j < k then wd b j else 0
  | 0, _, j => by
    show z16.getD j 0 = _
    rw [if_neg (by omega), z16, List.getD_eq_getElem?_getD, List.getElem?_replicate]
    split <;> rfl
  | k + 1, hk, j => by
    have ih := mP_at hb k (by omega)
    have hl : (mP b (4 * k)).length = 16 := (mP_ok hb _).1
    have e : mP b (4 * (k + 1)) = (mP b (4 * k)).set k (wd b k) := by
      show mP b (4 * k + 1 + 1 + 1 + 1) = _
      simp only [mP]
      rw [show (4 * k) / 4 = k by omega, show (4 * k + 1) / 4 = k by omega, show (4 * k + 1 + 1) / 4 = k by omega, show (4 * k + 1 + 1 + 1) / 4 = k by omega,
        show (4 * k) % 4 = 0 by omega, show (4 * k + 1) % 4 = 1 by omega, show (4 * k + 1 + 1) % 4 = 2 by omega, show (4 * k + 1 + 1 + 1) % 4 = 3 by omega]
      have g : ∀ (l : List Nat) (x : Nat), l.length = 16 → (l.set k x).getD k 0 = x := fun l x h => by simp [List.getD_eq_getElem?_getD, h, show k < 16 by omega]
      have h0 : (mP b (4 * k)).getD k 0 = 0 := by rw [ih k, if_neg (by omega)]
      rw [h0]
      simp only [List.set_set]
      rw [g _ _ hl, g _ _ hl, g _ _ hl]
      congr 1
      rw [wd, ← wd_or _ _ _ _ (hb _) (hb _) (hb _)]
    rw [e, List.getD_eq_getElem?_getD, List.getElem?_set]
    by_cases hj : k = j
    · subst hj; simp [hl, show k < 16 by omega]
    · rw [if_neg hj, ← List.getD_eq_getElem?_getD, ih j]
      by_cases h1 : j < k
      · rw [if_pos h1, if_pos (by omega)]
      · rw [if_neg h1, if_neg (by omega)]
theorem mP_all {b : List Nat} (hb : ∀ i, b.getD i 0 < 256) : mP b 64 = mD b 16 := by
  apply List.ext_getElem?
  intro j
  have h := mP_at hb 16 (Nat.le_refl _) j
  have hl : (mP b 64).length = 16 := (mP_ok hb 64).1
  by_cases hj : j < 16
  · rw [if_pos hj, show 4 * 16 = 64 from rfl, List.getD_eq_getElem?_getD, List.getElem?_eq_getElem (by omega)] at h
    rw [List.getElem?_eq_getElem (by omega)]
    simp only [mD, List.getElem?_map, List.getElem?_range hj, Option.map_some]
    simpa using h
  · rw [List.getElem?_eq_none (by omega), List.getElem?_eq_none (by simp [mD]; omega)]
theorem wd_lt {b : List Nat} (hb : ∀ i, b.getD i 0 < 256) (i : Nat) : wd b i < 4294967296 := by
  have h0 := hb (4 * i)
  have h1 := hb (4 * i + 1)
  have h2 := hb (4 * i + 2)
  have h3 := hb (4 * i + 3)
  unfold wd
  omega
theorem vP_all {h : List Nat} (hh : h.length = 8) : vP h 8 = h ++ firstL := by
  match h, hh with
  | [a, b, c, d, e, f, g, i], _ => rfl
theorem hP_all {h v : List Nat} (hh : h.length = 8) : hP h v 8 = (List.range 8).map fun i => xorW (xorW (h.getD i 0) (v.getD i 0)) (v.getD (i + 8) 0) := by
  have e : ∀ a b c, xorW a (xorW b c) = xorW (xorW a b) c := fun a b c => (Nat.xor_assoc a b c).symm
  match h, hh with
  | [a, b, c, d, e', f, g, i], _ => simp [hP, e, List.range, List.range.loop]
/-- The places of the eight steps of a round. -/
def plL : List (Nat × Nat × Nat × Nat) := [(0, 4, 8, 12), (1, 5, 9, 13), (2, 6, 10, 14), (3, 7, 11, 15), (0, 5, 10, 15), (1, 6, 11, 12), (2, 7, 8, 13), (3, 4, 9, 14)]
def pl (i : Nat) : Nat × Nat × Nat × Nat := plL.getD i (0, 0, 0, 0)
/-- A round's first i steps. -/
def gP (m s v : List Nat) : Nat → List Nat
  | 0 => v
  | i + 1 => gAt m s (pl i).1 (pl i).2.1 (pl i).2.2.1 (pl i).2.2.2 (2 * i) (2 * i + 1) (gP m s v i)
theorem gP_all (m s v : List Nat) : gP m s v 8 = roundF m s v := rfl
theorem gP_ok {m s v : List Nat} (hv : Wd 16 v) : ∀ i, Wd 16 (gP m s v i)
  | 0 => hv
  | i + 1 => gAt_ok m s _ _ _ _ _ _ (gP_ok hv i)
end Go.Proofs.YtecahnafcljljaaDoor
