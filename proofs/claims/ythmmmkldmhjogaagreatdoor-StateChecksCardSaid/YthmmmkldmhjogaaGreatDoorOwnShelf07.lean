/- Plain mathematics of bytes laid in order: numbers of base 256. Nothing of the program is named here. -/

namespace Go.Proofs.YthmmmkldmhjogaaGreatDoor

/-- The number whose bytes are f 0, .., f (k - 1), the highest first. -/
def valF (f : Nat → Int) : Nat → Int
 | 0 => 0
 | k + 1 => 256 * valF f k + f k

/-- A byte, or what it is taken from 255. -/
def trn (t : Bool) (x : Int) : Int := if t then 255 - x else x

theorem trn_bd {t : Bool} {x : Int} (h : 0 ≤ x ∧ x ≤ 255) : 0 ≤ trn t x ∧ trn t x ≤ 255 := by
 unfold trn; split <;> omega

theorem valF_bd {f : Nat → Int} (k : Nat) (hf : ∀ j, j < k → 0 ≤ f j ∧ f j ≤ 255) : 0 ≤ valF f k ∧ valF f k < 256 ^ k := by
 induction k with
 | zero => simp [valF]
 | succ k ih =>
  have h1 := ih (fun j hj => hf j (by omega))
  have h2 := hf k (by omega)
  simp only [valF, Int.pow_succ]
  omega

theorem valF_lt {f : Nat → Int} {k : Nat} (hk : k ≤ 8) (hf : ∀ j, j < k → 0 ≤ f j ∧ f j ≤ 255) : 0 ≤ valF f k ∧ valF f k ≤ 18446744073709551615 := by
 have h := valF_bd k hf
 have h2 : (256 : Int) ^ k ≤ 256 ^ 8 := by
  have : k = 0 ∨ k = 1 ∨ k = 2 ∨ k = 3 ∨ k = 4 ∨ k = 5 ∨ k = 6 ∨ k = 7 ∨ k = 8 := by omega
  rcases this with h | h | h | h | h | h | h | h | h <;> subst h <;> decide
 omega
theorem valF_lt7 {f : Nat → Int} {k : Nat} (hk : k ≤ 7) (hf : ∀ j, j < k → 0 ≤ f j ∧ f j ≤ 255) : 0 ≤ valF f k ∧ valF f k ≤ 72057594037927935 := by
 have h := valF_bd k hf
 have h2 : (256 : Int) ^ k ≤ 256 ^ 7 := by
  have : k = 0 ∨ k = 1 ∨ k = 2 ∨ k = 3 ∨ k = 4 ∨ k = 5 ∨ k = 6 ∨ k = 7 := by omega
  rcases this with h | h | h | h | h | h | h | h <;> subst h <;> decide
 omega

/-- The error of a number of k bytes of which n are there: ended ahead of its end, or a needless nought; 0: none. -/
def numE (n : Nat) (f : Nat → Int) (k : Nat) : Int := if n < k then 12 else if 0 < k ∧ f 0 = 0 then 3 else 0
/-- The number itself; 0 where there is an error. -/
def numV (n : Nat) (f : Nat → Int) (k : Nat) : Int := if numE n f k = 0 then valF f k else 0

theorem numE_cases (n : Nat) (f : Nat → Int) (k : Nat) : numE n f k = 0 ∨ numE n f k = 3 ∨ numE n f k = 12 := by
 unfold numE; split <;> (try split) <;> simp

theorem numV_bd {n : Nat} {f : Nat → Int} {k : Nat} (hk : k ≤ 8) (hf : ∀ j, j < n → 0 ≤ f j ∧ f j ≤ 255) : 0 ≤ numV n f k ∧ numV n f k ≤ 18446744073709551615 := by
 unfold numV
 split
 ·rename_i h
  refine valF_lt hk (fun j hj => hf j ?_)
  unfold numE at h
  split at h
  ·simp at h
  ·omega
 ·simp

/-- The bytes behind the first one, turned or not. -/
def behind (t : Bool) (z : Nat → Int) : Nat → Int := fun j => trn t (z (j + 1))

/-- The error of the number that n bytes z begin with, up to a bound; its value; how many bytes it stands on. -/
def uE (n : Nat) (z : Nat → Int) (most : Int) : Int :=
 if n = 0 then 12 else if 8 < z 0 then 3 else if numE (n - 1) (behind false z) (z 0).toNat = 0 then (if most < numV (n - 1) (behind false z) (z 0).toNat then 4 else 0) else numE (n - 1) (behind false z) (z 0).toNat
def uV (n : Nat) (z : Nat → Int) (most : Int) : Int := if uE n z most = 0 then numV (n - 1) (behind false z) (z 0).toNat else 0
def uN (n : Nat) (z : Nat → Int) (most : Int) : Nat := if uE n z most = 0 then 1 + (z 0).toNat else 0


theorem numE_le {n : Nat} {f : Nat → Int} {k : Nat} (h : numE n f k = 0) : k ≤ n := by
 unfold numE at h
 split at h
 ·simp at h
 ·omega
theorem uN_le {n : Nat} {z : Nat → Int} {most : Int} (h : uE n z most = 0) : uN n z most ≤ n := by
 rw [uN, if_pos h]
 unfold uE at h
 split at h
 ·simp at h
 ·split at h
  ·simp at h
  ·split at h
   ·rename_i h0 _ h1
    have := numE_le h1
    omega
   ·rename_i h1
    exact absurd h h1
end Go.Proofs.YthmmmkldmhjogaaGreatDoor
