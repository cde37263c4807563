/- Plain mathematics of bytes laid in order: numbers of base 256. Nothing of the program is named here. -/

namespace Go.Proofs.YtoefgfiabfkfaaaGreatDoor


/-- A byte, or what it is taken from 255. -/
def trn (t : Bool) (x : Int) : Int := if t then 255 - x else x

theorem trn_bd {t : Bool} {x : Int} (h : 0 ≤ x ∧ x ≤ 255) : 0 ≤ trn t x ∧ trn t x ≤ 255 := by
 unfold trn; split <;> omega






/-- The bytes behind the first one, turned or not. -/
def behind (t : Bool) (z : Nat → Int) : Nat → Int := fun j => trn t (z (j + 1))



end Go.Proofs.YtoefgfiabfkfaaaGreatDoor
