/- Bytes and their numbers in the machine's own operations: a byte xored with 0 or 255, a number moved left by 8 and a byte put behind. -/
import Derived.Laws.BitsAllLaws
import Derived.WalkKit
import Derived.Test.YtoefgfiabfkfaaaGreatDoorOwnShelf10
namespace Go.Proofs.YtoefgfiabfkfaaaGreatDoor
open Go.RowKit

theorem xor255_nat : ∀ x : Nat, x < 256 → x ^^^ 255 = 255 - x := by
 intro x hx
 have h : ∀ y : Fin 256, y.val ^^^ 255 = 255 - y.val := by decide +kernel
 exact h ⟨x, hx⟩

/-- A byte, turned. -/
theorem xor_trn (t : Bool) (tn x : Int) (h : tn = if t then 255 else 0) (hx : 0 ≤ x ∧ x ≤ 255) : bits .xor .u8 x tn = trn t x := by
 subst h
 cases t
 ·rw [u8_xor x _ hx.1 (by omega) (by simp) (by simp)]
  simp [trn]; omega
 ·rw [u8_xor x _ hx.1 (by omega) (by simp) (by simp)]
  simp only [trn, if_true]
  have := xor255_nat x.toNat (by omega)
  rw [show (255 : Int).toNat = 255 from rfl, this]
  omega


end Go.Proofs.YtoefgfiabfkfaaaGreatDoor
