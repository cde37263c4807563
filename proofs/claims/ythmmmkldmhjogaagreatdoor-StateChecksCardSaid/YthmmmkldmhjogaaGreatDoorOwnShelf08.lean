/- Bytes and their numbers in the machine's own operations: a byte xored with 0 or 255, a number moved left by 8 and a byte put behind. -/
import Derived.Laws.BitsAllLaws
import Derived.WalkKit
import Derived.Test.YthmmmkldmhjogaaGreatDoorOwnShelf07
namespace Go.Proofs.YthmmmkldmhjogaaGreatDoor
open Go.RowKit

theorem xor255_nat : ∀ x : Nat, x < 256 → x ^^^ 255 = 255 - x := by
 intro x hx
 have h : ∀ y : Fin 256, y.val ^^^ 255 = 255 - y.val := by decide +kernel
 exact h ⟨x, hx⟩

/-- A byte, turned. -/
theorem xor_trn (t : Bool) (tn x : Int) (h : tn = if t then 255 else 0) (hx : 0 ≤ x ∧ x ≤ 255) : bits .xor .u8 x tn = trn t x := by
 subst h
 cases t
 ·rw [u8_xor x _ hx.1 (by omega) (by simp) (by simp)]
  simp [trn]; omega
 ·rw [u8_xor x _ hx.1 (by omega) (by simp) (by simp)]
  simp only [trn, if_true]
  have := xor255_nat x.toNat (by omega)
  rw [show (255 : Int).toNat = 255 from rfl, this]
  omega

theorem or_shift_nat (a b : Nat) (hb : b < 256) : a * 256 ||| b = a * 256 + b := by
 have := Nat.shiftLeft_add_eq_or_of_lt (b := b) (i := 8) (by omega) a
 rw [Nat.shiftLeft_eq, show (2 : Nat) ^ 8 = 256 from rfl] at this
 omega

/-- A number moved left by one byte, the byte behind it. -/
theorem shift_or (v y : Int) (hv : 0 ≤ v ∧ v ≤ 72057594037927935) (hy : 0 ≤ y ∧ y ≤ 255) : bits .or .u64 (v * 256) (IntKind.u64.wrap y) = 256 * v + y := by
 rw [IntKind.wrap_u64, Int.emod_eq_of_lt (by omega) (by omega)]
 rw [u64_or _ _ (by omega) (by omega) (by omega) (by omega)]
 have e1 : (v * 256).toNat = v.toNat * 256 := by omega
 rw [e1, or_shift_nat v.toNat y.toNat (by omega)]
 omega
end Go.Proofs.YthmmmkldmhjogaaGreatDoor
