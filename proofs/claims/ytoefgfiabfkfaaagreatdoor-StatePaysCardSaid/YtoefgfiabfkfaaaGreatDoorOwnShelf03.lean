/- blake.round: its eight statements are one region, told by its first slot and the places: one walk serves them all. -/
import Derived.Test.YtoefgfiabfkfaaaGreatDoorOwnShelf02
namespace Go.Proofs.YtoefgfiabfkfaaaGreatDoor
open Go.RowKit

/-- The operations of a statement of blake.round. -/
def opsG (B a b c d i j : Nat) (pos : String) : List Oper := [
 { dst := some (B + 1), op := Op.move (Operand.tmp 0), type := 164, pos := pos, after := #[], guard := none },
 { dst := some (B + 2), op := Op.move (Operand.tmp 0), type := 164, pos := pos, after := #[{ on := 40, ground := Ground.gcOnly Departure.lateStores }], guard := none },
 { dst := some (B + 3), op := Op.move (Operand.tmp 0), type := 164, pos := pos, after := #[{ on := 43, ground := Ground.gcOnly Departure.lateStores }], guard := none },
 { dst := some (B + 4), op := Op.move (Operand.tmp 0), type := 164, pos := pos, after := #[{ on := 46, ground := Ground.gcOnly Departure.lateStores }], guard := none },
 { dst := some (B + 5), op := Op.move (Operand.tmp 0), type := 164, pos := pos, after := #[], guard := none },
 { dst := some (B + 6), op := Op.nilCheck (Operand.tmp (B + 5)), type := 0, pos := pos, after := #[{ on := 4, ground := Ground.data }], guard := none },
 { dst := some (B + 7), op := Op.indexAddr 161 (Operand.tmp (B + 6)) (Operand.const (Value.int IntKind.i64 (a : Nat))), type := 0, pos := pos, after := #[{ on := 5, ground := Ground.data }], guard := none },
 { dst := some (B + 8), op := Op.load 120 (Operand.tmp (B + 7)), type := 120, pos := pos, after := #[{ on := 6, ground := Ground.data }], guard := none },
 { dst := some (B + 9), op := Op.move (Operand.tmp 0), type := 164, pos := pos, after := #[], guard := none },
 { dst := some (B + 10), op := Op.nilCheck (Operand.tmp (B + 9)), type := 0, pos := pos, after := #[{ on := 8, ground := Ground.data }], guard := none },
 { dst := some (B + 11), op := Op.indexAddr 161 (Operand.tmp (B + 10)) (Operand.const (Value.int IntKind.i64 (b : Nat))), type := 0, pos := pos, after := #[{ on := 9, ground := Ground.data }], guard := none },
 { dst := some (B + 12), op := Op.load 120 (Operand.tmp (B + 11)), type := 120, pos := pos, after := #[{ on := 10, ground := Ground.data }], guard := none },
 { dst := some (B + 13), op := Op.move (Operand.tmp 0), type := 164, pos := pos, after := #[], guard := none },
 { dst := some (B + 14), op := Op.nilCheck (Operand.tmp (B + 13)), type := 0, pos := pos, after := #[{ on := 12, ground := Ground.data }], guard := none },
 { dst := some (B + 15), op := Op.indexAddr 161 (Operand.tmp (B + 14)) (Operand.const (Value.int IntKind.i64 (c : Nat))), type := 0, pos := pos, after := #[{ on := 13, ground := Ground.data }], guard := none },
 { dst := some (B + 16), op := Op.load 120 (Operand.tmp (B + 15)), type := 120, pos := pos, after := #[{ on := 14, ground := Ground.data }], guard := none },
 { dst := some (B + 17), op := Op.move (Operand.tmp 0), type := 164, pos := pos, after := #[], guard := none },
 { dst := some (B + 18), op := Op.nilCheck (Operand.tmp (B + 17)), type := 0, pos := pos, after := #[{ on := 16, ground := Ground.data }], guard := none },
 { dst := some (B + 19), op := Op.indexAddr 161 (Operand.tmp (B + 18)) (Operand.const (Value.int IntKind.i64 (d : Nat))), type := 0, pos := pos, after := #[{ on := 17, ground := Ground.data }], guard := none },
 { dst := some (B + 20), op := Op.load 120 (Operand.tmp (B + 19)), type := 120, pos := pos, after := #[{ on := 18, ground := Ground.data }], guard := none },
 { dst := some (B + 21), op := Op.move (Operand.tmp 1), type := 164, pos := pos, after := #[], guard := none },
 { dst := some (B + 22), op := Op.indexAddr 165 (Operand.tmp 5) (Operand.const (Value.int IntKind.i64 (i : Nat))), type := 0, pos := pos, after := #[], guard := none },
 { dst := some (B + 23), op := Op.load 5 (Operand.tmp (B + 22)), type := 5, pos := pos, after := #[{ on := 21, ground := Ground.data }], guard := none },
 { dst := some (B + 24), op := Op.nilCheck (Operand.tmp (B + 21)), type := 0, pos := pos, after := #[{ on := 20, ground := Ground.data }], guard := none },
 { dst := some (B + 25), op := Op.indexAddr 161 (Operand.tmp (B + 24)) (Operand.tmp (B + 23)), type := 0, pos := pos, after := #[{ on := 23, ground := Ground.data }, { on := 22, ground := Ground.data }], guard := none },
 { dst := some (B + 26), op := Op.load 120 (Operand.tmp (B + 25)), type := 120, pos := pos, after := #[{ on := 24, ground := Ground.data }], guard := none },
 { dst := some (B + 27), op := Op.move (Operand.tmp 1), type := 164, pos := pos, after := #[], guard := none },
 { dst := some (B + 28), op := Op.indexAddr 165 (Operand.tmp 5) (Operand.const (Value.int IntKind.i64 (j : Nat))), type := 0, pos := pos, after := #[], guard := none },
 { dst := some (B + 29), op := Op.load 5 (Operand.tmp (B + 28)), type := 5, pos := pos, after := #[{ on := 27, ground := Ground.data }], guard := none },
 { dst := some (B + 30), op := Op.nilCheck (Operand.tmp (B + 27)), type := 0, pos := pos, after := #[{ on := 26, ground := Ground.data }], guard := none },
 { dst := some (B + 31), op := Op.indexAddr 161 (Operand.tmp (B + 30)) (Operand.tmp (B + 29)), type := 0, pos := pos, after := #[{ on := 29, ground := Ground.data }, { on := 28, ground := Ground.data }], guard := none },
 { dst := some (B + 32), op := Op.load 120 (Operand.tmp (B + 31)), type := 120, pos := pos, after := #[{ on := 30, ground := Ground.data }], guard := none },
 { dst := some (B + 33), op := Op.call ⟨Callee.value (Operand.func 91), #[Operand.tmp (B + 8), Operand.tmp (B + 12), Operand.tmp (B + 16), Operand.tmp (B + 20), Operand.tmp (B + 26), Operand.tmp (B + 32)], #[120, 120, 120, 120, 120, 120]⟩, type := 169, pos := pos, after := #[{ on := 7, ground := Ground.data }, { on := 11, ground := Ground.data }, { on := 15, ground := Ground.data }, { on := 19, ground := Ground.data }, { on := 25, ground := Ground.data }, { on := 31, ground := Ground.data }], guard := none },
 { dst := some (B + 0), op := Op.move (Operand.tmp (B + 33)), type := 169, pos := pos, after := #[{ on := 32, ground := Ground.data }], guard := none },
 { dst := some (B + 34), op := Op.extract (Operand.tmp (B + 0)) 0, type := 120, pos := pos, after := #[{ on := 33, ground := Ground.data }], guard := none },
 { dst := some (B + 35), op := Op.extract (Operand.tmp (B + 0)) 1, type := 120, pos := pos, after := #[{ on := 33, ground := Ground.data }, { on := 40, ground := Ground.gcOnly Departure.lateStores }], guard := none },
 { dst := some (B + 36), op := Op.extract (Operand.tmp (B + 0)) 2, type := 120, pos := pos, after := #[{ on := 33, ground := Ground.data }, { on := 43, ground := Ground.gcOnly Departure.lateStores }], guard := none },
 { dst := some (B + 37), op := Op.extract (Operand.tmp (B + 0)) 3, type := 120, pos := pos, after := #[{ on := 33, ground := Ground.data }, { on := 46, ground := Ground.gcOnly Departure.lateStores }], guard := none },
 { dst := some (B + 38), op := Op.nilCheck (Operand.tmp (B + 1)), type := 0, pos := pos, after := #[{ on := 0, ground := Ground.data }], guard := none },
 { dst := some (B + 39), op := Op.indexAddr 161 (Operand.tmp (B + 38)) (Operand.const (Value.int IntKind.i64 (a : Nat))), type := 0, pos := pos, after := #[{ on := 38, ground := Ground.data }, { on := 0, ground := Ground.phase }, { on := 1, ground := Ground.textOnly Departure.lateStores }, { on := 2, ground := Ground.textOnly Departure.lateStores }, { on := 3, ground := Ground.textOnly Departure.lateStores }, { on := 4, ground := Ground.phase }, { on := 5, ground := Ground.phase }, { on := 6, ground := Ground.phase }, { on := 7, ground := Ground.phase }, { on := 8, ground := Ground.phase }, { on := 9, ground := Ground.phase }, { on := 10, ground := Ground.phase }, { on := 11, ground := Ground.phase }, { on := 12, ground := Ground.phase }, { on := 13, ground := Ground.phase }, { on := 14, ground := Ground.phase }, { on := 15, ground := Ground.phase }, { on := 16, ground := Ground.phase }, { on := 17, ground := Ground.phase }, { on := 18, ground := Ground.phase }, { on := 19, ground := Ground.phase }, { on := 20, ground := Ground.phase }, { on := 21, ground := Ground.phase }, { on := 22, ground := Ground.phase }, { on := 23, ground := Ground.phase }, { on := 24, ground := Ground.phase }, { on := 25, ground := Ground.phase }, { on := 26, ground := Ground.phase }, { on := 27, ground := Ground.phase }, { on := 28, ground := Ground.phase }, { on := 29, ground := Ground.phase }, { on := 30, ground := Ground.phase }, { on := 31, ground := Ground.phase }, { on := 32, ground := Ground.phase }, { on := 33, ground := Ground.phase }, { on := 34, ground := Ground.phase }, { on := 35, ground := Ground.textOnly Departure.lateStores }, { on := 36, ground := Ground.textOnly Departure.lateStores }, { on := 37, ground := Ground.textOnly Departure.lateStores }], guard := none },
 { dst := none, op := Op.store 120 (Operand.tmp (B + 39)) (Operand.tmp (B + 34)), type := 0, pos := pos, after := #[{ on := 39, ground := Ground.data }, { on := 34, ground := Ground.data }, { on := 32, ground := Ground.chain }, { on := 0, ground := Ground.phase }, { on := 1, ground := Ground.textOnly Departure.lateStores }, { on := 2, ground := Ground.textOnly Departure.lateStores }, { on := 3, ground := Ground.textOnly Departure.lateStores }, { on := 4, ground := Ground.phase }, { on := 5, ground := Ground.phase }, { on := 6, ground := Ground.phase }, { on := 7, ground := Ground.phase }, { on := 8, ground := Ground.phase }, { on := 9, ground := Ground.phase }, { on := 10, ground := Ground.phase }, { on := 11, ground := Ground.phase }, { on := 12, ground := Ground.phase }, { on := 13, ground := Ground.phase }, { on := 14, ground := Ground.phase }, { on := 15, ground := Ground.phase }, { on := 16, ground := Ground.phase }, { on := 17, ground := Ground.phase }, { on := 18, ground := Ground.phase }, { on := 19, ground := Ground.phase }, { on := 20, ground := Ground.phase }, { on := 21, ground := Ground.phase }, { on := 22, ground := Ground.phase }, { on := 23, ground := Ground.phase }, { on := 24, ground := Ground.phase }, { on := 25, ground := Ground.phase }, { on := 26, ground := Ground.phase }, { on := 27, ground := Ground.phase }, { on := 28, ground := Ground.phase }, { on := 29, ground := Ground.phase }, { on := 30, ground := Ground.phase }, { on := 31, ground := Ground.phase }, { on := 32, ground := Ground.phase }, { on := 33, ground := Ground.phase }, { on := 34, ground := Ground.phase }, { on := 35, ground := Ground.textOnly Departure.lateStores }, { on := 36, ground := Ground.textOnly Departure.lateStores }, { on := 37, ground := Ground.textOnly Departure.lateStores }], guard := none },
 { dst := some (B + 40), op := Op.nilCheck (Operand.tmp (B + 2)), type := 0, pos := pos, after := #[{ on := 1, ground := Ground.data }], guard := none },
 { dst := some (B + 41), op := Op.indexAddr 161 (Operand.tmp (B + 40)) (Operand.const (Value.int IntKind.i64 (b : Nat))), type := 0, pos := pos, after := #[{ on := 41, ground := Ground.data }, { on := 0, ground := Ground.phase }, { on := 1, ground := Ground.phase }, { on := 2, ground := Ground.textOnly Departure.lateStores }, { on := 3, ground := Ground.textOnly Departure.lateStores }, { on := 4, ground := Ground.phase }, { on := 5, ground := Ground.phase }, { on := 6, ground := Ground.phase }, { on := 7, ground := Ground.phase }, { on := 8, ground := Ground.phase }, { on := 9, ground := Ground.phase }, { on := 10, ground := Ground.phase }, { on := 11, ground := Ground.phase }, { on := 12, ground := Ground.phase }, { on := 13, ground := Ground.phase }, { on := 14, ground := Ground.phase }, { on := 15, ground := Ground.phase }, { on := 16, ground := Ground.phase }, { on := 17, ground := Ground.phase }, { on := 18, ground := Ground.phase }, { on := 19, ground := Ground.phase }, { on := 20, ground := Ground.phase }, { on := 21, ground := Ground.phase }, { on := 22, ground := Ground.phase }, { on := 23, ground := Ground.phase }, { on := 24, ground := Ground.phase }, { on := 25, ground := Ground.phase }, { on := 26, ground := Ground.phase }, { on := 27, ground := Ground.phase }, { on := 28, ground := Ground.phase }, { on := 29, ground := Ground.phase }, { on := 30, ground := Ground.phase }, { on := 31, ground := Ground.phase }, { on := 32, ground := Ground.phase }, { on := 33, ground := Ground.phase }, { on := 34, ground := Ground.phase }, { on := 35, ground := Ground.phase }, { on := 36, ground := Ground.textOnly Departure.lateStores }, { on := 37, ground := Ground.textOnly Departure.lateStores }, { on := 38, ground := Ground.phase }, { on := 39, ground := Ground.phase }, { on := 40, ground := Ground.phase }], guard := none },
 { dst := none, op := Op.store 120 (Operand.tmp (B + 41)) (Operand.tmp (B + 35)), type := 0, pos := pos, after := #[{ on := 42, ground := Ground.data }, { on := 35, ground := Ground.data }, { on := 40, ground := Ground.chain }, { on := 0, ground := Ground.phase }, { on := 1, ground := Ground.phase }, { on := 2, ground := Ground.textOnly Departure.lateStores }, { on := 3, ground := Ground.textOnly Departure.lateStores }, { on := 4, ground := Ground.phase }, { on := 5, ground := Ground.phase }, { on := 6, ground := Ground.phase }, { on := 7, ground := Ground.phase }, { on := 8, ground := Ground.phase }, { on := 9, ground := Ground.phase }, { on := 10, ground := Ground.phase }, { on := 11, ground := Ground.phase }, { on := 12, ground := Ground.phase }, { on := 13, ground := Ground.phase }, { on := 14, ground := Ground.phase }, { on := 15, ground := Ground.phase }, { on := 16, ground := Ground.phase }, { on := 17, ground := Ground.phase }, { on := 18, ground := Ground.phase }, { on := 19, ground := Ground.phase }, { on := 20, ground := Ground.phase }, { on := 21, ground := Ground.phase }, { on := 22, ground := Ground.phase }, { on := 23, ground := Ground.phase }, { on := 24, ground := Ground.phase }, { on := 25, ground := Ground.phase }, { on := 26, ground := Ground.phase }, { on := 27, ground := Ground.phase }, { on := 28, ground := Ground.phase }, { on := 29, ground := Ground.phase }, { on := 30, ground := Ground.phase }, { on := 31, ground := Ground.phase }, { on := 32, ground := Ground.phase }, { on := 33, ground := Ground.phase }, { on := 34, ground := Ground.phase }, { on := 35, ground := Ground.phase }, { on := 36, ground := Ground.textOnly Departure.lateStores }, { on := 37, ground := Ground.textOnly Departure.lateStores }, { on := 38, ground := Ground.phase }, { on := 39, ground := Ground.phase }, { on := 40, ground := Ground.phase }], guard := none },
 { dst := some (B + 42), op := Op.nilCheck (Operand.tmp (B + 3)), type := 0, pos := pos, after := #[{ on := 2, ground := Ground.data }], guard := none },
 { dst := some (B + 43), op := Op.indexAddr 161 (Operand.tmp (B + 42)) (Operand.const (Value.int IntKind.i64 (c : Nat))), type := 0, pos := pos, after := #[{ on := 44, ground := Ground.data }, { on := 0, ground := Ground.phase }, { on := 1, ground := Ground.phase }, { on := 2, ground := Ground.phase }, { on := 3, ground := Ground.textOnly Departure.lateStores }, { on := 4, ground := Ground.phase }, { on := 5, ground := Ground.phase }, { on := 6, ground := Ground.phase }, { on := 7, ground := Ground.phase }, { on := 8, ground := Ground.phase }, { on := 9, ground := Ground.phase }, { on := 10, ground := Ground.phase }, { on := 11, ground := Ground.phase }, { on := 12, ground := Ground.phase }, { on := 13, ground := Ground.phase }, { on := 14, ground := Ground.phase }, { on := 15, ground := Ground.phase }, { on := 16, ground := Ground.phase }, { on := 17, ground := Ground.phase }, { on := 18, ground := Ground.phase }, { on := 19, ground := Ground.phase }, { on := 20, ground := Ground.phase }, { on := 21, ground := Ground.phase }, { on := 22, ground := Ground.phase }, { on := 23, ground := Ground.phase }, { on := 24, ground := Ground.phase }, { on := 25, ground := Ground.phase }, { on := 26, ground := Ground.phase }, { on := 27, ground := Ground.phase }, { on := 28, ground := Ground.phase }, { on := 29, ground := Ground.phase }, { on := 30, ground := Ground.phase }, { on := 31, ground := Ground.phase }, { on := 32, ground := Ground.phase }, { on := 33, ground := Ground.phase }, { on := 34, ground := Ground.phase }, { on := 35, ground := Ground.phase }, { on := 36, ground := Ground.phase }, { on := 37, ground := Ground.textOnly Departure.lateStores }, { on := 38, ground := Ground.phase }, { on := 39, ground := Ground.phase }, { on := 40, ground := Ground.phase }, { on := 41, ground := Ground.phase }, { on := 42, ground := Ground.phase }, { on := 43, ground := Ground.phase }], guard := none },
 { dst := none, op := Op.store 120 (Operand.tmp (B + 43)) (Operand.tmp (B + 36)), type := 0, pos := pos, after := #[{ on := 45, ground := Ground.data }, { on := 36, ground := Ground.data }, { on := 43, ground := Ground.chain }, { on := 0, ground := Ground.phase }, { on := 1, ground := Ground.phase }, { on := 2, ground := Ground.phase }, { on := 3, ground := Ground.textOnly Departure.lateStores }, { on := 4, ground := Ground.phase }, { on := 5, ground := Ground.phase }, { on := 6, ground := Ground.phase }, { on := 7, ground := Ground.phase }, { on := 8, ground := Ground.phase }, { on := 9, ground := Ground.phase }, { on := 10, ground := Ground.phase }, { on := 11, ground := Ground.phase }, { on := 12, ground := Ground.phase }, { on := 13, ground := Ground.phase }, { on := 14, ground := Ground.phase }, { on := 15, ground := Ground.phase }, { on := 16, ground := Ground.phase }, { on := 17, ground := Ground.phase }, { on := 18, ground := Ground.phase }, { on := 19, ground := Ground.phase }, { on := 20, ground := Ground.phase }, { on := 21, ground := Ground.phase }, { on := 22, ground := Ground.phase }, { on := 23, ground := Ground.phase }, { on := 24, ground := Ground.phase }, { on := 25, ground := Ground.phase }, { on := 26, ground := Ground.phase }, { on := 27, ground := Ground.phase }, { on := 28, ground := Ground.phase }, { on := 29, ground := Ground.phase }, { on := 30, ground := Ground.phase }, { on := 31, ground := Ground.phase }, { on := 32, ground := Ground.phase }, { on := 33, ground := Ground.phase }, { on := 34, ground := Ground.phase }, { on := 35, ground := Ground.phase }, { on := 36, ground := Ground.phase }, { on := 37, ground := Ground.textOnly Departure.lateStores }, { on := 38, ground := Ground.phase }, { on := 39, ground := Ground.phase }, { on := 40, ground := Ground.phase }, { on := 41, ground := Ground.phase }, { on := 42, ground := Ground.phase }, { on := 43, ground := Ground.phase }], guard := none },
 { dst := some (B + 44), op := Op.nilCheck (Operand.tmp (B + 4)), type := 0, pos := pos, after := #[{ on := 3, ground := Ground.data }], guard := none },
 { dst := some (B + 45), op := Op.indexAddr 161 (Operand.tmp (B + 44)) (Operand.const (Value.int IntKind.i64 (d : Nat))), type := 0, pos := pos, after := #[{ on := 47, ground := Ground.data }, { on := 0, ground := Ground.phase }, { on := 1, ground := Ground.phase }, { on := 2, ground := Ground.phase }, { on := 3, ground := Ground.phase }, { on := 4, ground := Ground.phase }, { on := 5, ground := Ground.phase }, { on := 6, ground := Ground.phase }, { on := 7, ground := Ground.phase }, { on := 8, ground := Ground.phase }, { on := 9, ground := Ground.phase }, { on := 10, ground := Ground.phase }, { on := 11, ground := Ground.phase }, { on := 12, ground := Ground.phase }, { on := 13, ground := Ground.phase }, { on := 14, ground := Ground.phase }, { on := 15, ground := Ground.phase }, { on := 16, ground := Ground.phase }, { on := 17, ground := Ground.phase }, { on := 18, ground := Ground.phase }, { on := 19, ground := Ground.phase }, { on := 20, ground := Ground.phase }, { on := 21, ground := Ground.phase }, { on := 22, ground := Ground.phase }, { on := 23, ground := Ground.phase }, { on := 24, ground := Ground.phase }, { on := 25, ground := Ground.phase }, { on := 26, ground := Ground.phase }, { on := 27, ground := Ground.phase }, { on := 28, ground := Ground.phase }, { on := 29, ground := Ground.phase }, { on := 30, ground := Ground.phase }, { on := 31, ground := Ground.phase }, { on := 32, ground := Ground.phase }, { on := 33, ground := Ground.phase }, { on := 34, ground := Ground.phase }, { on := 35, ground := Ground.phase }, { on := 36, ground := Ground.phase }, { on := 37, ground := Ground.phase }, { on := 38, ground := Ground.phase }, { on := 39, ground := Ground.phase }, { on := 40, ground := Ground.phase }, { on := 41, ground := Ground.phase }, { on := 42, ground := Ground.phase }, { on := 43, ground := Ground.phase }, { on := 44, ground := Ground.phase }, { on := 45, ground := Ground.phase }, { on := 46, ground := Ground.phase }], guard := none },
 { dst := none, op := Op.store 120 (Operand.tmp (B + 45)) (Operand.tmp (B + 37)), type := 0, pos := pos, after := #[{ on := 48, ground := Ground.data }, { on := 37, ground := Ground.data }, { on := 46, ground := Ground.chain }, { on := 0, ground := Ground.phase }, { on := 1, ground := Ground.phase }, { on := 2, ground := Ground.phase }, { on := 3, ground := Ground.phase }, { on := 4, ground := Ground.phase }, { on := 5, ground := Ground.phase }, { on := 6, ground := Ground.phase }, { on := 7, ground := Ground.phase }, { on := 8, ground := Ground.phase }, { on := 9, ground := Ground.phase }, { on := 10, ground := Ground.phase }, { on := 11, ground := Ground.phase }, { on := 12, ground := Ground.phase }, { on := 13, ground := Ground.phase }, { on := 14, ground := Ground.phase }, { on := 15, ground := Ground.phase }, { on := 16, ground := Ground.phase }, { on := 17, ground := Ground.phase }, { on := 18, ground := Ground.phase }, { on := 19, ground := Ground.phase }, { on := 20, ground := Ground.phase }, { on := 21, ground := Ground.phase }, { on := 22, ground := Ground.phase }, { on := 23, ground := Ground.phase }, { on := 24, ground := Ground.phase }, { on := 25, ground := Ground.phase }, { on := 26, ground := Ground.phase }, { on := 27, ground := Ground.phase }, { on := 28, ground := Ground.phase }, { on := 29, ground := Ground.phase }, { on := 30, ground := Ground.phase }, { on := 31, ground := Ground.phase }, { on := 32, ground := Ground.phase }, { on := 33, ground := Ground.phase }, { on := 34, ground := Ground.phase }, { on := 35, ground := Ground.phase }, { on := 36, ground := Ground.phase }, { on := 37, ground := Ground.phase }, { on := 38, ground := Ground.phase }, { on := 39, ground := Ground.phase }, { on := 40, ground := Ground.phase }, { on := 41, ground := Ground.phase }, { on := 42, ground := Ground.phase }, { on := 43, ground := Ground.phase }, { on := 44, ground := Ground.phase }, { on := 45, ground := Ground.phase }, { on := 46, ground := Ground.phase }], guard := none }]
/-- The order in which they are walked. -/
def ordG : List (Nat × Nat) := [(0, 0), (0, 1), (0, 2), (0, 3), (0, 4), (0, 5), (0, 6), (1, 7), (0, 8), (0, 9), (0, 10), (1, 11), (0, 12), (0, 13), (0, 14), (1, 15), (0, 16), (0, 17), (0, 18), (1, 19), (0, 20), (0, 21), (1, 22), (0, 23), (0, 24), (1, 25), (0, 26), (0, 27), (1, 28), (0, 29), (0, 30), (1, 31), (0, 38), (0, 41), (0, 44), (0, 47), (2, 32), (0, 33), (0, 34), (0, 35), (0, 36), (0, 37), (0, 39), (2, 40), (0, 42), (2, 43), (0, 45), (2, 46), (0, 48), (2, 49)]
/-- The look at them. -/
def chkG (ops : Array Oper) : Bool := Region.noSelect ops && ordG.length == ops.size && seqB .any ops 32 60 ordG (Array.replicate ops.size false)

/-- What is known of the frame. -/
structure Frm0 (A : Act) (N pv pm ps : Nat) : Prop where
 size : A.tmps.size = N
 e0 : A.eval (.tmp 0) = .pointer (some ⟨pv, 0, none⟩)
 e1 : A.eval (.tmp 1) = .pointer (some ⟨pm, 0, none⟩)
 e5 : A.eval (.tmp 5) = .pointer (some ⟨ps, 0, none⟩)
 none : A.defers = []
theorem Frm0.put {A : Act} {N pv pm ps k : Nat} {v : Value} (h : Frm0 A N pv pm ps) (hk : 5 < k) : Frm0 (A.put (some k) v) N pv pm ps :=
 ⟨put_size.trans h.size, (ev_ne (by omega)).trans h.e0, (ev_ne (by omega)).trans h.e1, (ev_ne (by omega)).trans h.e5, put_defers'.trans h.none⟩


section
variable {P : Program} {ops : Array Oper} {Q : Exit → Act → World → Prop} {ts : List (Nat × Nat)} {o : Oper} {k D N pv pm ps : Nat} {A : Act} {w : World} {v : Value}
theorem nextG (h : Frm0 A N pv pm ps) (hk : D < A.tmps.size) (h5 : 5 < D)
  (hn : ∀ A' : Act, Frm0 A' N pv pm ps → A'.eval (.tmp D) = v → (∀ x, D ≠ x → ∀ {u : Value}, A.eval (.tmp x) = u → A'.eval (.tmp x) = u) → seqL P ops Q ts A' w) : seqL P ops Q ts (A.put (some D) v) w :=
 hn _ (h.put h5) (ev_same hk) (fun _ hx _ hu => (ev_ne hx).trans hu)
theorem sW (ho : ops[k]? = some o) (hgd : o.guard = none) (hd : o.dst = some D) (hr : ∀ w, (execOp A.eval o).run P w = .ok (.value v) w) (h : Frm0 A N pv pm ps) (hk : D < A.tmps.size) (h5 : 5 < D)
  (hn : ∀ A' : Act, Frm0 A' N pv pm ps → A'.eval (.tmp D) = v → (∀ x, D ≠ x → ∀ {u : Value}, A.eval (.tmp x) = u → A'.eval (.tmp x) = u) → seqL P ops Q ts A' w) : seqL P ops Q ((0, k) :: ts) A w :=
 seq_W ho hgd hr (by rw [hd]; exact nextG h hk h5 hn)
theorem sR (ho : ops[k]? = some o) (hgd : o.guard = none) (hd : o.dst = some D) (hr : (execOp A.eval o).run P w = .ok (.value v) w) (h : Frm0 A N pv pm ps) (hk : D < A.tmps.size) (h5 : 5 < D)
  (hn : ∀ A' : Act, Frm0 A' N pv pm ps → A'.eval (.tmp D) = v → (∀ x, D ≠ x → ∀ {u : Value}, A.eval (.tmp x) = u → A'.eval (.tmp x) = u) → seqL P ops Q ts A' w) : seqL P ops Q ((1, k) :: ts) A w :=
 seq_R ho hgd hr (by rw [hd]; exact nextG h hk h5 hn)
end
theorem cells_of_row {w : World} {pv : Nat} {t : TypeId} {v : List Nat} (h : w.heap[pv]? = some (.cells (wv v) t (0, 0))) (hl : v.length = 16) : ∀ k, k < 16 → w.cell? ⟨pv, k, none⟩ = some (.int .u32 (v.getD k 0 : Nat)) := fun k hk => by
 rw [cell_of_row w pv k _ _ _ h]; exact wv_at (by rw [hl]; exact hk)
theorem sCall {ops : Array Oper} {Q : Exit → Act → World → Prop} {ts : List (Nat × Nat)} {o : Oper} {k D N pv pm ps : Nat} {A : Act} {w : World} {x1 x2 x3 x4 x5 x6 : Operand} {tt : Array TypeId} (hok : ops[k]? = some o) (hgd : o.guard = none) (hd : o.dst = some D)
  (ho : o.op = .call { callee := .value (.func 91), args := #[x1, x2, x3, x4, x5, x6], argTypes := tt })
  {n1 n2 n3 n4 n5 n6 : Nat} (h1 : A.eval x1 = .int .u32 n1) (h2 : A.eval x2 = .int .u32 n2) (h3 : A.eval x3 = .int .u32 n3) (h4 : A.eval x4 = .int .u32 n4) (h5 : A.eval x5 = .int .u32 n5) (h6 : A.eval x6 = .int .u32 n6)
  (l2 : n2 < 4294967296) (l4 : n4 < 4294967296) (h : Frm0 A N pv pm ps) (hk : D < A.tmps.size) (h5' : 5 < D)
  (hn : ∀ A' : Act, Frm0 A' N pv pm ps → A'.eval (.tmp D) = (.tuple #[.int .u32 ((gF ⟨n1, n2, n3, n4⟩ n5 n6).a : Nat), .int .u32 ((gF ⟨n1, n2, n3, n4⟩ n5 n6).b : Nat), .int .u32 ((gF ⟨n1, n2, n3, n4⟩ n5 n6).c : Nat), .int .u32 ((gF ⟨n1, n2, n3, n4⟩ n5 n6).d : Nat)]) → (∀ x, D ≠ x → ∀ {u : Value}, A.eval (.tmp x) = u → A'.eval (.tmp x) = u) → seqL Tryz.prog ops Q ts A' w) :
  seqL Tryz.prog ops Q ((2, k) :: ts) A w := by
 refine seq_A hok hgd (fun K hK => ?_)
 unfold Oper.wp execOp
 simp only [ho, resolve, invoke, List.map_toArray, List.map_cons, List.map_nil, h1, h2, h3, h4, h5, h6]
 go_simp
 refine (step_any n1 n2 n3 n4 n5 n6 l2 l4 w).mono ?_
 rintro e w' ⟨rfl, rfl⟩
 exact hK _ _ (nextG h hk h5' hn)

set_option maxRecDepth 20000 in
set_option maxHeartbeats 4000000 in
theorem regionG {id N : Nat} {ops : Array Oper} (B a b c d i j : Nat) (pos : String) (hops : ops = (opsG B a b c d i j pos).toArray)
  (hchk : chkG (opsG B a b c d i j pos).toArray = true)
  (A : Act) (w : World) (Q : Exit → Act → World → Prop) (pv pm ps : Nat) (v m s : List Nat) (t tm ts : TypeId) (fm fs : Nat × Nat)
  (hA : Frm0 A N pv pm ps) (hN : B + 46 ≤ N) (hB : 5 < B)
  (hv : w.heap[pv]? = some (.cells (wv v) t (0, 0))) (hm : w.heap[pm]? = some (.cells (wv m) tm fm)) (hs : w.heap[ps]? = some (.cells (sv s) ts fs))
  (ov : Wd 16 v) (om : Wd 16 m) (ls : s.length = 16) (os : ∀ k, s.getD k 0 < 16) (ha : a < 16) (hb : b < 16) (hc : c < 16) (hd : d < 16) (hi : i < 16) (hj : j < 16)
  (hQ : ∀ A' w', Frm0 A' N pv pm ps → w'.heap[pv]? = some (.cells (wv (gAt m s a b c d i j v)) t (0, 0)) → Frm [pv] w w' → Q .normal A' w') :
  (Code.region id ops true).wp Tryz.prog Q A w := by
 subst hops
 refine region_seq (c := 32) (f := 60) (ts := ordG) (by kernel_rfl) hchk ?_
 clear hchk
 have hNA : ∀ (A' : Act), A'.tmps.size = N → ∀ k, k < 46 → B + k < A'.tmps.size := fun A' h k hk => by omega
 have hv1 : w.drew.heap[pv]? = some (.cells (wv v) t (0, 0)) := hv
 have cv : ∀ k, k < 16 → w.drew.cell? ⟨pv, k, none⟩ = some (.int .u32 (v.getD k 0 : Nat)) := fun k hk => by
  rw [cell_of_row w.drew pv k _ _ _ hv1]; exact wv_at (by rw [ov.1]; exact hk)
 have cm : ∀ k, k < 16 → w.drew.cell? ⟨pm, k, none⟩ = some (.int .u32 (m.getD k 0 : Nat)) := fun k hk => by
  rw [cell_of_row w.drew pm k _ _ _ hm]; exact wv_at (by rw [om.1]; exact hk)
 have cs : ∀ k, k < 16 → w.drew.cell? ⟨ps, k, none⟩ = some (.int .u8 (s.getD k 0 : Nat)) := fun k hk => by
  rw [cell_of_row w.drew ps k _ _ _ hs]; exact sv_at (by rw [ls]; exact hk)
 unfold ordG
 have hsz := hA.size
 refine sW (D := B + 1) rfl rfl rfl (fun w => (ru_move rfl hA.e0)) hA (hNA _ hA.size 1 (by omega)) (by omega) ?_
 intro A1 f1 n1 m1
 clear m1
 refine sW (D := B + 2) rfl rfl rfl (fun w => (ru_move rfl f1.e0)) f1 (hNA _ f1.size 2 (by omega)) (by omega) ?_
 intro A2 f2 n2 m2
 have g2_7 := m2 (B + 1) (by omega) n1
 clear m2
 clear n1
 clear f1
 refine sW (D := B + 3) rfl rfl rfl (fun w => (ru_move rfl f2.e0)) f2 (hNA _ f2.size 3 (by omega)) (by omega) ?_
 intro A3 f3 n3 m3
 have g3_7 := m3 (B + 1) (by omega) g2_7
 have g3_8 := m3 (B + 2) (by omega) n2
 clear m3
 clear g2_7 n2
 clear f2
 refine sW (D := B + 4) rfl rfl rfl (fun w => (ru_move rfl f3.e0)) f3 (hNA _ f3.size 4 (by omega)) (by omega) ?_
 intro A4 f4 n4 m4
 have g4_7 := m4 (B + 1) (by omega) g3_7
 have g4_8 := m4 (B + 2) (by omega) g3_8
 have g4_9 := m4 (B + 3) (by omega) n3
 clear m4
 clear g3_7 g3_8 n3
 clear f3
 refine sW (D := B + 5) rfl rfl rfl (fun w => (ru_move rfl f4.e0)) f4 (hNA _ f4.size 5 (by omega)) (by omega) ?_
 intro A5 f5 n5 m5
 have g5_7 := m5 (B + 1) (by omega) g4_7
 have g5_8 := m5 (B + 2) (by omega) g4_8
 have g5_9 := m5 (B + 3) (by omega) g4_9
 have g5_10 := m5 (B + 4) (by omega) n4
 clear m5
 clear g4_7 g4_8 g4_9 n4
 clear f4
 refine sW (D := B + 6) rfl rfl rfl (fun w => (ru_nil rfl n5)) f5 (hNA _ f5.size 6 (by omega)) (by omega) ?_
 intro A6 f6 n6 m6
 have g6_7 := m6 (B + 1) (by omega) g5_7
 have g6_8 := m6 (B + 2) (by omega) g5_8
 have g6_9 := m6 (B + 3) (by omega) g5_9
 have g6_10 := m6 (B + 4) (by omega) g5_10
 clear m6
 clear g5_7 g5_8 g5_9 g5_10 n5
 clear f5
 refine sW (D := B + 7) rfl rfl rfl (fun w => (ru_idx rfl Tryz.underlying161 hz32 n6 rfl rfl ha)) f6 (hNA _ f6.size 7 (by omega)) (by omega) ?_
 intro A7 f7 n7 m7
 have g7_7 := m7 (B + 1) (by omega) g6_7
 have g7_8 := m7 (B + 2) (by omega) g6_8
 have g7_9 := m7 (B + 3) (by omega) g6_9
 have g7_10 := m7 (B + 4) (by omega) g6_10
 clear m7
 clear g6_7 g6_8 g6_9 g6_10 n6
 clear f6
 refine sR (D := B + 8) rfl rfl rfl (ru_ld32 rfl n7 (cv _ ha)) f7 (hNA _ f7.size 8 (by omega)) (by omega) ?_
 intro A8 f8 n8 m8
 have g8_7 := m8 (B + 1) (by omega) g7_7
 have g8_8 := m8 (B + 2) (by omega) g7_8
 have g8_9 := m8 (B + 3) (by omega) g7_9
 have g8_10 := m8 (B + 4) (by omega) g7_10
 clear m8
 clear g7_7 g7_8 g7_9 g7_10 n7
 clear f7
 refine sW (D := B + 9) rfl rfl rfl (fun w => (ru_move rfl f8.e0)) f8 (hNA _ f8.size 9 (by omega)) (by omega) ?_
 intro A9 f9 n9 m9
 have g9_7 := m9 (B + 1) (by omega) g8_7
 have g9_8 := m9 (B + 2) (by omega) g8_8
 have g9_9 := m9 (B + 3) (by omega) g8_9
 have g9_10 := m9 (B + 4) (by omega) g8_10
 have g9_14 := m9 (B + 8) (by omega) n8
 clear m9
 clear g8_7 g8_8 g8_9 g8_10 n8
 clear f8
 refine sW (D := B + 10) rfl rfl rfl (fun w => (ru_nil rfl n9)) f9 (hNA _ f9.size 10 (by omega)) (by omega) ?_
 intro A10 f10 n10 m10
 have g10_7 := m10 (B + 1) (by omega) g9_7
 have g10_8 := m10 (B + 2) (by omega) g9_8
 have g10_9 := m10 (B + 3) (by omega) g9_9
 have g10_10 := m10 (B + 4) (by omega) g9_10
 have g10_14 := m10 (B + 8) (by omega) g9_14
 clear m10
 clear g9_7 g9_8 g9_9 g9_10 g9_14 n9
 clear f9
 refine sW (D := B + 11) rfl rfl rfl (fun w => (ru_idx rfl Tryz.underlying161 hz32 n10 rfl rfl hb)) f10 (hNA _ f10.size 11 (by omega)) (by omega) ?_
 intro A11 f11 n11 m11
 have g11_7 := m11 (B + 1) (by omega) g10_7
 have g11_8 := m11 (B + 2) (by omega) g10_8
 have g11_9 := m11 (B + 3) (by omega) g10_9
 have g11_10 := m11 (B + 4) (by omega) g10_10
 have g11_14 := m11 (B + 8) (by omega) g10_14
 clear m11
 clear g10_7 g10_8 g10_9 g10_10 g10_14 n10
 clear f10
 refine sR (D := B + 12) rfl rfl rfl (ru_ld32 rfl n11 (cv _ hb)) f11 (hNA _ f11.size 12 (by omega)) (by omega) ?_
 intro A12 f12 n12 m12
 have g12_7 := m12 (B + 1) (by omega) g11_7
 have g12_8 := m12 (B + 2) (by omega) g11_8
 have g12_9 := m12 (B + 3) (by omega) g11_9
 have g12_10 := m12 (B + 4) (by omega) g11_10
 have g12_14 := m12 (B + 8) (by omega) g11_14
 clear m12
 clear g11_7 g11_8 g11_9 g11_10 g11_14 n11
 clear f11
 refine sW (D := B + 13) rfl rfl rfl (fun w => (ru_move rfl f12.e0)) f12 (hNA _ f12.size 13 (by omega)) (by omega) ?_
 intro A13 f13 n13 m13
 have g13_7 := m13 (B + 1) (by omega) g12_7
 have g13_8 := m13 (B + 2) (by omega) g12_8
 have g13_9 := m13 (B + 3) (by omega) g12_9
 have g13_10 := m13 (B + 4) (by omega) g12_10
 have g13_14 := m13 (B + 8) (by omega) g12_14
 have g13_18 := m13 (B + 12) (by omega) n12
 clear m13
 clear g12_7 g12_8 g12_9 g12_10 g12_14 n12
 clear f12
 refine sW (D := B + 14) rfl rfl rfl (fun w => (ru_nil rfl n13)) f13 (hNA _ f13.size 14 (by omega)) (by omega) ?_
 intro A14 f14 n14 m14
 have g14_7 := m14 (B + 1) (by omega) g13_7
 have g14_8 := m14 (B + 2) (by omega) g13_8
 have g14_9 := m14 (B + 3) (by omega) g13_9
 have g14_10 := m14 (B + 4) (by omega) g13_10
 have g14_14 := m14 (B + 8) (by omega) g13_14
 have g14_18 := m14 (B + 12) (by omega) g13_18
 clear m14
 clear g13_7 g13_8 g13_9 g13_10 g13_14 g13_18 n13
 clear f13
 refine sW (D := B + 15) rfl rfl rfl (fun w => (ru_idx rfl Tryz.underlying161 hz32 n14 rfl rfl hc)) f14 (hNA _ f14.size 15 (by omega)) (by omega) ?_
 intro A15 f15 n15 m15
 have g15_7 := m15 (B + 1) (by omega) g14_7
 have g15_8 := m15 (B + 2) (by omega) g14_8
 have g15_9 := m15 (B + 3) (by omega) g14_9
 have g15_10 := m15 (B + 4) (by omega) g14_10
 have g15_14 := m15 (B + 8) (by omega) g14_14
 have g15_18 := m15 (B + 12) (by omega) g14_18
 clear m15
 clear g14_7 g14_8 g14_9 g14_10 g14_14 g14_18 n14
 clear f14
 refine sR (D := B + 16) rfl rfl rfl (ru_ld32 rfl n15 (cv _ hc)) f15 (hNA _ f15.size 16 (by omega)) (by omega) ?_
 intro A16 f16 n16 m16
 have g16_7 := m16 (B + 1) (by omega) g15_7
 have g16_8 := m16 (B + 2) (by omega) g15_8
 have g16_9 := m16 (B + 3) (by omega) g15_9
 have g16_10 := m16 (B + 4) (by omega) g15_10
 have g16_14 := m16 (B + 8) (by omega) g15_14
 have g16_18 := m16 (B + 12) (by omega) g15_18
 clear m16
 clear g15_7 g15_8 g15_9 g15_10 g15_14 g15_18 n15
 clear f15
 refine sW (D := B + 17) rfl rfl rfl (fun w => (ru_move rfl f16.e0)) f16 (hNA _ f16.size 17 (by omega)) (by omega) ?_
 intro A17 f17 n17 m17
 have g17_7 := m17 (B + 1) (by omega) g16_7
 have g17_8 := m17 (B + 2) (by omega) g16_8
 have g17_9 := m17 (B + 3) (by omega) g16_9
 have g17_10 := m17 (B + 4) (by omega) g16_10
 have g17_14 := m17 (B + 8) (by omega) g16_14
 have g17_18 := m17 (B + 12) (by omega) g16_18
 have g17_22 := m17 (B + 16) (by omega) n16
 clear m17
 clear g16_7 g16_8 g16_9 g16_10 g16_14 g16_18 n16
 clear f16
 refine sW (D := B + 18) rfl rfl rfl (fun w => (ru_nil rfl n17)) f17 (hNA _ f17.size 18 (by omega)) (by omega) ?_
 intro A18 f18 n18 m18
 have g18_7 := m18 (B + 1) (by omega) g17_7
 have g18_8 := m18 (B + 2) (by omega) g17_8
 have g18_9 := m18 (B + 3) (by omega) g17_9
 have g18_10 := m18 (B + 4) (by omega) g17_10
 have g18_14 := m18 (B + 8) (by omega) g17_14
 have g18_18 := m18 (B + 12) (by omega) g17_18
 have g18_22 := m18 (B + 16) (by omega) g17_22
 clear m18
 clear g17_7 g17_8 g17_9 g17_10 g17_14 g17_18 g17_22 n17
 clear f17
 refine sW (D := B + 19) rfl rfl rfl (fun w => (ru_idx rfl Tryz.underlying161 hz32 n18 rfl rfl hd)) f18 (hNA _ f18.size 19 (by omega)) (by omega) ?_
 intro A19 f19 n19 m19
 have g19_7 := m19 (B + 1) (by omega) g18_7
 have g19_8 := m19 (B + 2) (by omega) g18_8
 have g19_9 := m19 (B + 3) (by omega) g18_9
 have g19_10 := m19 (B + 4) (by omega) g18_10
 have g19_14 := m19 (B + 8) (by omega) g18_14
 have g19_18 := m19 (B + 12) (by omega) g18_18
 have g19_22 := m19 (B + 16) (by omega) g18_22
 clear m19
 clear g18_7 g18_8 g18_9 g18_10 g18_14 g18_18 g18_22 n18
 clear f18
 refine sR (D := B + 20) rfl rfl rfl (ru_ld32 rfl n19 (cv _ hd)) f19 (hNA _ f19.size 20 (by omega)) (by omega) ?_
 intro A20 f20 n20 m20
 have g20_7 := m20 (B + 1) (by omega) g19_7
 have g20_8 := m20 (B + 2) (by omega) g19_8
 have g20_9 := m20 (B + 3) (by omega) g19_9
 have g20_10 := m20 (B + 4) (by omega) g19_10
 have g20_14 := m20 (B + 8) (by omega) g19_14
 have g20_18 := m20 (B + 12) (by omega) g19_18
 have g20_22 := m20 (B + 16) (by omega) g19_22
 clear m20
 clear g19_7 g19_8 g19_9 g19_10 g19_14 g19_18 g19_22 n19
 clear f19
 refine sW (D := B + 21) rfl rfl rfl (fun w => (ru_move rfl f20.e1)) f20 (hNA _ f20.size 21 (by omega)) (by omega) ?_
 intro A21 f21 n21 m21
 have g21_7 := m21 (B + 1) (by omega) g20_7
 have g21_8 := m21 (B + 2) (by omega) g20_8
 have g21_9 := m21 (B + 3) (by omega) g20_9
 have g21_10 := m21 (B + 4) (by omega) g20_10
 have g21_14 := m21 (B + 8) (by omega) g20_14
 have g21_18 := m21 (B + 12) (by omega) g20_18
 have g21_22 := m21 (B + 16) (by omega) g20_22
 have g21_26 := m21 (B + 20) (by omega) n20
 clear m21
 clear g20_7 g20_8 g20_9 g20_10 g20_14 g20_18 g20_22 n20
 clear f20
 refine sW (D := B + 22) rfl rfl rfl (fun w => (ru_idx rfl Tryz.underlying165 hsz1 f21.e5 rfl rfl hi)) f21 (hNA _ f21.size 22 (by omega)) (by omega) ?_
 intro A22 f22 n22 m22
 have g22_7 := m22 (B + 1) (by omega) g21_7
 have g22_8 := m22 (B + 2) (by omega) g21_8
 have g22_9 := m22 (B + 3) (by omega) g21_9
 have g22_10 := m22 (B + 4) (by omega) g21_10
 have g22_14 := m22 (B + 8) (by omega) g21_14
 have g22_18 := m22 (B + 12) (by omega) g21_18
 have g22_22 := m22 (B + 16) (by omega) g21_22
 have g22_26 := m22 (B + 20) (by omega) g21_26
 have g22_27 := m22 (B + 21) (by omega) n21
 clear m22
 clear g21_7 g21_8 g21_9 g21_10 g21_14 g21_18 g21_22 g21_26 n21
 clear f21
 refine sR (D := B + 23) rfl rfl rfl (ru_ld8 rfl n22 (cs _ hi)) f22 (hNA _ f22.size 23 (by omega)) (by omega) ?_
 intro A23 f23 n23 m23
 have g23_7 := m23 (B + 1) (by omega) g22_7
 have g23_8 := m23 (B + 2) (by omega) g22_8
 have g23_9 := m23 (B + 3) (by omega) g22_9
 have g23_10 := m23 (B + 4) (by omega) g22_10
 have g23_14 := m23 (B + 8) (by omega) g22_14
 have g23_18 := m23 (B + 12) (by omega) g22_18
 have g23_22 := m23 (B + 16) (by omega) g22_22
 have g23_26 := m23 (B + 20) (by omega) g22_26
 have g23_27 := m23 (B + 21) (by omega) g22_27
 clear m23
 clear g22_7 g22_8 g22_9 g22_10 g22_14 g22_18 g22_22 g22_26 g22_27 n22
 clear f22
 refine sW (D := B + 24) rfl rfl rfl (fun w => (ru_nil rfl g23_27)) f23 (hNA _ f23.size 24 (by omega)) (by omega) ?_
 intro A24 f24 n24 m24
 have g24_7 := m24 (B + 1) (by omega) g23_7
 have g24_8 := m24 (B + 2) (by omega) g23_8
 have g24_9 := m24 (B + 3) (by omega) g23_9
 have g24_10 := m24 (B + 4) (by omega) g23_10
 have g24_14 := m24 (B + 8) (by omega) g23_14
 have g24_18 := m24 (B + 12) (by omega) g23_18
 have g24_22 := m24 (B + 16) (by omega) g23_22
 have g24_26 := m24 (B + 20) (by omega) g23_26
 have g24_29 := m24 (B + 23) (by omega) n23
 clear m24
 clear g23_7 g23_8 g23_9 g23_10 g23_14 g23_18 g23_22 g23_26 g23_27 n23
 clear f23
 refine sW (D := B + 25) rfl rfl rfl (fun w => (ru_idx rfl Tryz.underlying161 hz32 n24 g24_29 rfl (os _))) f24 (hNA _ f24.size 25 (by omega)) (by omega) ?_
 intro A25 f25 n25 m25
 have g25_7 := m25 (B + 1) (by omega) g24_7
 have g25_8 := m25 (B + 2) (by omega) g24_8
 have g25_9 := m25 (B + 3) (by omega) g24_9
 have g25_10 := m25 (B + 4) (by omega) g24_10
 have g25_14 := m25 (B + 8) (by omega) g24_14
 have g25_18 := m25 (B + 12) (by omega) g24_18
 have g25_22 := m25 (B + 16) (by omega) g24_22
 have g25_26 := m25 (B + 20) (by omega) g24_26
 clear m25
 clear g24_7 g24_8 g24_9 g24_10 g24_14 g24_18 g24_22 g24_26 g24_29 n24
 clear f24
 refine sR (D := B + 26) rfl rfl rfl (ru_ld32 rfl n25 (cm _ (os _))) f25 (hNA _ f25.size 26 (by omega)) (by omega) ?_
 intro A26 f26 n26 m26
 have g26_7 := m26 (B + 1) (by omega) g25_7
 have g26_8 := m26 (B + 2) (by omega) g25_8
 have g26_9 := m26 (B + 3) (by omega) g25_9
 have g26_10 := m26 (B + 4) (by omega) g25_10
 have g26_14 := m26 (B + 8) (by omega) g25_14
 have g26_18 := m26 (B + 12) (by omega) g25_18
 have g26_22 := m26 (B + 16) (by omega) g25_22
 have g26_26 := m26 (B + 20) (by omega) g25_26
 clear m26
 clear g25_7 g25_8 g25_9 g25_10 g25_14 g25_18 g25_22 g25_26 n25
 clear f25
 refine sW (D := B + 27) rfl rfl rfl (fun w => (ru_move rfl f26.e1)) f26 (hNA _ f26.size 27 (by omega)) (by omega) ?_
 intro A27 f27 n27 m27
 have g27_7 := m27 (B + 1) (by omega) g26_7
 have g27_8 := m27 (B + 2) (by omega) g26_8
 have g27_9 := m27 (B + 3) (by omega) g26_9
 have g27_10 := m27 (B + 4) (by omega) g26_10
 have g27_14 := m27 (B + 8) (by omega) g26_14
 have g27_18 := m27 (B + 12) (by omega) g26_18
 have g27_22 := m27 (B + 16) (by omega) g26_22
 have g27_26 := m27 (B + 20) (by omega) g26_26
 have g27_32 := m27 (B + 26) (by omega) n26
 clear m27
 clear g26_7 g26_8 g26_9 g26_10 g26_14 g26_18 g26_22 g26_26 n26
 clear f26
 refine sW (D := B + 28) rfl rfl rfl (fun w => (ru_idx rfl Tryz.underlying165 hsz1 f27.e5 rfl rfl hj)) f27 (hNA _ f27.size 28 (by omega)) (by omega) ?_
 intro A28 f28 n28 m28
 have g28_7 := m28 (B + 1) (by omega) g27_7
 have g28_8 := m28 (B + 2) (by omega) g27_8
 have g28_9 := m28 (B + 3) (by omega) g27_9
 have g28_10 := m28 (B + 4) (by omega) g27_10
 have g28_14 := m28 (B + 8) (by omega) g27_14
 have g28_18 := m28 (B + 12) (by omega) g27_18
 have g28_22 := m28 (B + 16) (by omega) g27_22
 have g28_26 := m28 (B + 20) (by omega) g27_26
 have g28_32 := m28 (B + 26) (by omega) g27_32
 have g28_33 := m28 (B + 27) (by omega) n27
 clear m28
 clear g27_7 g27_8 g27_9 g27_10 g27_14 g27_18 g27_22 g27_26 g27_32 n27
 clear f27
 refine sR (D := B + 29) rfl rfl rfl (ru_ld8 rfl n28 (cs _ hj)) f28 (hNA _ f28.size 29 (by omega)) (by omega) ?_
 intro A29 f29 n29 m29
 have g29_7 := m29 (B + 1) (by omega) g28_7
 have g29_8 := m29 (B + 2) (by omega) g28_8
 have g29_9 := m29 (B + 3) (by omega) g28_9
 have g29_10 := m29 (B + 4) (by omega) g28_10
 have g29_14 := m29 (B + 8) (by omega) g28_14
 have g29_18 := m29 (B + 12) (by omega) g28_18
 have g29_22 := m29 (B + 16) (by omega) g28_22
 have g29_26 := m29 (B + 20) (by omega) g28_26
 have g29_32 := m29 (B + 26) (by omega) g28_32
 have g29_33 := m29 (B + 27) (by omega) g28_33
 clear m29
 clear g28_7 g28_8 g28_9 g28_10 g28_14 g28_18 g28_22 g28_26 g28_32 g28_33 n28
 clear f28
 refine sW (D := B + 30) rfl rfl rfl (fun w => (ru_nil rfl g29_33)) f29 (hNA _ f29.size 30 (by omega)) (by omega) ?_
 intro A30 f30 n30 m30
 have g30_7 := m30 (B + 1) (by omega) g29_7
 have g30_8 := m30 (B + 2) (by omega) g29_8
 have g30_9 := m30 (B + 3) (by omega) g29_9
 have g30_10 := m30 (B + 4) (by omega) g29_10
 have g30_14 := m30 (B + 8) (by omega) g29_14
 have g30_18 := m30 (B + 12) (by omega) g29_18
 have g30_22 := m30 (B + 16) (by omega) g29_22
 have g30_26 := m30 (B + 20) (by omega) g29_26
 have g30_32 := m30 (B + 26) (by omega) g29_32
 have g30_35 := m30 (B + 29) (by omega) n29
 clear m30
 clear g29_7 g29_8 g29_9 g29_10 g29_14 g29_18 g29_22 g29_26 g29_32 g29_33 n29
 clear f29
 refine sW (D := B + 31) rfl rfl rfl (fun w => (ru_idx rfl Tryz.underlying161 hz32 n30 g30_35 rfl (os _))) f30 (hNA _ f30.size 31 (by omega)) (by omega) ?_
 intro A31 f31 n31 m31
 have g31_7 := m31 (B + 1) (by omega) g30_7
 have g31_8 := m31 (B + 2) (by omega) g30_8
 have g31_9 := m31 (B + 3) (by omega) g30_9
 have g31_10 := m31 (B + 4) (by omega) g30_10
 have g31_14 := m31 (B + 8) (by omega) g30_14
 have g31_18 := m31 (B + 12) (by omega) g30_18
 have g31_22 := m31 (B + 16) (by omega) g30_22
 have g31_26 := m31 (B + 20) (by omega) g30_26
 have g31_32 := m31 (B + 26) (by omega) g30_32
 clear m31
 clear g30_7 g30_8 g30_9 g30_10 g30_14 g30_18 g30_22 g30_26 g30_32 g30_35 n30
 clear f30
 refine sR (D := B + 32) rfl rfl rfl (ru_ld32 rfl n31 (cm _ (os _))) f31 (hNA _ f31.size 32 (by omega)) (by omega) ?_
 intro A32 f32 n32 m32
 have g32_7 := m32 (B + 1) (by omega) g31_7
 have g32_8 := m32 (B + 2) (by omega) g31_8
 have g32_9 := m32 (B + 3) (by omega) g31_9
 have g32_10 := m32 (B + 4) (by omega) g31_10
 have g32_14 := m32 (B + 8) (by omega) g31_14
 have g32_18 := m32 (B + 12) (by omega) g31_18
 have g32_22 := m32 (B + 16) (by omega) g31_22
 have g32_26 := m32 (B + 20) (by omega) g31_26
 have g32_32 := m32 (B + 26) (by omega) g31_32
 clear m32
 clear g31_7 g31_8 g31_9 g31_10 g31_14 g31_18 g31_22 g31_26 g31_32 n31
 clear f31
 refine sW (D := B + 38) rfl rfl rfl (fun w => (ru_nil rfl g32_7)) f32 (hNA _ f32.size 38 (by omega)) (by omega) ?_
 intro A33 f33 n33 m33
 have g33_8 := m33 (B + 2) (by omega) g32_8
 have g33_9 := m33 (B + 3) (by omega) g32_9
 have g33_10 := m33 (B + 4) (by omega) g32_10
 have g33_14 := m33 (B + 8) (by omega) g32_14
 have g33_18 := m33 (B + 12) (by omega) g32_18
 have g33_22 := m33 (B + 16) (by omega) g32_22
 have g33_26 := m33 (B + 20) (by omega) g32_26
 have g33_32 := m33 (B + 26) (by omega) g32_32
 have g33_38 := m33 (B + 32) (by omega) n32
 clear m33
 clear g32_7 g32_8 g32_9 g32_10 g32_14 g32_18 g32_22 g32_26 g32_32 n32
 clear f32
 refine sW (D := B + 40) rfl rfl rfl (fun w => (ru_nil rfl g33_8)) f33 (hNA _ f33.size 40 (by omega)) (by omega) ?_
 intro A34 f34 n34 m34
 have g34_9 := m34 (B + 3) (by omega) g33_9
 have g34_10 := m34 (B + 4) (by omega) g33_10
 have g34_14 := m34 (B + 8) (by omega) g33_14
 have g34_18 := m34 (B + 12) (by omega) g33_18
 have g34_22 := m34 (B + 16) (by omega) g33_22
 have g34_26 := m34 (B + 20) (by omega) g33_26
 have g34_32 := m34 (B + 26) (by omega) g33_32
 have g34_38 := m34 (B + 32) (by omega) g33_38
 have g34_44 := m34 (B + 38) (by omega) n33
 clear m34
 clear g33_8 g33_9 g33_10 g33_14 g33_18 g33_22 g33_26 g33_32 g33_38 n33
 clear f33
 refine sW (D := B + 42) rfl rfl rfl (fun w => (ru_nil rfl g34_9)) f34 (hNA _ f34.size 42 (by omega)) (by omega) ?_
 intro A35 f35 n35 m35
 have g35_10 := m35 (B + 4) (by omega) g34_10
 have g35_14 := m35 (B + 8) (by omega) g34_14
 have g35_18 := m35 (B + 12) (by omega) g34_18
 have g35_22 := m35 (B + 16) (by omega) g34_22
 have g35_26 := m35 (B + 20) (by omega) g34_26
 have g35_32 := m35 (B + 26) (by omega) g34_32
 have g35_38 := m35 (B + 32) (by omega) g34_38
 have g35_44 := m35 (B + 38) (by omega) g34_44
 have g35_46 := m35 (B + 40) (by omega) n34
 clear m35
 clear g34_9 g34_10 g34_14 g34_18 g34_22 g34_26 g34_32 g34_38 g34_44 n34
 clear f34
 refine sW (D := B + 44) rfl rfl rfl (fun w => (ru_nil rfl g35_10)) f35 (hNA _ f35.size 44 (by omega)) (by omega) ?_
 intro A36 f36 n36 m36
 have g36_14 := m36 (B + 8) (by omega) g35_14
 have g36_18 := m36 (B + 12) (by omega) g35_18
 have g36_22 := m36 (B + 16) (by omega) g35_22
 have g36_26 := m36 (B + 20) (by omega) g35_26
 have g36_32 := m36 (B + 26) (by omega) g35_32
 have g36_38 := m36 (B + 32) (by omega) g35_38
 have g36_44 := m36 (B + 38) (by omega) g35_44
 have g36_46 := m36 (B + 40) (by omega) g35_46
 have g36_48 := m36 (B + 42) (by omega) n35
 clear m36
 clear g35_10 g35_14 g35_18 g35_22 g35_26 g35_32 g35_38 g35_44 g35_46 n35
 clear f35
 refine sCall (D := B + 33) rfl rfl rfl rfl g36_14 g36_18 g36_22 g36_26 g36_32 g36_38 (ov.2 b) (ov.2 d) f36 (hNA _ f36.size 33 (by omega)) (by omega) ?_
 intro A37 f37 n37 m37
 have g37_44 := m37 (B + 38) (by omega) g36_44
 have g37_46 := m37 (B + 40) (by omega) g36_46
 have g37_48 := m37 (B + 42) (by omega) g36_48
 have g37_50 := m37 (B + 44) (by omega) n36
 clear m37
 clear g36_14 g36_18 g36_22 g36_26 g36_32 g36_38 g36_44 g36_46 g36_48 n36
 clear f36
 refine sW (D := B + 0) rfl rfl rfl (fun w => (ru_move rfl n37)) f37 (hNA _ f37.size 0 (by omega)) (by omega) ?_
 intro A38 f38 n38 m38
 have g38_44 := m38 (B + 38) (by omega) g37_44
 have g38_46 := m38 (B + 40) (by omega) g37_46
 have g38_48 := m38 (B + 42) (by omega) g37_48
 have g38_50 := m38 (B + 44) (by omega) g37_50
 clear m38
 clear n37 g37_44 g37_46 g37_48 g37_50
 clear f37
 refine sW (D := B + 34) rfl rfl rfl (fun w => (ru_ext rfl n38 rfl)) f38 (hNA _ f38.size 34 (by omega)) (by omega) ?_
 intro A39 f39 n39 m39
 have g39_6 := m39 (B + 0) (by omega) n38
 have g39_44 := m39 (B + 38) (by omega) g38_44
 have g39_46 := m39 (B + 40) (by omega) g38_46
 have g39_48 := m39 (B + 42) (by omega) g38_48
 have g39_50 := m39 (B + 44) (by omega) g38_50
 clear m39
 clear n38 g38_44 g38_46 g38_48 g38_50
 clear f38
 refine sW (D := B + 35) rfl rfl rfl (fun w => (ru_ext rfl g39_6 rfl)) f39 (hNA _ f39.size 35 (by omega)) (by omega) ?_
 intro A40 f40 n40 m40
 have g40_6 := m40 (B + 0) (by omega) g39_6
 have g40_40 := m40 (B + 34) (by omega) n39
 have g40_44 := m40 (B + 38) (by omega) g39_44
 have g40_46 := m40 (B + 40) (by omega) g39_46
 have g40_48 := m40 (B + 42) (by omega) g39_48
 have g40_50 := m40 (B + 44) (by omega) g39_50
 clear m40
 clear g39_6 n39 g39_44 g39_46 g39_48 g39_50
 clear f39
 refine sW (D := B + 36) rfl rfl rfl (fun w => (ru_ext rfl g40_6 rfl)) f40 (hNA _ f40.size 36 (by omega)) (by omega) ?_
 intro A41 f41 n41 m41
 have g41_6 := m41 (B + 0) (by omega) g40_6
 have g41_40 := m41 (B + 34) (by omega) g40_40
 have g41_41 := m41 (B + 35) (by omega) n40
 have g41_44 := m41 (B + 38) (by omega) g40_44
 have g41_46 := m41 (B + 40) (by omega) g40_46
 have g41_48 := m41 (B + 42) (by omega) g40_48
 have g41_50 := m41 (B + 44) (by omega) g40_50
 clear m41
 clear g40_6 g40_40 n40 g40_44 g40_46 g40_48 g40_50
 clear f40
 refine sW (D := B + 37) rfl rfl rfl (fun w => (ru_ext rfl g41_6 rfl)) f41 (hNA _ f41.size 37 (by omega)) (by omega) ?_
 intro A42 f42 n42 m42
 have g42_40 := m42 (B + 34) (by omega) g41_40
 have g42_41 := m42 (B + 35) (by omega) g41_41
 have g42_42 := m42 (B + 36) (by omega) n41
 have g42_44 := m42 (B + 38) (by omega) g41_44
 have g42_46 := m42 (B + 40) (by omega) g41_46
 have g42_48 := m42 (B + 42) (by omega) g41_48
 have g42_50 := m42 (B + 44) (by omega) g41_50
 clear m42
 clear g41_6 g41_40 g41_41 n41 g41_44 g41_46 g41_48 g41_50
 clear f41
 refine sW (D := B + 39) rfl rfl rfl (fun w => (ru_idx rfl Tryz.underlying161 hz32 g42_44 rfl rfl ha)) f42 (hNA _ f42.size 39 (by omega)) (by omega) ?_
 intro A43 f43 n43 m43
 have g43_40 := m43 (B + 34) (by omega) g42_40
 have g43_41 := m43 (B + 35) (by omega) g42_41
 have g43_42 := m43 (B + 36) (by omega) g42_42
 have g43_43 := m43 (B + 37) (by omega) n42
 have g43_46 := m43 (B + 40) (by omega) g42_46
 have g43_48 := m43 (B + 42) (by omega) g42_48
 have g43_50 := m43 (B + 44) (by omega) g42_50
 clear m43
 clear g42_40 g42_41 g42_42 n42 g42_44 g42_46 g42_48 g42_50
 clear f42
 have q0 : w.drew.heap[pv]? = some (.cells (wv v) t (0, 0)) := hv1
 have sc0 : ∀ k, k < 16 → w.drew.cell? ⟨pv, k, none⟩ = some (.int .u32 (v.getD k 0 : Nat)) := cv
 have sf0 : ∀ k, w.drew.frozen? ⟨pv, k, none⟩ = false := fun k => frozen_of_row _ pv k _ _ q0
 refine seq_A rfl rfl (fun K hK => ?_)
 refine wp_st32 rfl rfl n43 g43_40 (sc0 _ ha) (sf0 _) (hK _ _ ?_)
 clear hK K
 have q1 := wv_set q0 a (gF (four v a b c d) (m.getD (s.getD i 0) 0) (m.getD (s.getD j 0) 0)).a
 have sc1 := cells_of_row q1 (by simp only [List.length_set]; exact ov.1)
 have sf1 : ∀ k, _ = false := fun k => frozen_of_row _ pv k _ _ q1
 refine sW (D := B + 41) rfl rfl rfl (fun w => (ru_idx rfl Tryz.underlying161 hz32 g43_46 rfl rfl hb)) f43 (hNA _ f43.size 41 (by omega)) (by omega) ?_
 intro A44 f44 n44 m44
 have g44_41 := m44 (B + 35) (by omega) g43_41
 have g44_42 := m44 (B + 36) (by omega) g43_42
 have g44_43 := m44 (B + 37) (by omega) g43_43
 have g44_48 := m44 (B + 42) (by omega) g43_48
 have g44_50 := m44 (B + 44) (by omega) g43_50
 clear m44
 clear g43_40 g43_41 g43_42 g43_43 n43 g43_46 g43_48 g43_50
 clear f43
 refine seq_A rfl rfl (fun K hK => ?_)
 refine wp_st32 rfl rfl n44 g44_41 (sc1 _ hb) (sf1 _) (hK _ _ ?_)
 clear hK K
 have q2 := wv_set q1 b (gF (four v a b c d) (m.getD (s.getD i 0) 0) (m.getD (s.getD j 0) 0)).b
 have sc2 := cells_of_row q2 (by simp only [List.length_set]; exact ov.1)
 have sf2 : ∀ k, _ = false := fun k => frozen_of_row _ pv k _ _ q2
 refine sW (D := B + 43) rfl rfl rfl (fun w => (ru_idx rfl Tryz.underlying161 hz32 g44_48 rfl rfl hc)) f44 (hNA _ f44.size 43 (by omega)) (by omega) ?_
 intro A45 f45 n45 m45
 have g45_42 := m45 (B + 36) (by omega) g44_42
 have g45_43 := m45 (B + 37) (by omega) g44_43
 have g45_50 := m45 (B + 44) (by omega) g44_50
 clear m45
 clear g44_41 g44_42 g44_43 n44 g44_48 g44_50
 clear f44
 refine seq_A rfl rfl (fun K hK => ?_)
 refine wp_st32 rfl rfl n45 g45_42 (sc2 _ hc) (sf2 _) (hK _ _ ?_)
 clear hK K
 have q3 := wv_set q2 c (gF (four v a b c d) (m.getD (s.getD i 0) 0) (m.getD (s.getD j 0) 0)).c
 have sc3 := cells_of_row q3 (by simp only [List.length_set]; exact ov.1)
 have sf3 : ∀ k, _ = false := fun k => frozen_of_row _ pv k _ _ q3
 refine sW (D := B + 45) rfl rfl rfl (fun w => (ru_idx rfl Tryz.underlying161 hz32 g45_50 rfl rfl hd)) f45 (hNA _ f45.size 45 (by omega)) (by omega) ?_
 intro A46 f46 n46 m46
 have g46_43 := m46 (B + 37) (by omega) g45_43
 clear m46
 clear g45_42 g45_43 n45 g45_50
 clear f45
 refine seq_A rfl rfl (fun K hK => ?_)
 refine wp_st32 rfl rfl n46 g46_43 (sc3 _ hd) (sf3 _) (hK _ _ ?_)
 clear hK K
 have q4 := wv_set q3 d (gF (four v a b c d) (m.getD (s.getD i 0) 0) (m.getD (s.getD j 0) 0)).d
 refine seq_nil (NoPanic.normal (hQ _ _ f46 q4 ?_))
 exact (((((Frm.refl [pv] w).drew).setCell _ _ (by simp)).setCell _ _ (by simp)).setCell _ _ (by simp)).setCell _ _ (by simp)
theorem chk1 : chkG (opsG 6 0 4 8 12 0 1 "blake.go:157").toArray = true := by kernel_rfl
theorem chk2 : chkG (opsG 52 1 5 9 13 2 3 "blake.go:158").toArray = true := by kernel_rfl
theorem chk3 : chkG (opsG 98 2 6 10 14 4 5 "blake.go:159").toArray = true := by kernel_rfl
theorem chk4 : chkG (opsG 144 3 7 11 15 6 7 "blake.go:160").toArray = true := by kernel_rfl
theorem chk5 : chkG (opsG 190 0 5 10 15 8 9 "blake.go:161").toArray = true := by kernel_rfl
theorem chk6 : chkG (opsG 236 1 6 11 12 10 11 "blake.go:162").toArray = true := by kernel_rfl
theorem chk7 : chkG (opsG 282 2 7 8 13 12 13 "blake.go:163").toArray = true := by kernel_rfl
theorem chk8 : chkG (opsG 328 3 4 9 14 14 15 "blake.go:164").toArray = true := by kernel_rfl
end Go.Proofs.YtoefgfiabfkfaaaGreatDoor
