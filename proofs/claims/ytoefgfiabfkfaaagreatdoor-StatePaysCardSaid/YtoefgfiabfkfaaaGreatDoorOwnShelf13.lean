/- math/bits.Len64 answers how many bits a number has. -/
import Derived.Test.YtoefgfiabfkfaaaGreatDoorProg
import Derived.Lib.Strings
import Derived.Lib.Slices
import Derived.Lib.Small
import Derived.Lib.Walk
import Derived.Lib.BitFns
namespace Go.Proofs.YtoefgfiabfkfaaaGreatDoor

theorem len_close (x k : Nat) (y : Int) (hy : y = ((x / 2 ^ k : Nat) : Int)) (h : 2 ^ k ≤ x ∨ k = 0) (hx : x < 18446744073709551616) (h255 : y ≤ 255) : Lib.len8 y + k = (Lib.bitLen x : Int) := by
 have hy0 : 0 ≤ y := by rw [hy]; exact Int.natCast_nonneg _
 rw [Lib.len8_of y hy0 h255, hy, Int.toNat_natCast]
 rcases h with h | h
 ·rw [Lib.bitLen_shift k x h hx]; omega
 ·subst h; simp

set_option maxHeartbeats 4000000 in
set_option maxRecDepth 100000 in
theorem len64_any (x : Int) (w : World) (h0 : 0 ≤ x) (h1 : x ≤ 18446744073709551615) :
  Calls Tryz.prog 75 #[.int .u64 x] w fun e w' => e = .returned (.int .i64 (Lib.bitLen x.toNat)) ∧ w' = w := by
 go_enter Tryz.func75, Tryz.ntmps75
 go_wp2
 all_goals go_ret
 all_goals refine ⟨congrArg (fun i => Ending.returned (Value.int IntKind.i64 i)) ?_, rfl⟩
 all_goals first
  | (have := len_close x.toNat 56 (x / 4294967296 / 65536 / 256 % 256) (by omega) (by omega) (by omega) (by omega); have := Lib.bitLen_le x.toNat 64 (by omega) (by omega); omega)
  | (have := len_close x.toNat 48 (x / 4294967296 / 65536 % 256) (by omega) (by omega) (by omega) (by omega); have := Lib.bitLen_le x.toNat 64 (by omega) (by omega); omega)
  | (have := len_close x.toNat 40 (x / 4294967296 / 256 % 256) (by omega) (by omega) (by omega) (by omega); have := Lib.bitLen_le x.toNat 64 (by omega) (by omega); omega)
  | (have := len_close x.toNat 32 (x / 4294967296 % 256) (by omega) (by omega) (by omega) (by omega); have := Lib.bitLen_le x.toNat 64 (by omega) (by omega); omega)
  | (have := len_close x.toNat 24 (x / 65536 / 256 % 256) (by omega) (by omega) (by omega) (by omega); have := Lib.bitLen_le x.toNat 64 (by omega) (by omega); omega)
  | (have := len_close x.toNat 16 (x / 65536 % 256) (by omega) (by omega) (by omega) (by omega); have := Lib.bitLen_le x.toNat 64 (by omega) (by omega); omega)
  | (have := len_close x.toNat 8 (x / 256 % 256) (by omega) (by omega) (by omega) (by omega); have := Lib.bitLen_le x.toNat 64 (by omega) (by omega); omega)
  | (have := len_close x.toNat 0 (x % 256) (by omega) (by omega) (by omega) (by omega); have := Lib.bitLen_le x.toNat 64 (by omega) (by omega); omega)

end Go.Proofs.YtoefgfiabfkfaaaGreatDoor
