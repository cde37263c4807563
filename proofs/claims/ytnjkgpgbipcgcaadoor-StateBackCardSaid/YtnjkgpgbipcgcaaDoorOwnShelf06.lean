/- How many bytes a number has: math/bits.Len64 and enc.size. -/
import Derived.Test.YtnjkgpgbipcgcaaDoorOwnShelf04
import Derived.Test.YtnjkgpgbipcgcaaDoorOwnShelf05
namespace Go.Proofs.YtnjkgpgbipcgcaaDoor
open Go.RowKit

/-- How many bytes a number has without needless noughts. -/
def sz (n : Int) : Nat :=
  if n < 1 then 0 else if n < 256 then 1 else if n < 65536 then 2 else if n < 16777216 then 3 else if n < 4294967296 then 4
  else if n < 1099511627776 then 5 else if n < 281474976710656 then 6 else if n < 72057594037927936 then 7 else 8

theorem bitLen_byte (y : Nat) (h1 : 1 ≤ y) (h2 : y < 256) : 1 ≤ Lib.bitLen y ∧ Lib.bitLen y ≤ 8 := by
  refine ⟨?_, Lib.bitLen_le y 8 (by omega) (by omega)⟩
  rw [Lib.bitLen_half y (by omega) (by omega)]; omega

theorem sz_close (x k : Nat) (h : 2 ^ (8 * k) ≤ x) (h2 : x / 2 ^ (8 * k) < 256) (hx : x < 18446744073709551616) : (Lib.bitLen x + 7) / 8 = k + 1 := by
  have e := Lib.bitLen_shift (8 * k) x h hx
  have b := bitLen_byte (x / 2 ^ (8 * k)) (Nat.div_pos h (Nat.two_pow_pos _)) h2
  omega

theorem sz_bitLen (x : Int) (h0 : 0 ≤ x) (h1 : x ≤ 18446744073709551615) : (Lib.bitLen x.toNat + 7) / 8 = sz x := by
  unfold sz
  split
  · have : x.toNat = 0 := by omega
    rw [this]; rfl
  · split
    · exact sz_close x.toNat 0 (by omega) (by omega) (by omega)
    · split
      · exact sz_close x.toNat 1 (by omega) (by omega) (by omega)
      · split
        · exact sz_close x.toNat 2 (by omega) (by omega) (by omega)
        · split
          · exact sz_close x.toNat 3 (by omega) (by omega) (by omega)
          · split
            · exact sz_close x.toNat 4 (by omega) (by omega) (by omega)
            · split
              · exact sz_close x.toNat 5 (by omega) (by omega) (by omega)
              · split
                · exact sz_close x.toNat 6 (by omega) (by omega) (by omega)
                · exact sz_close x.toNat 7 (by omega) (by omega) (by omega)

theorem sz_le (n : Int) : sz n ≤ 8 := by unfold sz; repeat' split
                                         all_goals omega

set_option maxHeartbeats 400000 in
theorem size_any (x : Int) (w : World) (h0 : 0 ≤ x) (h1 : x ≤ 18446744073709551615) :
    Calls Tryd.prog 63 #[.int .u64 x] w fun e w' => e = .returned (.int .i64 (sz x)) ∧ w' = w := by
  have hb := Lib.bitLen_le x.toNat 64 (by omega) (by omega)
  have hs := sz_bitLen x h0 h1
  have HS : Hid ((Lib.bitLen x.toNat + 7) / 8 = sz x) := hs
  clear hs
  generalize hB : Lib.bitLen x.toNat = B at *
  have HB := (show Hid (Lib.bitLen x.toNat = B) from hB)
  clear hB
  go_enter Tryd.func63, Tryd.ntmps63
  go_wp2_with (go_at_call 81; refine (len64_any _ _ h0 h1).mono ?_; rintro e w' ⟨rfl, rfl⟩; rw [HB.out])
  go_ret
  refine ⟨congrArg (fun i => Ending.returned (Value.int IntKind.i64 i)) ?_, rfl⟩
  have := HS.out
  omega
end Go.Proofs.YtnjkgpgbipcgcaaDoor
