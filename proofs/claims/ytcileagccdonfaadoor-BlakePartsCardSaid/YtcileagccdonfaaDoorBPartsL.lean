/- BlakeParts under a key that is too long; both together. -/
import Derived.Test.YtcileagccdonfaaDoorBPartsW
namespace Go.Proofs.YtcileagccdonfaaDoor
open Go.RowKit

set_option maxRecDepth 20000 in
set_option maxHeartbeats 4000000 in
theorem partsW_long (kd : Option Addr) (kc k : Nat) (ad : Option Addr) (n cap : Nat) (w : World) (hT : Tab w) (hG : Glob w) (hgl : 3 ≤ w.heap.size) (h2 : 32 < k) :
    Calls Tryd.prog 5 #[.slice kd k kc, .slice ad n cap] w fun e w' => e = .returned (.bool true) ∧ Below w.heap.size w w' := by
  have i2 : 32 < (k : Int) := by omega
  have eq0 := eqIn_sv zero_by
  go_enter Tryd.func5, Tryd.ntmps5
  go_wp2_with fail
  refine (write_nil kd k kc w).mono ?_
  rintro e W1 ⟨rfl, hW1⟩
  rw [hW1]
  clear hW1
  go_wp2_with fail
  refine (sumSt_nil w).mono ?_
  rintro e W2 ⟨rfl, hb2⟩
  go_wp2_with (first | (refine wpList_buildHs rfl rfl ?_) | fail)
  refine (lenSt_nil W2).mono ?_
  rintro e W1 ⟨rfl, hW1⟩
  rw [hW1]
  clear hW1
  go_wp2_with fail
  refine (new_long kd k kc W2 h2).mono ?_
  rintro e W3 ⟨rfl, hW3⟩
  rw [hW3]
  clear hW3
  go_wp2_with fail
  refine (num_any 2 W2 (hG.below hb2 (by omega))).mono ?_
  rintro e W4 ⟨rfl, hb4⟩
  have hb4' := Below.transS hb2 hb4
  go_wp2_with fail
  refine (sure_any W4 (hT.frm (Frm.ofBelow (S := []) hb4') (by simp)) (by have := hb4'.size; omega)).mono ?_
  rintro e W5 ⟨rfl, hb5⟩
  have hb5' := Below.transS hb4' hb5
  go_wp2
  go_ret
  exact ⟨rfl, hb5'⟩
theorem partsW_all (kd : Option Addr) (kc : Nat) (K : List Nat) (ad : Option Addr) (n cap : Nat) (A : Nat → Option Addr) (C : Nat → Nat) (B : Nat → List Nat) (w : World) (hT : Tab w) (hG : Glob w) (hgl : 3 ≤ w.heap.size)
    (hK : SlB w kd K) (hkb : ∀ i, K.getD i 0 < 256) (_ : K.length ≤ kc) (_ : K.length ≤ 9223372036854775807) (_ : kd = none → K.length = 0 ∧ kc = 0) (hR : RowsIn w ad n A C B) (hnl : n ≤ 9223372036854775807) :
    Calls Tryd.prog 5 #[.slice kd K.length kc, .slice ad n cap] w fun e w' => e = .returned (.bool true) ∧ Below w.heap.size w w' := by
  by_cases h2 : K.length ≤ 32
  · exact partsW_any kd kc K ad n cap w hT hG hgl hK hkb h2 A C B hR hnl
  · exact partsW_long kd kc K.length ad n cap w hT hG hgl (by omega)
end Go.Proofs.YtcileagccdonfaaDoor
