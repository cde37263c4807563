/- sure: two sums that the chapter tells, and the law on texts. -/
import Derived.Test.YtcileagccdonfaaDoorBRText
import Derived.Lib.SlBytesConst
namespace Go.Proofs.YtcileagccdonfaaDoor
open Go.RowKit

def abcT : ByteArray := ⟨#[53, 48, 56, 99, 53, 101, 56, 99, 51, 50, 55, 99, 49, 52, 101, 50, 101, 49, 97, 55, 50, 98, 97, 51, 52, 101, 101, 98, 52, 53, 50, 102, 51, 55, 52, 53, 56, 98, 50, 48, 57, 101, 100, 54, 51, 97, 50, 57, 52, 100, 57, 57, 57, 98, 52, 99, 56, 54, 54, 55, 53, 57, 56, 50]⟩
def nilT : ByteArray := ⟨#[54, 57, 50, 49, 55, 97, 51, 48, 55, 57, 57, 48, 56, 48, 57, 52, 101, 49, 49, 49, 50, 49, 100, 48, 52, 50, 51, 53, 52, 97, 55, 99, 49, 102, 53, 53, 98, 54, 52, 56, 50, 99, 97, 49, 97, 53, 49, 101, 49, 98, 50, 53, 48, 100, 102, 100, 49, 101, 100, 48, 101, 101, 102, 57]⟩
theorem abc_hex : hexB (sumF [97, 98, 99]) = abcT := by rw [hexB, strL_eq]; kernel_rfl
theorem nil_hex : hexB (sumF []) = nilT := by rw [hexB, strL_eq]; kernel_rfl
theorem sum_by (b : List Nat) : By 32 (sumF b) := ⟨endL_len _, fun i => endL_lt _ i⟩
theorem abc_sl (w : World) (fr : Nat × Nat) : SlB (w.alloc (.cells #[.int .u8 97, .int .u8 98, .int .u8 99] 5 fr)) (some ⟨w.heap.size, 0, none⟩) [97, 98, 99] := fun _ => by
  refine ⟨w.heap.size, 0, rfl, fun j u hu => ?_⟩
  have h := heap_alloc_new w (.cells #[.int .u8 97, .int .u8 98, .int .u8 99] 5 fr)
  rw [Nat.zero_add, cell_of_row _ _ j _ _ _ h, ← hu]
  simp [sl8]

set_option maxRecDepth 20000 in
set_option maxHeartbeats 1600000 in
theorem sure_any (w : World) (hT : Tab w) (hgl : 3 ≤ w.heap.size) :
    Calls Tryd.prog 7 #[] w fun e w' => e = .returned (.bool true) ∧ Below w.heap.size w w' := by
  have kc := fun (w : World) (C : Array Value) (n c : Nat) => Lib.run_convert_bytes_const (P := Tryd.prog) w 22 5 C n c Tryd.underlying22 Tryd.underlying5
  go_enter Tryd.func7, Tryd.ntmps7
  go_wp2_with fail
  have hb0 : Below w.heap.size w (w.alloc (.cells #[.int .u8 97, .int .u8 98, .int .u8 99] 5 (3, 4))) := (Below.refl _ w).alloc (Nat.le_refl _) _
  have hs0 := abc_sl w (3, 4)
  have hT0 : Tab (w.alloc (.cells #[.int .u8 97, .int .u8 98, .int .u8 99] 5 (3, 4))) := hT.frm ((Frm.refl [] w).alloc _) (by simp)
  generalize w.alloc (.cells #[.int .u8 97, .int .u8 98, .int .u8 99] 5 (3, 4)) = W0 at *
  have hz0 := hb0.size
  refine (sum_any _ 3 [97, 98, 99] W0 hT0 (by omega) hs0 (fun i => by rcases i with _ | _ | _ | _ | i <;> simp) (by simp) (by simp)).mono ?_
  rintro e W1 ⟨rfl, hb1⟩
  have hb1' := Below.transS hb0 hb1
  go_wp2_with fail
  refine (text_any _ W1 (sum_by _)).mono ?_
  rintro e W2 ⟨rfl, hb2⟩
  have hb2' := Below.transS hb1' hb2
  have hT2 : Tab W2 := hT.frm (Frm.ofBelow (S := []) hb2') (by simp)
  have hz2 := hb2'.size
  rw [abc_hex]
  unfold abcT
  clear hb0 hs0 hT0 hb1 hb1' hb2 hz0
  go_wp2_with fail
  refine (sum_any none 0 [] W2 hT2 (by omega) (SlB.nil _ _) (by simp) (by simp) (by simp)).mono ?_
  rintro e W3 ⟨rfl, hb3⟩
  have hb3' := Below.transS hb2' hb3
  go_wp2_with fail
  refine (text_any _ W3 (sum_by _)).mono ?_
  rintro e W4 ⟨rfl, hb4⟩
  have hb4' := Below.transS hb3' hb4
  rw [nil_hex]
  unfold nilT
  go_wp2
  go_ret
  exact ⟨rfl, hb4'⟩
end Go.Proofs.YtcileagccdonfaaDoor
