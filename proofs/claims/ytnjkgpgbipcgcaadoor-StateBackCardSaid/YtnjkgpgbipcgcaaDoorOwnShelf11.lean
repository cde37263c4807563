/- Bytes as a string. -/
import Derived.Test.YtnjkgpgbipcgcaaDoorOwnShelf04
import Derived.Laws.IdiomStrings
import Derived.Lib.BufferRead
namespace Go.Proofs.YtnjkgpgbipcgcaaDoor
open Go.RowKit

/-- n bytes z as a string. -/
def strB (z : Nat → Int) (n : Nat) : ByteArray := ⟨((List.range n).map fun j => UInt8.ofNat (z j).toNat).toArray⟩

theorem conv_any (ad : Option Addr) (n cap : Nat) (z : Nat → Int) (w : World) (hs : SlAt w ad n z) (hnil : ad = none → n = 0 ∧ cap = 0) :
    (convert 37 9 (.slice ad n cap)).run Tryd.prog w = .ok (.string (strB z n)) w := by
  cases ad with
  | none =>
    obtain ⟨rfl, rfl⟩ := hnil rfl
    exact Lib.run_convert_nil_bytes w 37 9 5 0 Tryd.underlying37 Tryd.underlying5 Tryd.underlying9
  | some a =>
    have h := run_convert_bytes_back (P := Tryd.prog) w 37 9 5 a cap ((List.range n).map fun j => UInt8.ofNat (z j).toNat) Tryd.underlying37 Tryd.underlying5 Tryd.underlying9 ?_
    · simpa [strB] using h
    · intro j hj
      simp at hj
      obtain ⟨b, off, e, hc⟩ := hs.2 (by omega)
      cases e
      have hz := hs.1 j hj
      rw [Addr.add_lit, hc j hj]
      simp
      omega
end Go.Proofs.YtnjkgpgbipcgcaaDoor
