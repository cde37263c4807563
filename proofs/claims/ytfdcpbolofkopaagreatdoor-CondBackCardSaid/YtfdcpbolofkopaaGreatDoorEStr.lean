/- Bytes as a string. -/
import Derived.Test.YtfdcpbolofkopaaGreatDoorEKit
import Derived.Laws.IdiomStrings
import Derived.Lib.BufferRead
namespace Go.Proofs.YtfdcpbolofkopaaGreatDoor
open Go.RowKit

/-- n bytes z as a string. -/
def strB (z : Nat → Int) (n : Nat) : ByteArray := ⟨((List.range n).map fun j => UInt8.ofNat (z j).toNat).toArray⟩

theorem conv_any (ad : Option Addr) (n cap : Nat) (z : Nat → Int) (w : World) (hs : SlAt w ad n z) (hnil : ad = none → n = 0 ∧ cap = 0) :
    (convert 25 9 (.slice ad n cap)).run Tryz.prog w = .ok (.string (strB z n)) w := by
  cases ad with
  | none =>
    obtain ⟨rfl, rfl⟩ := hnil rfl
    exact Lib.run_convert_nil_bytes w 25 9 5 0 Tryz.underlying25 Tryz.underlying5 Tryz.underlying9
  | some a =>
    have h := run_convert_bytes_back (P := Tryz.prog) w 25 9 5 a cap ((List.range n).map fun j => UInt8.ofNat (z j).toNat) Tryz.underlying25 Tryz.underlying5 Tryz.underlying9 ?_
    · simpa [strB] using h
    · intro j hj
      simp at hj
      obtain ⟨b, off, e, hc⟩ := hs.2 (by omega)
      cases e
      have hz := hs.1 j hj
      rw [Addr.add_lit, hc j hj]
      simp
      omega
end Go.Proofs.YtfdcpbolofkopaaGreatDoor
