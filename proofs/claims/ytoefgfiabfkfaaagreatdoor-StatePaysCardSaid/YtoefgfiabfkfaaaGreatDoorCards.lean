/-
  DERIVED. GIVEN WITH THE SEED: THE CARDS: each row of YtoefgfiabfkfaaaGreatDoorRows.lean that lists a variable, with what it lists TIED to the program's text (the seventh form; the later family's looks); each row that meets fmt, with fmt's text TOLD by the authors' own Lean function (tested against real Go, not proved from fmt's source: count such statements apart). THE CARD IS WHAT COUNTS. Prove the row's statement (the work); the ties are given (YtoefgfiabfkfaaaGreatDoorTie.lean); close each card by the builder's one call (the guide's Derived/Test/ToyasCard.lean, 'card_holds'). Laid BY PROGRAM, IN A SANDBOX (cutbox-door.mjs). By AI agents, Wed Nov 11 2026. No macro, syntax, notation, axiom, sorry.
-/
import Derived.Test.YtoefgfiabfkfaaaGreatDoorRows
import GoSem.ClaimSeven
namespace Go.Proofs.YtoefgfiabfkfaaaGreatDoor
namespace Rows

/-- THE TIED CARD OF 'bayoulaw13.StatePays'. -/
def statePaysCard : Claim7 := { stood := { row := statePaysRow, standIns := [], harness := (true, "3f6a7d084cdf372354c13ebb57d29dbf059c30ba8aa3d85cb27dd3683b62ff51"), looks := true }, kinds := [], alts := [], laidByText := true, laidKinds := [.handle, .data, .data], laidTests := true, laidLooks := .later }
def StatePaysCardSaid : Prop := Claim7.holds Tryz.pinned (.plain (OpenSpec.ofChange statePaysSpec)) statePaysCard

/-- THE SECOND FORM's CARD OF 'bayoulaw13.StatePays'. -/
def statePaysUptoCard : Claim7 := { stood := { row := statePaysUptoRow, standIns := [], harness := (true, "3f6a7d084cdf372354c13ebb57d29dbf059c30ba8aa3d85cb27dd3683b62ff51"), looks := true }, kinds := [], alts := [], laidByText := true, laidKinds := [.handle, .data, .data], laidTests := true, laidLooks := .later }
def StatePaysUptoCardSaid : Prop := Claim7.holds Tryz.pinned (.plain (OpenSpec.upto statePaysSpec)) statePaysUptoCard
end Rows
end Go.Proofs.YtoefgfiabfkfaaaGreatDoor
