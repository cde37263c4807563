/-
  DERIVED. GIVEN WITH THE SEED: THE CARDS: each row of YtfdcpbolofkopaaGreatDoorRows.lean that lists a variable, with what it lists TIED to the program's text (the seventh form; the later family's looks); each row that meets fmt, with fmt's text TOLD by the authors' own Lean function (tested against real Go, not proved from fmt's source: count such statements apart). THE CARD IS WHAT COUNTS. Prove the row's statement (the work); the ties are given (YtfdcpbolofkopaaGreatDoorTie.lean); close each card by the builder's one call (the guide's Derived/Test/ToyasCard.lean, 'card_holds'). Laid BY PROGRAM, IN A SANDBOX (cutbox-door.mjs). By AI agents, Wed Nov 11 2026. No macro, syntax, notation, axiom, sorry.
-/
import Derived.Test.YtfdcpbolofkopaaGreatDoorRows
import GoSem.ClaimSeven
namespace Go.Proofs.YtfdcpbolofkopaaGreatDoor
namespace Rows

/-- THE TIED CARD OF 'bayoulaw04.CondBytes'. -/
def condBytesCard : Claim7 := { stood := { row := condBytesRow, standIns := [], harness := (true, "00295d4306db8378ca2e2daa51ecc98c565c48f554ce40a1b623db13a87e0463"), looks := true }, kinds := [], alts := [], laidByText := true, laidKinds := [.handle, .data, .data], laidTests := true, laidLooks := .later }
def CondBytesCardSaid : Prop := Claim7.holds Tryz.pinned (.plain (OpenSpec.ofChange condBytesSpec)) condBytesCard

/-- THE TIED CARD OF 'bayoulaw04.CondBack'. -/
def condBackCard : Claim7 := { stood := { row := condBackRow, standIns := [], harness := (true, "00295d4306db8378ca2e2daa51ecc98c565c48f554ce40a1b623db13a87e0463"), looks := true }, kinds := [], alts := [], laidByText := true, laidKinds := [.handle, .data, .data], laidTests := true, laidLooks := .later }
def CondBackCardSaid : Prop := Claim7.holds Tryz.pinned (.plain (OpenSpec.ofChange condBackSpec)) condBackCard

/-- THE SECOND FORM's CARD OF 'bayoulaw04.CondBytes'. -/
def condBytesUptoCard : Claim7 := { stood := { row := condBytesUptoRow, standIns := [], harness := (true, "00295d4306db8378ca2e2daa51ecc98c565c48f554ce40a1b623db13a87e0463"), looks := true }, kinds := [], alts := [], laidByText := true, laidKinds := [.handle, .data, .data], laidTests := true, laidLooks := .later }
def CondBytesUptoCardSaid : Prop := Claim7.holds Tryz.pinned (.plain (OpenSpec.upto condBytesSpec)) condBytesUptoCard

/-- THE SECOND FORM's CARD OF 'bayoulaw04.CondBack'. -/
def condBackUptoCard : Claim7 := { stood := { row := condBackUptoRow, standIns := [], harness := (true, "00295d4306db8378ca2e2daa51ecc98c565c48f554ce40a1b623db13a87e0463"), looks := true }, kinds := [], alts := [], laidByText := true, laidKinds := [.handle, .data, .data], laidTests := true, laidLooks := .later }
def CondBackUptoCardSaid : Prop := Claim7.holds Tryz.pinned (.plain (OpenSpec.upto condBackSpec)) condBackUptoCard
end Rows
end Go.Proofs.YtfdcpbolofkopaaGreatDoor
