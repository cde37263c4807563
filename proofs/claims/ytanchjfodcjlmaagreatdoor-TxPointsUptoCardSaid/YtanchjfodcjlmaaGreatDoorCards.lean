/-
  DERIVED. GIVEN WITH THE SEED: THE CARDS: each row of YtanchjfodcjlmaaGreatDoorRows.lean that lists a variable, with what it lists TIED to the program's text (the seventh form; the later family's looks); each row that meets fmt, with fmt's text TOLD by the authors' own Lean function (tested against real Go, not proved from fmt's source: count such statements apart). THE CARD IS WHAT COUNTS. Prove the row's statement (the work); the ties are given (YtanchjfodcjlmaaGreatDoorTie.lean); close each card by the builder's one call (the guide's Derived/Test/ToyasCard.lean, 'card_holds'). Laid BY PROGRAM, IN A SANDBOX (cutbox-door.mjs). By AI agents, Wed Nov 11 2026. No macro, syntax, notation, axiom, sorry.
-/
import Derived.Test.YtanchjfodcjlmaaGreatDoorRows
import GoSem.ClaimSeven
namespace Go.Proofs.YtanchjfodcjlmaaGreatDoor
namespace Rows

/-- THE TIED CARD OF 'bayoulaw05.TxChecks'. -/
def txChecksCard : Claim7 := { stood := { row := txChecksRow, standIns := [], harness := (true, "643f1fe02c8f929c7a84b4fcf0232fca5f07e9b1986e6fe4eb27bc80a62c6dad"), looks := true }, kinds := [], alts := [], laidByText := true, laidKinds := [.handle, .data, .data], laidTests := true, laidLooks := .later }
def TxChecksCardSaid : Prop := Claim7.holds Tryz.pinned (.plain (OpenSpec.ofChange txChecksSpec)) txChecksCard

/-- THE TIED CARD OF 'bayoulaw05.TxPoints'. -/
def txPointsCard : Claim7 := { stood := { row := txPointsRow, standIns := [], harness := (true, "643f1fe02c8f929c7a84b4fcf0232fca5f07e9b1986e6fe4eb27bc80a62c6dad"), looks := true }, kinds := [], alts := [], laidByText := true, laidKinds := [.handle, .data, .data], laidTests := true, laidLooks := .later }
def TxPointsCardSaid : Prop := Claim7.holds Tryz.pinned (.plain (OpenSpec.ofChange txPointsSpec)) txPointsCard

/-- THE TIED CARD OF 'bayoulaw05.TxSecrets'. -/
def txSecretsCard : Claim7 := { stood := { row := txSecretsRow, standIns := [], harness := (true, "643f1fe02c8f929c7a84b4fcf0232fca5f07e9b1986e6fe4eb27bc80a62c6dad"), looks := true }, kinds := [], alts := [], laidByText := true, laidKinds := [.handle, .data, .data], laidTests := true, laidLooks := .later }
def TxSecretsCardSaid : Prop := Claim7.holds Tryz.pinned (.plain (OpenSpec.ofChange txSecretsSpec)) txSecretsCard

/-- THE SECOND FORM's CARD OF 'bayoulaw05.TxChecks'. -/
def txChecksUptoCard : Claim7 := { stood := { row := txChecksUptoRow, standIns := [], harness := (true, "643f1fe02c8f929c7a84b4fcf0232fca5f07e9b1986e6fe4eb27bc80a62c6dad"), looks := true }, kinds := [], alts := [], laidByText := true, laidKinds := [.handle, .data, .data], laidTests := true, laidLooks := .later }
def TxChecksUptoCardSaid : Prop := Claim7.holds Tryz.pinned (.plain (OpenSpec.upto txChecksSpec)) txChecksUptoCard

/-- THE SECOND FORM's CARD OF 'bayoulaw05.TxPoints'. -/
def txPointsUptoCard : Claim7 := { stood := { row := txPointsUptoRow, standIns := [], harness := (true, "643f1fe02c8f929c7a84b4fcf0232fca5f07e9b1986e6fe4eb27bc80a62c6dad"), looks := true }, kinds := [], alts := [], laidByText := true, laidKinds := [.handle, .data, .data], laidTests := true, laidLooks := .later }
def TxPointsUptoCardSaid : Prop := Claim7.holds Tryz.pinned (.plain (OpenSpec.upto txPointsSpec)) txPointsUptoCard

/-- THE SECOND FORM's CARD OF 'bayoulaw05.TxSecrets'. -/
def txSecretsUptoCard : Claim7 := { stood := { row := txSecretsUptoRow, standIns := [], harness := (true, "643f1fe02c8f929c7a84b4fcf0232fca5f07e9b1986e6fe4eb27bc80a62c6dad"), looks := true }, kinds := [], alts := [], laidByText := true, laidKinds := [.handle, .data, .data], laidTests := true, laidLooks := .later }
def TxSecretsUptoCardSaid : Prop := Claim7.holds Tryz.pinned (.plain (OpenSpec.upto txSecretsSpec)) txSecretsUptoCard
end Rows
end Go.Proofs.YtanchjfodcjlmaaGreatDoor
