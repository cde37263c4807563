/-
  DERIVED. GIVEN WITH THE SEED: THE CARDS: each row of YtbehkajfckadfaaGreatDoorRows.lean that lists a variable, with what it lists TIED to the program's text (the seventh form; the later family's looks); each row that meets fmt, with fmt's text TOLD by the authors' own Lean function (tested against real Go, not proved from fmt's source: count such statements apart). THE CARD IS WHAT COUNTS. Prove the row's statement (the work); the ties are given (YtbehkajfckadfaaGreatDoorTie.lean); close each card by the builder's one call (the guide's Derived/Test/ToyasCard.lean, 'card_holds'). Laid BY PROGRAM, IN A SANDBOX (cutbox-door.mjs). By AI agents, Wed Nov 11 2026. No macro, syntax, notation, axiom, sorry.
-/
import Derived.Test.YtbehkajfckadfaaGreatDoorRows
import GoSem.ClaimSeven
namespace Go.Proofs.YtbehkajfckadfaaGreatDoor
namespace Rows

/-- THE TIED CARD OF 'bayoulaw05.TxChecks'. -/
def txChecksCard : Claim7 := { stood := { row := txChecksRow, standIns := [], harness := (true, "5464d941eca7cb30f30e9a92c69af010ccb311b14aa7df3c7099a42e110c1326"), looks := true }, kinds := [], alts := [], laidByText := true, laidKinds := [.handle, .data, .data], laidTests := true, laidLooks := .later }
def TxChecksCardSaid : Prop := Claim7.holds Tryz.pinned (.plain (OpenSpec.ofChange txChecksSpec)) txChecksCard

/-- THE TIED CARD OF 'bayoulaw05.TxSecrets'. -/
def txSecretsCard : Claim7 := { stood := { row := txSecretsRow, standIns := [], harness := (true, "5464d941eca7cb30f30e9a92c69af010ccb311b14aa7df3c7099a42e110c1326"), looks := true }, kinds := [], alts := [], laidByText := true, laidKinds := [.handle, .data, .data], laidTests := true, laidLooks := .later }
def TxSecretsCardSaid : Prop := Claim7.holds Tryz.pinned (.plain (OpenSpec.ofChange txSecretsSpec)) txSecretsCard

/-- THE TIED CARD OF 'bayoulaw05.TxOrder'. -/
def txOrderCard : Claim7 := { stood := { row := txOrderRow, standIns := [], harness := (true, "5464d941eca7cb30f30e9a92c69af010ccb311b14aa7df3c7099a42e110c1326"), looks := true }, kinds := [], alts := [], laidByText := true, laidKinds := [.handle, .data, .data], laidTests := true, laidLooks := .later }
def TxOrderCardSaid : Prop := Claim7.holds Tryz.pinned (.plain (OpenSpec.ofChange txOrderSpec)) txOrderCard

/-- THE SECOND FORM's CARD OF 'bayoulaw05.TxChecks'. -/
def txChecksUptoCard : Claim7 := { stood := { row := txChecksUptoRow, standIns := [], harness := (true, "5464d941eca7cb30f30e9a92c69af010ccb311b14aa7df3c7099a42e110c1326"), looks := true }, kinds := [], alts := [], laidByText := true, laidKinds := [.handle, .data, .data], laidTests := true, laidLooks := .later }
def TxChecksUptoCardSaid : Prop := Claim7.holds Tryz.pinned (.plain (OpenSpec.upto txChecksSpec)) txChecksUptoCard

/-- THE SECOND FORM's CARD OF 'bayoulaw05.TxSecrets'. -/
def txSecretsUptoCard : Claim7 := { stood := { row := txSecretsUptoRow, standIns := [], harness := (true, "5464d941eca7cb30f30e9a92c69af010ccb311b14aa7df3c7099a42e110c1326"), looks := true }, kinds := [], alts := [], laidByText := true, laidKinds := [.handle, .data, .data], laidTests := true, laidLooks := .later }
def TxSecretsUptoCardSaid : Prop := Claim7.holds Tryz.pinned (.plain (OpenSpec.upto txSecretsSpec)) txSecretsUptoCard

/-- THE SECOND FORM's CARD OF 'bayoulaw05.TxOrder'. -/
def txOrderUptoCard : Claim7 := { stood := { row := txOrderUptoRow, standIns := [], harness := (true, "5464d941eca7cb30f30e9a92c69af010ccb311b14aa7df3c7099a42e110c1326"), looks := true }, kinds := [], alts := [], laidByText := true, laidKinds := [.handle, .data, .data], laidTests := true, laidLooks := .later }
def TxOrderUptoCardSaid : Prop := Claim7.holds Tryz.pinned (.plain (OpenSpec.upto txOrderSpec)) txOrderUptoCard
end Rows
end Go.Proofs.YtbehkajfckadfaaGreatDoor
