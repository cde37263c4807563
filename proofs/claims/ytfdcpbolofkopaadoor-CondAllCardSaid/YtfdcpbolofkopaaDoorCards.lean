/-
  DERIVED. GIVEN WITH THE SEED: THE CARDS: each row of YtfdcpbolofkopaaDoorRows.lean that lists a variable, with what it lists TIED to the program's text (the seventh form; the later family's looks); each row that meets fmt, with fmt's text TOLD by the authors' own Lean function (tested against real Go, not proved from fmt's source: count such statements apart). THE CARD IS WHAT COUNTS. Prove the row's statement (the work); the ties are given (YtfdcpbolofkopaaDoorTie.lean); close each card by the builder's one call (the guide's Derived/Test/ToyasCard.lean, 'card_holds'). Laid BY PROGRAM, IN A SANDBOX (cutbox-door.mjs). By AI agents, Wed Nov 11 2026. No macro, syntax, notation, axiom, sorry.
-/
import Derived.Test.YtfdcpbolofkopaaDoorRows
import GoSem.ClaimSeven
namespace Go.Proofs.YtfdcpbolofkopaaDoor
namespace Rows

/-- THE TIED CARD OF 'bayoulaw04.CondAll'. -/
def condAllCard : Claim7 := { stood := { row := condAllRow, standIns := [], harness := (true, "7e1b4bb444f6b2b515f883c4b01cfc46d3aebc7f84485203aa4c035fa73f3372"), looks := true }, kinds := [], alts := [], laidByText := true, laidKinds := [.handle, .data, .data], laidTests := true, laidLooks := .later }
def CondAllCardSaid : Prop := Claim7.holds Tryd.pinned (.plain (OpenSpec.ofChange condAllSpec)) condAllCard

/-- THE TIED CARD OF 'bayoulaw04.CondChecks'. -/
def condChecksCard : Claim7 := { stood := { row := condChecksRow, standIns := [], harness := (true, "7e1b4bb444f6b2b515f883c4b01cfc46d3aebc7f84485203aa4c035fa73f3372"), looks := true }, kinds := [], alts := [], laidByText := true, laidKinds := [.handle, .data, .data], laidTests := true, laidLooks := .later }
def CondChecksCardSaid : Prop := Claim7.holds Tryd.pinned (.plain (OpenSpec.ofChange condChecksSpec)) condChecksCard

/-- THE SECOND FORM's CARD OF 'bayoulaw04.CondAll'. -/
def condAllUptoCard : Claim7 := { stood := { row := condAllUptoRow, standIns := [], harness := (true, "7e1b4bb444f6b2b515f883c4b01cfc46d3aebc7f84485203aa4c035fa73f3372"), looks := true }, kinds := [], alts := [], laidByText := true, laidKinds := [.handle, .data, .data], laidTests := true, laidLooks := .later }
def CondAllUptoCardSaid : Prop := Claim7.holds Tryd.pinned (.plain (OpenSpec.upto condAllSpec)) condAllUptoCard

/-- THE SECOND FORM's CARD OF 'bayoulaw04.CondChecks'. -/
def condChecksUptoCard : Claim7 := { stood := { row := condChecksUptoRow, standIns := [], harness := (true, "7e1b4bb444f6b2b515f883c4b01cfc46d3aebc7f84485203aa4c035fa73f3372"), looks := true }, kinds := [], alts := [], laidByText := true, laidKinds := [.handle, .data, .data], laidTests := true, laidLooks := .later }
def CondChecksUptoCardSaid : Prop := Claim7.holds Tryd.pinned (.plain (OpenSpec.upto condChecksSpec)) condChecksUptoCard
end Rows
end Go.Proofs.YtfdcpbolofkopaaDoor
