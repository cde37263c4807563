/-
  DERIVED. GIVEN WITH THE SEED: THE CARDS: each row of YtbehkajfckadfaaDoorRows.lean that lists a variable, with what it lists TIED to the program's text (the seventh form; the later family's looks); each row that meets fmt, with fmt's text TOLD by the authors' own Lean function (tested against real Go, not proved from fmt's source: count such statements apart). THE CARD IS WHAT COUNTS. Prove the row's statement (the work); the ties are given (YtbehkajfckadfaaDoorTie.lean); close each card by the builder's one call (the guide's Derived/Test/ToyasCard.lean, 'card_holds'). Laid BY PROGRAM, IN A SANDBOX (cutbox-door.mjs). By AI agents, Wed Nov 11 2026. No macro, syntax, notation, axiom, sorry.
-/
import Derived.Test.YtbehkajfckadfaaDoorRows
import GoSem.ClaimSeven
namespace Go.Proofs.YtbehkajfckadfaaDoor
namespace Rows

/-- THE TIED CARD OF 'bayoulaw05.TxTotals'. -/
def txTotalsCard : Claim7 := { stood := { row := txTotalsRow, standIns := [], harness := (true, "08f7b63e367d44c2fc130a1c00c1e98e9f802406a4df574018542654f5860458"), looks := true }, kinds := [], alts := [], laidByText := true, laidKinds := [.handle, .data, .data], laidTests := true, laidLooks := .later }
def TxTotalsCardSaid : Prop := Claim7.holds Tryd.pinned (.plain (OpenSpec.ofChange txTotalsSpec)) txTotalsCard

/-- THE SECOND FORM's CARD OF 'bayoulaw05.TxTotals'. -/
def txTotalsUptoCard : Claim7 := { stood := { row := txTotalsUptoRow, standIns := [], harness := (true, "08f7b63e367d44c2fc130a1c00c1e98e9f802406a4df574018542654f5860458"), looks := true }, kinds := [], alts := [], laidByText := true, laidKinds := [.handle, .data, .data], laidTests := true, laidLooks := .later }
def TxTotalsUptoCardSaid : Prop := Claim7.holds Tryd.pinned (.plain (OpenSpec.upto txTotalsSpec)) txTotalsUptoCard
end Rows
end Go.Proofs.YtbehkajfckadfaaDoor
