/-
  DERIVED. GIVEN WITH THE SEED: THE CARDS: each row of YtbeenjlojmmhfaaDoorRows.lean that lists a variable, with what it lists TIED to the program's text (the seventh form; the later family's looks); each row that meets fmt, with fmt's text TOLD by the authors' own Lean function (tested against real Go, not proved from fmt's source: count such statements apart). THE CARD IS WHAT COUNTS. Prove the row's statement (the work); the ties are given (YtbeenjlojmmhfaaDoorTie.lean); close each card by the builder's one call (the guide's Derived/Test/ToyasCard.lean, 'card_holds'). Laid BY PROGRAM, IN A SANDBOX (cutbox-door.mjs). By AI agents, Wed Nov 11 2026. No macro, syntax, notation, axiom, sorry.
-/
import Derived.Test.YtbeenjlojmmhfaaDoorRows
import GoSem.ClaimSeven
namespace Go.Proofs.YtbeenjlojmmhfaaDoor
namespace Rows

/-- THE TIED CARD OF 'bayoulaw13.StateMoves'. -/
def stateMovesCard : Claim7 := { stood := { row := stateMovesRow, standIns := [], harness := (true, "6a91276bf3ff1d0aad1d3edd75255ac785efad1d5095ebbd9ab804cbf95456df"), looks := true }, kinds := [], alts := [], laidByText := true, laidKinds := [.handle], laidTests := true, laidLooks := .later }
def StateMovesCardSaid : Prop := Claim7.holds Tryd.pinned (.plain (OpenSpec.ofChange stateMovesSpec)) stateMovesCard

/-- THE TIED CARD OF 'bayoulaw13.StateHolds'. -/
def stateHoldsCard : Claim7 := { stood := { row := stateHoldsRow, standIns := [], harness := (true, "6a91276bf3ff1d0aad1d3edd75255ac785efad1d5095ebbd9ab804cbf95456df"), looks := true }, kinds := [], alts := [], laidByText := true, laidKinds := [.handle], laidTests := true, laidLooks := .later }
def StateHoldsCardSaid : Prop := Claim7.holds Tryd.pinned (.plain (OpenSpec.ofChange stateHoldsSpec)) stateHoldsCard

/-- THE TIED CARD OF 'bayoulaw13.StateSizes'. -/
def stateSizesCard : Claim7 := { stood := { row := stateSizesRow, standIns := [], harness := (true, "6a91276bf3ff1d0aad1d3edd75255ac785efad1d5095ebbd9ab804cbf95456df"), looks := true }, kinds := [], alts := [], laidByText := true, laidKinds := [.handle], laidTests := true, laidLooks := .later }
def StateSizesCardSaid : Prop := Claim7.holds Tryd.pinned (.plain (OpenSpec.ofChange stateSizesSpec)) stateSizesCard

/-- THE TIED CARD OF 'bayoulaw13.StateReads'. -/
def stateReadsCard : Claim7 := { stood := { row := stateReadsRow, standIns := [], harness := (true, "6a91276bf3ff1d0aad1d3edd75255ac785efad1d5095ebbd9ab804cbf95456df"), looks := true }, kinds := [], alts := [], laidByText := true, laidKinds := [.handle], laidTests := true, laidLooks := .later }
def StateReadsCardSaid : Prop := Claim7.holds Tryd.pinned (.plain (OpenSpec.ofChange stateReadsSpec)) stateReadsCard

/-- THE SECOND FORM's CARD OF 'bayoulaw13.StateMoves'. -/
def stateMovesUptoCard : Claim7 := { stood := { row := stateMovesUptoRow, standIns := [], harness := (true, "6a91276bf3ff1d0aad1d3edd75255ac785efad1d5095ebbd9ab804cbf95456df"), looks := true }, kinds := [], alts := [], laidByText := true, laidKinds := [.handle], laidTests := true, laidLooks := .later }
def StateMovesUptoCardSaid : Prop := Claim7.holds Tryd.pinned (.plain (OpenSpec.upto stateMovesSpec)) stateMovesUptoCard

/-- THE SECOND FORM's CARD OF 'bayoulaw13.StateHolds'. -/
def stateHoldsUptoCard : Claim7 := { stood := { row := stateHoldsUptoRow, standIns := [], harness := (true, "6a91276bf3ff1d0aad1d3edd75255ac785efad1d5095ebbd9ab804cbf95456df"), looks := true }, kinds := [], alts := [], laidByText := true, laidKinds := [.handle], laidTests := true, laidLooks := .later }
def StateHoldsUptoCardSaid : Prop := Claim7.holds Tryd.pinned (.plain (OpenSpec.upto stateHoldsSpec)) stateHoldsUptoCard

/-- THE SECOND FORM's CARD OF 'bayoulaw13.StateSizes'. -/
def stateSizesUptoCard : Claim7 := { stood := { row := stateSizesUptoRow, standIns := [], harness := (true, "6a91276bf3ff1d0aad1d3edd75255ac785efad1d5095ebbd9ab804cbf95456df"), looks := true }, kinds := [], alts := [], laidByText := true, laidKinds := [.handle], laidTests := true, laidLooks := .later }
def StateSizesUptoCardSaid : Prop := Claim7.holds Tryd.pinned (.plain (OpenSpec.upto stateSizesSpec)) stateSizesUptoCard

/-- THE SECOND FORM's CARD OF 'bayoulaw13.StateReads'. -/
def stateReadsUptoCard : Claim7 := { stood := { row := stateReadsUptoRow, standIns := [], harness := (true, "6a91276bf3ff1d0aad1d3edd75255ac785efad1d5095ebbd9ab804cbf95456df"), looks := true }, kinds := [], alts := [], laidByText := true, laidKinds := [.handle], laidTests := true, laidLooks := .later }
def StateReadsUptoCardSaid : Prop := Claim7.holds Tryd.pinned (.plain (OpenSpec.upto stateReadsSpec)) stateReadsUptoCard
end Rows
end Go.Proofs.YtbeenjlojmmhfaaDoor
