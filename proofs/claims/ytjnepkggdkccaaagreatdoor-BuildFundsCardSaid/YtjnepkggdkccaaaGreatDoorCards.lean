/-
  DERIVED. GIVEN WITH THE SEED: THE CARDS: each row of YtjnepkggdkccaaaGreatDoorRows.lean that lists a variable, with what it lists TIED to the program's text (the seventh form; the later family's looks); each row that meets fmt, with fmt's text TOLD by the authors' own Lean function (tested against real Go, not proved from fmt's source: count such statements apart). THE CARD IS WHAT COUNTS. Prove the row's statement (the work); the ties are given (YtjnepkggdkccaaaGreatDoorTie.lean); close each card by the builder's one call (the guide's Derived/Test/ToyasCard.lean, 'card_holds'). Laid BY PROGRAM, IN A SANDBOX (cutbox-door.mjs). By AI agents, Wed Nov 11 2026. No macro, syntax, notation, axiom, sorry.
-/
import Derived.Test.YtjnepkggdkccaaaGreatDoorRows
import GoSem.ClaimSeven
namespace Go.Proofs.YtjnepkggdkccaaaGreatDoor
namespace Rows

/-- THE TIED CARD OF 'bayoulaw14.BuildCommits'. -/
def buildCommitsCard : Claim7 := { stood := { row := buildCommitsRow, standIns := [], harness := (true, "2b4e23b487c60406ae3301b7c2faa14e83f40c462612fcc57b49cb03e22239d8"), looks := true }, kinds := [], alts := [], laidByText := true, laidKinds := [.handle], laidTests := true, laidLooks := .later }
def BuildCommitsCardSaid : Prop := Claim7.holds Tryz.pinned (.plain (OpenSpec.ofChange buildCommitsSpec)) buildCommitsCard

/-- THE TIED CARD OF 'bayoulaw14.BuildFunds'. -/
def buildFundsCard : Claim7 := { stood := { row := buildFundsRow, standIns := [], harness := (true, "2b4e23b487c60406ae3301b7c2faa14e83f40c462612fcc57b49cb03e22239d8"), looks := true }, kinds := [], alts := [], laidByText := true, laidKinds := [.handle], laidTests := true, laidLooks := .later }
def BuildFundsCardSaid : Prop := Claim7.holds Tryz.pinned (.plain (OpenSpec.ofChange buildFundsSpec)) buildFundsCard

/-- THE TIED CARD OF 'bayoulaw14.BuildPlaces'. -/
def buildPlacesCard : Claim7 := { stood := { row := buildPlacesRow, standIns := [], harness := (true, "2b4e23b487c60406ae3301b7c2faa14e83f40c462612fcc57b49cb03e22239d8"), looks := true }, kinds := [], alts := [], laidByText := true, laidKinds := [.handle], laidTests := true, laidLooks := .later }
def BuildPlacesCardSaid : Prop := Claim7.holds Tryz.pinned (.plain (OpenSpec.ofChange buildPlacesSpec)) buildPlacesCard

/-- THE TIED CARD OF 'bayoulaw14.BuildCloses'. -/
def buildClosesCard : Claim7 := { stood := { row := buildClosesRow, standIns := [], harness := (true, "2b4e23b487c60406ae3301b7c2faa14e83f40c462612fcc57b49cb03e22239d8"), looks := true }, kinds := [], alts := [], laidByText := true, laidKinds := [.handle], laidTests := true, laidLooks := .later }
def BuildClosesCardSaid : Prop := Claim7.holds Tryz.pinned (.plain (OpenSpec.ofChange buildClosesSpec)) buildClosesCard

/-- THE SECOND FORM's CARD OF 'bayoulaw14.BuildCommits'. -/
def buildCommitsUptoCard : Claim7 := { stood := { row := buildCommitsUptoRow, standIns := [], harness := (true, "2b4e23b487c60406ae3301b7c2faa14e83f40c462612fcc57b49cb03e22239d8"), looks := true }, kinds := [], alts := [], laidByText := true, laidKinds := [.handle], laidTests := true, laidLooks := .later }
def BuildCommitsUptoCardSaid : Prop := Claim7.holds Tryz.pinned (.plain (OpenSpec.upto buildCommitsSpec)) buildCommitsUptoCard

/-- THE SECOND FORM's CARD OF 'bayoulaw14.BuildFunds'. -/
def buildFundsUptoCard : Claim7 := { stood := { row := buildFundsUptoRow, standIns := [], harness := (true, "2b4e23b487c60406ae3301b7c2faa14e83f40c462612fcc57b49cb03e22239d8"), looks := true }, kinds := [], alts := [], laidByText := true, laidKinds := [.handle], laidTests := true, laidLooks := .later }
def BuildFundsUptoCardSaid : Prop := Claim7.holds Tryz.pinned (.plain (OpenSpec.upto buildFundsSpec)) buildFundsUptoCard

/-- THE SECOND FORM's CARD OF 'bayoulaw14.BuildPlaces'. -/
def buildPlacesUptoCard : Claim7 := { stood := { row := buildPlacesUptoRow, standIns := [], harness := (true, "2b4e23b487c60406ae3301b7c2faa14e83f40c462612fcc57b49cb03e22239d8"), looks := true }, kinds := [], alts := [], laidByText := true, laidKinds := [.handle], laidTests := true, laidLooks := .later }
def BuildPlacesUptoCardSaid : Prop := Claim7.holds Tryz.pinned (.plain (OpenSpec.upto buildPlacesSpec)) buildPlacesUptoCard

/-- THE SECOND FORM's CARD OF 'bayoulaw14.BuildCloses'. -/
def buildClosesUptoCard : Claim7 := { stood := { row := buildClosesUptoRow, standIns := [], harness := (true, "2b4e23b487c60406ae3301b7c2faa14e83f40c462612fcc57b49cb03e22239d8"), looks := true }, kinds := [], alts := [], laidByText := true, laidKinds := [.handle], laidTests := true, laidLooks := .later }
def BuildClosesUptoCardSaid : Prop := Claim7.holds Tryz.pinned (.plain (OpenSpec.upto buildClosesSpec)) buildClosesUptoCard
end Rows
end Go.Proofs.YtjnepkggdkccaaaGreatDoor
