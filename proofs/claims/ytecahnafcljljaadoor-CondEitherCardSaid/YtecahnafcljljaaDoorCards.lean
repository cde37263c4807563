/-
  DERIVED. GIVEN WITH THE SEED: THE CARDS: each row of YtecahnafcljljaaDoorRows.lean that lists a variable, with what it lists TIED to the program's text (the seventh form; the later family's looks); each row that meets fmt, with fmt's text TOLD by the authors' own Lean function (tested against real Go, not proved from fmt's source: count such statements apart). THE CARD IS WHAT COUNTS. Prove the row's statement (the work); the ties are given (YtecahnafcljljaaDoorTie.lean); close each card by the builder's one call (the guide's Derived/Test/ToyasCard.lean, 'card_holds'). Laid BY PROGRAM, IN A SANDBOX (cutbox-door.mjs). By AI agents, Wed Nov 11 2026. No macro, syntax, notation, axiom, sorry.
-/
import Derived.Test.YtecahnafcljljaaDoorRows
import GoSem.ClaimSeven
namespace Go.Proofs.YtecahnafcljljaaDoor
namespace Rows

/-- THE TIED CARD OF 'bayoulaw04.CondOpens'. -/
def condOpensCard : Claim7 := { stood := { row := condOpensRow, standIns := [], harness := (true, "89cc9527dd803cd58413e4cf5a81435bc752e128f8c30fa75e88e9067c5bcce9"), looks := true }, kinds := [], alts := [], laidByText := true, laidKinds := [.handle, .data, .data], laidTests := true, laidLooks := .later }
def CondOpensCardSaid : Prop := Claim7.holds Tryd.pinned (.plain (OpenSpec.ofChange condOpensSpec)) condOpensCard

/-- THE TIED CARD OF 'bayoulaw04.CondMore'. -/
def condMoreCard : Claim7 := { stood := { row := condMoreRow, standIns := [], harness := (true, "89cc9527dd803cd58413e4cf5a81435bc752e128f8c30fa75e88e9067c5bcce9"), looks := true }, kinds := [], alts := [], laidByText := true, laidKinds := [.handle, .data, .data], laidTests := true, laidLooks := .later }
def CondMoreCardSaid : Prop := Claim7.holds Tryd.pinned (.plain (OpenSpec.ofChange condMoreSpec)) condMoreCard

/-- THE TIED CARD OF 'bayoulaw04.CondEither'. -/
def condEitherCard : Claim7 := { stood := { row := condEitherRow, standIns := [], harness := (true, "89cc9527dd803cd58413e4cf5a81435bc752e128f8c30fa75e88e9067c5bcce9"), looks := true }, kinds := [], alts := [], laidByText := true, laidKinds := [.handle, .data, .data], laidTests := true, laidLooks := .later }
def CondEitherCardSaid : Prop := Claim7.holds Tryd.pinned (.plain (OpenSpec.ofChange condEitherSpec)) condEitherCard

/-- THE SECOND FORM's CARD OF 'bayoulaw04.CondOpens'. -/
def condOpensUptoCard : Claim7 := { stood := { row := condOpensUptoRow, standIns := [], harness := (true, "89cc9527dd803cd58413e4cf5a81435bc752e128f8c30fa75e88e9067c5bcce9"), looks := true }, kinds := [], alts := [], laidByText := true, laidKinds := [.handle, .data, .data], laidTests := true, laidLooks := .later }
def CondOpensUptoCardSaid : Prop := Claim7.holds Tryd.pinned (.plain (OpenSpec.upto condOpensSpec)) condOpensUptoCard

/-- THE SECOND FORM's CARD OF 'bayoulaw04.CondMore'. -/
def condMoreUptoCard : Claim7 := { stood := { row := condMoreUptoRow, standIns := [], harness := (true, "89cc9527dd803cd58413e4cf5a81435bc752e128f8c30fa75e88e9067c5bcce9"), looks := true }, kinds := [], alts := [], laidByText := true, laidKinds := [.handle, .data, .data], laidTests := true, laidLooks := .later }
def CondMoreUptoCardSaid : Prop := Claim7.holds Tryd.pinned (.plain (OpenSpec.upto condMoreSpec)) condMoreUptoCard

/-- THE SECOND FORM's CARD OF 'bayoulaw04.CondEither'. -/
def condEitherUptoCard : Claim7 := { stood := { row := condEitherUptoRow, standIns := [], harness := (true, "89cc9527dd803cd58413e4cf5a81435bc752e128f8c30fa75e88e9067c5bcce9"), looks := true }, kinds := [], alts := [], laidByText := true, laidKinds := [.handle, .data, .data], laidTests := true, laidLooks := .later }
def CondEitherUptoCardSaid : Prop := Claim7.holds Tryd.pinned (.plain (OpenSpec.upto condEitherSpec)) condEitherUptoCard
end Rows
end Go.Proofs.YtecahnafcljljaaDoor
