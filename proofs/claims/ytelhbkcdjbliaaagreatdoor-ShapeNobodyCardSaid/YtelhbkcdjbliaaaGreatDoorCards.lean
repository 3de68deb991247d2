/-
  DERIVED. GIVEN WITH THE SEED: THE CARDS: each row of YtelhbkcdjbliaaaGreatDoorRows.lean that lists a variable, with what it lists TIED to the program's text (the seventh form; the later family's looks); each row that meets fmt, with fmt's text TOLD by the authors' own Lean function (tested against real Go, not proved from fmt's source: count such statements apart). THE CARD IS WHAT COUNTS. Prove the row's statement (the work); the ties are given (YtelhbkcdjbliaaaGreatDoorTie.lean); close each card by the builder's one call (the guide's Derived/Test/ToyasCard.lean, 'card_holds'). Laid BY PROGRAM, IN A SANDBOX (cutbox-door.mjs). By AI agents, Wed Nov 11 2026. No macro, syntax, notation, axiom, sorry.
-/
import Derived.Test.YtelhbkcdjbliaaaGreatDoorRows
import GoSem.ClaimSeven
namespace Go.Proofs.YtelhbkcdjbliaaaGreatDoor
namespace Rows

/-- THE TIED CARD OF 'gleaninglaw34.ShapeNobody'. -/
def shapeNobodyCard : Claim7 := { stood := { row := shapeNobodyRow, standIns := [], harness := (true, "6e690921708755555dfc02b54c550748636ad72e444a816da40fddd2f3ef3f25"), looks := true }, kinds := [], alts := [], laidByText := true, laidKinds := [.handle, .data], laidTests := true, laidLooks := .later }
def ShapeNobodyCardSaid : Prop := Claim7.holds Tryz.pinned (.plain (OpenSpec.ofChange shapeNobodySpec)) shapeNobodyCard

/-- THE SECOND FORM's CARD OF 'gleaninglaw34.ShapeNobody'. -/
def shapeNobodyUptoCard : Claim7 := { stood := { row := shapeNobodyUptoRow, standIns := [], harness := (true, "6e690921708755555dfc02b54c550748636ad72e444a816da40fddd2f3ef3f25"), looks := true }, kinds := [], alts := [], laidByText := true, laidKinds := [.handle, .data], laidTests := true, laidLooks := .later }
def ShapeNobodyUptoCardSaid : Prop := Claim7.holds Tryz.pinned (.plain (OpenSpec.upto shapeNobodySpec)) shapeNobodyUptoCard
end Rows
end Go.Proofs.YtelhbkcdjbliaaaGreatDoor
