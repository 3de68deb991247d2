/-
  DERIVED. GIVEN WITH THE SEED: THE CARDS: each row of YtphohngnjdaacaaGreatDoorRows.lean that lists a variable, with what it lists TIED to the program's text (the seventh form; the later family's looks); each row that meets fmt, with fmt's text TOLD by the authors' own Lean function (tested against real Go, not proved from fmt's source: count such statements apart). THE CARD IS WHAT COUNTS. Prove the row's statement (the work); the ties are given (YtphohngnjdaacaaGreatDoorTie.lean); close each card by the builder's one call (the guide's Derived/Test/ToyasCard.lean, 'card_holds'). Laid BY PROGRAM, IN A SANDBOX (cutbox-door.mjs). By AI agents, Wed Nov 11 2026. No macro, syntax, notation, axiom, sorry.
-/
import Derived.Test.YtphohngnjdaacaaGreatDoorRows
import GoSem.ClaimSeven
namespace Go.Proofs.YtphohngnjdaacaaGreatDoor
namespace Rows

/-- THE TIED CARD OF 'gleaninglaw25.WriteNobody'. -/
def writeNobodyCard : Claim7 := { stood := { row := writeNobodyRow, standIns := [], harness := (true, "cf34241baa073dcffa77b83e7696b9e607abe2f52c403d2fa4622c1ff2d4986d"), looks := true }, kinds := [], alts := [], laidByText := true, laidKinds := [.handle, .data], laidTests := true, laidLooks := .later }
def WriteNobodyCardSaid : Prop := Claim7.holds Tryz.pinned (.plain (OpenSpec.ofChange writeNobodySpec)) writeNobodyCard

/-- THE SECOND FORM's CARD OF 'gleaninglaw25.WriteNobody'. -/
def writeNobodyUptoCard : Claim7 := { stood := { row := writeNobodyUptoRow, standIns := [], harness := (true, "cf34241baa073dcffa77b83e7696b9e607abe2f52c403d2fa4622c1ff2d4986d"), looks := true }, kinds := [], alts := [], laidByText := true, laidKinds := [.handle, .data], laidTests := true, laidLooks := .later }
def WriteNobodyUptoCardSaid : Prop := Claim7.holds Tryz.pinned (.plain (OpenSpec.upto writeNobodySpec)) writeNobodyUptoCard
end Rows
end Go.Proofs.YtphohngnjdaacaaGreatDoor
