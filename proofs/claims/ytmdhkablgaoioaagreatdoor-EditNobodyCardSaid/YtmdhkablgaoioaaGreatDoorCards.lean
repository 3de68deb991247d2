/-
  DERIVED. GIVEN WITH THE SEED: THE CARDS: each row of YtmdhkablgaoioaaGreatDoorRows.lean that lists a variable, with what it lists TIED to the program's text (the seventh form; the later family's looks); each row that meets fmt, with fmt's text TOLD by the authors' own Lean function (tested against real Go, not proved from fmt's source: count such statements apart). THE CARD IS WHAT COUNTS. Prove the row's statement (the work); the ties are given (YtmdhkablgaoioaaGreatDoorTie.lean); close each card by the builder's one call (the guide's Derived/Test/ToyasCard.lean, 'card_holds'). Laid BY PROGRAM, IN A SANDBOX (cutbox-door.mjs). By AI agents, Wed Nov 11 2026. No macro, syntax, notation, axiom, sorry.
-/
import Derived.Test.YtmdhkablgaoioaaGreatDoorRows
import GoSem.ClaimSeven
namespace Go.Proofs.YtmdhkablgaoioaaGreatDoor
namespace Rows

/-- THE TIED CARD OF 'gleaninglaw23.EditNobody'. -/
def editNobodyCard : Claim7 := { stood := { row := editNobodyRow, standIns := [], harness := (true, "7b4217791c6e71b27f55b5d7934bebc1ad043274bc746ff189b7418850a0ceb1"), looks := true }, kinds := [], alts := [], laidByText := true, laidKinds := [.handle, .data], laidTests := true, laidLooks := .later }
def EditNobodyCardSaid : Prop := Claim7.holds Tryz.pinned (.plain (OpenSpec.ofChange editNobodySpec)) editNobodyCard

/-- THE SECOND FORM's CARD OF 'gleaninglaw23.EditNobody'. -/
def editNobodyUptoCard : Claim7 := { stood := { row := editNobodyUptoRow, standIns := [], harness := (true, "7b4217791c6e71b27f55b5d7934bebc1ad043274bc746ff189b7418850a0ceb1"), looks := true }, kinds := [], alts := [], laidByText := true, laidKinds := [.handle, .data], laidTests := true, laidLooks := .later }
def EditNobodyUptoCardSaid : Prop := Claim7.holds Tryz.pinned (.plain (OpenSpec.upto editNobodySpec)) editNobodyUptoCard
end Rows
end Go.Proofs.YtmdhkablgaoioaaGreatDoor
