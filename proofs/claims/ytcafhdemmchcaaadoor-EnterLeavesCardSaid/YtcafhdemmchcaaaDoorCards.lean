/-
  DERIVED. GIVEN WITH THE SEED: THE CARDS: each row of YtcafhdemmchcaaaDoorRows.lean that lists a variable, with what it lists TIED to the program's text (the seventh form; the later family's looks); each row that meets fmt, with fmt's text TOLD by the authors' own Lean function (tested against real Go, not proved from fmt's source: count such statements apart). THE CARD IS WHAT COUNTS. Prove the row's statement (the work); the ties are given (YtcafhdemmchcaaaDoorTie.lean); close each card by the builder's one call (the guide's Derived/Test/ToyasCard.lean, 'card_holds'). Laid BY PROGRAM, IN A SANDBOX (cutbox-door.mjs). By AI agents, Wed Nov 11 2026. No macro, syntax, notation, axiom, sorry.
-/
import Derived.Test.YtcafhdemmchcaaaDoorRows
import GoSem.ClaimSeven
namespace Go.Proofs.YtcafhdemmchcaaaDoor
namespace Rows

/-- THE TIED CARD OF 'gleaninglaw17.EnterPlays'. -/
def enterPlaysCard : Claim7 := { stood := { row := enterPlaysRow, standIns := [], harness := (true, "c4155e5141cbbb348fd21b7ff6569c62913f9b3f870bef43426f9ff05dff8b54"), looks := true }, kinds := [], alts := [], laidByText := true, laidKinds := [.handle, .data], laidTests := true, laidLooks := .later }
def EnterPlaysCardSaid : Prop := Claim7.holds Tryd.pinned (.plain (OpenSpec.ofChange enterPlaysSpec)) enterPlaysCard

/-- THE TIED CARD OF 'gleaninglaw17.EnterLeaves'. -/
def enterLeavesCard : Claim7 := { stood := { row := enterLeavesRow, standIns := [], harness := (true, "c4155e5141cbbb348fd21b7ff6569c62913f9b3f870bef43426f9ff05dff8b54"), looks := true }, kinds := [], alts := [], laidByText := true, laidKinds := [.handle, .data], laidTests := true, laidLooks := .later }
def EnterLeavesCardSaid : Prop := Claim7.holds Tryd.pinned (.plain (OpenSpec.ofChange enterLeavesSpec)) enterLeavesCard

/-- THE TIED CARD OF 'gleaninglaw17.EnterValues'. -/
def enterValuesCard : Claim7 := { stood := { row := enterValuesRow, standIns := [], harness := (true, "c4155e5141cbbb348fd21b7ff6569c62913f9b3f870bef43426f9ff05dff8b54"), looks := true }, kinds := [], alts := [], laidByText := true, laidKinds := [.handle, .data], laidTests := true, laidLooks := .later }
def EnterValuesCardSaid : Prop := Claim7.holds Tryd.pinned (.plain (OpenSpec.ofChange enterValuesSpec)) enterValuesCard

/-- THE SECOND FORM's CARD OF 'gleaninglaw17.EnterPlays'. -/
def enterPlaysUptoCard : Claim7 := { stood := { row := enterPlaysUptoRow, standIns := [], harness := (true, "c4155e5141cbbb348fd21b7ff6569c62913f9b3f870bef43426f9ff05dff8b54"), looks := true }, kinds := [], alts := [], laidByText := true, laidKinds := [.handle, .data], laidTests := true, laidLooks := .later }
def EnterPlaysUptoCardSaid : Prop := Claim7.holds Tryd.pinned (.plain (OpenSpec.upto enterPlaysSpec)) enterPlaysUptoCard

/-- THE SECOND FORM's CARD OF 'gleaninglaw17.EnterLeaves'. -/
def enterLeavesUptoCard : Claim7 := { stood := { row := enterLeavesUptoRow, standIns := [], harness := (true, "c4155e5141cbbb348fd21b7ff6569c62913f9b3f870bef43426f9ff05dff8b54"), looks := true }, kinds := [], alts := [], laidByText := true, laidKinds := [.handle, .data], laidTests := true, laidLooks := .later }
def EnterLeavesUptoCardSaid : Prop := Claim7.holds Tryd.pinned (.plain (OpenSpec.upto enterLeavesSpec)) enterLeavesUptoCard

/-- THE SECOND FORM's CARD OF 'gleaninglaw17.EnterValues'. -/
def enterValuesUptoCard : Claim7 := { stood := { row := enterValuesUptoRow, standIns := [], harness := (true, "c4155e5141cbbb348fd21b7ff6569c62913f9b3f870bef43426f9ff05dff8b54"), looks := true }, kinds := [], alts := [], laidByText := true, laidKinds := [.handle, .data], laidTests := true, laidLooks := .later }
def EnterValuesUptoCardSaid : Prop := Claim7.holds Tryd.pinned (.plain (OpenSpec.upto enterValuesSpec)) enterValuesUptoCard
end Rows
end Go.Proofs.YtcafhdemmchcaaaDoor
