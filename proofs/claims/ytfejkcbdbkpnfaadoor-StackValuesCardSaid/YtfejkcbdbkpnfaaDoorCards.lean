/-
  DERIVED. GIVEN WITH THE SEED: THE CARDS: each row of YtfejkcbdbkpnfaaDoorRows.lean that lists a variable, with what it lists TIED to the program's text (the seventh form; the later family's looks); each row that meets fmt, with fmt's text TOLD by the authors' own Lean function (tested against real Go, not proved from fmt's source: count such statements apart). THE CARD IS WHAT COUNTS. Prove the row's statement (the work); the ties are given (YtfejkcbdbkpnfaaDoorTie.lean); close each card by the builder's one call (the guide's Derived/Test/ToyasCard.lean, 'card_holds'). Laid BY PROGRAM, IN A SANDBOX (cutbox-door.mjs). By AI agents, Wed Nov 11 2026. No macro, syntax, notation, axiom, sorry.
-/
import Derived.Test.YtfejkcbdbkpnfaaDoorRows
import GoSem.ClaimSeven
namespace Go.Proofs.YtfejkcbdbkpnfaaDoor
namespace Rows

/-- THE TIED CARD OF 'gleaninglaw15.StackPops'. -/
def stackPopsCard : Claim7 := { stood := { row := stackPopsRow, standIns := [], harness := (true, "f0659f8924366627c8d27a58d5cb44758547b60776ef5df080b654cbcddf38d8"), looks := true }, kinds := [], alts := [], laidByText := true, laidKinds := [.handle, .data], laidTests := true, laidLooks := .later }
def StackPopsCardSaid : Prop := Claim7.holds Tryd.pinned (.plain (OpenSpec.ofChange stackPopsSpec)) stackPopsCard

/-- THE TIED CARD OF 'gleaninglaw15.StackPushes'. -/
def stackPushesCard : Claim7 := { stood := { row := stackPushesRow, standIns := [], harness := (true, "f0659f8924366627c8d27a58d5cb44758547b60776ef5df080b654cbcddf38d8"), looks := true }, kinds := [], alts := [], laidByText := true, laidKinds := [.handle, .data], laidTests := true, laidLooks := .later }
def StackPushesCardSaid : Prop := Claim7.holds Tryd.pinned (.plain (OpenSpec.ofChange stackPushesSpec)) stackPushesCard

/-- THE TIED CARD OF 'gleaninglaw15.StackValues'. -/
def stackValuesCard : Claim7 := { stood := { row := stackValuesRow, standIns := [], harness := (true, "f0659f8924366627c8d27a58d5cb44758547b60776ef5df080b654cbcddf38d8"), looks := true }, kinds := [], alts := [], laidByText := true, laidKinds := [.handle, .data], laidTests := true, laidLooks := .later }
def StackValuesCardSaid : Prop := Claim7.holds Tryd.pinned (.plain (OpenSpec.ofChange stackValuesSpec)) stackValuesCard

/-- THE TIED CARD OF 'gleaninglaw15.StackParts'. -/
def stackPartsCard : Claim7 := { stood := { row := stackPartsRow, standIns := [], harness := (true, "f0659f8924366627c8d27a58d5cb44758547b60776ef5df080b654cbcddf38d8"), looks := true }, kinds := [], alts := [], laidByText := true, laidKinds := [.handle, .data], laidTests := true, laidLooks := .later }
def StackPartsCardSaid : Prop := Claim7.holds Tryd.pinned (.plain (OpenSpec.ofChange stackPartsSpec)) stackPartsCard

/-- THE TIED CARD OF 'gleaninglaw17.EnterPlays'. -/
def enterPlaysCard : Claim7 := { stood := { row := enterPlaysRow, standIns := [], harness := (true, "f0659f8924366627c8d27a58d5cb44758547b60776ef5df080b654cbcddf38d8"), looks := true }, kinds := [], alts := [], laidByText := true, laidKinds := [.handle, .data], laidTests := true, laidLooks := .later }
def EnterPlaysCardSaid : Prop := Claim7.holds Tryd.pinned (.plain (OpenSpec.ofChange enterPlaysSpec)) enterPlaysCard

/-- THE TIED CARD OF 'gleaninglaw17.EnterLeaves'. -/
def enterLeavesCard : Claim7 := { stood := { row := enterLeavesRow, standIns := [], harness := (true, "f0659f8924366627c8d27a58d5cb44758547b60776ef5df080b654cbcddf38d8"), looks := true }, kinds := [], alts := [], laidByText := true, laidKinds := [.handle, .data], laidTests := true, laidLooks := .later }
def EnterLeavesCardSaid : Prop := Claim7.holds Tryd.pinned (.plain (OpenSpec.ofChange enterLeavesSpec)) enterLeavesCard

/-- THE TIED CARD OF 'gleaninglaw17.EnterValues'. -/
def enterValuesCard : Claim7 := { stood := { row := enterValuesRow, standIns := [], harness := (true, "f0659f8924366627c8d27a58d5cb44758547b60776ef5df080b654cbcddf38d8"), looks := true }, kinds := [], alts := [], laidByText := true, laidKinds := [.handle, .data], laidTests := true, laidLooks := .later }
def EnterValuesCardSaid : Prop := Claim7.holds Tryd.pinned (.plain (OpenSpec.ofChange enterValuesSpec)) enterValuesCard

/-- THE SECOND FORM's CARD OF 'gleaninglaw15.StackPops'. -/
def stackPopsUptoCard : Claim7 := { stood := { row := stackPopsUptoRow, standIns := [], harness := (true, "f0659f8924366627c8d27a58d5cb44758547b60776ef5df080b654cbcddf38d8"), looks := true }, kinds := [], alts := [], laidByText := true, laidKinds := [.handle, .data], laidTests := true, laidLooks := .later }
def StackPopsUptoCardSaid : Prop := Claim7.holds Tryd.pinned (.plain (OpenSpec.upto stackPopsSpec)) stackPopsUptoCard

/-- THE SECOND FORM's CARD OF 'gleaninglaw15.StackPushes'. -/
def stackPushesUptoCard : Claim7 := { stood := { row := stackPushesUptoRow, standIns := [], harness := (true, "f0659f8924366627c8d27a58d5cb44758547b60776ef5df080b654cbcddf38d8"), looks := true }, kinds := [], alts := [], laidByText := true, laidKinds := [.handle, .data], laidTests := true, laidLooks := .later }
def StackPushesUptoCardSaid : Prop := Claim7.holds Tryd.pinned (.plain (OpenSpec.upto stackPushesSpec)) stackPushesUptoCard

/-- THE SECOND FORM's CARD OF 'gleaninglaw15.StackValues'. -/
def stackValuesUptoCard : Claim7 := { stood := { row := stackValuesUptoRow, standIns := [], harness := (true, "f0659f8924366627c8d27a58d5cb44758547b60776ef5df080b654cbcddf38d8"), looks := true }, kinds := [], alts := [], laidByText := true, laidKinds := [.handle, .data], laidTests := true, laidLooks := .later }
def StackValuesUptoCardSaid : Prop := Claim7.holds Tryd.pinned (.plain (OpenSpec.upto stackValuesSpec)) stackValuesUptoCard

/-- THE SECOND FORM's CARD OF 'gleaninglaw15.StackParts'. -/
def stackPartsUptoCard : Claim7 := { stood := { row := stackPartsUptoRow, standIns := [], harness := (true, "f0659f8924366627c8d27a58d5cb44758547b60776ef5df080b654cbcddf38d8"), looks := true }, kinds := [], alts := [], laidByText := true, laidKinds := [.handle, .data], laidTests := true, laidLooks := .later }
def StackPartsUptoCardSaid : Prop := Claim7.holds Tryd.pinned (.plain (OpenSpec.upto stackPartsSpec)) stackPartsUptoCard

/-- THE SECOND FORM's CARD OF 'gleaninglaw17.EnterPlays'. -/
def enterPlaysUptoCard : Claim7 := { stood := { row := enterPlaysUptoRow, standIns := [], harness := (true, "f0659f8924366627c8d27a58d5cb44758547b60776ef5df080b654cbcddf38d8"), looks := true }, kinds := [], alts := [], laidByText := true, laidKinds := [.handle, .data], laidTests := true, laidLooks := .later }
def EnterPlaysUptoCardSaid : Prop := Claim7.holds Tryd.pinned (.plain (OpenSpec.upto enterPlaysSpec)) enterPlaysUptoCard

/-- THE SECOND FORM's CARD OF 'gleaninglaw17.EnterLeaves'. -/
def enterLeavesUptoCard : Claim7 := { stood := { row := enterLeavesUptoRow, standIns := [], harness := (true, "f0659f8924366627c8d27a58d5cb44758547b60776ef5df080b654cbcddf38d8"), looks := true }, kinds := [], alts := [], laidByText := true, laidKinds := [.handle, .data], laidTests := true, laidLooks := .later }
def EnterLeavesUptoCardSaid : Prop := Claim7.holds Tryd.pinned (.plain (OpenSpec.upto enterLeavesSpec)) enterLeavesUptoCard

/-- THE SECOND FORM's CARD OF 'gleaninglaw17.EnterValues'. -/
def enterValuesUptoCard : Claim7 := { stood := { row := enterValuesUptoRow, standIns := [], harness := (true, "f0659f8924366627c8d27a58d5cb44758547b60776ef5df080b654cbcddf38d8"), looks := true }, kinds := [], alts := [], laidByText := true, laidKinds := [.handle, .data], laidTests := true, laidLooks := .later }
def EnterValuesUptoCardSaid : Prop := Claim7.holds Tryd.pinned (.plain (OpenSpec.upto enterValuesSpec)) enterValuesUptoCard
end Rows
end Go.Proofs.YtfejkcbdbkpnfaaDoor
