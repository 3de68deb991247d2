/-
  DERIVED. GIVEN WITH THE SEED: THE CARDS: each row of YthcmgagmbioofaaDoorRows.lean that lists a variable, with what it lists TIED to the program's text (the seventh form; the later family's looks); each row that meets fmt, with fmt's text TOLD by the authors' own Lean function (tested against real Go, not proved from fmt's source: count such statements apart). THE CARD IS WHAT COUNTS. Prove the row's statement (the work); the ties are given (YthcmgagmbioofaaDoorTie.lean); close each card by the builder's one call (the guide's Derived/Test/ToyasCard.lean, 'card_holds'). Laid BY PROGRAM, IN A SANDBOX (cutbox-door.mjs). By AI agents, Wed Nov 11 2026. No macro, syntax, notation, axiom, sorry.
-/
import Derived.Test.YthcmgagmbioofaaDoorRows
import GoSem.ClaimSeven
namespace Go.Proofs.YthcmgagmbioofaaDoor
namespace Rows

/-- THE TIED CARD OF 'gleaninglaw18.AdvancePlays'. -/
def advancePlaysCard : Claim7 := { stood := { row := advancePlaysRow, standIns := [], harness := (true, "cc01790792e77f20f5da0e447faa1435422f9e388540bf2ee809e29fab843e27"), looks := true }, kinds := [], alts := [], laidByText := true, laidKinds := [.handle, .data], laidTests := true, laidLooks := .later }
def AdvancePlaysCardSaid : Prop := Claim7.holds Tryd.pinned (.plain (OpenSpec.ofChange advancePlaysSpec)) advancePlaysCard

/-- THE TIED CARD OF 'gleaninglaw18.AdvanceKept'. -/
def advanceKeptCard : Claim7 := { stood := { row := advanceKeptRow, standIns := [], harness := (true, "cc01790792e77f20f5da0e447faa1435422f9e388540bf2ee809e29fab843e27"), looks := true }, kinds := [], alts := [], laidByText := true, laidKinds := [.handle, .data], laidTests := true, laidLooks := .later }
def AdvanceKeptCardSaid : Prop := Claim7.holds Tryd.pinned (.plain (OpenSpec.ofChange advanceKeptSpec)) advanceKeptCard

/-- THE TIED CARD OF 'gleaninglaw18.AdvanceValues'. -/
def advanceValuesCard : Claim7 := { stood := { row := advanceValuesRow, standIns := [], harness := (true, "cc01790792e77f20f5da0e447faa1435422f9e388540bf2ee809e29fab843e27"), looks := true }, kinds := [], alts := [], laidByText := true, laidKinds := [.handle, .data], laidTests := true, laidLooks := .later }
def AdvanceValuesCardSaid : Prop := Claim7.holds Tryd.pinned (.plain (OpenSpec.ofChange advanceValuesSpec)) advanceValuesCard

/-- THE SECOND FORM's CARD OF 'gleaninglaw18.AdvancePlays'. -/
def advancePlaysUptoCard : Claim7 := { stood := { row := advancePlaysUptoRow, standIns := [], harness := (true, "cc01790792e77f20f5da0e447faa1435422f9e388540bf2ee809e29fab843e27"), looks := true }, kinds := [], alts := [], laidByText := true, laidKinds := [.handle, .data], laidTests := true, laidLooks := .later }
def AdvancePlaysUptoCardSaid : Prop := Claim7.holds Tryd.pinned (.plain (OpenSpec.upto advancePlaysSpec)) advancePlaysUptoCard

/-- THE SECOND FORM's CARD OF 'gleaninglaw18.AdvanceKept'. -/
def advanceKeptUptoCard : Claim7 := { stood := { row := advanceKeptUptoRow, standIns := [], harness := (true, "cc01790792e77f20f5da0e447faa1435422f9e388540bf2ee809e29fab843e27"), looks := true }, kinds := [], alts := [], laidByText := true, laidKinds := [.handle, .data], laidTests := true, laidLooks := .later }
def AdvanceKeptUptoCardSaid : Prop := Claim7.holds Tryd.pinned (.plain (OpenSpec.upto advanceKeptSpec)) advanceKeptUptoCard

/-- THE SECOND FORM's CARD OF 'gleaninglaw18.AdvanceValues'. -/
def advanceValuesUptoCard : Claim7 := { stood := { row := advanceValuesUptoRow, standIns := [], harness := (true, "cc01790792e77f20f5da0e447faa1435422f9e388540bf2ee809e29fab843e27"), looks := true }, kinds := [], alts := [], laidByText := true, laidKinds := [.handle, .data], laidTests := true, laidLooks := .later }
def AdvanceValuesUptoCardSaid : Prop := Claim7.holds Tryd.pinned (.plain (OpenSpec.upto advanceValuesSpec)) advanceValuesUptoCard
end Rows
end Go.Proofs.YthcmgagmbioofaaDoor
