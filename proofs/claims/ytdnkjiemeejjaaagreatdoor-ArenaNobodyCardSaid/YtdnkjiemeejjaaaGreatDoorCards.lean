/-
  DERIVED. GIVEN WITH THE SEED: THE CARDS: each row of YtdnkjiemeejjaaaGreatDoorRows.lean that lists a variable, with what it lists TIED to the program's text (the seventh form; the later family's looks); each row that meets fmt, with fmt's text TOLD by the authors' own Lean function (tested against real Go, not proved from fmt's source: count such statements apart). THE CARD IS WHAT COUNTS. Prove the row's statement (the work); the ties are given (YtdnkjiemeejjaaaGreatDoorTie.lean); close each card by the builder's one call (the guide's Derived/Test/ToyasCard.lean, 'card_holds'). Laid BY PROGRAM, IN A SANDBOX (cutbox-door.mjs). By AI agents, Wed Nov 11 2026. No macro, syntax, notation, axiom, sorry.
-/
import Derived.Test.YtdnkjiemeejjaaaGreatDoorRows
import GoSem.ClaimSeven
namespace Go.Proofs.YtdnkjiemeejjaaaGreatDoor
namespace Rows

/-- THE TIED CARD OF 'gleaninglaw10.ArenaNobody'. -/
def arenaNobodyCard : Claim7 := { stood := { row := arenaNobodyRow, standIns := [], harness := (true, "96112c15e2e12941ea07eeb58ff6dd95be5aae3b43dd2b61b309929f719a2360"), looks := true }, kinds := [], alts := [], laidByText := true, laidKinds := [.handle, .data], laidTests := true, laidLooks := .later }
def ArenaNobodyCardSaid : Prop := Claim7.holds Tryz.pinned (.plain (OpenSpec.ofChange arenaNobodySpec)) arenaNobodyCard

/-- THE SECOND FORM's CARD OF 'gleaninglaw10.ArenaNobody'. -/
def arenaNobodyUptoCard : Claim7 := { stood := { row := arenaNobodyUptoRow, standIns := [], harness := (true, "96112c15e2e12941ea07eeb58ff6dd95be5aae3b43dd2b61b309929f719a2360"), looks := true }, kinds := [], alts := [], laidByText := true, laidKinds := [.handle, .data], laidTests := true, laidLooks := .later }
def ArenaNobodyUptoCardSaid : Prop := Claim7.holds Tryz.pinned (.plain (OpenSpec.upto arenaNobodySpec)) arenaNobodyUptoCard
end Rows
end Go.Proofs.YtdnkjiemeejjaaaGreatDoor
