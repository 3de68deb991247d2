/-
  DERIVED. GIVEN WITH THE SEED: THE CARDS: each row of YtllkbofjegadeaaDoorRows.lean that lists a variable, with what it lists TIED to the program's text (the seventh form; the later family's looks); each row that meets fmt, with fmt's text TOLD by the authors' own Lean function (tested against real Go, not proved from fmt's source: count such statements apart). THE CARD IS WHAT COUNTS. Prove the row's statement (the work); the ties are given (YtllkbofjegadeaaDoorTie.lean); close each card by the builder's one call (the guide's Derived/Test/ToyasCard.lean, 'card_holds'). Laid BY PROGRAM, IN A SANDBOX (cutbox-door.mjs). By AI agents, Wed Nov 11 2026. No macro, syntax, notation, axiom, sorry.
-/
import Derived.Test.YtllkbofjegadeaaDoorRows
import GoSem.ClaimSeven
namespace Go.Proofs.YtllkbofjegadeaaDoor
namespace Rows

/-- THE TIED CARD OF 'gleaninglaw09.MemoryPlays'. -/
def memoryPlaysCard : Claim7 := { stood := { row := memoryPlaysRow, standIns := [], harness := (true, "3995999843d9e93109bc0ec46c8edbeffe82842deb00a246e54f8453be661631"), looks := true }, kinds := [], alts := [], laidByText := true, laidKinds := [.handle, .data], laidTests := true, laidLooks := .later }
def MemoryPlaysCardSaid : Prop := Claim7.holds Tryd.pinned (.plain (OpenSpec.ofChange memoryPlaysSpec)) memoryPlaysCard

/-- THE TIED CARD OF 'gleaninglaw09.MemoryCuts'. -/
def memoryCutsCard : Claim7 := { stood := { row := memoryCutsRow, standIns := [], harness := (true, "3995999843d9e93109bc0ec46c8edbeffe82842deb00a246e54f8453be661631"), looks := true }, kinds := [], alts := [], laidByText := true, laidKinds := [.handle, .data], laidTests := true, laidLooks := .later }
def MemoryCutsCardSaid : Prop := Claim7.holds Tryd.pinned (.plain (OpenSpec.ofChange memoryCutsSpec)) memoryCutsCard

/-- THE TIED CARD OF 'gleaninglaw09.MemoryOne'. -/
def memoryOneCard : Claim7 := { stood := { row := memoryOneRow, standIns := [], harness := (true, "3995999843d9e93109bc0ec46c8edbeffe82842deb00a246e54f8453be661631"), looks := true }, kinds := [], alts := [], laidByText := true, laidKinds := [.handle, .data], laidTests := true, laidLooks := .later }
def MemoryOneCardSaid : Prop := Claim7.holds Tryd.pinned (.plain (OpenSpec.ofChange memoryOneSpec)) memoryOneCard

/-- THE TIED CARD OF 'gleaninglaw09.MemoryNobody'. -/
def memoryNobodyCard : Claim7 := { stood := { row := memoryNobodyRow, standIns := [], harness := (true, "3995999843d9e93109bc0ec46c8edbeffe82842deb00a246e54f8453be661631"), looks := true }, kinds := [], alts := [], laidByText := true, laidKinds := [.handle, .data], laidTests := true, laidLooks := .later }
def MemoryNobodyCardSaid : Prop := Claim7.holds Tryd.pinned (.plain (OpenSpec.ofChange memoryNobodySpec)) memoryNobodyCard

/-- THE SECOND FORM's CARD OF 'gleaninglaw09.MemoryPlays'. -/
def memoryPlaysUptoCard : Claim7 := { stood := { row := memoryPlaysUptoRow, standIns := [], harness := (true, "3995999843d9e93109bc0ec46c8edbeffe82842deb00a246e54f8453be661631"), looks := true }, kinds := [], alts := [], laidByText := true, laidKinds := [.handle, .data], laidTests := true, laidLooks := .later }
def MemoryPlaysUptoCardSaid : Prop := Claim7.holds Tryd.pinned (.plain (OpenSpec.upto memoryPlaysSpec)) memoryPlaysUptoCard

/-- THE SECOND FORM's CARD OF 'gleaninglaw09.MemoryCuts'. -/
def memoryCutsUptoCard : Claim7 := { stood := { row := memoryCutsUptoRow, standIns := [], harness := (true, "3995999843d9e93109bc0ec46c8edbeffe82842deb00a246e54f8453be661631"), looks := true }, kinds := [], alts := [], laidByText := true, laidKinds := [.handle, .data], laidTests := true, laidLooks := .later }
def MemoryCutsUptoCardSaid : Prop := Claim7.holds Tryd.pinned (.plain (OpenSpec.upto memoryCutsSpec)) memoryCutsUptoCard

/-- THE SECOND FORM's CARD OF 'gleaninglaw09.MemoryOne'. -/
def memoryOneUptoCard : Claim7 := { stood := { row := memoryOneUptoRow, standIns := [], harness := (true, "3995999843d9e93109bc0ec46c8edbeffe82842deb00a246e54f8453be661631"), looks := true }, kinds := [], alts := [], laidByText := true, laidKinds := [.handle, .data], laidTests := true, laidLooks := .later }
def MemoryOneUptoCardSaid : Prop := Claim7.holds Tryd.pinned (.plain (OpenSpec.upto memoryOneSpec)) memoryOneUptoCard

/-- THE SECOND FORM's CARD OF 'gleaninglaw09.MemoryNobody'. -/
def memoryNobodyUptoCard : Claim7 := { stood := { row := memoryNobodyUptoRow, standIns := [], harness := (true, "3995999843d9e93109bc0ec46c8edbeffe82842deb00a246e54f8453be661631"), looks := true }, kinds := [], alts := [], laidByText := true, laidKinds := [.handle, .data], laidTests := true, laidLooks := .later }
def MemoryNobodyUptoCardSaid : Prop := Claim7.holds Tryd.pinned (.plain (OpenSpec.upto memoryNobodySpec)) memoryNobodyUptoCard
end Rows
end Go.Proofs.YtllkbofjegadeaaDoor
