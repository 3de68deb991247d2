/-
  NARROWER THAN 'FOR EVERY INPUT', by the rows' own cells (each row's printed sentence says how): AdvancePlays: laid · AdvanceKept: laid · AdvanceValues: laid.
  DERIVED. THE GIVEN ROWS OF THIS SEAT. 3 by the template 'for every input the law returns true; each argument reads behind the call as it read before'; 0 by the template 'total and deterministic' (their statements: YthcmgagmbioofaaDoorTotals.lean).
  GIVEN WITH THE SEED: the statements are not yours to turn. If you find one false, say at which input.
  Laid BY PROGRAM, IN A SANDBOX (cutbox-rows.mjs): the forced cells as the released guide's own fill.sh prints them over the translation a84dca537a511331… (all of the seat's roots in one cut). By AI agents, Wed Nov 11 2026. No macro, syntax, notation, axiom, sorry.
-/
import Derived.Test.YthcmgagmbioofaaDoorChecked
import GoSem.Claim
import GoSem.ClaimJoined
import GoSem.ClaimMapViews
import Derived.JoinedTies
import Derived.KernelRfl
namespace Go.Proofs.YthcmgagmbioofaaDoor
/- THE CELL 'sum', in the pinned program and in every row, IS THE sha256 OF THE DUMP (.gsa) THAT YthcmgagmbioofaaDoorProg.lean LOADS. Nothing in Lean hashes anything: it is a label: what it is worth is what the hold of that sum in a sandbox is worth. -/
noncomputable def Tryd.pinned : Pinned := { name := "ythcmgagmbioofaadoor", sum := "a84dca537a511331611099fbee57fac4c61814eaa8aad685437572839699b5d7", checked := Tryd.checked }
namespace Rows
def none {H : Type} : Left H := { results := [], args := [] }

/- WHAT THE LISTED PACKAGE-LEVEL VARIABLES READ AS WHEN THE CALL BEGINS. Each datum BY PROGRAM (the guide's laid-datum.mjs) off the statement by which the dump's own 'gosem.cut.vars' lays the variable. In a bare row this is a premise. The card (YthcmgagmbioofaaDoorCards.lean) ties it to the program's text. -/
def laid_errors_errorType {H : Type} : DataW H := .iface "internal/reflectlite.rtype" (.agg [.ptr (.lit (.string [101, 114, 114, 111, 114]))])
def laid_gleaning_config_bounds {H : Type} : DataW H := .agg [.agg [.lit (.string [115, 108, 111, 116, 115]), .lit (.int .i64 1), .lit (.int .i64 1000)], .agg [.lit (.string [116, 104, 114, 101, 97, 100, 115]), .lit (.int .i64 1), .lit (.int .i64 64)], .agg [.lit (.string [102, 97, 110]), .lit (.int .i64 4), .lit (.int .i64 64)], .agg [.lit (.string [108, 105, 109, 98, 111]), .lit (.int .i64 1), .lit (.int .i64 64)], .agg [.lit (.string [112, 97, 116, 105, 101, 110, 99, 101]), .lit (.int .i64 1), .lit (.int .i64 1048576)]]

/-- 'gleaninglaw18.AdvancePlays': WHATEVER THE INPUT: true; the input reads as it did. -/
def advancePlaysSpec : ChangeSpec := { name := "advancePlays", fn := fun _ => fun
  | [d1, d2, d3] => { results := [.lit (.bool true)], args := [d1, d2, d3] }
  | _ => none }
def advancePlaysRow : OpenClaim := { program := "ythcmgagmbioofaadoor", sum := "a84dca537a511331611099fbee57fac4c61814eaa8aad685437572839699b5d7", func := "gleaning/gleaninglaw18.AdvancePlays", spec := "advancePlays", inPlace := ["internal/reflectlite.ValueOf", "(internal/reflectlite.Value).Type", "(internal/reflectlite.Value).IsNil", "internal/reflectlite.TypeOf", "(internal/reflectlite.Value).Elem", "(internal/reflectlite.Value).Set"], unfollowed := true, recurses := true, named := ["gleaning/config.bounds", "errors.errorType"], apart := false, laid := [("errors.errorType", laid_errors_errorType), ("gleaning/config.bounds", laid_gleaning_config_bounds)] }
def AdvancePlaysSaid : Prop := advancePlaysRow.holds Tryd.pinned (OpenSpec.ofChange advancePlaysSpec)

/-- ITS FALSE NEIGHBOUR: 'it returns false'. Refute it at one input. -/
def advancePlaysWrong : ChangeSpec := { name := "advancePlays", fn := fun _ => fun
  | [d1, d2, d3] => { results := [.lit (.bool false)], args := [d1, d2, d3] }
  | _ => none }
def AdvancePlaysWrongFalsely : Prop := advancePlaysRow.holds Tryd.pinned (OpenSpec.ofChange advancePlaysWrong)

/-- 'gleaninglaw18.AdvanceKept': WHATEVER THE INPUT: true; the input reads as it did. -/
def advanceKeptSpec : ChangeSpec := { name := "advanceKept", fn := fun _ => fun
  | [d1, d2, d3] => { results := [.lit (.bool true)], args := [d1, d2, d3] }
  | _ => none }
def advanceKeptRow : OpenClaim := { program := "ythcmgagmbioofaadoor", sum := "a84dca537a511331611099fbee57fac4c61814eaa8aad685437572839699b5d7", func := "gleaning/gleaninglaw18.AdvanceKept", spec := "advanceKept", inPlace := ["internal/reflectlite.ValueOf", "(internal/reflectlite.Value).Type", "(internal/reflectlite.Value).IsNil", "internal/reflectlite.TypeOf", "(internal/reflectlite.Value).Elem", "(internal/reflectlite.Value).Set"], unfollowed := true, recurses := true, named := ["gleaning/config.bounds", "errors.errorType"], apart := false, laid := [("errors.errorType", laid_errors_errorType), ("gleaning/config.bounds", laid_gleaning_config_bounds)] }
def AdvanceKeptSaid : Prop := advanceKeptRow.holds Tryd.pinned (OpenSpec.ofChange advanceKeptSpec)

/-- ITS FALSE NEIGHBOUR: 'it returns false'. Refute it at one input. -/
def advanceKeptWrong : ChangeSpec := { name := "advanceKept", fn := fun _ => fun
  | [d1, d2, d3] => { results := [.lit (.bool false)], args := [d1, d2, d3] }
  | _ => none }
def AdvanceKeptWrongFalsely : Prop := advanceKeptRow.holds Tryd.pinned (OpenSpec.ofChange advanceKeptWrong)

/-- 'gleaninglaw18.AdvanceValues': WHATEVER THE INPUT: true; the input reads as it did. -/
def advanceValuesSpec : ChangeSpec := { name := "advanceValues", fn := fun _ => fun
  | [d1, d2, d3] => { results := [.lit (.bool true)], args := [d1, d2, d3] }
  | _ => none }
def advanceValuesRow : OpenClaim := { program := "ythcmgagmbioofaadoor", sum := "a84dca537a511331611099fbee57fac4c61814eaa8aad685437572839699b5d7", func := "gleaning/gleaninglaw18.AdvanceValues", spec := "advanceValues", inPlace := ["internal/reflectlite.ValueOf", "(internal/reflectlite.Value).Type", "(internal/reflectlite.Value).IsNil", "internal/reflectlite.TypeOf", "(internal/reflectlite.Value).Elem", "(internal/reflectlite.Value).Set"], unfollowed := true, recurses := true, named := ["gleaning/config.bounds", "errors.errorType"], apart := false, laid := [("errors.errorType", laid_errors_errorType), ("gleaning/config.bounds", laid_gleaning_config_bounds)] }
def AdvanceValuesSaid : Prop := advanceValuesRow.holds Tryd.pinned (OpenSpec.ofChange advanceValuesSpec)

/-- ITS FALSE NEIGHBOUR: 'it returns false'. Refute it at one input. -/
def advanceValuesWrong : ChangeSpec := { name := "advanceValues", fn := fun _ => fun
  | [d1, d2, d3] => { results := [.lit (.bool false)], args := [d1, d2, d3] }
  | _ => none }
def AdvanceValuesWrongFalsely : Prop := advanceValuesRow.holds Tryd.pinned (OpenSpec.ofChange advanceValuesWrong)

/- THE SECOND FORM. 'bulk': how many values and letters a reading holds, each counted each time it is reached (what is shared counts as often as it is met; a slice's spare places count too). A statement '..UptoSaid' is the law's where the arguments, and the package variables that the reading takes, are together of bulk at most 1048576: NARROWER than '..Said'. Prove '..Said' where nothing that the law and all that it calls make is longer than what came in: it says more and counts as full. Else prove '..UptoSaid'. A law counts once. -/
mutual
def uptoBulk {H : Type} : DataW H → Nat
  | .lit (.string bytes) => bytes.length + 1
  | .lit _ => 1
  | .nil => 1
  | .ptr d => uptoBulk d + 1
  | .slice elems spare => uptoBulkAll elems + uptoBulkAll spare + 1
  | .agg parts => uptoBulkAll parts + 1
  | .iface _ d => uptoBulk d + 1
  | .map entries => uptoBulkEntries entries + 1
  | .held _ => 1
def uptoBulkAll {H : Type} : List (DataW H) → Nat
  | [] => 0
  | d :: r => uptoBulk d + uptoBulkAll r
def uptoBulkEntries {H : Type} : List (Lit × DataW H) → Nat
  | [] => 0
  | x :: r => uptoBulkEntry x + uptoBulkEntries r
def uptoBulkEntry {H : Type} : Lit × DataW H → Nat
  | (.string bytes, d) => bytes.length + uptoBulk d + 1
  | (_, d) => uptoBulk d + 1
 end
def uptoSmall : (H : Type) → List (DataW H) → Bool := fun _ ds => decide (uptoBulkAll ds ≤ 1048576)
def OpenSpec.upto (s : _root_.Go.ChangeSpec) : _root_.Go.OpenSpec := { _root_.Go.OpenSpec.ofChange s with cond := some uptoSmall }

/-- 'gleaninglaw18.AdvancePlays', WHERE WHAT IT READS IS OF BULK AT MOST 1048576: true; the input reads as it did. -/
def advancePlaysUptoRow : OpenClaim := { program := "ythcmgagmbioofaadoor", sum := "a84dca537a511331611099fbee57fac4c61814eaa8aad685437572839699b5d7", func := "gleaning/gleaninglaw18.AdvancePlays", spec := "advancePlays", inPlace := ["internal/reflectlite.ValueOf", "(internal/reflectlite.Value).Type", "(internal/reflectlite.Value).IsNil", "internal/reflectlite.TypeOf", "(internal/reflectlite.Value).Elem", "(internal/reflectlite.Value).Set"], unfollowed := true, recurses := true, named := ["gleaning/config.bounds", "errors.errorType"], apart := false, laid := [("errors.errorType", laid_errors_errorType), ("gleaning/config.bounds", laid_gleaning_config_bounds)], narrowed := true }
def AdvancePlaysUptoSaid : Prop := advancePlaysUptoRow.holds Tryd.pinned (OpenSpec.upto advancePlaysSpec)

/-- 'gleaninglaw18.AdvanceKept', WHERE WHAT IT READS IS OF BULK AT MOST 1048576: true; the input reads as it did. -/
def advanceKeptUptoRow : OpenClaim := { program := "ythcmgagmbioofaadoor", sum := "a84dca537a511331611099fbee57fac4c61814eaa8aad685437572839699b5d7", func := "gleaning/gleaninglaw18.AdvanceKept", spec := "advanceKept", inPlace := ["internal/reflectlite.ValueOf", "(internal/reflectlite.Value).Type", "(internal/reflectlite.Value).IsNil", "internal/reflectlite.TypeOf", "(internal/reflectlite.Value).Elem", "(internal/reflectlite.Value).Set"], unfollowed := true, recurses := true, named := ["gleaning/config.bounds", "errors.errorType"], apart := false, laid := [("errors.errorType", laid_errors_errorType), ("gleaning/config.bounds", laid_gleaning_config_bounds)], narrowed := true }
def AdvanceKeptUptoSaid : Prop := advanceKeptUptoRow.holds Tryd.pinned (OpenSpec.upto advanceKeptSpec)

/-- 'gleaninglaw18.AdvanceValues', WHERE WHAT IT READS IS OF BULK AT MOST 1048576: true; the input reads as it did. -/
def advanceValuesUptoRow : OpenClaim := { program := "ythcmgagmbioofaadoor", sum := "a84dca537a511331611099fbee57fac4c61814eaa8aad685437572839699b5d7", func := "gleaning/gleaninglaw18.AdvanceValues", spec := "advanceValues", inPlace := ["internal/reflectlite.ValueOf", "(internal/reflectlite.Value).Type", "(internal/reflectlite.Value).IsNil", "internal/reflectlite.TypeOf", "(internal/reflectlite.Value).Elem", "(internal/reflectlite.Value).Set"], unfollowed := true, recurses := true, named := ["gleaning/config.bounds", "errors.errorType"], apart := false, laid := [("errors.errorType", laid_errors_errorType), ("gleaning/config.bounds", laid_gleaning_config_bounds)], narrowed := true }
def AdvanceValuesUptoSaid : Prop := advanceValuesUptoRow.holds Tryd.pinned (OpenSpec.upto advanceValuesSpec)

end Rows
end Go.Proofs.YthcmgagmbioofaaDoor
