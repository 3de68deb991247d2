/- A closed call, reckoned (no package-level variable). -/
import Derived.Test.YtdfabagclnjoaaaEvT
import Derived.Test.YtdfabagclnjoaaaFrame
namespace Go.Proofs.Ytdfabagclnjoaaa
open Go.ChangeShapes Go.WideShapes Go.ChangeAt Go.RowKit
theorem evNoNum : NoNum Try.prog := by unfold NoNum; kernel_rfl
theorem evMixed : Try.prog.follows .mixedOrders = true := by kernel_rfl
def isT : Option Value → Bool
  | some (.bool true) => true
  | _ => false
theorem isT_eq {x : Option Value} (h : isT x = true) : x = some (.bool true) := by
  unfold isT at h
  split at h
  · rfl
  · cases h
/-- A closed call that is reckoned true. -/
theorem reckoned {k : FuncId} {args : List Value} (h : isT (evV Try.prog 100 [] k args) = true) (w : World) :
    Calls Try.prog k args.toArray w fun e w' => e = .returned (.bool true) ∧ Below w.heap.size w w' :=
  closed evNoNum evMixed 100 (isT_eq h) w (holds_nil w)
end Go.Proofs.Ytdfabagclnjoaaa
