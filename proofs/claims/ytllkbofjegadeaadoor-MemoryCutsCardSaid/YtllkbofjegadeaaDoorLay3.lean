/- layout.ofThread, ofSlot, At. -/
import Derived.Test.YtllkbofjegadeaaDoorLay2
namespace Go.Proofs.YtllkbofjegadeaaDoor
set_option linter.unusedVariables false
open Go.RowKit Go.Extern.Stop Go.Stop Go.Extern

theorem below2d (W : World) (a b : Obj) : Below W.heap.size W ((W.alloc a).alloc b).drew := (below2 W a b).drew
/-- How many words of a kind a slot has. -/
def manyL (f k : Int) : Int := if k = 9 ∨ k = 10 then f else 1
end Go.Proofs.YtllkbofjegadeaaDoor
