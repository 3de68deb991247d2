/- Which place a word is, by definition; gleaningref08.Size, Place. -/
import Derived.Test.YtcafhdemmchcaaaDoorLay4
import Derived.Test.YtcafhdemmchcaaaDoorWrong7
import Derived.LoopTactic
namespace Go.Proofs.YtcafhdemmchcaaaDoor
set_option linter.unusedVariables false
open Go.RowKit Go.Extern.Stop Go.Stop Go.Extern
/-- The kind, the owner and the number of a word. -/
def whatL (s t f at' : Int) : Int × Int × Int :=
  if at' < 0 ∨ sizeL s t f ≤ at' then (0, 0, 0)
  else if at' < 3 then (at' + 1, 0, 0)
  else if at' < 3 + t then (4, at' - 3, 0)
  else if at' < 3 + t + 2 * t then (5, (at' - (3 + t)) / 2, (at' - (3 + t)) % 2)
  else if (at' - (3 + t + 2 * t)) % (3 + 2 * f) < 3 then (6 + (at' - (3 + t + 2 * t)) % (3 + 2 * f), (at' - (3 + t + 2 * t)) / (3 + 2 * f), 0)
  else if (at' - (3 + t + 2 * t)) % (3 + 2 * f) < 3 + f then (9, (at' - (3 + t + 2 * t)) / (3 + 2 * f), (at' - (3 + t + 2 * t)) % (3 + 2 * f) - 3)
  else (10, (at' - (3 + t + 2 * t)) / (3 + 2 * f), (at' - (3 + t + 2 * t)) % (3 + 2 * f) - 3 - f)
theorem ret_t3 {a b c a' b' c' : Int} (h1 : a = a') (h2 : b = b') (h3 : c = c') : Ending.returned (.tuple #[.int .i64 a, .int .i64 b, .int .i64 c]) = .returned (.tuple #[.int .i64 a', .int .i64 b', .int .i64 c']) := by rw [h1, h2, h3]
abbrev tripV (x : Int × Int × Int) : Value := .tuple #[.int .i64 x.1, .int .i64 x.2.1, .int .i64 x.2.2]
end Go.Proofs.YtcafhdemmchcaaaDoor
