/- What layer 1's functions read: bounds and lists, in plain words. -/
import Derived.Test.YtelekeapfgfknaaNu
namespace Go.Proofs.Ytelekeapfgfknaa
open Go.RowKit Nu
set_option linter.unusedVariables false
set_option linter.unnecessarySimpa false
set_option linter.unusedSimpArgs false
/-- A bound out of two texts. -/
def two (a b : List UInt8) (most : Int) : Int × Int × Int :=
  if (parse a most).2 ≠ 0 then (0, 0, (parse a most).2) else if (parse b most).2 ≠ 0 then (0, 0, (parse b most).2) else ((parse a most).1, (parse b most).1, 0)
/-! ### There and back. -/
end Go.Proofs.Ytelekeapfgfknaa
