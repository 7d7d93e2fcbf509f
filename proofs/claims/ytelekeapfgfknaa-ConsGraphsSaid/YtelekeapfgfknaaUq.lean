/- Sorted lists without doubles: one alone has given members. What compact makes of a sorted list. Nothing of the program is here. -/
import Derived.Lib.RowBridge
namespace Go.Proofs.Ytelekeapfgfknaa
set_option linter.unusedVariables false
end Go.Proofs.Ytelekeapfgfknaa
