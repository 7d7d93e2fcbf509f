/- Lists held against each other (layer 1's reference). -/
import Derived.Test.YtelekeapfgfknaaGreatF6
import Derived.Test.YtelekeapfgfknaaGreatPv
namespace Go.Proofs.YtelekeapfgfknaaGreat
open Go.RowKit
set_option linter.unusedVariables false
end Go.Proofs.YtelekeapfgfknaaGreat
