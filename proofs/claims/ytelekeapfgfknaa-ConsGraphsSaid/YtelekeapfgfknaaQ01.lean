/- Lists held against each other (layer 1's reference). -/
import Derived.Test.YtelekeapfgfknaaF5
import Derived.Test.YtelekeapfgfknaaPv
namespace Go.Proofs.Ytelekeapfgfknaa
open Go.RowKit
set_option linter.unusedVariables false
end Go.Proofs.Ytelekeapfgfknaa
