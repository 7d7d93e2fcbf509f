/- What Go functions answer: generated. -/
import Derived.Test.YtbaaamdljojknaaF4
namespace Go.Proofs.Ytbaaamdljojknaa
open Go.RowKit
set_option linter.unusedVariables false
set_option linter.unnecessarySimpa false
set_option linter.unusedSimpArgs false
set_option maxRecDepth 20000

end Go.Proofs.Ytbaaamdljojknaa
