/- The library's sort and compact at ints, judged. -/
import Derived.Test.YtelekeapfgfknaaOx
import Derived.Test.YtelekeapfgfknaaShelf
import Derived.Sort.OwnSortedInts
namespace Go.Proofs.Ytelekeapfgfknaa
open Go.RowKit
set_option linter.unusedVariables false
end Go.Proofs.Ytelekeapfgfknaa
