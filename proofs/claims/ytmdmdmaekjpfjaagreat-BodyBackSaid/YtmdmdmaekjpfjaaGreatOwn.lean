/- Slices of values of k cells each: those that are read, and those that a call has made itself. Nothing of the program is here. -/
import Derived.Test.YtmdmdmaekjpfjaaGreatRead
import Derived.Deep.AppendLies
namespace Go.Proofs.YtmdmdmaekjpfjaaGreat
open Go.RowKit
set_option linter.unusedVariables false
section
variable {α : Type}
end
end Go.Proofs.YtmdmdmaekjpfjaaGreat
