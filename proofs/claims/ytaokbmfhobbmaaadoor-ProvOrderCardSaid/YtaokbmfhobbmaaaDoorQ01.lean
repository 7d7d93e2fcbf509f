/- Lists held against each other (layer 1's reference). -/
import Derived.Test.YtaokbmfhobbmaaaDoorF2
import Derived.Test.YtaokbmfhobbmaaaDoorPv
namespace Go.Proofs.YtaokbmfhobbmaaaDoor
open Go.RowKit
set_option linter.unusedVariables false
end Go.Proofs.YtaokbmfhobbmaaaDoor
