/- Contracts of the reader's expression: a byte. -/
import Derived.Test.YtfbjljcmmbdhkaaGreatDoorT16
namespace Go.Proofs.YtfbjljcmmbdhkaaGreatDoor
set_option linter.unusedVariables false
set_option linter.unusedSimpArgs false
set_option maxRecDepth 100000
set_option maxHeartbeats 200000000
open Go.ChangeShapes Go.WideShapes Go.ChangeAt Go.RowKit

end Go.Proofs.YtfbjljcmmbdhkaaGreatDoor
