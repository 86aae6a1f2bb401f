/- The walk of the reading of a list: it comes to 'lstAt'; the texts lie in a slice that the call owns. -/
import Derived.Test.YtefbioainibmaaaGreatDoorJoined02
import Derived.Test.YtefbioainibmaaaGreatDoorListM
namespace Go.Proofs.YtefbioainibmaaaGreatDoor
open Go.RowKit
set_option linter.unusedVariables false

end Go.Proofs.YtefbioainibmaaaGreatDoor
