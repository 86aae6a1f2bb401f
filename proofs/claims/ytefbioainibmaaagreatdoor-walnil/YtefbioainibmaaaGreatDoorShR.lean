/- The reference's Check of a snapshot. -/
import Derived.Test.YtefbioainibmaaaGreatDoorJoined17
import Derived.Deep.QuietTactic
namespace Go.Proofs.YtefbioainibmaaaGreatDoor
open Go.RowKit Go.Maps
set_option linter.unusedVariables false
set_option linter.unusedSimpArgs false

end Go.Proofs.YtefbioainibmaaaGreatDoor
