/- The walk of the reading of a list: it comes to 'lstAt'; the texts lie in a slice that the call owns. -/
import Derived.Test.YtlkidnfgodficaaGreatJoined05
import Derived.Test.YtlkidnfgodficaaGreatListM
namespace Go.Proofs.YtlkidnfgodficaaGreat
open Go.RowKit
set_option linter.unusedVariables false

end Go.Proofs.YtlkidnfgodficaaGreat
