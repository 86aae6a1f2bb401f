/- Joined: The walk of the document's putting of a number: it calls itself, a byte at a time. The walk of the document's putting of a text. -/
import Derived.Test.YtlkidnfgodficaaGreatJoined01
import Derived.Deep.RegionWith
namespace Go.Proofs.YtlkidnfgodficaaGreat
open Go.RowKit
set_option linter.unusedVariables false

end Go.Proofs.YtlkidnfgodficaaGreat
namespace Go.Proofs.YtlkidnfgodficaaGreat
open Go.RowKit
set_option linter.unusedVariables false

end Go.Proofs.YtlkidnfgodficaaGreat
