/- The walk of a change. -/
import Derived.Test.YtlkidnfgodficaaGreatJoined17
import Derived.Test.YtlkidnfgodficaaGreatJoined05
import Derived.Deep.RegionLaw
namespace Go.Proofs.YtlkidnfgodficaaGreat
open Go.RowKit Go.Maps
set_option linter.unusedVariables false
set_option linter.unusedSimpArgs false

end Go.Proofs.YtlkidnfgodficaaGreat
