/- The walk of a change. -/
import Derived.Test.YtnldjcoajliciaaGreatJoined17
import Derived.Test.YtnldjcoajliciaaGreatJoined05
import Derived.Deep.RegionLaw
namespace Go.Proofs.YtnldjcoajliciaaGreat
open Go.RowKit Go.Maps
set_option linter.unusedVariables false
set_option linter.unusedSimpArgs false

end Go.Proofs.YtnldjcoajliciaaGreat
