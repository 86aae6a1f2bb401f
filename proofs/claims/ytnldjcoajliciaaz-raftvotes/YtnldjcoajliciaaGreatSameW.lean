/- The walks of a map's copy, and of files that are the same. -/
import Derived.Test.YtnldjcoajliciaaGreatJoined15
import Derived.Shelf.SlMaps.Clone
namespace Go.Proofs.YtnldjcoajliciaaGreat
open Go.RowKit Go.Maps
set_option linter.unusedVariables false

end Go.Proofs.YtnldjcoajliciaaGreat
