/- What comes in: a slice of numbers. -/
import Derived.Test.YtnldjcoajliciaaGreatRows
import Derived.Test.YtnldjcoajliciaaGreatJoined04
import Derived.ProofKit
import Derived.OpenShut
import Derived.SliceStrings
import Derived.SizedLaws
namespace Go.Proofs.YtnldjcoajliciaaGreat.ibulk
open Go.ChangeShapes Go.WideShapes Go.ChangeAt Go.RowKit
set_option linter.unusedVariables false

end Go.Proofs.YtnldjcoajliciaaGreat.ibulk
