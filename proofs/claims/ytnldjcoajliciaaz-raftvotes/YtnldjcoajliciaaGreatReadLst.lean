/- The walk of the reading of a list: it comes to 'lstAt'; the texts lie in a slice that the call owns. -/
import Derived.Test.YtnldjcoajliciaaGreatJoined05
import Derived.Test.YtnldjcoajliciaaGreatListM
namespace Go.Proofs.YtnldjcoajliciaaGreat
open Go.RowKit
set_option linter.unusedVariables false

end Go.Proofs.YtnldjcoajliciaaGreat
