/- Joined: The walks of the putting of a list, and of the comparison of two lists. The mathematics of there and back: what is put is read again, and what is read is just what is put; nothing of the program's text stands here. -/
import Derived.Test.YtnldjcoajliciaaGreatJoined01
import Derived.Test.YtnldjcoajliciaaGreatReadLst
import Derived.Deep.QuietTactic
import Derived.BigQuiet
namespace Go.Proofs.YtnldjcoajliciaaGreat
open Go.RowKit
set_option linter.unusedVariables false

end Go.Proofs.YtnldjcoajliciaaGreat
namespace Go.Proofs.YtnldjcoajliciaaGreat
open Go.RowKit
set_option linter.unusedVariables false

end Go.Proofs.YtnldjcoajliciaaGreat
