/- A message's text: the document's walk. -/
import Derived.Test.YtlkidnfgodficaaGreatJoined19
import Derived.Test.YtlkidnfgodficaaGreatJoined20
import Derived.Test.YtlkidnfgodficaaGreatJoined22
namespace Go.Proofs.YtlkidnfgodficaaGreat
open Go.RowKit Go.Maps
set_option linter.unusedVariables false
set_option linter.unusedSimpArgs false

end Go.Proofs.YtlkidnfgodficaaGreat
