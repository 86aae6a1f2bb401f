/- The walk of the document's reading of a text: it comes to 'txtAt'. -/
import Derived.Test.YtghcijliknahdaaRefNum
import Derived.Test.YtghcijliknahdaaReadTxt
namespace Go.Proofs.Ytghcijliknahdaa
open Go.RowKit
set_option linter.unusedVariables false

end Go.Proofs.Ytghcijliknahdaa
