/- The walk of strings.Clone: the same bytes come back; nothing that was there has turned. -/
import Derived.Test.YtghcijliknahdaaBase
import Derived.Lib.Strings
import Derived.Lib.BufferWrite
import Derived.Lib.UnsafeStr
import Derived.Laws.MakeOwn
namespace Go.Proofs.Ytghcijliknahdaa
open Go.RowKit
set_option linter.unusedVariables false

theorem cells5 : Try.prog.cellsOf 5 = 1 := by kernel_rfl

end Go.Proofs.Ytghcijliknahdaa
