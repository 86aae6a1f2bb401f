/- The walks of the putting of a text: its size's bytes, and it. -/
import Derived.Test.YtghcijliknahdaaPutNum
import Derived.Test.YtghcijliknahdaaTextM
namespace Go.Proofs.Ytghcijliknahdaa
open Go.RowKit
set_option linter.unusedVariables false

/-- a text's bytes -/
def ptx (s : ByteArray) : List UInt8 := put s.size ++ s.data.toList
theorem ptx_len (s : ByteArray) : (ptx s).length = (put s.size).length + s.size := by simp [ptx]

end Go.Proofs.Ytghcijliknahdaa
