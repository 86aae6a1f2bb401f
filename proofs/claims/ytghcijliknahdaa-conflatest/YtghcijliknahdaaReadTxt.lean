/- The walk of octet's reading of a text: it comes to 'txtAt'. -/
import Derived.Test.YtghcijliknahdaaReadNum
import Derived.Test.YtghcijliknahdaaClone
import Derived.Test.YtghcijliknahdaaTextM
namespace Go.Proofs.Ytghcijliknahdaa
open Go.RowKit
set_option linter.unusedVariables false

theorem ret_txt {T : Txt} {x : ByteArray} {i e : Int} (h1 : x = T.x) (h2 : i = T.to) (h3 : e = T.e) :
    Ending.returned (.tuple #[.string x, .int .i64 i, .int .i64 e]) = .returned (.tuple #[.string T.x, .int .i64 T.to, .int .i64 T.e]) := by rw [h1, h2, h3]

end Go.Proofs.Ytghcijliknahdaa
