/- A fact laid by. -/
import Derived.Test.YtghcijliknahdabBase
namespace Go.Proofs.Ytghcijliknahdab
open Go.RowKit
theorem hid {p : Prop} (h : p) : Hid p := h
end Go.Proofs.Ytghcijliknahdab
