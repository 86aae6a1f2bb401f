/- A fact laid by. -/
import Derived.Test.YtghcijliknahdaaBase
namespace Go.Proofs.Ytghcijliknahdaa
open Go.RowKit
theorem hid {p : Prop} (h : p) : Hid p := h
end Go.Proofs.Ytghcijliknahdaa
