/- A fact laid by. -/
import Derived.Test.YtimdnddplhkdlaaBase
namespace Go.Proofs.Ytimdnddplhkdlaa
open Go.RowKit
theorem hid {p : Prop} (h : p) : Hid p := h
end Go.Proofs.Ytimdnddplhkdlaa
