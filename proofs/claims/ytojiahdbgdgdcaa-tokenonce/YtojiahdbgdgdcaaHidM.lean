/- A fact laid by. -/
import Derived.Test.YtojiahdbgdgdcaaBase
namespace Go.Proofs.Ytojiahdbgdgdcaa
open Go.RowKit
theorem hid {p : Prop} (h : p) : Hid p := h
end Go.Proofs.Ytojiahdbgdgdcaa
