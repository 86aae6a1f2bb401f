/- A fact laid by. -/
import Derived.Test.YtoefdmiehdldgaaBase
namespace Go.Proofs.Ytoefdmiehdldgaa
open Go.RowKit
theorem hid {p : Prop} (h : p) : Hid p := h
end Go.Proofs.Ytoefdmiehdldgaa
