/- A fact laid by. -/
import Derived.Test.YtfcchmjofejkhaaBase
namespace Go.Proofs.Ytfcchmjofejkhaa
open Go.RowKit
theorem hid {p : Prop} (h : p) : Hid p := h
end Go.Proofs.Ytfcchmjofejkhaa
