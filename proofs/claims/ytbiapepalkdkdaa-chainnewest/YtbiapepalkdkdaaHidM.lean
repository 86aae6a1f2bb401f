/- A fact laid by. -/
import Derived.Test.YtbiapepalkdkdaaBase
namespace Go.Proofs.Ytbiapepalkdkdaa
open Go.RowKit
theorem hid {p : Prop} (h : p) : Hid p := h
end Go.Proofs.Ytbiapepalkdkdaa
