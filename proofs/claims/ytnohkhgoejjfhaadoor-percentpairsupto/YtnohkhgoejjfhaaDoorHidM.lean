/- A fact laid by. -/
import Derived.Test.YtnohkhgoejjfhaaDoorBase
namespace Go.Proofs.YtnohkhgoejjfhaaDoor
open Go.RowKit
theorem hid {p : Prop} (h : p) : Hid p := h
end Go.Proofs.YtnohkhgoejjfhaaDoor
