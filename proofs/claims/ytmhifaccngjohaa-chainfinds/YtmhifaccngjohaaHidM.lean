/- A fact laid by. -/
import Derived.Test.YtmhifaccngjohaaBase
namespace Go.Proofs.Ytmhifaccngjohaa
open Go.RowKit
theorem hid {p : Prop} (h : p) : Hid p := h
end Go.Proofs.Ytmhifaccngjohaa
