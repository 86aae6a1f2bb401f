/- The reference's May. -/
import Derived.Test.YtghcijliknahdabConfA
namespace Go.Proofs.Ytghcijliknahdab
open Go.RowKit Go.Maps
set_option linter.unusedVariables false
set_option linter.unusedSimpArgs false

theorem below_drew0 (w : World) (q : Nat) : Below w.heap.size w (World.drewN w q) := below_drewN (Below.refl _ _) q
end Go.Proofs.Ytghcijliknahdab
