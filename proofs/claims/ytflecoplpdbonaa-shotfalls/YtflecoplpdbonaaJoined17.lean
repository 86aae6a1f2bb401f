/- Joined: The walk of the document's putting of a number: it calls itself, a byte at a time. The walk of the document's putting of a text. -/
import Derived.Test.YtflecoplpdbonaaJoined01
import Derived.Deep.RegionWith
namespace Go.Proofs.Ytflecoplpdbonaa
open Go.RowKit
set_option linter.unusedVariables false

/-- 'string([]byte{x})': the slice has just been laid -/
theorem convert_one (w : World) (c : UInt8) (x : Int) (hx : x = c.toNat) (g : Nat) (hg : w.cell? ⟨g, 0, none⟩ = some (.int .u8 x)) :
    (convert 80 9 (.slice (some ⟨g, 0, none⟩) 1 1)).run Try.prog w = .ok (.string ⟨#[c]⟩) w := by
  subst hx
  refine run_convert_bytes_back w 80 9 5 _ 1 [c] Try.underlying80 Try.underlying5 Try.underlying9 ?_
  intro j hj
  match j, hj with
  | 0, _ => simpa [Addr.add_lit] using hg

end Go.Proofs.Ytflecoplpdbonaa
namespace Go.Proofs.Ytflecoplpdbonaa
open Go.RowKit
set_option linter.unusedVariables false

end Go.Proofs.Ytflecoplpdbonaa
