/- Joined: The walks of the putting of a list, and of the comparison of two lists. The mathematics of there and back: what is put is read again, and what is read is just what is put; nothing of the program's text stands here. -/
import Derived.Test.YtefbioainibmaaaGreatDoorJoined01
import Derived.Test.YtefbioainibmaaaGreatDoorReadLst
import Derived.Deep.QuietTactic
import Derived.BigQuiet
namespace Go.Proofs.YtefbioainibmaaaGreatDoor
open Go.RowKit
set_option linter.unusedVariables false

end Go.Proofs.YtefbioainibmaaaGreatDoor
namespace Go.Proofs.YtefbioainibmaaaGreatDoor
open Go.RowKit
set_option linter.unusedVariables false

theorem toNat_ofNat (c : UInt8) : UInt8.ofNat c.toNat = c := by simp

end Go.Proofs.YtefbioainibmaaaGreatDoor
