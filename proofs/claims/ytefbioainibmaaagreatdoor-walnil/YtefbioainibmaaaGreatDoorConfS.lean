/- A row of numbers: made, copied into, sorted. -/
import Derived.Test.YtefbioainibmaaaGreatDoorJoined21
import Derived.Test.YtefbioainibmaaaGreatDoorLaid
import Derived.Lib.SortBridge
import Derived.Laws.CopyRow
import Derived.Laws.MakeOwn
namespace Go.Proofs.YtefbioainibmaaaGreatDoor
open Go.RowKit Go.Maps Go.Sort Go.Shelf
set_option linter.unusedVariables false
set_option linter.unusedSimpArgs false

def srt (l : List Int) : List Int := l.mergeSort fun x y => decide (x ≤ y)
theorem srt_len (l : List Int) : (srt l).length = l.length := List.length_mergeSort l
end Go.Proofs.YtefbioainibmaaaGreatDoor
