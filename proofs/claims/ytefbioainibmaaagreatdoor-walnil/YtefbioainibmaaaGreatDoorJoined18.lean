/- Joined: The snapshot that a text says: the program's walk. What is told is read again, and in one form alone: a snapshot's text. Saving and loading a snapshot; the law's own small run answers true. The law's own small run: it answers true. A snapshot that is saved where room is short: what becomes of the disk; Save of any snapshot. The snapshot that a text says: the reference's walk. Loading a snapshot from any disk: the program's Load and the document's. -/
import Derived.Test.YtefbioainibmaaaGreatDoorJoined17
import Derived.Test.YtefbioainibmaaaGreatDoorJoined09
import Derived.Deep.RegionLaw
import Derived.Laws.ResultCell
import Derived.Test.YtefbioainibmaaaGreatDoorJoined01
import Derived.Test.YtefbioainibmaaaGreatDoorJoined02
import Derived.Test.YtefbioainibmaaaGreatDoorShR
import Derived.Test.YtefbioainibmaaaGreatDoorJoined08
namespace Go.Proofs.YtefbioainibmaaaGreatDoor
open Go.RowKit Go.Maps
set_option linter.unusedVariables false
set_option linter.unusedSimpArgs false

theorem four {W : World} {g : Nat} {v0 v1 v2 v3 x0 x1 x2 x3 : Value} {t : TypeId} (h : RowIs W g [v0, v1, v2, v3] t) : RowIs ((((W.setCell ⟨g, 0, none⟩ x0).setCell ⟨g, 1, none⟩ x1).setCell ⟨g, 2, none⟩ x2).setCell ⟨g, 3, none⟩ x3) g [x0, x1, x2, x3] t ∧ Keep (· = g) W ((((W.setCell ⟨g, 0, none⟩ x0).setCell ⟨g, 1, none⟩ x1).setCell ⟨g, 2, none⟩ x2).setCell ⟨g, 3, none⟩ x3) :=
  ⟨(((h.set 0 x0).set 1 x1).set 2 x2).set 3 x3, (((keep_setCell _ _ _ _).trans (keep_setCell _ _ _ _)).trans (keep_setCell _ _ _ _)).trans (keep_setCell _ _ _ _)⟩
end Go.Proofs.YtefbioainibmaaaGreatDoor
namespace Go.Proofs.YtefbioainibmaaaGreatDoor
open Go.RowKit Go.Maps
set_option linter.unusedVariables false
set_option linter.unusedSimpArgs false

end Go.Proofs.YtefbioainibmaaaGreatDoor
namespace Go.Proofs.YtefbioainibmaaaGreatDoor
open Go.RowKit Go.Maps
set_option linter.unusedVariables false
set_option linter.unusedSimpArgs false

end Go.Proofs.YtefbioainibmaaaGreatDoor
namespace Go.Proofs.YtefbioainibmaaaGreatDoor
open Go.RowKit Go.Maps
set_option linter.unusedVariables false
set_option linter.unusedSimpArgs false

end Go.Proofs.YtefbioainibmaaaGreatDoor
namespace Go.Proofs.YtefbioainibmaaaGreatDoor
open Go.RowKit Go.Maps
set_option linter.unusedVariables false
set_option linter.unusedSimpArgs false

end Go.Proofs.YtefbioainibmaaaGreatDoor
namespace Go.Proofs.YtefbioainibmaaaGreatDoor
open Go.RowKit Go.Maps
set_option linter.unusedVariables false
set_option linter.unusedSimpArgs false

end Go.Proofs.YtefbioainibmaaaGreatDoor
namespace Go.Proofs.YtefbioainibmaaaGreatDoor
open Go.RowKit Go.Maps
set_option linter.unusedVariables false
set_option linter.unusedSimpArgs false

theorem unf_to_le (s : ByteArray) : (unfAt s 0).to ≤ (s.size : Int) ∧ (unfAt s 0).x.size ≤ s.size := by
  unfold unfAt
  split
  · split
    · split
      · split
        · refine ⟨by simp only; omega, ?_⟩
          simp only [ByteArray.size_extract]; omega
        · exact ⟨Int.natCast_nonneg _, Nat.zero_le _⟩
      · exact ⟨Int.natCast_nonneg _, Nat.zero_le _⟩
    · exact ⟨Int.natCast_nonneg _, Nat.zero_le _⟩
  · exact ⟨Int.natCast_nonneg _, Nat.zero_le _⟩
end Go.Proofs.YtefbioainibmaaaGreatDoor
