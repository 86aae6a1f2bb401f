/- Joined: The walk of a fall's being taken out of the plan. A disk in the midst of a change. -/
import Derived.Test.YtnldjcoajliciaaGreatJoined16
import Derived.Laws.ResultCell
namespace Go.Proofs.YtnldjcoajliciaaGreat
open Go.RowKit Go.Maps
set_option linter.unusedVariables false
set_option linter.unusedSimpArgs false

end Go.Proofs.YtnldjcoajliciaaGreat
namespace Go.Proofs.YtnldjcoajliciaaGreat
open Go.RowKit Go.Maps
set_option linter.unusedVariables false
set_option linter.unusedSimpArgs false

def Ds.more (d : Ds) (ch : Chg) : Ds := { d with ws := d.ws ++ [ch] }
def Raw.more (R : Raw) (v1 : Value) : Raw := { R with wv := v1 }

section
variable {w wM W : World} {c : Nat → Nat} {p : Nat} {R : Raw} {d : Ds} {ch : Chg} {v1 : Value}
end
end Go.Proofs.YtnldjcoajliciaaGreat
