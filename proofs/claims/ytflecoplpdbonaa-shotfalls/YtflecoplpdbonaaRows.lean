/-
  No cell of these rows narrows 'for every input' (looked for: loops, veiled, ifaces, maps, wideKeys, modest, calm, conditions, laid).
  DERIVED. THE GIVEN ROWS OF THIS SEAT. 2 by the template 'for every input the law returns true; each argument reads behind the call as it read before'; 0 by the template 'total and deterministic' (their statements: YtflecoplpdbonaaTotals.lean).
  GIVEN WITH THE SEED: the statements are not yours to turn. If you find one false, say at which input.
  Laid BY PROGRAM, IN A SANDBOX (cutbox-rows.mjs): the forced cells as the released guide's own fill.sh prints them over the translation 02b933e27a157860… (all of the seat's roots in one cut). By AI agents, Wed Nov 11 2026. No macro, syntax, notation, axiom, sorry.
-/
import Derived.Test.YtflecoplpdbonaaChecked
import GoSem.Claim
import GoSem.ClaimJoined
import GoSem.ClaimMapViews
import Derived.JoinedTies
import Derived.KernelRfl
namespace Go.Proofs.Ytflecoplpdbonaa
/- THE CELL 'sum', in the pinned program and in every row, IS THE sha256 OF THE DUMP (.gsa) THAT YtflecoplpdbonaaProg.lean LOADS. Nothing in Lean hashes anything: it is a label: what it is worth is what the hold of that sum in a sandbox is worth. -/
noncomputable def Try.pinned : Pinned := { name := "ytflecoplpdbonaa", sum := "02b933e27a157860ee0f8ae124be07fbdb5c4d7f2afa7e23863765e34924d646", checked := Try.checked }
namespace Rows
def none {H : Type} : Left H := { results := [], args := [] }

/-- 'stowagelaw07.ShotFalls': WHATEVER THE INPUT: true; the input reads as it did. -/
def shotFallsSpec : ChangeSpec := { name := "shotFalls", fn := fun _ => fun
  | [d1, d2] => { results := [.lit (.bool true)], args := [d1, d2] }
  | _ => none }
def shotFallsRow : OpenClaim := { program := "ytflecoplpdbonaa", sum := "02b933e27a157860ee0f8ae124be07fbdb5c4d7f2afa7e23863765e34924d646", func := "stowage/stowagelaw07.ShotFalls", spec := "shotFalls", inPlace := ["maps.clone"], unfollowed := true, recurses := true, apart := false }
def ShotFallsSaid : Prop := shotFallsRow.holds Try.pinned (OpenSpec.ofChange shotFallsSpec)

/-- ITS FALSE NEIGHBOUR: 'it returns false'. Refute it at one input. -/
def shotFallsWrong : ChangeSpec := { name := "shotFalls", fn := fun _ => fun
  | [d1, d2] => { results := [.lit (.bool false)], args := [d1, d2] }
  | _ => none }
def ShotFallsWrongFalsely : Prop := shotFallsRow.holds Try.pinned (OpenSpec.ofChange shotFallsWrong)

/-- 'stowagelaw07.ShotFull': WHATEVER THE INPUT: true; the input reads as it did. -/
def shotFullSpec : ChangeSpec := { name := "shotFull", fn := fun _ => fun
  | [d1, d2, d3] => { results := [.lit (.bool true)], args := [d1, d2, d3] }
  | _ => none }
def shotFullRow : OpenClaim := { program := "ytflecoplpdbonaa", sum := "02b933e27a157860ee0f8ae124be07fbdb5c4d7f2afa7e23863765e34924d646", func := "stowage/stowagelaw07.ShotFull", spec := "shotFull", inPlace := ["maps.clone"], unfollowed := true, recurses := true, apart := false }
def ShotFullSaid : Prop := shotFullRow.holds Try.pinned (OpenSpec.ofChange shotFullSpec)

/-- ITS FALSE NEIGHBOUR: 'it returns false'. Refute it at one input. -/
def shotFullWrong : ChangeSpec := { name := "shotFull", fn := fun _ => fun
  | [d1, d2, d3] => { results := [.lit (.bool false)], args := [d1, d2, d3] }
  | _ => none }
def ShotFullWrongFalsely : Prop := shotFullRow.holds Try.pinned (OpenSpec.ofChange shotFullWrong)

/- THE SECOND FORM. 'bulk': how many values and letters a reading holds, each counted each time it is reached (what is shared counts as often as it is met; a slice's spare places count too). A statement '..UptoSaid' is the law's where the arguments, and the package variables that the reading takes, are together of bulk at most 1048576: NARROWER than '..Said'. Prove '..Said' where nothing that the law and all that it calls make is longer than what came in: it says more and counts as full. Else prove '..UptoSaid'. A law counts once. -/
mutual
def uptoBulk {H : Type} : DataW H → Nat
  | .lit (.string bytes) => bytes.length + 1
  | .lit _ => 1
  | .nil => 1
  | .ptr d => uptoBulk d + 1
  | .slice elems spare => uptoBulkAll elems + uptoBulkAll spare + 1
  | .agg parts => uptoBulkAll parts + 1
  | .iface _ d => uptoBulk d + 1
  | .map entries => uptoBulkEntries entries + 1
  | .held _ => 1
def uptoBulkAll {H : Type} : List (DataW H) → Nat
  | [] => 0
  | d :: r => uptoBulk d + uptoBulkAll r
def uptoBulkEntries {H : Type} : List (Lit × DataW H) → Nat
  | [] => 0
  | x :: r => uptoBulkEntry x + uptoBulkEntries r
def uptoBulkEntry {H : Type} : Lit × DataW H → Nat
  | (.string bytes, d) => bytes.length + uptoBulk d + 1
  | (_, d) => uptoBulk d + 1
 end
def uptoSmall : (H : Type) → List (DataW H) → Bool := fun _ ds => decide (uptoBulkAll ds ≤ 1048576)
def OpenSpec.upto (s : _root_.Go.ChangeSpec) : _root_.Go.OpenSpec := { _root_.Go.OpenSpec.ofChange s with cond := some uptoSmall }

/-- 'stowagelaw07.ShotFalls', WHERE WHAT IT READS IS OF BULK AT MOST 1048576: true; the input reads as it did. -/
def shotFallsUptoRow : OpenClaim := { program := "ytflecoplpdbonaa", sum := "02b933e27a157860ee0f8ae124be07fbdb5c4d7f2afa7e23863765e34924d646", func := "stowage/stowagelaw07.ShotFalls", spec := "shotFalls", inPlace := ["maps.clone"], unfollowed := true, recurses := true, apart := false, narrowed := true }
def ShotFallsUptoSaid : Prop := shotFallsUptoRow.holds Try.pinned (OpenSpec.upto shotFallsSpec)

/-- 'stowagelaw07.ShotFull', WHERE WHAT IT READS IS OF BULK AT MOST 1048576: true; the input reads as it did. -/
def shotFullUptoRow : OpenClaim := { program := "ytflecoplpdbonaa", sum := "02b933e27a157860ee0f8ae124be07fbdb5c4d7f2afa7e23863765e34924d646", func := "stowage/stowagelaw07.ShotFull", spec := "shotFull", inPlace := ["maps.clone"], unfollowed := true, recurses := true, apart := false, narrowed := true }
def ShotFullUptoSaid : Prop := shotFullUptoRow.holds Try.pinned (OpenSpec.upto shotFullSpec)

end Rows
end Go.Proofs.Ytflecoplpdbonaa
