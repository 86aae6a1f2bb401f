/-
  No cell of these rows narrows 'for every input' (looked for: loops, veiled, ifaces, maps, wideKeys, modest, calm, conditions, laid).
  DERIVED. THE GIVEN ROWS OF THIS SEAT. 3 by the template 'for every input the law returns true; each argument reads behind the call as it read before'; 0 by the template 'total and deterministic' (their statements: YtedogofeibdjiaaGreatTotals.lean).
  GIVEN WITH THE SEED: the statements are not yours to turn. If you find one false, say at which input.
  Laid BY PROGRAM, IN A SANDBOX (cutbox-rows.mjs): the forced cells as the released guide's own fill.sh prints them over the translation 88d40fb727f53d91… (all of the seat's roots in one cut). By AI agents, Wed Nov 11 2026. No macro, syntax, notation, axiom, sorry.
-/
import Derived.Test.YtedogofeibdjiaaGreatChecked
import GoSem.Claim
import GoSem.ClaimJoined
import GoSem.ClaimMapViews
import Derived.JoinedTies
import Derived.KernelRfl
namespace Go.Proofs.YtedogofeibdjiaaGreat
/- THE CELL 'sum', in the pinned program and in every row, IS THE sha256 OF THE DUMP (.gsa) THAT YtedogofeibdjiaaGreatProg.lean LOADS. Nothing in Lean hashes anything: it is a label: what it is worth is what the hold of that sum in a sandbox is worth. -/
noncomputable def Tryz.pinned : Pinned := { name := "ytedogofeibdjiaagreat", sum := "88d40fb727f53d91c99a51ef8f91218b2b34f2086f2888d07ae7b497438d7aaf", checked := Tryz.checked }
namespace Rows
def none {H : Type} : Left H := { results := [], args := [] }

/-- 'stowagelaw06.ExtentPlays': WHATEVER THE INPUT: true; the input reads as it did. -/
def extentPlaysSpec : ChangeSpec := { name := "extentPlays", fn := fun _ => fun
  | [d] => { results := [.lit (.bool true)], args := [d] }
  | _ => none }
def extentPlaysRow : OpenClaim := { program := "ytedogofeibdjiaagreat", sum := "88d40fb727f53d91c99a51ef8f91218b2b34f2086f2888d07ae7b497438d7aaf", func := "stowage/stowagelaw06.ExtentPlays", spec := "extentPlays", inPlace := ["maps.clone", "internal/abi.NoEscape", "internal/bytealg.MakeNoZero"], unfollowed := true, recurses := true, apart := false }
def ExtentPlaysSaid : Prop := extentPlaysRow.holds Tryz.pinned (OpenSpec.ofChange extentPlaysSpec)

/-- ITS FALSE NEIGHBOUR: 'it returns false'. Refute it at one input. -/
def extentPlaysWrong : ChangeSpec := { name := "extentPlays", fn := fun _ => fun
  | [d] => { results := [.lit (.bool false)], args := [d] }
  | _ => none }
def ExtentPlaysWrongFalsely : Prop := extentPlaysRow.holds Tryz.pinned (OpenSpec.ofChange extentPlaysWrong)

/-- 'stowagelaw06.ExtentOpens': WHATEVER THE INPUT: true; the input reads as it did. -/
def extentOpensSpec : ChangeSpec := { name := "extentOpens", fn := fun _ => fun
  | [d] => { results := [.lit (.bool true)], args := [d] }
  | _ => none }
def extentOpensRow : OpenClaim := { program := "ytedogofeibdjiaagreat", sum := "88d40fb727f53d91c99a51ef8f91218b2b34f2086f2888d07ae7b497438d7aaf", func := "stowage/stowagelaw06.ExtentOpens", spec := "extentOpens", inPlace := ["maps.clone", "internal/abi.NoEscape", "internal/bytealg.MakeNoZero"], unfollowed := true, recurses := true, apart := false }
def ExtentOpensSaid : Prop := extentOpensRow.holds Tryz.pinned (OpenSpec.ofChange extentOpensSpec)

/-- ITS FALSE NEIGHBOUR: 'it returns false'. Refute it at one input. -/
def extentOpensWrong : ChangeSpec := { name := "extentOpens", fn := fun _ => fun
  | [d] => { results := [.lit (.bool false)], args := [d] }
  | _ => none }
def ExtentOpensWrongFalsely : Prop := extentOpensRow.holds Tryz.pinned (OpenSpec.ofChange extentOpensWrong)

/-- 'stowagelaw06.ExtentKeeps': WHATEVER THE INPUT: true; the input reads as it did. -/
def extentKeepsSpec : ChangeSpec := { name := "extentKeeps", fn := fun _ => fun
  | [d1, d2] => { results := [.lit (.bool true)], args := [d1, d2] }
  | _ => none }
def extentKeepsRow : OpenClaim := { program := "ytedogofeibdjiaagreat", sum := "88d40fb727f53d91c99a51ef8f91218b2b34f2086f2888d07ae7b497438d7aaf", func := "stowage/stowagelaw06.ExtentKeeps", spec := "extentKeeps", inPlace := ["maps.clone", "internal/abi.NoEscape", "internal/bytealg.MakeNoZero"], unfollowed := true, recurses := true, apart := false }
def ExtentKeepsSaid : Prop := extentKeepsRow.holds Tryz.pinned (OpenSpec.ofChange extentKeepsSpec)

/-- ITS FALSE NEIGHBOUR: 'it returns false'. Refute it at one input. -/
def extentKeepsWrong : ChangeSpec := { name := "extentKeeps", fn := fun _ => fun
  | [d1, d2] => { results := [.lit (.bool false)], args := [d1, d2] }
  | _ => none }
def ExtentKeepsWrongFalsely : Prop := extentKeepsRow.holds Tryz.pinned (OpenSpec.ofChange extentKeepsWrong)

/- THE SECOND FORM. 'bulk': how many values and letters a reading holds, each counted each time it is reached (what is shared counts as often as it is met; a slice's spare places count too). A statement '..UptoSaid' is the law's where the arguments, and the package variables that the reading takes, are together of bulk at most 1048576: NARROWER than '..Said'. Prove '..Said' where nothing that the law and all that it calls make is longer than what came in: it says more and counts as full. Else prove '..UptoSaid'. A law counts once. -/
mutual
def uptoBulk {H : Type} : DataW H → Nat
  | .lit (.string bytes) => bytes.length + 1
  | .lit _ => 1
  | .nil => 1
  | .ptr d => uptoBulk d + 1
  | .slice elems spare => uptoBulkAll elems + uptoBulkAll spare + 1
  | .agg parts => uptoBulkAll parts + 1
  | .iface _ d => uptoBulk d + 1
  | .map entries => uptoBulkEntries entries + 1
  | .held _ => 1
def uptoBulkAll {H : Type} : List (DataW H) → Nat
  | [] => 0
  | d :: r => uptoBulk d + uptoBulkAll r
def uptoBulkEntries {H : Type} : List (Lit × DataW H) → Nat
  | [] => 0
  | x :: r => uptoBulkEntry x + uptoBulkEntries r
def uptoBulkEntry {H : Type} : Lit × DataW H → Nat
  | (.string bytes, d) => bytes.length + uptoBulk d + 1
  | (_, d) => uptoBulk d + 1
 end
def uptoSmall : (H : Type) → List (DataW H) → Bool := fun _ ds => decide (uptoBulkAll ds ≤ 1048576)
def OpenSpec.upto (s : _root_.Go.ChangeSpec) : _root_.Go.OpenSpec := { _root_.Go.OpenSpec.ofChange s with cond := some uptoSmall }

/-- 'stowagelaw06.ExtentPlays', WHERE WHAT IT READS IS OF BULK AT MOST 1048576: true; the input reads as it did. -/
def extentPlaysUptoRow : OpenClaim := { program := "ytedogofeibdjiaagreat", sum := "88d40fb727f53d91c99a51ef8f91218b2b34f2086f2888d07ae7b497438d7aaf", func := "stowage/stowagelaw06.ExtentPlays", spec := "extentPlays", inPlace := ["maps.clone", "internal/abi.NoEscape", "internal/bytealg.MakeNoZero"], unfollowed := true, recurses := true, apart := false, narrowed := true }
def ExtentPlaysUptoSaid : Prop := extentPlaysUptoRow.holds Tryz.pinned (OpenSpec.upto extentPlaysSpec)

/-- 'stowagelaw06.ExtentOpens', WHERE WHAT IT READS IS OF BULK AT MOST 1048576: true; the input reads as it did. -/
def extentOpensUptoRow : OpenClaim := { program := "ytedogofeibdjiaagreat", sum := "88d40fb727f53d91c99a51ef8f91218b2b34f2086f2888d07ae7b497438d7aaf", func := "stowage/stowagelaw06.ExtentOpens", spec := "extentOpens", inPlace := ["maps.clone", "internal/abi.NoEscape", "internal/bytealg.MakeNoZero"], unfollowed := true, recurses := true, apart := false, narrowed := true }
def ExtentOpensUptoSaid : Prop := extentOpensUptoRow.holds Tryz.pinned (OpenSpec.upto extentOpensSpec)

/-- 'stowagelaw06.ExtentKeeps', WHERE WHAT IT READS IS OF BULK AT MOST 1048576: true; the input reads as it did. -/
def extentKeepsUptoRow : OpenClaim := { program := "ytedogofeibdjiaagreat", sum := "88d40fb727f53d91c99a51ef8f91218b2b34f2086f2888d07ae7b497438d7aaf", func := "stowage/stowagelaw06.ExtentKeeps", spec := "extentKeeps", inPlace := ["maps.clone", "internal/abi.NoEscape", "internal/bytealg.MakeNoZero"], unfollowed := true, recurses := true, apart := false, narrowed := true }
def ExtentKeepsUptoSaid : Prop := extentKeepsUptoRow.holds Tryz.pinned (OpenSpec.upto extentKeepsSpec)

end Rows
end Go.Proofs.YtedogofeibdjiaaGreat
