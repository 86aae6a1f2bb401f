/-
  No cell of these rows narrows 'for every input' (looked for: loops, veiled, ifaces, maps, wideKeys, modest, calm, conditions, laid).
  DERIVED. THE GIVEN ROWS OF THIS SEAT. 4 by the template 'for every input the law returns true; each argument reads behind the call as it read before'; 0 by the template 'total and deterministic' (their statements: YtmadlnchmkhdjaaGreatTotals.lean).
  GIVEN WITH THE SEED: the statements are not yours to turn. If you find one false, say at which input.
  Laid BY PROGRAM, IN A SANDBOX (cutbox-rows.mjs): the forced cells as the released guide's own fill.sh prints them over the translation 3e1f0b3e5b07d662… (all of the seat's roots in one cut). By AI agents, Wed Nov 11 2026. No macro, syntax, notation, axiom, sorry.
-/
import Derived.Test.YtmadlnchmkhdjaaGreatChecked
import GoSem.Claim
import GoSem.ClaimJoined
import GoSem.ClaimMapViews
import Derived.JoinedTies
import Derived.KernelRfl
namespace Go.Proofs.YtmadlnchmkhdjaaGreat
/- THE CELL 'sum', in the pinned program and in every row, IS THE sha256 OF THE DUMP (.gsa) THAT YtmadlnchmkhdjaaGreatProg.lean LOADS. Nothing in Lean hashes anything: it is a label: what it is worth is what the hold of that sum in a sandbox is worth. -/
noncomputable def Tryz.pinned : Pinned := { name := "ytmadlnchmkhdjaagreat", sum := "3e1f0b3e5b07d662228ab7f3cee847e5e9e7065616be0f35953e537847c61f77", checked := Tryz.checked }
namespace Rows
def none {H : Type} : Left H := { results := [], args := [] }

/-- 'stowagelaw16.CmdTexts': WHATEVER THE INPUT: true; the input reads as it did. -/
def cmdTextsSpec : ChangeSpec := { name := "cmdTexts", fn := fun _ => fun
  | [d] => { results := [.lit (.bool true)], args := [d] }
  | _ => none }
def cmdTextsRow : OpenClaim := { program := "ytmadlnchmkhdjaagreat", sum := "3e1f0b3e5b07d662228ab7f3cee847e5e9e7065616be0f35953e537847c61f77", func := "stowage/stowagelaw16.CmdTexts", spec := "cmdTexts", inPlace := ["internal/bytealg.IndexByteString", "internal/bytealg.IndexString", "internal/abi.NoEscape"], unfollowed := true, recurses := true, named := ["internal/bytealg.MaxLen"], apart := false }
def CmdTextsSaid : Prop := cmdTextsRow.holds Tryz.pinned (OpenSpec.ofChange cmdTextsSpec)

/-- ITS FALSE NEIGHBOUR: 'it returns false'. Refute it at one input. -/
def cmdTextsWrong : ChangeSpec := { name := "cmdTexts", fn := fun _ => fun
  | [d] => { results := [.lit (.bool false)], args := [d] }
  | _ => none }
def CmdTextsWrongFalsely : Prop := cmdTextsRow.holds Tryz.pinned (OpenSpec.ofChange cmdTextsWrong)

/-- 'stowagelaw16.CmdReads': WHATEVER THE INPUT: true; the input reads as it did. -/
def cmdReadsSpec : ChangeSpec := { name := "cmdReads", fn := fun _ => fun
  | [d] => { results := [.lit (.bool true)], args := [d] }
  | _ => none }
def cmdReadsRow : OpenClaim := { program := "ytmadlnchmkhdjaagreat", sum := "3e1f0b3e5b07d662228ab7f3cee847e5e9e7065616be0f35953e537847c61f77", func := "stowage/stowagelaw16.CmdReads", spec := "cmdReads", inPlace := ["internal/bytealg.IndexByteString", "internal/bytealg.IndexString", "internal/abi.NoEscape"], unfollowed := true, recurses := true, named := ["internal/bytealg.MaxLen"], apart := false }
def CmdReadsSaid : Prop := cmdReadsRow.holds Tryz.pinned (OpenSpec.ofChange cmdReadsSpec)

/-- ITS FALSE NEIGHBOUR: 'it returns false'. Refute it at one input. -/
def cmdReadsWrong : ChangeSpec := { name := "cmdReads", fn := fun _ => fun
  | [d] => { results := [.lit (.bool false)], args := [d] }
  | _ => none }
def CmdReadsWrongFalsely : Prop := cmdReadsRow.holds Tryz.pinned (OpenSpec.ofChange cmdReadsWrong)

/-- 'stowagelaw16.CmdOuts': WHATEVER THE INPUT: true; the input reads as it did. -/
def cmdOutsSpec : ChangeSpec := { name := "cmdOuts", fn := fun _ => fun
  | [d1, d2] => { results := [.lit (.bool true)], args := [d1, d2] }
  | _ => none }
def cmdOutsRow : OpenClaim := { program := "ytmadlnchmkhdjaagreat", sum := "3e1f0b3e5b07d662228ab7f3cee847e5e9e7065616be0f35953e537847c61f77", func := "stowage/stowagelaw16.CmdOuts", spec := "cmdOuts", inPlace := ["internal/bytealg.IndexByteString", "internal/bytealg.IndexString", "internal/abi.NoEscape"], unfollowed := true, recurses := true, named := ["internal/bytealg.MaxLen"], apart := false }
def CmdOutsSaid : Prop := cmdOutsRow.holds Tryz.pinned (OpenSpec.ofChange cmdOutsSpec)

/-- ITS FALSE NEIGHBOUR: 'it returns false'. Refute it at one input. -/
def cmdOutsWrong : ChangeSpec := { name := "cmdOuts", fn := fun _ => fun
  | [d1, d2] => { results := [.lit (.bool false)], args := [d1, d2] }
  | _ => none }
def CmdOutsWrongFalsely : Prop := cmdOutsRow.holds Tryz.pinned (OpenSpec.ofChange cmdOutsWrong)

/-- 'stowagelaw16.CmdApart': WHATEVER THE INPUT: true; the input reads as it did. -/
def cmdApartSpec : ChangeSpec := { name := "cmdApart", fn := fun _ => fun
  | [d1, d2, d3] => { results := [.lit (.bool true)], args := [d1, d2, d3] }
  | _ => none }
def cmdApartRow : OpenClaim := { program := "ytmadlnchmkhdjaagreat", sum := "3e1f0b3e5b07d662228ab7f3cee847e5e9e7065616be0f35953e537847c61f77", func := "stowage/stowagelaw16.CmdApart", spec := "cmdApart", inPlace := ["internal/bytealg.IndexByteString", "internal/bytealg.IndexString", "internal/abi.NoEscape"], unfollowed := true, recurses := true, named := ["internal/bytealg.MaxLen"], apart := false }
def CmdApartSaid : Prop := cmdApartRow.holds Tryz.pinned (OpenSpec.ofChange cmdApartSpec)

/-- ITS FALSE NEIGHBOUR: 'it returns false'. Refute it at one input. -/
def cmdApartWrong : ChangeSpec := { name := "cmdApart", fn := fun _ => fun
  | [d1, d2, d3] => { results := [.lit (.bool false)], args := [d1, d2, d3] }
  | _ => none }
def CmdApartWrongFalsely : Prop := cmdApartRow.holds Tryz.pinned (OpenSpec.ofChange cmdApartWrong)

/- THE SECOND FORM. 'bulk': how many values and letters a reading holds, each counted each time it is reached (what is shared counts as often as it is met; a slice's spare places count too). A statement '..UptoSaid' is the law's where the arguments, and the package variables that the reading takes, are together of bulk at most 1048576: NARROWER than '..Said'. Prove '..Said' where nothing that the law and all that it calls make is longer than what came in: it says more and counts as full. Else prove '..UptoSaid'. A law counts once. -/
mutual
def uptoBulk {H : Type} : DataW H → Nat
  | .lit (.string bytes) => bytes.length + 1
  | .lit _ => 1
  | .nil => 1
  | .ptr d => uptoBulk d + 1
  | .slice elems spare => uptoBulkAll elems + uptoBulkAll spare + 1
  | .agg parts => uptoBulkAll parts + 1
  | .iface _ d => uptoBulk d + 1
  | .map entries => uptoBulkEntries entries + 1
  | .held _ => 1
def uptoBulkAll {H : Type} : List (DataW H) → Nat
  | [] => 0
  | d :: r => uptoBulk d + uptoBulkAll r
def uptoBulkEntries {H : Type} : List (Lit × DataW H) → Nat
  | [] => 0
  | x :: r => uptoBulkEntry x + uptoBulkEntries r
def uptoBulkEntry {H : Type} : Lit × DataW H → Nat
  | (.string bytes, d) => bytes.length + uptoBulk d + 1
  | (_, d) => uptoBulk d + 1
 end
def uptoSmall : (H : Type) → List (DataW H) → Bool := fun _ ds => decide (uptoBulkAll ds ≤ 1048576)
def OpenSpec.upto (s : _root_.Go.ChangeSpec) : _root_.Go.OpenSpec := { _root_.Go.OpenSpec.ofChange s with cond := some uptoSmall }

/-- 'stowagelaw16.CmdTexts', WHERE WHAT IT READS IS OF BULK AT MOST 1048576: true; the input reads as it did. -/
def cmdTextsUptoRow : OpenClaim := { program := "ytmadlnchmkhdjaagreat", sum := "3e1f0b3e5b07d662228ab7f3cee847e5e9e7065616be0f35953e537847c61f77", func := "stowage/stowagelaw16.CmdTexts", spec := "cmdTexts", inPlace := ["internal/bytealg.IndexByteString", "internal/bytealg.IndexString", "internal/abi.NoEscape"], unfollowed := true, recurses := true, named := ["internal/bytealg.MaxLen"], apart := false, narrowed := true }
def CmdTextsUptoSaid : Prop := cmdTextsUptoRow.holds Tryz.pinned (OpenSpec.upto cmdTextsSpec)

/-- 'stowagelaw16.CmdReads', WHERE WHAT IT READS IS OF BULK AT MOST 1048576: true; the input reads as it did. -/
def cmdReadsUptoRow : OpenClaim := { program := "ytmadlnchmkhdjaagreat", sum := "3e1f0b3e5b07d662228ab7f3cee847e5e9e7065616be0f35953e537847c61f77", func := "stowage/stowagelaw16.CmdReads", spec := "cmdReads", inPlace := ["internal/bytealg.IndexByteString", "internal/bytealg.IndexString", "internal/abi.NoEscape"], unfollowed := true, recurses := true, named := ["internal/bytealg.MaxLen"], apart := false, narrowed := true }
def CmdReadsUptoSaid : Prop := cmdReadsUptoRow.holds Tryz.pinned (OpenSpec.upto cmdReadsSpec)

/-- 'stowagelaw16.CmdOuts', WHERE WHAT IT READS IS OF BULK AT MOST 1048576: true; the input reads as it did. -/
def cmdOutsUptoRow : OpenClaim := { program := "ytmadlnchmkhdjaagreat", sum := "3e1f0b3e5b07d662228ab7f3cee847e5e9e7065616be0f35953e537847c61f77", func := "stowage/stowagelaw16.CmdOuts", spec := "cmdOuts", inPlace := ["internal/bytealg.IndexByteString", "internal/bytealg.IndexString", "internal/abi.NoEscape"], unfollowed := true, recurses := true, named := ["internal/bytealg.MaxLen"], apart := false, narrowed := true }
def CmdOutsUptoSaid : Prop := cmdOutsUptoRow.holds Tryz.pinned (OpenSpec.upto cmdOutsSpec)

/-- 'stowagelaw16.CmdApart', WHERE WHAT IT READS IS OF BULK AT MOST 1048576: true; the input reads as it did. -/
def cmdApartUptoRow : OpenClaim := { program := "ytmadlnchmkhdjaagreat", sum := "3e1f0b3e5b07d662228ab7f3cee847e5e9e7065616be0f35953e537847c61f77", func := "stowage/stowagelaw16.CmdApart", spec := "cmdApart", inPlace := ["internal/bytealg.IndexByteString", "internal/bytealg.IndexString", "internal/abi.NoEscape"], unfollowed := true, recurses := true, named := ["internal/bytealg.MaxLen"], apart := false, narrowed := true }
def CmdApartUptoSaid : Prop := cmdApartUptoRow.holds Tryz.pinned (OpenSpec.upto cmdApartSpec)

end Rows
end Go.Proofs.YtmadlnchmkhdjaaGreat
