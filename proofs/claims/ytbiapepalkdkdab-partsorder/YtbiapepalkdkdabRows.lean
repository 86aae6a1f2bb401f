/-
  No cell of these rows narrows 'for every input' (looked for: loops, veiled, ifaces, maps, wideKeys, modest, calm, conditions, laid).
  DERIVED. THE GIVEN ROWS OF THIS SEAT. 6 by the template 'for every input the law returns true; each argument reads behind the call as it read before'; 0 by the template 'total and deterministic' (their statements: YtbiapepalkdkdabTotals.lean).
  GIVEN WITH THE SEED: the statements are not yours to turn. If you find one false, say at which input.
  Laid BY PROGRAM, IN A SANDBOX (cutbox-rows.mjs): the forced cells as the released guide's own fill.sh prints them over the translation 1f0715c98347dbd7… (all of the seat's roots in one cut). By AI agents, Wed Nov 11 2026. No macro, syntax, notation, axiom, sorry.
-/
import Derived.Test.YtbiapepalkdkdabChecked
import GoSem.Claim
import GoSem.ClaimJoined
import GoSem.ClaimMapViews
import Derived.JoinedTies
import Derived.KernelRfl
namespace Go.Proofs.Ytbiapepalkdkdab
/- THE CELL 'sum', in the pinned program and in every row, IS THE sha256 OF THE DUMP (.gsa) THAT YtbiapepalkdkdabProg.lean LOADS. Nothing in Lean hashes anything: it is a label: what it is worth is what the hold of that sum in a sandbox is worth. -/
noncomputable def Try.pinned : Pinned := { name := "ytbiapepalkdkdab", sum := "1f0715c98347dbd74b8e65bc92ac41bfbb697a65d076c4bbaa08f588d10ba998", checked := Try.checked }
namespace Rows
def none {H : Type} : Left H := { results := [], args := [] }

/-- 'stowagelaw14.PartsPuts': WHATEVER THE INPUT: true; the input reads as it did. -/
def partsPutsSpec : ChangeSpec := { name := "partsPuts", fn := fun _ => fun
  | [d1, d2] => { results := [.lit (.bool true)], args := [d1, d2] }
  | _ => none }
def partsPutsRow : OpenClaim := { program := "ytbiapepalkdkdab", sum := "1f0715c98347dbd74b8e65bc92ac41bfbb697a65d076c4bbaa08f588d10ba998", func := "stowage/stowagelaw14.PartsPuts", spec := "partsPuts", unfollowed := true, recurses := true, apart := false }
def PartsPutsSaid : Prop := partsPutsRow.holds Try.pinned (OpenSpec.ofChange partsPutsSpec)

/-- ITS FALSE NEIGHBOUR: 'it returns false'. Refute it at one input. -/
def partsPutsWrong : ChangeSpec := { name := "partsPuts", fn := fun _ => fun
  | [d1, d2] => { results := [.lit (.bool false)], args := [d1, d2] }
  | _ => none }
def PartsPutsWrongFalsely : Prop := partsPutsRow.holds Try.pinned (OpenSpec.ofChange partsPutsWrong)

/-- 'stowagelaw14.PartsJoins': WHATEVER THE INPUT: true; the input reads as it did. -/
def partsJoinsSpec : ChangeSpec := { name := "partsJoins", fn := fun _ => fun
  | [d1, d2] => { results := [.lit (.bool true)], args := [d1, d2] }
  | _ => none }
def partsJoinsRow : OpenClaim := { program := "ytbiapepalkdkdab", sum := "1f0715c98347dbd74b8e65bc92ac41bfbb697a65d076c4bbaa08f588d10ba998", func := "stowage/stowagelaw14.PartsJoins", spec := "partsJoins", unfollowed := true, recurses := true, apart := false }
def PartsJoinsSaid : Prop := partsJoinsRow.holds Try.pinned (OpenSpec.ofChange partsJoinsSpec)

/-- ITS FALSE NEIGHBOUR: 'it returns false'. Refute it at one input. -/
def partsJoinsWrong : ChangeSpec := { name := "partsJoins", fn := fun _ => fun
  | [d1, d2] => { results := [.lit (.bool false)], args := [d1, d2] }
  | _ => none }
def PartsJoinsWrongFalsely : Prop := partsJoinsRow.holds Try.pinned (OpenSpec.ofChange partsJoinsWrong)

/-- 'stowagelaw14.PartsBytes': WHATEVER THE INPUT: true; the input reads as it did. -/
def partsBytesSpec : ChangeSpec := { name := "partsBytes", fn := fun _ => fun
  | [d1, d2] => { results := [.lit (.bool true)], args := [d1, d2] }
  | _ => none }
def partsBytesRow : OpenClaim := { program := "ytbiapepalkdkdab", sum := "1f0715c98347dbd74b8e65bc92ac41bfbb697a65d076c4bbaa08f588d10ba998", func := "stowage/stowagelaw14.PartsBytes", spec := "partsBytes", inPlace := ["internal/abi.NoEscape"], unfollowed := true, recurses := true, apart := false }
def PartsBytesSaid : Prop := partsBytesRow.holds Try.pinned (OpenSpec.ofChange partsBytesSpec)

/-- ITS FALSE NEIGHBOUR: 'it returns false'. Refute it at one input. -/
def partsBytesWrong : ChangeSpec := { name := "partsBytes", fn := fun _ => fun
  | [d1, d2] => { results := [.lit (.bool false)], args := [d1, d2] }
  | _ => none }
def PartsBytesWrongFalsely : Prop := partsBytesRow.holds Try.pinned (OpenSpec.ofChange partsBytesWrong)

/-- 'stowagelaw14.PartsBack': WHATEVER THE INPUT: true; the input reads as it did. -/
def partsBackSpec : ChangeSpec := { name := "partsBack", fn := fun _ => fun
  | [d1, d2] => { results := [.lit (.bool true)], args := [d1, d2] }
  | _ => none }
def partsBackRow : OpenClaim := { program := "ytbiapepalkdkdab", sum := "1f0715c98347dbd74b8e65bc92ac41bfbb697a65d076c4bbaa08f588d10ba998", func := "stowage/stowagelaw14.PartsBack", spec := "partsBack", inPlace := ["internal/abi.NoEscape"], unfollowed := true, recurses := true, apart := false }
def PartsBackSaid : Prop := partsBackRow.holds Try.pinned (OpenSpec.ofChange partsBackSpec)

/-- ITS FALSE NEIGHBOUR: 'it returns false'. Refute it at one input. -/
def partsBackWrong : ChangeSpec := { name := "partsBack", fn := fun _ => fun
  | [d1, d2] => { results := [.lit (.bool false)], args := [d1, d2] }
  | _ => none }
def PartsBackWrongFalsely : Prop := partsBackRow.holds Try.pinned (OpenSpec.ofChange partsBackWrong)

/-- 'stowagelaw14.PartsWhole': WHATEVER THE INPUT: true; the input reads as it did. -/
def partsWholeSpec : ChangeSpec := { name := "partsWhole", fn := fun _ => fun
  | [d1, d2, d3] => { results := [.lit (.bool true)], args := [d1, d2, d3] }
  | _ => none }
def partsWholeRow : OpenClaim := { program := "ytbiapepalkdkdab", sum := "1f0715c98347dbd74b8e65bc92ac41bfbb697a65d076c4bbaa08f588d10ba998", func := "stowage/stowagelaw14.PartsWhole", spec := "partsWhole", unfollowed := true, recurses := true, apart := false }
def PartsWholeSaid : Prop := partsWholeRow.holds Try.pinned (OpenSpec.ofChange partsWholeSpec)

/-- ITS FALSE NEIGHBOUR: 'it returns false'. Refute it at one input. -/
def partsWholeWrong : ChangeSpec := { name := "partsWhole", fn := fun _ => fun
  | [d1, d2, d3] => { results := [.lit (.bool false)], args := [d1, d2, d3] }
  | _ => none }
def PartsWholeWrongFalsely : Prop := partsWholeRow.holds Try.pinned (OpenSpec.ofChange partsWholeWrong)

/-- 'stowagelaw14.PartsOrder': WHATEVER THE INPUT: true; the input reads as it did. -/
def partsOrderSpec : ChangeSpec := { name := "partsOrder", fn := fun _ => fun
  | [d1, d2] => { results := [.lit (.bool true)], args := [d1, d2] }
  | _ => none }
def partsOrderRow : OpenClaim := { program := "ytbiapepalkdkdab", sum := "1f0715c98347dbd74b8e65bc92ac41bfbb697a65d076c4bbaa08f588d10ba998", func := "stowage/stowagelaw14.PartsOrder", spec := "partsOrder", unfollowed := true, recurses := true, apart := false }
def PartsOrderSaid : Prop := partsOrderRow.holds Try.pinned (OpenSpec.ofChange partsOrderSpec)

/-- ITS FALSE NEIGHBOUR: 'it returns false'. Refute it at one input. -/
def partsOrderWrong : ChangeSpec := { name := "partsOrder", fn := fun _ => fun
  | [d1, d2] => { results := [.lit (.bool false)], args := [d1, d2] }
  | _ => none }
def PartsOrderWrongFalsely : Prop := partsOrderRow.holds Try.pinned (OpenSpec.ofChange partsOrderWrong)

/- THE SECOND FORM. 'bulk': how many values and letters a reading holds, each counted each time it is reached (what is shared counts as often as it is met; a slice's spare places count too). A statement '..UptoSaid' is the law's where the arguments, and the package variables that the reading takes, are together of bulk at most 1048576: NARROWER than '..Said'. Prove '..Said' where nothing that the law and all that it calls make is longer than what came in: it says more and counts as full. Else prove '..UptoSaid'. A law counts once. -/
mutual
def uptoBulk {H : Type} : DataW H → Nat
  | .lit (.string bytes) => bytes.length + 1
  | .lit _ => 1
  | .nil => 1
  | .ptr d => uptoBulk d + 1
  | .slice elems spare => uptoBulkAll elems + uptoBulkAll spare + 1
  | .agg parts => uptoBulkAll parts + 1
  | .iface _ d => uptoBulk d + 1
  | .map entries => uptoBulkEntries entries + 1
  | .held _ => 1
def uptoBulkAll {H : Type} : List (DataW H) → Nat
  | [] => 0
  | d :: r => uptoBulk d + uptoBulkAll r
def uptoBulkEntries {H : Type} : List (Lit × DataW H) → Nat
  | [] => 0
  | x :: r => uptoBulkEntry x + uptoBulkEntries r
def uptoBulkEntry {H : Type} : Lit × DataW H → Nat
  | (.string bytes, d) => bytes.length + uptoBulk d + 1
  | (_, d) => uptoBulk d + 1
 end
def uptoSmall : (H : Type) → List (DataW H) → Bool := fun _ ds => decide (uptoBulkAll ds ≤ 1048576)
def OpenSpec.upto (s : _root_.Go.ChangeSpec) : _root_.Go.OpenSpec := { _root_.Go.OpenSpec.ofChange s with cond := some uptoSmall }

/-- 'stowagelaw14.PartsPuts', WHERE WHAT IT READS IS OF BULK AT MOST 1048576: true; the input reads as it did. -/
def partsPutsUptoRow : OpenClaim := { program := "ytbiapepalkdkdab", sum := "1f0715c98347dbd74b8e65bc92ac41bfbb697a65d076c4bbaa08f588d10ba998", func := "stowage/stowagelaw14.PartsPuts", spec := "partsPuts", unfollowed := true, recurses := true, apart := false, narrowed := true }
def PartsPutsUptoSaid : Prop := partsPutsUptoRow.holds Try.pinned (OpenSpec.upto partsPutsSpec)

/-- 'stowagelaw14.PartsJoins', WHERE WHAT IT READS IS OF BULK AT MOST 1048576: true; the input reads as it did. -/
def partsJoinsUptoRow : OpenClaim := { program := "ytbiapepalkdkdab", sum := "1f0715c98347dbd74b8e65bc92ac41bfbb697a65d076c4bbaa08f588d10ba998", func := "stowage/stowagelaw14.PartsJoins", spec := "partsJoins", unfollowed := true, recurses := true, apart := false, narrowed := true }
def PartsJoinsUptoSaid : Prop := partsJoinsUptoRow.holds Try.pinned (OpenSpec.upto partsJoinsSpec)

/-- 'stowagelaw14.PartsBytes', WHERE WHAT IT READS IS OF BULK AT MOST 1048576: true; the input reads as it did. -/
def partsBytesUptoRow : OpenClaim := { program := "ytbiapepalkdkdab", sum := "1f0715c98347dbd74b8e65bc92ac41bfbb697a65d076c4bbaa08f588d10ba998", func := "stowage/stowagelaw14.PartsBytes", spec := "partsBytes", inPlace := ["internal/abi.NoEscape"], unfollowed := true, recurses := true, apart := false, narrowed := true }
def PartsBytesUptoSaid : Prop := partsBytesUptoRow.holds Try.pinned (OpenSpec.upto partsBytesSpec)

/-- 'stowagelaw14.PartsBack', WHERE WHAT IT READS IS OF BULK AT MOST 1048576: true; the input reads as it did. -/
def partsBackUptoRow : OpenClaim := { program := "ytbiapepalkdkdab", sum := "1f0715c98347dbd74b8e65bc92ac41bfbb697a65d076c4bbaa08f588d10ba998", func := "stowage/stowagelaw14.PartsBack", spec := "partsBack", inPlace := ["internal/abi.NoEscape"], unfollowed := true, recurses := true, apart := false, narrowed := true }
def PartsBackUptoSaid : Prop := partsBackUptoRow.holds Try.pinned (OpenSpec.upto partsBackSpec)

/-- 'stowagelaw14.PartsWhole', WHERE WHAT IT READS IS OF BULK AT MOST 1048576: true; the input reads as it did. -/
def partsWholeUptoRow : OpenClaim := { program := "ytbiapepalkdkdab", sum := "1f0715c98347dbd74b8e65bc92ac41bfbb697a65d076c4bbaa08f588d10ba998", func := "stowage/stowagelaw14.PartsWhole", spec := "partsWhole", unfollowed := true, recurses := true, apart := false, narrowed := true }
def PartsWholeUptoSaid : Prop := partsWholeUptoRow.holds Try.pinned (OpenSpec.upto partsWholeSpec)

/-- 'stowagelaw14.PartsOrder', WHERE WHAT IT READS IS OF BULK AT MOST 1048576: true; the input reads as it did. -/
def partsOrderUptoRow : OpenClaim := { program := "ytbiapepalkdkdab", sum := "1f0715c98347dbd74b8e65bc92ac41bfbb697a65d076c4bbaa08f588d10ba998", func := "stowage/stowagelaw14.PartsOrder", spec := "partsOrder", unfollowed := true, recurses := true, apart := false, narrowed := true }
def PartsOrderUptoSaid : Prop := partsOrderUptoRow.holds Try.pinned (OpenSpec.upto partsOrderSpec)

end Rows
end Go.Proofs.Ytbiapepalkdkdab
