/-
  No cell of these rows narrows 'for every input' (looked for: loops, veiled, ifaces, maps, wideKeys, modest, calm, conditions, laid).
  DERIVED. THE GIVEN ROWS OF THIS SEAT. 5 by the template 'for every input the law returns true; each argument reads behind the call as it read before'; 0 by the template 'total and deterministic' (their statements: YtojiahdbgdgdcaaTotals.lean).
  GIVEN WITH THE SEED: the statements are not yours to turn. If you find one false, say at which input.
  Laid BY PROGRAM, IN A SANDBOX (cutbox-rows.mjs): the forced cells as the released guide's own fill.sh prints them over the translation a4fbb5b9c186c606… (all of the seat's roots in one cut). By AI agents, Wed Nov 11 2026. No macro, syntax, notation, axiom, sorry.
-/
import Derived.Test.YtojiahdbgdgdcaaChecked
import GoSem.Claim
import GoSem.ClaimJoined
import GoSem.ClaimMapViews
import Derived.JoinedTies
import Derived.KernelRfl
namespace Go.Proofs.Ytojiahdbgdgdcaa
/- THE CELL 'sum', in the pinned program and in every row, IS THE sha256 OF THE DUMP (.gsa) THAT YtojiahdbgdgdcaaProg.lean LOADS. Nothing in Lean hashes anything: it is a label: what it is worth is what the hold of that sum in a sandbox is worth. -/
noncomputable def Try.pinned : Pinned := { name := "ytojiahdbgdgdcaa", sum := "a4fbb5b9c186c6062466a2ba33ae0807f0f28799d39774276fd26fea3e2e5ce7", checked := Try.checked }
namespace Rows
def none {H : Type} : Left H := { results := [], args := [] }

/-- 'stowagelaw15.TokenLooks': WHATEVER THE INPUT: true; the input reads as it did. -/
def tokenLooksSpec : ChangeSpec := { name := "tokenLooks", fn := fun _ => fun
  | [d1, d2, d3] => { results := [.lit (.bool true)], args := [d1, d2, d3] }
  | _ => none }
def tokenLooksRow : OpenClaim := { program := "ytojiahdbgdgdcaa", sum := "a4fbb5b9c186c6062466a2ba33ae0807f0f28799d39774276fd26fea3e2e5ce7", func := "stowage/stowagelaw15.TokenLooks", spec := "tokenLooks", inPlace := ["internal/bytealg.abigen_runtime_cmpstring"], unfollowed := true, recurses := true, apart := false }
def TokenLooksSaid : Prop := tokenLooksRow.holds Try.pinned (OpenSpec.ofChange tokenLooksSpec)

/-- ITS FALSE NEIGHBOUR: 'it returns false'. Refute it at one input. -/
def tokenLooksWrong : ChangeSpec := { name := "tokenLooks", fn := fun _ => fun
  | [d1, d2, d3] => { results := [.lit (.bool false)], args := [d1, d2, d3] }
  | _ => none }
def TokenLooksWrongFalsely : Prop := tokenLooksRow.holds Try.pinned (OpenSpec.ofChange tokenLooksWrong)

/-- 'stowagelaw15.TokenNotes': WHATEVER THE INPUT: true; the input reads as it did. -/
def tokenNotesSpec : ChangeSpec := { name := "tokenNotes", fn := fun _ => fun
  | [d1, d2, d3] => { results := [.lit (.bool true)], args := [d1, d2, d3] }
  | _ => none }
def tokenNotesRow : OpenClaim := { program := "ytojiahdbgdgdcaa", sum := "a4fbb5b9c186c6062466a2ba33ae0807f0f28799d39774276fd26fea3e2e5ce7", func := "stowage/stowagelaw15.TokenNotes", spec := "tokenNotes", inPlace := ["internal/bytealg.abigen_runtime_cmpstring"], unfollowed := true, recurses := true, apart := false }
def TokenNotesSaid : Prop := tokenNotesRow.holds Try.pinned (OpenSpec.ofChange tokenNotesSpec)

/-- ITS FALSE NEIGHBOUR: 'it returns false'. Refute it at one input. -/
def tokenNotesWrong : ChangeSpec := { name := "tokenNotes", fn := fun _ => fun
  | [d1, d2, d3] => { results := [.lit (.bool false)], args := [d1, d2, d3] }
  | _ => none }
def TokenNotesWrongFalsely : Prop := tokenNotesRow.holds Try.pinned (OpenSpec.ofChange tokenNotesWrong)

/-- 'stowagelaw15.TokenBytes': WHATEVER THE INPUT: true; the input reads as it did. -/
def tokenBytesSpec : ChangeSpec := { name := "tokenBytes", fn := fun _ => fun
  | [d1, d2] => { results := [.lit (.bool true)], args := [d1, d2] }
  | _ => none }
def tokenBytesRow : OpenClaim := { program := "ytojiahdbgdgdcaa", sum := "a4fbb5b9c186c6062466a2ba33ae0807f0f28799d39774276fd26fea3e2e5ce7", func := "stowage/stowagelaw15.TokenBytes", spec := "tokenBytes", inPlace := ["internal/abi.NoEscape", "internal/bytealg.abigen_runtime_cmpstring"], unfollowed := true, recurses := true, apart := false }
def TokenBytesSaid : Prop := tokenBytesRow.holds Try.pinned (OpenSpec.ofChange tokenBytesSpec)

/-- ITS FALSE NEIGHBOUR: 'it returns false'. Refute it at one input. -/
def tokenBytesWrong : ChangeSpec := { name := "tokenBytes", fn := fun _ => fun
  | [d1, d2] => { results := [.lit (.bool false)], args := [d1, d2] }
  | _ => none }
def TokenBytesWrongFalsely : Prop := tokenBytesRow.holds Try.pinned (OpenSpec.ofChange tokenBytesWrong)

/-- 'stowagelaw15.TokenBack': WHATEVER THE INPUT: true; the input reads as it did. -/
def tokenBackSpec : ChangeSpec := { name := "tokenBack", fn := fun _ => fun
  | [d1, d2] => { results := [.lit (.bool true)], args := [d1, d2] }
  | _ => none }
def tokenBackRow : OpenClaim := { program := "ytojiahdbgdgdcaa", sum := "a4fbb5b9c186c6062466a2ba33ae0807f0f28799d39774276fd26fea3e2e5ce7", func := "stowage/stowagelaw15.TokenBack", spec := "tokenBack", inPlace := ["internal/abi.NoEscape", "internal/bytealg.abigen_runtime_cmpstring"], unfollowed := true, recurses := true, apart := false }
def TokenBackSaid : Prop := tokenBackRow.holds Try.pinned (OpenSpec.ofChange tokenBackSpec)

/-- ITS FALSE NEIGHBOUR: 'it returns false'. Refute it at one input. -/
def tokenBackWrong : ChangeSpec := { name := "tokenBack", fn := fun _ => fun
  | [d1, d2] => { results := [.lit (.bool false)], args := [d1, d2] }
  | _ => none }
def TokenBackWrongFalsely : Prop := tokenBackRow.holds Try.pinned (OpenSpec.ofChange tokenBackWrong)

/-- 'stowagelaw15.TokenOnce': WHATEVER THE INPUT: true; the input reads as it did. -/
def tokenOnceSpec : ChangeSpec := { name := "tokenOnce", fn := fun _ => fun
  | [d1, d2] => { results := [.lit (.bool true)], args := [d1, d2] }
  | _ => none }
def tokenOnceRow : OpenClaim := { program := "ytojiahdbgdgdcaa", sum := "a4fbb5b9c186c6062466a2ba33ae0807f0f28799d39774276fd26fea3e2e5ce7", func := "stowage/stowagelaw15.TokenOnce", spec := "tokenOnce", inPlace := ["internal/bytealg.abigen_runtime_cmpstring"], unfollowed := true, recurses := true, apart := false }
def TokenOnceSaid : Prop := tokenOnceRow.holds Try.pinned (OpenSpec.ofChange tokenOnceSpec)

/-- ITS FALSE NEIGHBOUR: 'it returns false'. Refute it at one input. -/
def tokenOnceWrong : ChangeSpec := { name := "tokenOnce", fn := fun _ => fun
  | [d1, d2] => { results := [.lit (.bool false)], args := [d1, d2] }
  | _ => none }
def TokenOnceWrongFalsely : Prop := tokenOnceRow.holds Try.pinned (OpenSpec.ofChange tokenOnceWrong)

/- THE SECOND FORM. 'bulk': how many values and letters a reading holds, each counted each time it is reached (what is shared counts as often as it is met; a slice's spare places count too). A statement '..UptoSaid' is the law's where the arguments, and the package variables that the reading takes, are together of bulk at most 1048576: NARROWER than '..Said'. Prove '..Said' where nothing that the law and all that it calls make is longer than what came in: it says more and counts as full. Else prove '..UptoSaid'. A law counts once. -/
mutual
def uptoBulk {H : Type} : DataW H → Nat
  | .lit (.string bytes) => bytes.length + 1
  | .lit _ => 1
  | .nil => 1
  | .ptr d => uptoBulk d + 1
  | .slice elems spare => uptoBulkAll elems + uptoBulkAll spare + 1
  | .agg parts => uptoBulkAll parts + 1
  | .iface _ d => uptoBulk d + 1
  | .map entries => uptoBulkEntries entries + 1
  | .held _ => 1
def uptoBulkAll {H : Type} : List (DataW H) → Nat
  | [] => 0
  | d :: r => uptoBulk d + uptoBulkAll r
def uptoBulkEntries {H : Type} : List (Lit × DataW H) → Nat
  | [] => 0
  | x :: r => uptoBulkEntry x + uptoBulkEntries r
def uptoBulkEntry {H : Type} : Lit × DataW H → Nat
  | (.string bytes, d) => bytes.length + uptoBulk d + 1
  | (_, d) => uptoBulk d + 1
 end
def uptoSmall : (H : Type) → List (DataW H) → Bool := fun _ ds => decide (uptoBulkAll ds ≤ 1048576)
def OpenSpec.upto (s : _root_.Go.ChangeSpec) : _root_.Go.OpenSpec := { _root_.Go.OpenSpec.ofChange s with cond := some uptoSmall }

/-- 'stowagelaw15.TokenLooks', WHERE WHAT IT READS IS OF BULK AT MOST 1048576: true; the input reads as it did. -/
def tokenLooksUptoRow : OpenClaim := { program := "ytojiahdbgdgdcaa", sum := "a4fbb5b9c186c6062466a2ba33ae0807f0f28799d39774276fd26fea3e2e5ce7", func := "stowage/stowagelaw15.TokenLooks", spec := "tokenLooks", inPlace := ["internal/bytealg.abigen_runtime_cmpstring"], unfollowed := true, recurses := true, apart := false, narrowed := true }
def TokenLooksUptoSaid : Prop := tokenLooksUptoRow.holds Try.pinned (OpenSpec.upto tokenLooksSpec)

/-- 'stowagelaw15.TokenNotes', WHERE WHAT IT READS IS OF BULK AT MOST 1048576: true; the input reads as it did. -/
def tokenNotesUptoRow : OpenClaim := { program := "ytojiahdbgdgdcaa", sum := "a4fbb5b9c186c6062466a2ba33ae0807f0f28799d39774276fd26fea3e2e5ce7", func := "stowage/stowagelaw15.TokenNotes", spec := "tokenNotes", inPlace := ["internal/bytealg.abigen_runtime_cmpstring"], unfollowed := true, recurses := true, apart := false, narrowed := true }
def TokenNotesUptoSaid : Prop := tokenNotesUptoRow.holds Try.pinned (OpenSpec.upto tokenNotesSpec)

/-- 'stowagelaw15.TokenBytes', WHERE WHAT IT READS IS OF BULK AT MOST 1048576: true; the input reads as it did. -/
def tokenBytesUptoRow : OpenClaim := { program := "ytojiahdbgdgdcaa", sum := "a4fbb5b9c186c6062466a2ba33ae0807f0f28799d39774276fd26fea3e2e5ce7", func := "stowage/stowagelaw15.TokenBytes", spec := "tokenBytes", inPlace := ["internal/abi.NoEscape", "internal/bytealg.abigen_runtime_cmpstring"], unfollowed := true, recurses := true, apart := false, narrowed := true }
def TokenBytesUptoSaid : Prop := tokenBytesUptoRow.holds Try.pinned (OpenSpec.upto tokenBytesSpec)

/-- 'stowagelaw15.TokenBack', WHERE WHAT IT READS IS OF BULK AT MOST 1048576: true; the input reads as it did. -/
def tokenBackUptoRow : OpenClaim := { program := "ytojiahdbgdgdcaa", sum := "a4fbb5b9c186c6062466a2ba33ae0807f0f28799d39774276fd26fea3e2e5ce7", func := "stowage/stowagelaw15.TokenBack", spec := "tokenBack", inPlace := ["internal/abi.NoEscape", "internal/bytealg.abigen_runtime_cmpstring"], unfollowed := true, recurses := true, apart := false, narrowed := true }
def TokenBackUptoSaid : Prop := tokenBackUptoRow.holds Try.pinned (OpenSpec.upto tokenBackSpec)

/-- 'stowagelaw15.TokenOnce', WHERE WHAT IT READS IS OF BULK AT MOST 1048576: true; the input reads as it did. -/
def tokenOnceUptoRow : OpenClaim := { program := "ytojiahdbgdgdcaa", sum := "a4fbb5b9c186c6062466a2ba33ae0807f0f28799d39774276fd26fea3e2e5ce7", func := "stowage/stowagelaw15.TokenOnce", spec := "tokenOnce", inPlace := ["internal/bytealg.abigen_runtime_cmpstring"], unfollowed := true, recurses := true, apart := false, narrowed := true }
def TokenOnceUptoSaid : Prop := tokenOnceUptoRow.holds Try.pinned (OpenSpec.upto tokenOnceSpec)

end Rows
end Go.Proofs.Ytojiahdbgdgdcaa
