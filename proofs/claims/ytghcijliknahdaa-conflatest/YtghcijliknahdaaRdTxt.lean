/- A reader's Text and End. -/
import Derived.Test.YtghcijliknahdaaRdAll
import Derived.Deep.RegionHeld3
namespace Go.Proofs.Ytghcijliknahdaa
open Go.RowKit
set_option linter.unusedVariables false

/-- a reader behind a taking of a text -/
structure StT where
  a : Int
  e : Int
  x : ByteArray
def tS (s : ByteArray) (a e m : Int) : StT :=
  if e = 0 then if (txtAt s a).e = 0 then if ((txtAt s a).x.size : Int) ≤ m then ⟨(txtAt s a).to, 0, (txtAt s a).x⟩ else ⟨a, 2, ⟨#[]⟩⟩ else ⟨a, (txtAt s a).e, ⟨#[]⟩⟩ else ⟨a, e, ⟨#[]⟩⟩

theorem cell_next' {W W' : World} {g o : Nat} {x : Value} (hB : Below W.heap.size W W') (h : W.cell? ⟨g, o, none⟩ = some x) : W'.cell? ⟨g, o, none⟩ = some x :=
  (hB.cell (p := ⟨g, o, none⟩) (World.block_lt_of_cell? W ⟨g, o, none⟩ h)).trans h
/-- what is held while a text is read -/
def HeldR (w0 : World) (g : Nat) (s : ByteArray) (a : Int) (W : World) : Prop := RdAt W g s a 0 ∧ Below w0.heap.size w0 W
theorem HeldR.next {w0 W W' : World} {g : Nat} {s : ByteArray} {a : Int} (h : W.cell? ⟨g, 0, none⟩ = some (.string s) ∧ W.cell? ⟨g, 1, none⟩ = some (.int .i64 a) ∧ HeldR w0 g s a W) (hB : Below W.heap.size W W') :
    W'.cell? ⟨g, 0, none⟩ = some (.string s) ∧ W'.cell? ⟨g, 1, none⟩ = some (.int .i64 a) ∧ HeldR w0 g s a W' :=
  ⟨cell_next' hB h.1, cell_next' hB h.2.1, h.2.2.1.keeps hB, h.2.2.2.trans (hB.mono h.2.2.2.size)⟩

end Go.Proofs.Ytghcijliknahdaa
