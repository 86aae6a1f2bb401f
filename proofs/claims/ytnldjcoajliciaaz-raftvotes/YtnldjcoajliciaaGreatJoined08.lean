/- Joined: The document's reader. The document's reader: yes or no, the end. -/
import Derived.Test.YtnldjcoajliciaaGreatJoined07
import Derived.Test.YtnldjcoajliciaaGreatJoined01
import Derived.Test.YtnldjcoajliciaaGreatJoined05
import Derived.Laws.ResultCell
import Derived.Laws.Rows
namespace Go.Proofs.YtnldjcoajliciaaGreat
open Go.RowKit
set_option linter.unusedVariables false

/-- a reader's value lies in block b -/
def Box (w : World) (b : Nat) (x y z : Value) : Prop :=
  (w.cell? ⟨b, 0, none⟩ = some x ∧ w.cell? ⟨b, 1, none⟩ = some y ∧ w.cell? ⟨b, 2, none⟩ = some z) ∧ w.frozen? ⟨b, 0, none⟩ = false ∧ w.frozen? ⟨b, 1, none⟩ = false ∧ w.frozen? ⟨b, 2, none⟩ = false
theorem Box.keeps {w w' : World} {b : Nat} {x y z : Value} (h : Box w b x y z) (hB : Below w.heap.size w w') : Box w' b x y z := by
  have hg := World.block_lt_of_cell? w _ h.1.1
  have hc := fun o => hB.cell (p := ⟨b, o, none⟩) hg
  have hf := fun o => hB.frozen (p := ⟨b, o, none⟩) hg
  obtain ⟨⟨h0, h1, h2⟩, h3, h4, h5⟩ := h
  exact ⟨⟨(hc 0).trans h0, (hc 1).trans h1, (hc 2).trans h2⟩, (hf 0).trans h3, (hf 1).trans h4, (hf 2).trans h5⟩
theorem Box.made (w : World) (x y z : Value) (t : TypeId) : Box (w.alloc (.cells #[x, y, z] t)) w.heap.size x y z :=
  ⟨⟨by simp, by simp, by simp⟩, by simp, by simp, by simp⟩

theorem nS_int (s : ByteArray) (a e m : Int) (hm : m ≤ 9223372036854775807) : (nS s a e (fitI m (rdAt s a).n) 2).n ≤ 9223372036854775807 := by
  unfold nS
  split
  · split
    · split
      · next h => have := of_decide_eq_true (show decide (0 ≤ m ∧ ((rdAt s a).n : Int) ≤ m) = true from h); show (rdAt s a).n ≤ _; omega
      · simp
    · simp
  · simp

end Go.Proofs.YtnldjcoajliciaaGreat
namespace Go.Proofs.YtnldjcoajliciaaGreat
open Go.RowKit
set_option linter.unusedVariables false

end Go.Proofs.YtnldjcoajliciaaGreat
