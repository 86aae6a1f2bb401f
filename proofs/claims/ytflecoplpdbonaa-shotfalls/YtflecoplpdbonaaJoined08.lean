/- Joined: The document's reader. The document's reader: yes or no, the end. -/
import Derived.Test.YtflecoplpdbonaaJoined07
import Derived.Test.YtflecoplpdbonaaJoined01
import Derived.Test.YtflecoplpdbonaaJoined05
import Derived.Laws.ResultCell
import Derived.Laws.Rows
namespace Go.Proofs.Ytflecoplpdbonaa
open Go.RowKit
set_option linter.unusedVariables false

/-- a reader's value lies in block b -/
def Box (w : World) (b : Nat) (x y z : Value) : Prop :=
  (w.cell? ⟨b, 0, none⟩ = some x ∧ w.cell? ⟨b, 1, none⟩ = some y ∧ w.cell? ⟨b, 2, none⟩ = some z) ∧ w.frozen? ⟨b, 0, none⟩ = false ∧ w.frozen? ⟨b, 1, none⟩ = false ∧ w.frozen? ⟨b, 2, none⟩ = false
theorem Box.keeps {w w' : World} {b : Nat} {x y z : Value} (h : Box w b x y z) (hB : Below w.heap.size w w') : Box w' b x y z := by
  have hg := World.block_lt_of_cell? w _ h.1.1
  have hc := fun o => hB.cell (p := ⟨b, o, none⟩) hg
  have hf := fun o => hB.frozen (p := ⟨b, o, none⟩) hg
  obtain ⟨⟨h0, h1, h2⟩, h3, h4, h5⟩ := h
  exact ⟨⟨(hc 0).trans h0, (hc 1).trans h1, (hc 2).trans h2⟩, (hf 0).trans h3, (hf 1).trans h4, (hf 2).trans h5⟩
theorem Box.made (w : World) (x y z : Value) (t : TypeId) : Box (w.alloc (.cells #[x, y, z] t)) w.heap.size x y z :=
  ⟨⟨by simp, by simp, by simp⟩, by simp, by simp, by simp⟩

theorem below_two (w : World) (A B : Obj) : Below w.heap.size w ((w.alloc A).alloc B) :=
  ((Below.refl _ _).alloc (Nat.le_refl _) A).alloc (by simp) B
theorem below_call {w w' : World} {A B C : Obj} {x y z : Value} (hB : Below ((w.alloc A).alloc B).heap.size ((w.alloc A).alloc B) w') :
    Below w.heap.size w ((((w'.alloc C).setCell ⟨w.heap.size + 1, 0, none⟩ x).setCell ⟨w.heap.size + 1, 1, none⟩ y).setCell ⟨w.heap.size + 1, 2, none⟩ z) := by
  have h1 := (below_two w A B).trans (hB.mono (by simp; omega))
  exact (((h1.alloc (Nat.le_trans (by simp; omega) hB.size) C).setCell (p := ⟨w.heap.size + 1, 0, none⟩) (by simp) x).setCell (p := ⟨w.heap.size + 1, 1, none⟩) (by simp) y).setCell (p := ⟨w.heap.size + 1, 2, none⟩) (by simp) z
theorem results_one {fn : Func} {p : Tmp} {ty : TypeId} (h : fn.results = #[.cell p ty]) (tmps : Array Value) (P : Program) (w : World) :
    (results fn tmps).run P w = ((asAddr (tmps.getD p undef)).run P w).andThen fun a w₁ => (loadVar ty a).run P w₁ := by
  simp only [results, h]
  simp [Sem.run_bind, Result.andThen]

theorem fitI_nat (m n : Nat) : fitI m n = fitN m n := by simp [fitI, fitN]
theorem nS_int (s : ByteArray) (a e m : Int) (hm : m ≤ 9223372036854775807) : (nS s a e (fitI m (rdAt s a).n) 2).n ≤ 9223372036854775807 := by
  unfold nS
  split
  · split
    · split
      · next h => have := of_decide_eq_true (show decide (0 ≤ m ∧ ((rdAt s a).n : Int) ≤ m) = true from h); show (rdAt s a).n ≤ _; omega
      · simp
    · simp
  · simp

end Go.Proofs.Ytflecoplpdbonaa
namespace Go.Proofs.Ytflecoplpdbonaa
open Go.RowKit
set_option linter.unusedVariables false

theorem rd_e2 (l : List UInt8) : ∀ k acc, (rd l k acc).e ≠ 2 := by
  induction l with
  | nil => intro k acc; simp [rd]
  | cons c r ih =>
    intro k acc
    rw [rd]
    split
    · simp
    · split
      · simp
      · exact ih _ _
theorem rdAt_e2 (s : ByteArray) (a : Int) : (rdAt s a).e ≠ 2 := by
  rw [rdAt]
  split
  · exact rd_e2 _ _ _
  · simp

end Go.Proofs.Ytflecoplpdbonaa
