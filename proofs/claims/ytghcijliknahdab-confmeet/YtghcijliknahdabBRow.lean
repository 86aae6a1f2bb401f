/- A row of bytes that the call made, by its cells: what is appended to it lies behind it, in the same block or in a new one. -/
import Derived.Test.YtghcijliknahdabBase
import Derived.Deep.Upon
import Derived.Deep.MidRow
namespace Go.Proofs.Ytghcijliknahdab
open Go.RowKit
set_option linter.unusedVariables false

/-- a slice of the bytes L in a block of the call's own, all of whose cells may be written -/
def BRow (w : World) (base : Nat) (v : Value) (L : List UInt8) : Prop :=
  ∃ g cap, v = .slice (some ⟨g, 0, none⟩) L.length cap ∧ base ≤ g ∧ g < w.heap.size ∧ L.length ≤ cap ∧
    (∀ j (h : j < L.length), w.cell? ⟨g, j, none⟩ = some (.int .u8 (L[j]).toNat)) ∧ ∀ j, j < cap → (w.cell? ⟨g, j, none⟩).isSome = true ∧ w.frozen? ⟨g, j, none⟩ = false

theorem bs_get (M : List UInt8) (j : Nat) (h : j < M.length) : (bs M)[j]? = some (.int .u8 (M[j]).toNat) := by simp [bs, h]
theorem setCells_size (b : Nat) : ∀ (vs : List Value) (o : Nat) (w : World), (w.setCells b o vs).heap.size = w.heap.size
  | [], _, _ => rfl
  | v :: r, o, w => by rw [World.setCells, setCells_size b r]; simp
theorem setCells_tape (b : Nat) : ∀ (vs : List Value) (o : Nat) (w : World), (w.setCells b o vs).tape = w.tape
  | [], _, _ => rfl
  | v :: r, o, w => by rw [World.setCells, setCells_tape b r]; rfl

theorem below_setCells {base g o : Nat} {vs : List Value} {w : World} (hg : base ≤ g) (hb : base ≤ w.heap.size) : Below base w (w.setCells g o vs) :=
  ⟨World.os_setCells w g o vs, setCells_tape g vs o w, World.output_setCells w g o vs, by rw [setCells_size]; exact Nat.le_refl _, fun k hk => World.heap_setCells_other w g o vs (by omega) (by omega)⟩

theorem BRow.keeps {w w' : World} {base : Nat} {v : Value} {L : List UInt8} (h : BRow w base v L) (hB : Below w.heap.size w w') : BRow w' base v L := by
  obtain ⟨g, cap, hv, h1, h2, h3, h4, h5⟩ := h
  exact ⟨g, cap, hv, h1, Nat.lt_of_lt_of_le h2 hB.size, h3, fun j hj => (hB.cell (p := ⟨g, j, none⟩) h2).trans (h4 j hj),
    fun j hj => ⟨by rw [hB.cell (p := ⟨g, j, none⟩) h2]; exact (h5 j hj).1, (hB.frozen (p := ⟨g, j, none⟩) h2).trans (h5 j hj).2⟩⟩

end Go.Proofs.Ytghcijliknahdab
