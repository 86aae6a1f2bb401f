/- Joined: A row of bytes that the call made, by its cells: what is appended to it lies behind it, in the same block or in a new one. Bytes in a slice of the call's own (or nil), by cells: what is appended to it, from whatever source, lies behind it. -/
import Derived.Test.YtnldjcoajliciaaGreatJoined01
import Derived.Deep.Upon
import Derived.Deep.MidRow
namespace Go.Proofs.YtnldjcoajliciaaGreat
open Go.RowKit
set_option linter.unusedVariables false

/-- a slice of the bytes L in a block of the call's own, all of whose cells may be written -/
def BRow (w : World) (base : Nat) (v : Value) (L : List UInt8) : Prop :=
  ∃ g cap, v = .slice (some ⟨g, 0, none⟩) L.length cap ∧ base ≤ g ∧ g < w.heap.size ∧ L.length ≤ cap ∧
    (∀ j (h : j < L.length), w.cell? ⟨g, j, none⟩ = some (.int .u8 (L[j]).toNat)) ∧ ∀ j, j < cap → (w.cell? ⟨g, j, none⟩).isSome = true ∧ w.frozen? ⟨g, j, none⟩ = false

theorem BRow.keeps {w w' : World} {base : Nat} {v : Value} {L : List UInt8} (h : BRow w base v L) (hB : Below w.heap.size w w') : BRow w' base v L := by
  obtain ⟨g, cap, hv, h1, h2, h3, h4, h5⟩ := h
  exact ⟨g, cap, hv, h1, Nat.lt_of_lt_of_le h2 hB.size, h3, fun j hj => (hB.cell (p := ⟨g, j, none⟩) h2).trans (h4 j hj),
    fun j hj => ⟨by rw [hB.cell (p := ⟨g, j, none⟩) h2]; exact (h5 j hj).1, (hB.frozen (p := ⟨g, j, none⟩) h2).trans (h5 j hj).2⟩⟩

theorem BRow.text {w : World} {base : Nat} {v : Value} {L : List UInt8} (h : BRow w base v L) : (convert 83 9 v).run Tryz.prog w = .ok (.string ⟨L.toArray⟩) w := by
  obtain ⟨g, cap, rfl, h1, h2, h3, h4, h5⟩ := h
  refine run_convert_bytes_back w 83 9 5 _ cap L Tryz.underlying83 Tryz.underlying5 Tryz.underlying9 ?_
  intro j hj
  rw [Addr.add_lit, Nat.zero_add]
  exact h4 j hj

end Go.Proofs.YtnldjcoajliciaaGreat
namespace Go.Proofs.YtnldjcoajliciaaGreat
open Go.RowKit
set_option linter.unusedVariables false

/-- a slice of the bytes L of the call's own; nil, where nothing was laid -/
def BSl (w : World) (base : Nat) (v : Value) (L : List UInt8) : Prop := (v = .slice none 0 0 ∧ L = []) ∨ BRow w base v L
theorem BSl.nil (w : World) (base : Nat) : BSl w base (.slice none 0 0) [] := .inl ⟨rfl, rfl⟩
theorem BSl.keeps {w w' : World} {base : Nat} {v : Value} {L : List UInt8} (h : BSl w base v L) (hB : Below w.heap.size w w') : BSl w' base v L := h.imp id (fun h => h.keeps hB)
theorem BSl.text {w : World} {base : Nat} {v : Value} {L : List UInt8} (h : BSl w base v L) : (convert 83 9 v).run Tryz.prog w = .ok (.string ⟨L.toArray⟩) w := by
  rcases h with ⟨rfl, rfl⟩ | h
  · kernel_rfl
  · exact h.text
theorem BSl.size {w : World} {base : Nat} {v : Value} {L : List UInt8} (h : BSl w base v L) : ∃ ad cap, v = .slice ad L.length cap := by
  rcases h with ⟨rfl, rfl⟩ | ⟨g, cap, rfl, _⟩
  · exact ⟨none, 0, rfl⟩
  · exact ⟨_, cap, rfl⟩

end Go.Proofs.YtnldjcoajliciaaGreat
