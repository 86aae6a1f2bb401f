/- A row of bytes that was made of a text, and its walk: read, turned, and told as a text again. -/
import Derived.Test.YtfdhaedpnjlpiacBase
namespace Go.Proofs.Ytfdhaedpnjlpiac
open Go.RowKit
set_option linter.unusedVariables false

/-- the bytes L lie at the head of a block, and may be written -/
def RowAt (w : World) (g : Nat) (L : List UInt8) : Prop :=
  ∃ C lo hi, w.heap[g]? = some (.cells C 5 (lo, hi)) ∧ L.length ≤ lo ∧ L.length ≤ C.size ∧ C.toList.take L.length = bs L

theorem RowAt.cell {w : World} {g : Nat} {L : List UInt8} (h : RowAt w g L) (j : Nat) (hj : j < L.length) : w.cell? ⟨g, j, none⟩ = some (.int .u8 (L[j]).toNat) := by
  obtain ⟨C, lo, hi, hh, h1, h2, h3⟩ := h
  rw [cell_of_row w g j C 5 (lo, hi) hh]
  have : (bs L)[j]? = some (.int .u8 (L[j]).toNat) := by simp [bs, hj]
  rw [← h3, List.getElem?_take_of_lt hj] at this
  simpa using this
theorem RowAt.frozen {w : World} {g : Nat} {L : List UInt8} (h : RowAt w g L) (j : Nat) (hj : j < L.length) : w.frozen? ⟨g, j, none⟩ = false := by
  obtain ⟨C, lo, hi, hh, h1, h2, h3⟩ := h
  unfold World.frozen?
  rw [hh]
  simp; omega
theorem RowAt.stored {w : World} {g : Nat} {L : List UInt8} (h : RowAt w g L) (j : Nat) (hj : j < L.length) (c : UInt8) {x : Int} (hx : x = c.toNat) : RowAt (w.setCell ⟨g, j, none⟩ (.int .u8 x)) g (L.set j c) := by
  subst hx
  obtain ⟨C, lo, hi, hh, h1, h2, h3⟩ := h
  refine ⟨C.setIfInBounds j (.int .u8 c.toNat), lo, hi, ?_, by simpa using h1, by simpa using h2, ?_⟩
  · rw [setCell_eq_setRow w g j C 5 (lo, hi) _ hh, setRow_heap w g C _ 5 (lo, hi) hh]
  · rw [List.length_set, Array.toList_setIfInBounds, List.take_set, h3]
    simp [bs, List.map_set]
theorem RowAt.text {w : World} {g : Nat} {L : List UInt8} (h : RowAt w g L) (cap : Nat) : (convert 27 9 (.slice (some ⟨g, 0, none⟩) L.length cap)).run Try.prog w = .ok (.string ⟨L.toArray⟩) w := by
  refine run_convert_bytes_back w 27 9 5 _ cap L Try.underlying27 Try.underlying5 Try.underlying9 ?_
  intro j hj
  rw [Addr.add_lit, Nat.zero_add]
  exact h.cell j hj

theorem RowAt.below {w w' : World} {g : Nat} {L : List UInt8} (h : RowAt w g L) (hg : g < w.heap.size) (hB : Below w.heap.size w w') : RowAt w' g L := by
  obtain ⟨C, lo, hi, hh, r⟩ := h
  exact ⟨C, lo, hi, (hB.block g hg).trans hh, r⟩

/-- '[]byte(s)' -/
theorem row_made (w : World) (s : ByteArray) : ∃ (cap : Nat) (w2 : World), (convert 9 27 (.string s)).run Try.prog w = .ok (.slice (some ⟨w.heap.size, 0, none⟩) s.size cap) w2 ∧ s.size ≤ cap ∧ RowAt w2 w.heap.size s.data.toList ∧ Below w.heap.size w w2 := by
  have hsz : s.data.toList.length = s.size := by simp
  refine ⟨_, _, run_bytes_of_string w 9 27 5 s Try.underlying9 Try.underlying27 Try.underlying5, grownCap_ge _ _ _ _, ?_, ?_⟩
  · generalize grownCap w s.size 0 5 = cap
    refine ⟨bytesRow s cap, (bytesRow s cap).size, (bytesRow s cap).size + 1, ?_, ?_, ?_, ?_⟩
    · show (w.heap.push _)[w.heap.size]? = _
      simp
    · rw [hsz]; simp [bytesRow]
    · rw [hsz]; simp [bytesRow]
    · have e : (bytesRow s cap).toList = bs s.data.toList ++ List.replicate (cap - s.size) (.int .u8 0) := by simp [bytesRow, bs]
      rw [e, List.take_append_of_le_length (by simp [bs]), List.take_of_length_le (by simp [bs])]
  · exact ((Below.refl _ w).drew).alloc (Nat.le_refl _) _
end Go.Proofs.Ytfdhaedpnjlpiac
