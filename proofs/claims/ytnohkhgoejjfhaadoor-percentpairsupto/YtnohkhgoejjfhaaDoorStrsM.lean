/- Slices of texts: what they hold in memory; how many bytes texts take. -/
import Derived.Test.YtnohkhgoejjfhaaDoorBase
namespace Go.Proofs.YtnohkhgoejjfhaaDoor
open Go.RowKit
set_option linter.unusedVariables false

/-- cells that hold texts -/
def ss (l : List ByteArray) : List Value := l.map Value.string
theorem ss_len (l : List ByteArray) : (ss l).length = l.length := by simp [ss]

/-- a slice of texts: what it holds in memory -/
def Strs (w : World) (v : Value) (xs : List ByteArray) : Prop :=
  (xs = [] ∧ ∃ ad cap, v = .slice ad 0 cap) ∨
  ∃ b off cap, v = .slice (some ⟨b, off, none⟩) xs.length cap ∧ b < w.heap.size ∧ ∀ j, j < xs.length → w.cell? ⟨b, off + j, none⟩ = some (.string (xs.getD j ⟨#[]⟩))

theorem Strs.below {w w' : World} {v : Value} {xs : List ByteArray} (h : Strs w v xs) (hB : Below w.heap.size w w') : Strs w' v xs := by
  rcases h with h | ⟨b, off, cap, hv, hb, hc⟩
  · exact .inl h
  · exact .inr ⟨b, off, cap, hv, Nat.lt_of_lt_of_le hb hB.size, fun j hj => (hB.cell (p := ⟨b, off + j, none⟩) hb).trans (hc j hj)⟩

theorem Strs.at {w : World} {v : Value} {xs : List ByteArray} (h : Strs w v xs) : ∃ ad cap, v = .slice ad xs.length cap ∧
    ∀ j, j < xs.length → ∃ b off, ad = some ⟨b, off, none⟩ ∧ b < w.heap.size ∧ w.cell? ⟨b, off + j, none⟩ = some (.string (xs.getD j ⟨#[]⟩)) := by
  rcases h with ⟨rfl, ad, cap, rfl⟩ | ⟨b, off, cap, rfl, hb, hc⟩
  · exact ⟨ad, cap, rfl, fun j hj => absurd hj (by simp)⟩
  · exact ⟨_, cap, rfl, fun j hj => ⟨b, off, rfl, hb, hc j hj⟩⟩

/-- how many bytes texts take at the most -/
def room (xs : List ByteArray) : Nat := (xs.map fun x => x.size + 10).sum
theorem room_take (xs : List ByteArray) (j : Nat) (h : j < xs.length) : room (xs.take j) + ((xs.getD j ⟨#[]⟩).size + 10) ≤ room xs := by
  have e : xs = xs.take j ++ xs.getD j ⟨#[]⟩ :: xs.drop (j + 1) := by
    conv => lhs; rw [← List.take_append_drop j xs, List.drop_eq_getElem_cons h]
    simp [h]
  have : room xs = room (xs.take j ++ xs.getD j ⟨#[]⟩ :: xs.drop (j + 1)) := by rw [← e]
  rw [this]
  simp only [room, List.map_append, List.map_cons, List.sum_append, List.sum_cons]
  omega
theorem room_len (xs : List ByteArray) : 10 * xs.length ≤ room xs := by
  induction xs with
  | nil => simp [room]
  | cons x r ih => simp only [room, List.map_cons, List.sum_cons, List.length_cons] at ih ⊢; omega
theorem room_get (xs : List ByteArray) (j : Nat) : (xs.getD j ⟨#[]⟩).size ≤ room xs := by
  by_cases h : j < xs.length
  · have := room_take xs j h; omega
  · rw [List.getD_eq_getElem?_getD, List.getElem?_eq_none (by omega)]; exact Nat.zero_le _
end Go.Proofs.YtnohkhgoejjfhaaDoor
