/- The mathematics of lists in bytes: what reading and putting a list come to; nothing of the program stands here. -/
import Derived.Test.YtedogofeibdjiaaGreatJoined00
import Derived.Test.YtedogofeibdjiaaGreatJoined01
import Derived.Maps.AppendAt
namespace Go.Proofs.YtedogofeibdjiaaGreat
open Go.RowKit

/-- a list that is read: its texts, the place behind it, the error -/
structure Lst where
  l : List ByteArray
  to : Int
  e : Nat
/-- so many texts more are read from a place on -/
def lstF (s : ByteArray) : Nat → Int → List ByteArray → Lst
  | 0, a, acc => ⟨acc, a, 0⟩
  | c + 1, a, acc => if (txtAt s a).e = 0 then lstF s c (txtAt s a).to (acc ++ [(txtAt s a).x]) else ⟨[], 0, (txtAt s a).e⟩
/-- the list at a place -/
def lstAt (s : ByteArray) (a : Int) : Lst :=
  if (rdAt s a).e = 0 then lstF s (rdAt s a).n (a + (rdAt s a).len) [] else ⟨[], 0, (rdAt s a).e⟩

theorem txt_ok (s : ByteArray) (a : Int) (h : (txtAt s a).e = 0) : 0 ≤ a ∧ a + 1 ≤ (txtAt s a).to ∧ (txtAt s a).to ≤ s.size ∧ a + 1 + (txtAt s a).x.size ≤ (txtAt s a).to := by
  unfold txtAt at h ⊢
  by_cases h0 : (rdAt s a).e = 0
  · rw [if_pos h0] at h ⊢
    have hb := rdAt_bounds s a h0
    by_cases h1 : a.toNat + (rdAt s a).len + (rdAt s a).n ≤ s.size
    · rw [if_pos h1] at h ⊢
      simp [ByteArray.size_extract]
      omega
    · rw [if_neg h1] at h; simp at h
  · rw [if_neg h0] at h; simp at h; exact absurd h h0
theorem txt_e (s : ByteArray) (a : Int) : (txtAt s a).e ≤ 5 := by
  unfold txtAt
  have := rdAt_e s a
  split
  · split <;> simp
  · exact this

theorem own_keeps {base : Nat} {e : TypeId} {w w' : World} {v : Value} {n : Nat} {xs : List Value} (h : w.ownsRow base e 1 v n xs) (hB : Below w.heap.size w w') : w'.ownsRow base e 1 v n xs := by
  obtain ⟨h1, h2⟩ := h
  refine ⟨h1, ?_⟩
  rcases h2 with h2 | ⟨g, cap, cur, hv, hg, hh, r⟩
  · exact .inl h2
  · have hlt : g < w.heap.size := by
      rcases Nat.lt_or_ge g w.heap.size with h | h
      · exact h
      · rw [Array.getElem?_eq_none h] at hh; cases hh
    exact .inr ⟨g, cap, cur, hv, hg, (hB.block g hlt).trans hh, r⟩

theorem Strs.own {base : Nat} {w : World} {v : Value} {n : Nat} {xs : List ByteArray} (h : w.ownsRow base 9 1 v n (ss xs)) : Strs w v xs := by
  obtain ⟨h1, h2⟩ := h
  rw [ss_len, Nat.mul_one] at h1
  rcases h2 with ⟨rfl, rfl⟩ | ⟨g, cap, cur, rfl, hg, hh, hn, hm, hs, ht⟩
  · exact .inl ⟨List.length_eq_zero_iff.1 h1, none, 0, rfl⟩
  · subst h1
    have hlt : g < w.heap.size := by
      rcases Nat.lt_or_ge g w.heap.size with h | h
      · exact h
      · rw [Array.getElem?_eq_none h] at hh; cases hh
    refine .inr ⟨g, 0, cap, rfl, hlt, fun j hj => ?_⟩
    have : (ss xs)[j]? = some (.string (xs.getD j ⟨#[]⟩)) := by simp [ss, hj]
    rw [← ht, List.getElem?_take_of_lt (by omega)] at this
    simp [World.cell?, hh]
    simpa using this

end Go.Proofs.YtedogofeibdjiaaGreat
