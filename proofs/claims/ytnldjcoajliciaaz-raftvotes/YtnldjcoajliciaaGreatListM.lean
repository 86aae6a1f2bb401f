/- The mathematics of lists in bytes: what reading and putting a list come to; nothing of the program stands here. -/
import Derived.Test.YtnldjcoajliciaaGreatJoined00
import Derived.Test.YtnldjcoajliciaaGreatJoined01
import Derived.Maps.AppendAt
namespace Go.Proofs.YtnldjcoajliciaaGreat
open Go.RowKit

theorem Strs.own {base : Nat} {w : World} {v : Value} {n : Nat} {xs : List ByteArray} (h : w.ownsRow base 9 1 v n (ss xs)) : Strs w v xs := by
  obtain ⟨h1, h2⟩ := h
  rw [ss_len, Nat.mul_one] at h1
  rcases h2 with ⟨rfl, rfl⟩ | ⟨g, cap, cur, rfl, hg, hh, hn, hm, hs, ht⟩
  · exact .inl ⟨List.length_eq_zero_iff.1 h1, none, 0, rfl⟩
  · subst h1
    have hlt : g < w.heap.size := by
      rcases Nat.lt_or_ge g w.heap.size with h | h
      · exact h
      · rw [Array.getElem?_eq_none h] at hh; cases hh
    refine .inr ⟨g, 0, cap, rfl, hlt, fun j hj => ?_⟩
    have : (ss xs)[j]? = some (.string (xs.getD j ⟨#[]⟩)) := by simp [ss, hj]
    rw [← ht, List.getElem?_take_of_lt (by omega)] at this
    simp [World.cell?, hh]
    simpa using this

end Go.Proofs.YtnldjcoajliciaaGreat
