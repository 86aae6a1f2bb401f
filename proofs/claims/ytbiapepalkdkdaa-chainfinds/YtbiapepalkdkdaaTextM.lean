/- The mathematics of texts in bytes: what reading a text comes to; nothing of the program stands here. -/
import Derived.Test.YtbiapepalkdkdaaPut
namespace Go.Proofs.Ytbiapepalkdkdaa
open Go.RowKit

theorem rd_bounds (l : List UInt8) : ∀ (k acc : Nat), k ≤ 9 → acc < 128 ^ k → (rd l k acc).e = 0 → k < (rd l k acc).len ∧ (rd l k acc).len ≤ k + l.length ∧ (rd l k acc).len ≤ 10 ∧ (rd l k acc).n < 18446744073709551616 := by
  induction l with
  | nil => intro k acc _ _ h; simp [rd] at h
  | cons c r ih =>
    intro k acc hk ha h
    have hc8 : c.toNat < 256 := UInt8.toNat_lt c
    cases hm : mayB c.toNat k with
    | false => rw [rd_bad _ _ _ _ hm] at h; simp at h
    | true =>
      by_cases hc : c.toNat < 128
      · rw [rd_last _ _ _ _ hm hc]
        have := add_le c.toNat k acc hk hc8 hm ha
        simp; omega
      · rw [rd_more _ _ _ _ hm hc] at h ⊢
        have hk9 := may_more c.toNat k hk hm hc
        have := ih (k + 1) _ (by omega) (add_lt c.toNat k acc ha) h
        simp; omega

theorem rdAt_bounds (s : ByteArray) (a : Int) (h : (rdAt s a).e = 0) : 0 ≤ a ∧ a + (rdAt s a).len ≤ s.size ∧ 1 ≤ (rdAt s a).len ∧ (rdAt s a).len ≤ 10 ∧ (rdAt s a).n < 18446744073709551616 := by
  unfold rdAt at h ⊢
  by_cases ha : 0 ≤ a ∧ a ≤ s.size
  · rw [if_pos ha] at h ⊢
    have := rd_bounds _ 0 0 (by omega) (by simp) h
    simp at this
    omega
  · rw [if_neg ha] at h; simp at h

theorem rd_e (l : List UInt8) : ∀ k acc, (rd l k acc).e = 0 ∨ (rd l k acc).e = 3 ∨ (rd l k acc).e = 5 := by
  induction l with
  | nil => intro k acc; simp [rd]
  | cons c r ih =>
    intro k acc
    unfold rd
    split
    · simp
    · split
      · simp
      · exact ih _ _
theorem rdAt_e (s : ByteArray) (a : Int) : (rdAt s a).e ≤ 5 := by
  unfold rdAt
  split
  · rcases rd_e (s.data.toList.drop a.toNat) 0 0 with h | h | h <;> omega
  · simp

/-- a text that is read: its bytes, the place behind it, the error -/
structure Txt where
  x : ByteArray
  to : Int
  e : Nat

/-- the text at a place -/
def txtAt (s : ByteArray) (a : Int) : Txt :=
  if (rdAt s a).e = 0 then
    if a.toNat + (rdAt s a).len + (rdAt s a).n ≤ s.size then ⟨s.extract (a.toNat + (rdAt s a).len) (a.toNat + (rdAt s a).len + (rdAt s a).n), ((a.toNat + (rdAt s a).len + (rdAt s a).n : Nat) : Int), 0⟩ else ⟨⟨#[]⟩, 0, 5⟩
  else ⟨⟨#[]⟩, 0, (rdAt s a).e⟩
end Go.Proofs.Ytbiapepalkdkdaa
