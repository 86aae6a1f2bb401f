/- The mathematics of frames: what making and finding a frame come to. -/
import Derived.Test.YtfdhaedpnjlpiabCrc
import Derived.Test.YtfdhaedpnjlpiabReadWide
import Derived.Test.YtfdhaedpnjlpiabTextM
namespace Go.Proofs.Ytfdhaedpnjlpiab
open Go.RowKit
set_option linter.unusedVariables false

/-- a body's frame -/
def frm (b : List UInt8) : List UInt8 := be b.length 4 ++ (be (sumN (be b.length 4 ++ b)) 4 ++ b)
theorem frm_len (b : List UInt8) : (frm b).length = 8 + b.length := by simp [frm, be_len]; omega

theorem rdW_facts (s : ByteArray) (a : Int) (h : (rdW s a 4).e = 0) : 0 ≤ a ∧ a + 4 ≤ s.size ∧ (rdW s a 4).len = 4 ∧ (rdW s a 4).n < 4294967296 := by
  unfold rdW at h ⊢
  by_cases h1 : 1 ≤ (4 : Int) ∧ (4 : Int) ≤ 8 ∧ 0 ≤ a ∧ a ≤ s.size
  · rw [if_pos h1] at h ⊢
    by_cases h2 : a + 4 ≤ s.size
    · rw [if_pos h2]
      refine ⟨h1.2.2.1, h2, rfl, ?_⟩
      have h3 := beN_lt ((s.data.toList.drop a.toNat).take (4 : Int).toNat)
      have h4 : (256 : Nat) ^ ((s.data.toList.drop a.toNat).take (4 : Int).toNat).length ≤ 256 ^ 4 := Nat.pow_le_pow_right (by omega) (by simp; omega)
      exact Nat.lt_of_lt_of_le h3 h4
    · rw [if_neg h2] at h; simp at h
  · rw [if_neg h1] at h; simp at h
theorem rdW_e (s : ByteArray) (a : Int) : (rdW s a 4).e ≤ 5 ∧ ((rdW s a 4).e ≠ 0 → (rdW s a 4).n = 0) := by
  unfold rdW
  split
  · split <;> simp
  · simp

/-- the frame at a place -/
def unfAt (s : ByteArray) (a : Int) : Txt :=
  if (rdW s a 4).e = 0 then
    if (rdW s a 4).n ≤ 262144 then
      if a.toNat + 8 + (rdW s a 4).n ≤ s.size then
        if sumN ((s.extract a.toNat (a.toNat + 4)).data.toList ++ (s.extract (a.toNat + 8) (a.toNat + 8 + (rdW s a 4).n)).data.toList) = (rdW s ((a.toNat + 4 : Nat) : Int) 4).n then
          ⟨s.extract (a.toNat + 8) (a.toNat + 8 + (rdW s a 4).n), ((a.toNat + 8 + (rdW s a 4).n : Nat) : Int), 0⟩
        else ⟨⟨#[]⟩, 0, 10⟩
      else ⟨⟨#[]⟩, 0, 5⟩
    else ⟨⟨#[]⟩, 0, 2⟩
  else ⟨⟨#[]⟩, 0, (rdW s a 4).e⟩

theorem unf_ok (s : ByteArray) (a : Int) (h : (unfAt s a).e = 0) : 0 ≤ a ∧ a + 8 ≤ (unfAt s a).to ∧ (unfAt s a).to ≤ s.size ∧ a + 8 + (unfAt s a).x.size ≤ (unfAt s a).to := by
  unfold unfAt at h ⊢
  by_cases h0 : (rdW s a 4).e = 0
  · have hf := rdW_facts s a h0
    rw [if_pos h0] at h ⊢
    by_cases h1 : (rdW s a 4).n ≤ 262144
    · rw [if_pos h1] at h ⊢
      by_cases h2 : a.toNat + 8 + (rdW s a 4).n ≤ s.size
      · rw [if_pos h2] at h ⊢
        split at h
        · rename_i h3
          rw [if_pos h3]
          simp [ByteArray.size_extract]
          omega
        · simp at h
      · rw [if_neg h2] at h; simp at h
    · rw [if_neg h1] at h; simp at h
  · rw [if_neg h0] at h; simp at h; exact absurd h h0
theorem unf_e (s : ByteArray) (a : Int) : (unfAt s a).e ≤ 10 ∧ ((unfAt s a).e ≠ 0 → (unfAt s a).to = 0 ∧ (unfAt s a).x = ⟨#[]⟩) := by
  have := (rdW_e s a).1
  unfold unfAt
  split
  · split
    · split
      · split <;> simp
      · simp
    · simp
  · simp; omega
end Go.Proofs.Ytfdhaedpnjlpiab
