/- The mathematics of torn frames: a frame that ends early is none, and frames ahead of it are found. -/
import Derived.Test.YtfdhaedpnjlpiabFrameB
import Derived.Test.YtfdhaedpnjlpiabFrames
namespace Go.Proofs.Ytfdhaedpnjlpiab
open Go.RowKit
set_option linter.unusedVariables false

/-- bodies' frames, one behind the other -/
def frms (l : List ByteArray) : List UInt8 := (l.map fun b => frm b.data.toList).flatten

theorem unf_torn (s b : ByteArray) (p : List UInt8) (k : Nat) (hb : b.size ≤ 262144) (hk : k < 8 + b.size) (h : s.data.toList = p ++ (frm b.data.toList).take k) : (unfAt s (p.length : Int)).e = 5 := by
  have hbl : b.data.toList.length = b.size := by simp
  have hfl := frm_len b.data.toList
  have hl := size_of2 s _ h
  rw [List.length_append, List.length_take, hfl, hbl] at hl
  have hl' : s.size = p.length + k := by omega
  by_cases h4 : k < 4
  · have e : rdW s (p.length : Int) 4 = ⟨0, 0, 5⟩ := rdW_end s _ _ ⟨by omega, by omega, by omega, by omega⟩ (by omega)
    rw [unfAt, e, if_neg (by simp)]
  · have ht : (frm b.data.toList).take k = be b.data.toList.length 4 ++ ((be (sumN (be b.data.toList.length 4 ++ b.data.toList)) 4 ++ b.data.toList).take (k - 4)) := by
      rw [frm, List.take_append, be_len, List.take_of_length_le (by rw [be_len]; omega)]
    have e := rdW_be s p _ b.data.toList.length (by omega) (by rw [h, ht])
    rw [unfAt, e, if_pos rfl, if_pos (by show b.data.toList.length ≤ _; omega)]
    simp only [Int.toNat_natCast]
    rw [if_neg (by omega)]

theorem frms_len (l : List ByteArray) : l.length ≤ (frms l).length := by
  induction l with
  | nil => simp [frms]
  | cons b r ih => have := frm_len b.data.toList; simp only [frms, List.map_cons, List.flatten_cons, List.length_append, List.length_cons] at ih ⊢; omega

theorem fsF_all (s : ByteArray) : ∀ (l : List ByteArray) (p r : List UInt8) (f : Nat) (acc : List ByteArray), (∀ b ∈ l, b.size ≤ 262144) → s.data.toList = p ++ (frms l ++ r) → s.size < f + p.length →
    (unfAt s ((p.length + (frms l).length : Nat) : Int)).e ≠ 0 → fsF s f p.length acc = ⟨acc ++ l, p.length + (frms l).length⟩ := by
  intro l
  induction l with
  | nil =>
    intro p r f acc _ hs hf he
    cases f with
    | zero => simp [fsF, frms]
    | succ f => simp [frms] at he; simp [fsF, frms, he]
  | cons b l ih =>
    intro p r f acc hb hs hf he
    have hl := size_of2 s _ hs
    have hfl := frm_len b.data.toList
    have hbl : b.data.toList.length = b.size := by simp
    have e1 : frms (b :: l) = frm b.data.toList ++ frms l := by simp [frms]
    rw [e1] at hs hl he ⊢
    rw [List.length_append] at he
    simp only [List.length_append] at hl
    have hu := unf_back s b p (frms l ++ r) (hb b (by simp)) (by rw [hs]; simp)
    cases f with
    | zero => omega
    | succ f =>
      rw [fsF, hu, if_pos rfl]
      simp only [Int.toNat_natCast]
      have h2 := ih (p ++ frm b.data.toList) r f (acc ++ [b]) (fun x hx => hb x (by simp [hx])) (by rw [hs]; simp) (by rw [List.length_append]; omega)
        (by rw [List.length_append, Nat.add_assoc]; exact he)
      rw [List.length_append, hfl, hbl] at h2
      rw [show p.length + 8 + b.size = p.length + (8 + b.size) by omega, h2, List.length_append, hfl, hbl]
      simp [Nat.add_assoc]

theorem fs_torn (s b : ByteArray) (l : List ByteArray) (k : Nat) (hl : ∀ x ∈ l, x.size ≤ 262144) (hb : b.size ≤ 262144) (hk : k < 8 + b.size) (h : s.data.toList = frms l ++ (frm b.data.toList).take k) :
    fs s = ⟨l, (frms l).length⟩ := by
  have hu := unf_torn s b (frms l) k hb hk h
  have := fsF_all s l [] ((frm b.data.toList).take k) (s.size + 1) [] hl (by rw [h]; simp) (by simp) (by simp only [List.length_nil, Nat.zero_add]; rw [hu]; decide)
  simpa [fs] using this
end Go.Proofs.Ytfdhaedpnjlpiab
