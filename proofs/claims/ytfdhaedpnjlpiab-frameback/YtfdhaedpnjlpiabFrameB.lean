/- The mathematics of frames, there and back: what is framed is found. -/
import Derived.Test.YtfdhaedpnjlpiabFrameM
namespace Go.Proofs.Ytfdhaedpnjlpiab
open Go.RowKit
set_option linter.unusedVariables false

theorem foldl_be (l : List UInt8) : ∀ a : Nat, l.foldl (fun a c => a * 256 + c.toNat) a = a * 256 ^ l.length + beN l := by
  induction l with
  | nil => intro a; simp [beN]
  | cons c r ih =>
    intro a
    have h1 := ih (a * 256 + c.toNat)
    have h2 := ih (0 * 256 + c.toNat)
    simp only [beN, List.foldl_cons, List.length_cons] at h1 h2 ⊢
    rw [h1, h2, Nat.pow_succ]
    have e : a * (256 ^ r.length * 256) = a * 256 * 256 ^ r.length := by rw [Nat.mul_comm (256 ^ r.length) 256, Nat.mul_assoc]
    rw [e, Nat.zero_mul, Nat.zero_add, Nat.add_mul, Nat.add_assoc]
theorem beN_cons (c : UInt8) (l : List UInt8) : beN (c :: l) = c.toNat * 256 ^ l.length + beN l := by
  have := foldl_be l c.toNat
  simpa [beN] using this
theorem beN_be (n k : Nat) : beN (be n k) = n % 256 ^ k := by
  induction k with
  | zero => simp [be, beN, Nat.mod_one]
  | succ k ih =>
    rw [be, beN_cons, be_len, ih, Nat.pow_succ, Nat.mod_mul]
    have : (UInt8.ofNat (n / 256 ^ k)).toNat = n / 256 ^ k % 256 := by simp
    rw [this, Nat.mul_comm]; omega

theorem size_of2 (s : ByteArray) (l : List UInt8) (h : s.data.toList = l) : s.size = l.length := by
  have : s.data.toList.length = s.size := by simp
  rw [h] at this; omega
theorem extract_list (s : ByteArray) (p m r : List UInt8) (h : s.data.toList = p ++ (m ++ r)) : (s.extract p.length (p.length + m.length)).data.toList = m := by
  rw [ByteArray.data_extract, Array.toList_extract, h]
  simp only [List.extract, List.drop_left, Nat.add_sub_cancel_left, List.take_left]
theorem rdW_be (s : ByteArray) (p r : List UInt8) (n : Nat) (hn : n < 4294967296) (h : s.data.toList = p ++ (be n 4 ++ r)) : rdW s (p.length : Int) 4 = ⟨n, 4, 0⟩ := by
  have hl := size_of2 s _ h
  rw [List.length_append, List.length_append, be_len] at hl
  have e0 : rdW s (p.length : Int) 4 = rdW s (p.length : Int) ((4 : Nat) : Int) := rfl
  rw [e0, rdW_ok s p.length 4 (by omega) (by omega) (by omega), h, List.drop_left]
  have : (be n 4 ++ r).take 4 = be n 4 := by
    have e := be_len n 4
    rw [List.take_append_of_le_length (by omega), List.take_of_length_le (by omega)]
  rw [this, beN_be, Nat.mod_eq_of_lt (by simpa using hn)]

theorem ba_eq (x y : ByteArray) (h : x.data.toList = y.data.toList) : x = y := by
  apply ByteArray.ext
  exact Array.ext' h

/-- what is framed is found, wherever it stands -/
theorem unf_back (s b : ByteArray) (p r : List UInt8) (hb : b.size ≤ 262144) (h : s.data.toList = p ++ (frm b.data.toList ++ r)) :
    unfAt s (p.length : Int) = ⟨b, ((p.length + 8 + b.size : Nat) : Int), 0⟩ := by
  have hbl : b.data.toList.length = b.size := by simp
  have hl := size_of2 s _ h
  rw [List.length_append, List.length_append, frm_len, hbl] at hl
  have h1 := rdW_be s p (be (sumN (be b.data.toList.length 4 ++ b.data.toList)) 4 ++ (b.data.toList ++ r)) b.data.toList.length (by omega) (by rw [h, frm]; simp)
  have h2 := rdW_be s (p ++ be b.data.toList.length 4) (b.data.toList ++ r) (sumN (be b.data.toList.length 4 ++ b.data.toList)) (sumN_lt _) (by rw [h, frm]; simp)
  have h3 := extract_list s p (be b.data.toList.length 4) (be (sumN (be b.data.toList.length 4 ++ b.data.toList)) 4 ++ (b.data.toList ++ r)) (by rw [h, frm]; simp)
  have h4 := extract_list s (p ++ (be b.data.toList.length 4 ++ be (sumN (be b.data.toList.length 4 ++ b.data.toList)) 4)) b.data.toList r (by rw [h, frm]; simp)
  rw [List.length_append, be_len] at h2
  rw [be_len] at h3
  rw [List.length_append, List.length_append, be_len, be_len] at h4
  rw [show p.length + (4 + 4) = p.length + 8 by omega] at h4
  rw [unfAt, h1, if_pos rfl, if_pos (by show b.data.toList.length ≤ _; omega)]
  simp only [Int.toNat_natCast]
  rw [if_pos (by omega), h2, h3, h4, if_pos rfl, hbl]
  congr 1
  rw [hbl] at h4
  exact ba_eq _ _ h4
end Go.Proofs.Ytfdhaedpnjlpiab
