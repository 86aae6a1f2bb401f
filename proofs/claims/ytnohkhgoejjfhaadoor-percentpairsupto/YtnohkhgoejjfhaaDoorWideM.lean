/- The mathematics of wide numbers: so many bytes, the highest first; nothing of the program stands here. -/
import Derived.Test.YtnohkhgoejjfhaaDoorPut
namespace Go.Proofs.YtnohkhgoejjfhaaDoor
open Go.RowKit

/-- the lowest k bytes of a number, the highest first -/
def be (n : Nat) : Nat → List UInt8
  | 0 => []
  | k + 1 => UInt8.ofNat (n / 256 ^ k) :: be n k
theorem be_len (n k : Nat) : (be n k).length = k := by
  induction k with
  | zero => rfl
  | succ k ih => simp [be, ih]

/-- what stands in the bytes when the lowest k are laid -/
def laidW (n wide k : Nat) : List UInt8 := List.replicate (wide - k) 0 ++ be n k
theorem laidW_len (n wide k : Nat) (h : k ≤ wide) : (laidW n wide k).length = wide := by simp [laidW, be_len]; omega
theorem laidW_full (n wide : Nat) : laidW n wide wide = be n wide := by simp [laidW]

theorem set_rep (m : Nat) (l : List UInt8) (b : UInt8) : (List.replicate (m + 1) 0 ++ l).set m b = List.replicate m 0 ++ b :: l := by
  induction m with
  | zero => rfl
  | succ m ih => rw [List.replicate_succ, List.cons_append, List.set_cons_succ, ih, List.replicate_succ, List.cons_append]
theorem laidW_step (n wide k : Nat) (h : k < wide) : (laidW n wide k).set (wide - 1 - k) (UInt8.ofNat (n / 256 ^ k)) = laidW n wide (k + 1) := by
  unfold laidW
  have e : wide - k = (wide - 1 - k) + 1 := by omega
  rw [e, set_rep]
  have e2 : wide - (k + 1) = wide - 1 - k := by omega
  rw [e2]; rfl
theorem bs_set (l : List UInt8) (j : Nat) (b : UInt8) : (bs l).set j (.int .u8 b.toNat) = bs (l.set j b) := by simp [bs, List.map_set]
theorem bs_zero (m : Nat) : bs (List.replicate m 0) = List.replicate m (.int .u8 0) := by simp [bs]

/-- the bytes of a wide number, or that there are none -/
def wideR (n : Nat) (wide : Int) : List UInt8 := if 1 ≤ wide ∧ wide ≤ 8 ∧ n < 256 ^ wide.toNat then be n wide.toNat else []
def wideE (n : Nat) (wide : Int) : Nat := if 1 ≤ wide ∧ wide ≤ 8 ∧ n < 256 ^ wide.toNat then 0 else 1

/-- the number that bytes say, the highest first -/
def beN (l : List UInt8) : Nat := l.foldl (fun a c => a * 256 + c.toNat) 0
theorem beN_snoc (l : List UInt8) (c : UInt8) : beN (l ++ [c]) = beN l * 256 + c.toNat := by simp [beN]
theorem foldl_lt (l : List UInt8) : ∀ a k, a < 256 ^ k → l.foldl (fun a c => a * 256 + c.toNat) a < 256 ^ (k + l.length) := by
  induction l with
  | nil => intro a k h; simpa using h
  | cons c r ih =>
    intro a k h
    have hc : c.toNat < 256 := UInt8.toNat_lt c
    have := ih (a * 256 + c.toNat) (k + 1) (by rw [Nat.pow_succ]; omega)
    rw [List.foldl_cons, List.length_cons, show k + (r.length + 1) = k + 1 + r.length by omega]
    exact this
theorem beN_lt (l : List UInt8) : beN l < 256 ^ l.length := by have := foldl_lt l 0 0 (by simp); simpa [beN] using this

/-- the wide number at a place -/
def rdW (s : ByteArray) (a wide : Int) : Got :=
  if 1 ≤ wide ∧ wide ≤ 8 ∧ 0 ≤ a ∧ a ≤ s.size then
    if a + wide ≤ s.size then ⟨beN ((s.data.toList.drop a.toNat).take wide.toNat), wide.toNat, 0⟩ else ⟨0, 0, 5⟩
  else ⟨0, 0, 1⟩

theorem take_snoc (s : ByteArray) (a k : Nat) (h : a + k < s.size) : (s.data.toList.drop a).take (k + 1) = (s.data.toList.drop a).take k ++ [s[a + k]] := by
  have hl : k < (s.data.toList.drop a).length := by simp; omega
  rw [List.take_succ_eq_append_getElem hl]
  congr 1
  simp; rfl
theorem take_len (s : ByteArray) (a k : Nat) (h : a + k ≤ s.size) : ((s.data.toList.drop a).take k).length = k := by simp; omega

theorem pow256_le (k : Nat) (hk : k ≤ 7) : 256 ^ k ≤ 72057594037927936 := by
  have : (256 : Nat) ^ k ≤ 256 ^ 7 := Nat.pow_le_pow_right (by omega) hk
  simpa using this

theorem or_small (x c : Nat) (hx : x < 72057594037927936) (hc : c < 256) : bits .or .u64 ((x * 256 : Nat) : Int) (c : Int) = ((x * 256 + c : Nat) : Int) := by
  rw [bits_or_u64_nat _ _ (by omega) (by omega)]
  have := or_is_add c x 8 (by omega)
  rw [Nat.or_comm] at this
  simp at this
  rw [this]; omega

theorem pow256 (k : Nat) : (256 : Nat) ^ k = 2 ^ (8 * k) := by rw [Nat.pow_mul]
theorem shr8_ne (n k : Nat) (h : n < 256 ^ k) : (((n : Int) / 2 ^ (8 * k)) != 0) = false := by
  have e : ((n : Int) / 2 ^ (8 * k)) = ((n / 2 ^ (8 * k) : Nat) : Int) := by simp
  rw [e, ← pow256, Nat.div_eq_of_lt h]; rfl
theorem shr8_ne' (n k : Nat) (h : ¬ n < 256 ^ k) : (((n : Int) / 2 ^ (8 * k)) != 0) = true := by
  have e : ((n : Int) / 2 ^ (8 * k)) = ((n / 2 ^ (8 * k) : Nat) : Int) := by simp
  have hp : 0 < n / 256 ^ k := Nat.div_pos (by omega) (Nat.pos_of_ne_zero (by simp))
  rw [e, ← pow256, bne_iff_ne]
  omega
theorem shr8_byte (n k : Nat) : ((n : Int) / 2 ^ (8 * k)) % 256 = ((UInt8.ofNat (n / 256 ^ k)).toNat : Int) := by
  have e : ((n : Int) / 2 ^ (8 * k)) = ((n / 2 ^ (8 * k) : Nat) : Int) := by simp
  rw [e, ← pow256]; simp
theorem wide_yes (n k : Nat) (h1 : 1 ≤ k) (h8 : k ≤ 8) (h : n < 256 ^ k) : wideR n k = be n k ∧ wideE n k = 0 := by
  have c : 1 ≤ (k : Int) ∧ (k : Int) ≤ 8 ∧ n < 256 ^ (k : Int).toNat := ⟨by omega, by omega, by simpa using h⟩
  rw [wideR, wideE, if_pos c, if_pos c]; simp
theorem wide_no (n : Nat) (k : Int) (h : ¬ (1 ≤ k ∧ k ≤ 8 ∧ n < 256 ^ k.toNat)) : wideR n k = [] ∧ wideE n k = 1 := by
  rw [wideR, wideE, if_neg h, if_neg h]; simp
end Go.Proofs.YtnohkhgoejjfhaaDoor
