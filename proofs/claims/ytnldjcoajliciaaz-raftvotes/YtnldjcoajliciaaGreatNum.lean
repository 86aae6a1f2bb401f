/- The mathematics of numbers in bytes: what reading and writing a number come to, on plain lists of bytes; nothing of the program stands here. -/
import Derived.WalkKit
namespace Go.Proofs.YtnldjcoajliciaaGreat
open Go.RowKit

/-- may that byte stand at that place of a number? -/
def mayB (c k : Nat) : Bool := !(decide (0 < k) && decide (c = 0)) && (decide (k < 9) || decide (c ≤ 1))

/-- a number that is read: it, the number of its bytes, the error -/
structure Got where
  n : Nat
  len : Nat
  e : Nat

/-- a number is read from bytes, at its k-th byte, with what was gathered -/
def rd : List UInt8 → Nat → Nat → Got
  | [], _, _ => ⟨0, 0, 5⟩
  | c :: r, k, acc => if mayB c.toNat k = false then ⟨0, 0, 3⟩ else if c.toNat < 128 then ⟨acc + c.toNat % 128 * 128 ^ k, k + 1, 0⟩ else rd r (k + 1) (acc + c.toNat % 128 * 128 ^ k)

/-- the number at a place of a text -/
def rdAt (s : ByteArray) (a : Int) : Got := if 0 ≤ a ∧ a ≤ s.size then rd (s.data.toList.drop a.toNat) 0 0 else ⟨0, 0, 1⟩
/-- the place behind it -/
def endAt (a : Int) (g : Got) : Int := if g.e = 0 then a + g.len else 0

theorem drop_cons (s : ByteArray) (i : Nat) (h : i < s.size) : s.data.toList.drop i = s[i] :: s.data.toList.drop (i + 1) := by
  rw [List.drop_eq_getElem_cons (by simpa using h)]; rfl
theorem drop_none (s : ByteArray) (i : Nat) (h : s.size ≤ i) : s.data.toList.drop i = [] := List.drop_of_length_le (by simpa using h)

theorem rd_bad (c : UInt8) (r : List UInt8) (k acc : Nat) (h : mayB c.toNat k = false) : rd (c :: r) k acc = ⟨0, 0, 3⟩ := by simp [rd, h]
theorem rd_last (c : UInt8) (r : List UInt8) (k acc : Nat) (h : mayB c.toNat k = true) (hc : c.toNat < 128) : rd (c :: r) k acc = ⟨acc + c.toNat % 128 * 128 ^ k, k + 1, 0⟩ := by simp [rd, h, hc]
theorem rd_more (c : UInt8) (r : List UInt8) (k acc : Nat) (h : mayB c.toNat k = true) (hc : ¬ c.toNat < 128) : rd (c :: r) k acc = rd r (k + 1) (acc + c.toNat % 128 * 128 ^ k) := by simp [rd, h, hc]

theorem may_more (c k : Nat) (hk : k ≤ 9) (h : mayB c k = true) (hc : ¬ c < 128) : k < 9 := by
  simp [mayB] at h; omega

theorem pow_pos (k : Nat) : 1 ≤ 128 ^ k := Nat.pos_of_ne_zero (by simp)

/-- one byte more: within 64 bits -/
theorem add_le (c k acc : Nat) (hk : k ≤ 9) (hc : c < 256) (h : mayB c k = true) (ha : acc < 128 ^ k) : acc + c % 128 * 128 ^ k < 18446744073709551616 := by
  by_cases h9 : k = 9
  · subst h9
    have : c ≤ 1 := by simp [mayB] at h; omega
    have := Nat.mul_le_mul_right (128 ^ 9) (show c % 128 ≤ 1 by omega)
    have e : (128 : Nat) ^ 9 = 9223372036854775808 := by decide
    rw [e] at *
    omega
  · have h1 := Nat.mul_le_mul_right (128 ^ k) (show c % 128 ≤ 127 by omega)
    have h2 : (128 : Nat) ^ k ≤ 128 ^ 8 := Nat.pow_le_pow_right (by omega) (by omega)
    have e : (128 : Nat) ^ 8 = 72057594037927936 := by decide
    rw [e] at h2
    omega
theorem add_lt (c k acc : Nat) (ha : acc < 128 ^ k) : acc + c % 128 * 128 ^ k < 128 ^ (k + 1) := by
  have h1 := Nat.mul_le_mul_right (128 ^ k) (show c % 128 ≤ 127 by omega)
  rw [Nat.pow_succ]; omega

theorem or_is_add (a b k : Nat) (h : a < 2 ^ k) : a ||| (b * 2 ^ k) = a + b * 2 ^ k := by
  have := Nat.two_pow_add_eq_or_of_lt h b
  rw [Nat.mul_comm b, Nat.or_comm, ← this]; omega

theorem pow128 (k : Nat) : (128 : Nat) ^ k = 2 ^ (7 * k) := by rw [Nat.pow_mul]

/-- octet's sum of bits is a sum -/
theorem or_shl (c k acc : Nat) (hk : k ≤ 9) (hc : c < 256) (h : mayB c k = true) (ha : acc < 128 ^ k) :
    bits .or .u64 (acc : Int) (((c % 128 * 2 ^ (7 * k) : Nat)) : Int) = ((acc + c % 128 * 128 ^ k : Nat) : Int) := by
  have h1 := add_le c k acc hk hc h ha
  rw [bits_or_u64_nat _ _ (by omega) (by rw [← pow128]; omega), or_is_add _ _ _ (by rw [← pow128]; exact ha), pow128]

theorem and_is (c : Nat) (hc : c < 256) : bits .and .u8 (c : Int) 127 = ((c % 128 : Nat) : Int) := by
  have := bits_mask .u8 8 (by decide) wraps_u8 7 (by decide) (c : Int) (by omega) (by omega)
  rw [show (127 : Int) = 2 ^ 7 - 1 by decide]
  rw [this]; omega
theorem shl_is (c k : Nat) (hk : k ≤ 9) (hc : c < 256) (h : mayB c k = true) : IntKind.u64.wrap (((c % 128 : Nat) : Int) * 2 ^ (7 * k)) = ((c % 128 * 2 ^ (7 * k) : Nat) : Int) := by
  have h1 := add_le c k 0 hk hc h (pow_pos k)
  rw [pow128] at h1
  rw [IntKind.wrap_u64]
  have e : (((c % 128 : Nat) : Int) * 2 ^ (7 * k)) = ((c % 128 * 2 ^ (7 * k) : Nat) : Int) := by simp
  rw [e]
  generalize c % 128 * 2 ^ (7 * k) = X at *
  omega
/-- octet's step, as the walk writes it -/
theorem step_is (c k acc : Nat) (hk : k ≤ 9) (hc : c < 256) (h : mayB c k = true) (ha : acc < 128 ^ k) :
    bits .or .u64 (acc : Int) (IntKind.u64.wrap (IntKind.u64.wrap (bits .and .u8 (c : Int) 127) * 2 ^ (7 * k))) = ((acc + c % 128 * 128 ^ k : Nat) : Int) := by
  have e : IntKind.u64.wrap (bits .and .u8 (c : Int) 127) = ((c % 128 : Nat) : Int) := by rw [and_is c hc, IntKind.wrap_u64]; omega
  rw [e, shl_is c k hk hc h, or_shl c k acc hk hc h ha]
end Go.Proofs.YtnldjcoajliciaaGreat
