/- The mathematics of a number's bytes as they are put; nothing of the program stands here. -/
import Derived.Test.YtnohkhgoejjfhaaDoorNum
import Derived.Lib.AppendStr
namespace Go.Proofs.YtnohkhgoejjfhaaDoor
open Go.RowKit

/-- a number's bytes, at most so many more than one -/
def putF : Nat → Nat → List UInt8
  | 0, n => [UInt8.ofNat n]
  | f + 1, n => if n < 128 then [UInt8.ofNat n] else UInt8.ofNat (n % 128 + 128) :: putF f (n / 128)
/-- a number's bytes -/
def put (n : Nat) : List UInt8 := putF 9 n

/-- bytes as cells -/
def bs (l : List UInt8) : List Value := l.map fun b => Value.int .u8 b.toNat
theorem bs_append (a b : List UInt8) : bs (a ++ b) = bs a ++ bs b := by simp [bs]
theorem bs_len (a : List UInt8) : (bs a).length = a.length := by simp [bs]
theorem bs_str (s : ByteArray) : Lib.strCells s = bs s.data.toList := rfl

theorem putF_len (f n : Nat) : 1 ≤ (putF f n).length ∧ (putF f n).length ≤ f + 1 := by
  induction f generalizing n with
  | zero => simp [putF]
  | succ f ih =>
    by_cases h : n < 128
    · simp [putF, h]
    · have := ih (n / 128); simp [putF, h]; omega
theorem put_len (n : Nat) : 1 ≤ (put n).length ∧ (put n).length ≤ 10 := putF_len 9 n

theorem putF_small (f n : Nat) (h : n < 128) : putF f n = [UInt8.ofNat n] := by
  cases f with
  | zero => rfl
  | succ f => simp [putF, h]
theorem putF_more (f n : Nat) (h : ¬ n < 128) : putF (f + 1) n = UInt8.ofNat (n % 128 + 128) :: putF f (n / 128) := by simp [putF, h]

/-- octet's byte that goes on, as the walk writes it -/
theorem low_is (n : Nat) (h : n < 18446744073709551616) : bits .or .u8 (IntKind.u8.wrap (bits .and .u64 (n : Int) 127)) 128 = ((UInt8.ofNat (n % 128 + 128)).toNat : Int) := by
  have e1 : bits .and .u64 (n : Int) 127 = ((n &&& 127 : Nat) : Int) := bits_and_u64_nat n 127 h (by decide)
  have e2 : n &&& 127 = n % 128 := Nat.and_two_pow_sub_one_eq_mod n 7
  have e3 : IntKind.u8.wrap ((n % 128 : Nat) : Int) = ((n % 128 : Nat) : Int) := by rw [IntKind.wrap_u8]; omega
  rw [e1, e2, e3]
  have hlt : n % 128 < 128 := Nat.mod_lt _ (by decide)
  have e5 : (UInt8.ofNat (n % 128 + 128)).toNat = n % 128 + 128 := by simp; omega
  rw [e5]
  generalize n % 128 = x at *
  have e4 : bits .or .u8 ((x : Nat) : Int) ((128 : Nat) : Int) = ((x ||| 128 : Nat) : Int) := by
    exact (bits_nat .u8 8 (by decide) wraps_u8 x 128 (by omega) (by decide)).2
  rw [show (128 : Int) = ((128 : Nat) : Int) from rfl, e4]
  have := or_is_add x 1 7 (by omega)
  simp at this
  rw [this]
theorem byte_is (n : Nat) : IntKind.u8.wrap (n : Int) = ((UInt8.ofNat n).toNat : Int) := by
  rw [IntKind.wrap_u8]; simp
theorem low_is2 (n : Nat) (h : n < 18446744073709551616) : bits .or .u8 (bits .and .u64 (n : Int) 127 % 256) 128 = ((UInt8.ofNat (n % 128 + 128)).toNat : Int) := by
  rw [← IntKind.wrap_u8]; exact low_is n h
theorem byte_is2 (n : Nat) : (n : Int) % 256 = ((UInt8.ofNat n).toNat : Int) := by
  rw [← IntKind.wrap_u8]; exact byte_is n
theorem byte_small (n : Nat) (h : n < 128) : (n : Int) = ((UInt8.ofNat n).toNat : Int) := by simp; omega
theorem shr_is (n : Nat) : ((n : Int) / 2 ^ 7) = ((n / 128 : Nat) : Int) := by simp
end Go.Proofs.YtnohkhgoejjfhaaDoor
