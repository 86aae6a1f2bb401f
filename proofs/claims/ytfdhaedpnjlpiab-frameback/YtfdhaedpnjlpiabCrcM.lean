/- The mathematics of the sum: a state of 32 bits that is shifted bit by bit; nothing of the program stands here. -/
import Derived.Test.YtfdhaedpnjlpiabPut
namespace Go.Proofs.Ytfdhaedpnjlpiab
open Go.RowKit

/-- one shift -/
def crcStep (x : Nat) : Nat := if x % 2 = 1 then x / 2 ^^^ 3988292384 else x / 2
/-- so many shifts -/
def crcIt : Nat → Nat → Nat
  | 0, x => x
  | j + 1, x => crcIt j (crcStep x)
/-- a byte is taken in -/
def crcByte (x : Nat) (c : UInt8) : Nat := crcIt 8 (x ^^^ c.toNat)
/-- bytes are taken in -/
def crc (x : Nat) (l : List UInt8) : Nat := l.foldl crcByte x

theorem xor32 (a b : Nat) (ha : a < 4294967296) (hb : b < 4294967296) : a ^^^ b < 4294967296 := Nat.xor_lt_two_pow (n := 32) ha hb
theorem crcStep_lt (x : Nat) (h : x < 4294967296) : crcStep x < 4294967296 := by
  unfold crcStep
  split
  · exact xor32 _ _ (by omega) (by omega)
  · omega
theorem crcIt_lt (j : Nat) : ∀ x, x < 4294967296 → crcIt j x < 4294967296 := by
  induction j with
  | zero => intro x h; exact h
  | succ j ih => intro x h; exact ih _ (crcStep_lt x h)
theorem crcByte_lt (x : Nat) (c : UInt8) (h : x < 4294967296) : crcByte x c < 4294967296 :=
  crcIt_lt 8 _ (xor32 _ _ h (by have := UInt8.toNat_lt c; omega))
theorem crc_lt (l : List UInt8) : ∀ x, x < 4294967296 → crc x l < 4294967296 := by
  induction l with
  | nil => intro x h; exact h
  | cons c r ih => intro x h; exact ih _ (crcByte_lt x c h)
theorem crc_append (x : Nat) (l r : List UInt8) : crc x (l ++ r) = crc (crc x l) r := by simp [crc]
theorem crc_cons (x : Nat) (c : UInt8) (r : List UInt8) : crc x (c :: r) = crc (crcByte x c) r := rfl

theorem ofInt32 (a : Nat) (ha : a < 4294967296) : (BitVec.ofInt 32 (a : Int)).toNat = a := by
  rw [BitVec.ofInt_natCast, BitVec.toNat_ofNat]; exact Nat.mod_eq_of_lt (by omega)
theorem bits_xor_u32 (a b : Nat) (ha : a < 4294967296) (hb : b < 4294967296) : bits .xor .u32 (a : Int) (b : Int) = ((a ^^^ b : Nat) : Int) := by
  have hx := xor32 a b ha hb
  show IntKind.u32.wrap ((BitVec.ofInt 32 (a : Int) ^^^ BitVec.ofInt 32 (b : Int)).toNat : Int) = _
  rw [BitVec.toNat_xor, ofInt32 a ha, ofInt32 b hb, IntKind.wrap_u32]
  omega
theorem bits_and_u32 (a b : Nat) (ha : a < 4294967296) (hb : b < 4294967296) : bits .and .u32 (a : Int) (b : Int) = ((a &&& b : Nat) : Int) := by
  have hx : a &&& b < 2 ^ 32 := Nat.and_lt_two_pow _ (by omega)
  show IntKind.u32.wrap ((BitVec.ofInt 32 (a : Int) &&& BitVec.ofInt 32 (b : Int)).toNat : Int) = _
  rw [BitVec.toNat_and, ofInt32 a ha, ofInt32 b hb, IntKind.wrap_u32]
  omega

/-- frame's shift by a mask is a shift -/
theorem mask_step (x : Nat) (h : x < 4294967296) : bits .xor .u32 ((x : Int) / 2) (bits .and .u32 3988292384 (-(bits .and .u32 (x : Int) 1) % 4294967296)) = ((crcStep x : Nat) : Int) := by
  have e1 : bits .and .u32 (x : Int) ((1 : Nat) : Int) = ((x &&& 1 : Nat) : Int) := bits_and_u32 x 1 h (by decide)
  have e2 : x &&& 1 = x % 2 := Nat.and_one_is_mod x
  rw [show (1 : Int) = ((1 : Nat) : Int) from rfl, e1, e2]
  have e3 : ((x : Int) / 2) = ((x / 2 : Nat) : Int) := by omega
  rw [e3]
  unfold crcStep
  by_cases hx : x % 2 = 1
  · rw [if_pos hx, hx]
    rw [show (-((1 : Nat) : Int)) % 4294967296 = ((4294967295 : Nat) : Int) by decide]
    rw [show (3988292384 : Int) = ((3988292384 : Nat) : Int) from rfl, bits_and_u32 3988292384 4294967295 (by decide) (by decide), show (3988292384 &&& 4294967295 : Nat) = 3988292384 by decide]
    exact bits_xor_u32 _ _ (by omega) (by decide)
  · have h0 : x % 2 = 0 := by omega
    rw [if_neg hx, h0]
    rw [show (-((0 : Nat) : Int)) % 4294967296 = ((0 : Nat) : Int) by decide]
    rw [show (3988292384 : Int) = ((3988292384 : Nat) : Int) from rfl, bits_and_u32 3988292384 0 (by decide) (by decide), show (3988292384 &&& 0 : Nat) = 0 by decide]
    rw [bits_xor_u32 _ _ (by omega) (by decide), Nat.xor_zero]
theorem ref_step1 (x : Nat) (h : x < 4294967296) (hx : x % 2 = 1) : bits .xor .u32 ((x : Int) / 2) 3988292384 = ((crcStep x : Nat) : Int) := by
  rw [show ((x : Int) / 2) = ((x / 2 : Nat) : Int) by omega, show (3988292384 : Int) = ((3988292384 : Nat) : Int) from rfl, bits_xor_u32 _ _ (by omega) (by decide), crcStep, if_pos hx]
theorem ref_step0 (x : Nat) (hx : ¬ x % 2 = 1) : ((x : Int) / 2) = ((crcStep x : Nat) : Int) := by
  rw [crcStep, if_neg hx]; omega
theorem not32 (c : Nat) (h : c < 4294967296) : 4294967295 ^^^ c = 4294967295 - c := by
  have h1 : ~~~ (BitVec.ofNat 32 c) = BitVec.allOnes 32 ^^^ BitVec.ofNat 32 c := by
    apply BitVec.eq_of_getElem_eq
    intro i hi
    rw [BitVec.getElem_not, BitVec.getElem_xor, BitVec.getElem_allOnes, Bool.true_xor]
  have h2 := congrArg BitVec.toNat h1
  rw [BitVec.toNat_not, BitVec.toNat_xor, BitVec.toNat_allOnes, BitVec.toNat_ofNat, Nat.mod_eq_of_lt h] at h2
  exact h2.symm
theorem not_is (c : Nat) (h : c < 4294967296) : bits .xor .u32 IntKind.u32.max (c : Int) = ((4294967295 - c : Nat) : Int) := by
  rw [show IntKind.u32.max = ((4294967295 : Nat) : Int) by decide, bits_xor_u32 _ _ (by decide) h, not32 c h]
theorem xor_byte (x : Nat) (c : UInt8) (h : x < 4294967296) : bits .xor .u32 (x : Int) ((c.toNat : Int) % 4294967296) = ((x ^^^ c.toNat : Nat) : Int) := by
  have hc : c.toNat < 256 := UInt8.toNat_lt c
  rw [show ((c.toNat : Int) % 4294967296) = (c.toNat : Int) by omega]
  exact bits_xor_u32 _ _ h (by omega)
end Go.Proofs.Ytfdhaedpnjlpiab
