/- Joined: The mathematics of a number's bytes as they are put; nothing of the program stands here. The mathematics of the sum: a state of 32 bits that is shifted bit by bit; nothing of the program stands here. The mathematics of wide numbers: so many bytes, the highest first; nothing of the program stands here. The mathematics of texts in bytes: what reading a text comes to; nothing of the program stands here. The mathematics of the digest: SHA-256 on plain numbers and lists of bytes; nothing of the program stands here. The mathematics of digits: two a byte; and the published digests by reckoning; nothing of the program stands here. -/
import Derived.Test.YtefbioainibmaaaGreatDoorNum
import Derived.Lib.AppendStr
namespace Go.Proofs.YtefbioainibmaaaGreatDoor
open Go.RowKit

/-- a number's bytes, at most so many more than one -/
def putF : Nat → Nat → List UInt8
  | 0, n => [UInt8.ofNat n]
  | f + 1, n => if n < 128 then [UInt8.ofNat n] else UInt8.ofNat (n % 128 + 128) :: putF f (n / 128)
/-- a number's bytes -/
def put (n : Nat) : List UInt8 := putF 9 n

/-- bytes as cells -/
def bs (l : List UInt8) : List Value := l.map fun b => Value.int .u8 b.toNat
theorem bs_append (a b : List UInt8) : bs (a ++ b) = bs a ++ bs b := by simp [bs]
theorem bs_len (a : List UInt8) : (bs a).length = a.length := by simp [bs]
theorem bs_str (s : ByteArray) : Lib.strCells s = bs s.data.toList := rfl

theorem putF_len (f n : Nat) : 1 ≤ (putF f n).length ∧ (putF f n).length ≤ f + 1 := by
  induction f generalizing n with
  | zero => simp [putF]
  | succ f ih =>
    by_cases h : n < 128
    · simp [putF, h]
    · have := ih (n / 128); simp [putF, h]; omega
theorem put_len (n : Nat) : 1 ≤ (put n).length ∧ (put n).length ≤ 10 := putF_len 9 n

theorem putF_small (f n : Nat) (h : n < 128) : putF f n = [UInt8.ofNat n] := by
  cases f with
  | zero => rfl
  | succ f => simp [putF, h]
theorem putF_more (f n : Nat) (h : ¬ n < 128) : putF (f + 1) n = UInt8.ofNat (n % 128 + 128) :: putF f (n / 128) := by simp [putF, h]

/-- octet's byte that goes on, as the walk writes it -/
theorem low_is (n : Nat) (h : n < 18446744073709551616) : bits .or .u8 (IntKind.u8.wrap (bits .and .u64 (n : Int) 127)) 128 = ((UInt8.ofNat (n % 128 + 128)).toNat : Int) := by
  have e1 : bits .and .u64 (n : Int) 127 = ((n &&& 127 : Nat) : Int) := bits_and_u64_nat n 127 h (by decide)
  have e2 : n &&& 127 = n % 128 := Nat.and_two_pow_sub_one_eq_mod n 7
  have e3 : IntKind.u8.wrap ((n % 128 : Nat) : Int) = ((n % 128 : Nat) : Int) := by rw [IntKind.wrap_u8]; omega
  rw [e1, e2, e3]
  have hlt : n % 128 < 128 := Nat.mod_lt _ (by decide)
  have e5 : (UInt8.ofNat (n % 128 + 128)).toNat = n % 128 + 128 := by simp; omega
  rw [e5]
  generalize n % 128 = x at *
  have e4 : bits .or .u8 ((x : Nat) : Int) ((128 : Nat) : Int) = ((x ||| 128 : Nat) : Int) := by
    exact (bits_nat .u8 8 (by decide) wraps_u8 x 128 (by omega) (by decide)).2
  rw [show (128 : Int) = ((128 : Nat) : Int) from rfl, e4]
  have := or_is_add x 1 7 (by omega)
  simp at this
  rw [this]
theorem byte_is (n : Nat) : IntKind.u8.wrap (n : Int) = ((UInt8.ofNat n).toNat : Int) := by
  rw [IntKind.wrap_u8]; simp
theorem low_is2 (n : Nat) (h : n < 18446744073709551616) : bits .or .u8 (bits .and .u64 (n : Int) 127 % 256) 128 = ((UInt8.ofNat (n % 128 + 128)).toNat : Int) := by
  rw [← IntKind.wrap_u8]; exact low_is n h
theorem byte_is2 (n : Nat) : (n : Int) % 256 = ((UInt8.ofNat n).toNat : Int) := by
  rw [← IntKind.wrap_u8]; exact byte_is n
theorem byte_small (n : Nat) (h : n < 128) : (n : Int) = ((UInt8.ofNat n).toNat : Int) := by simp; omega
theorem shr_is (n : Nat) : ((n : Int) / 2 ^ 7) = ((n / 128 : Nat) : Int) := by simp
end Go.Proofs.YtefbioainibmaaaGreatDoor
namespace Go.Proofs.YtefbioainibmaaaGreatDoor
open Go.RowKit

/-- one shift -/
def crcStep (x : Nat) : Nat := if x % 2 = 1 then x / 2 ^^^ 3988292384 else x / 2
/-- so many shifts -/
def crcIt : Nat → Nat → Nat
  | 0, x => x
  | j + 1, x => crcIt j (crcStep x)
/-- a byte is taken in -/
def crcByte (x : Nat) (c : UInt8) : Nat := crcIt 8 (x ^^^ c.toNat)
/-- bytes are taken in -/
def crc (x : Nat) (l : List UInt8) : Nat := l.foldl crcByte x

theorem xor32 (a b : Nat) (ha : a < 4294967296) (hb : b < 4294967296) : a ^^^ b < 4294967296 := Nat.xor_lt_two_pow (n := 32) ha hb
theorem crcStep_lt (x : Nat) (h : x < 4294967296) : crcStep x < 4294967296 := by
  unfold crcStep
  split
  · exact xor32 _ _ (by omega) (by omega)
  · omega
theorem crcIt_lt (j : Nat) : ∀ x, x < 4294967296 → crcIt j x < 4294967296 := by
  induction j with
  | zero => intro x h; exact h
  | succ j ih => intro x h; exact ih _ (crcStep_lt x h)
theorem crcByte_lt (x : Nat) (c : UInt8) (h : x < 4294967296) : crcByte x c < 4294967296 :=
  crcIt_lt 8 _ (xor32 _ _ h (by have := UInt8.toNat_lt c; omega))
theorem crc_lt (l : List UInt8) : ∀ x, x < 4294967296 → crc x l < 4294967296 := by
  induction l with
  | nil => intro x h; exact h
  | cons c r ih => intro x h; exact ih _ (crcByte_lt x c h)
theorem crc_append (x : Nat) (l r : List UInt8) : crc x (l ++ r) = crc (crc x l) r := by simp [crc]
theorem ofInt32 (a : Nat) (ha : a < 4294967296) : (BitVec.ofInt 32 (a : Int)).toNat = a := by
  rw [BitVec.ofInt_natCast, BitVec.toNat_ofNat]; exact Nat.mod_eq_of_lt (by omega)
theorem bits_xor_u32 (a b : Nat) (ha : a < 4294967296) (hb : b < 4294967296) : bits .xor .u32 (a : Int) (b : Int) = ((a ^^^ b : Nat) : Int) := by
  have hx := xor32 a b ha hb
  show IntKind.u32.wrap ((BitVec.ofInt 32 (a : Int) ^^^ BitVec.ofInt 32 (b : Int)).toNat : Int) = _
  rw [BitVec.toNat_xor, ofInt32 a ha, ofInt32 b hb, IntKind.wrap_u32]
  omega
theorem bits_and_u32 (a b : Nat) (ha : a < 4294967296) (hb : b < 4294967296) : bits .and .u32 (a : Int) (b : Int) = ((a &&& b : Nat) : Int) := by
  have hx : a &&& b < 2 ^ 32 := Nat.and_lt_two_pow _ (by omega)
  show IntKind.u32.wrap ((BitVec.ofInt 32 (a : Int) &&& BitVec.ofInt 32 (b : Int)).toNat : Int) = _
  rw [BitVec.toNat_and, ofInt32 a ha, ofInt32 b hb, IntKind.wrap_u32]
  omega

/-- frame's shift by a mask is a shift -/
theorem mask_step (x : Nat) (h : x < 4294967296) : bits .xor .u32 ((x : Int) / 2) (bits .and .u32 3988292384 (-(bits .and .u32 (x : Int) 1) % 4294967296)) = ((crcStep x : Nat) : Int) := by
  have e1 : bits .and .u32 (x : Int) ((1 : Nat) : Int) = ((x &&& 1 : Nat) : Int) := bits_and_u32 x 1 h (by decide)
  have e2 : x &&& 1 = x % 2 := Nat.and_one_is_mod x
  rw [show (1 : Int) = ((1 : Nat) : Int) from rfl, e1, e2]
  have e3 : ((x : Int) / 2) = ((x / 2 : Nat) : Int) := by omega
  rw [e3]
  unfold crcStep
  by_cases hx : x % 2 = 1
  · rw [if_pos hx, hx]
    rw [show (-((1 : Nat) : Int)) % 4294967296 = ((4294967295 : Nat) : Int) by decide]
    rw [show (3988292384 : Int) = ((3988292384 : Nat) : Int) from rfl, bits_and_u32 3988292384 4294967295 (by decide) (by decide), show (3988292384 &&& 4294967295 : Nat) = 3988292384 by decide]
    exact bits_xor_u32 _ _ (by omega) (by decide)
  · have h0 : x % 2 = 0 := by omega
    rw [if_neg hx, h0]
    rw [show (-((0 : Nat) : Int)) % 4294967296 = ((0 : Nat) : Int) by decide]
    rw [show (3988292384 : Int) = ((3988292384 : Nat) : Int) from rfl, bits_and_u32 3988292384 0 (by decide) (by decide), show (3988292384 &&& 0 : Nat) = 0 by decide]
    rw [bits_xor_u32 _ _ (by omega) (by decide), Nat.xor_zero]
theorem not32 (c : Nat) (h : c < 4294967296) : 4294967295 ^^^ c = 4294967295 - c := by
  have h1 : ~~~ (BitVec.ofNat 32 c) = BitVec.allOnes 32 ^^^ BitVec.ofNat 32 c := by
    apply BitVec.eq_of_getElem_eq
    intro i hi
    rw [BitVec.getElem_not, BitVec.getElem_xor, BitVec.getElem_allOnes, Bool.true_xor]
  have h2 := congrArg BitVec.toNat h1
  rw [BitVec.toNat_not, BitVec.toNat_xor, BitVec.toNat_allOnes, BitVec.toNat_ofNat, Nat.mod_eq_of_lt h] at h2
  exact h2.symm
theorem not_is (c : Nat) (h : c < 4294967296) : bits .xor .u32 IntKind.u32.max (c : Int) = ((4294967295 - c : Nat) : Int) := by
  rw [show IntKind.u32.max = ((4294967295 : Nat) : Int) by decide, bits_xor_u32 _ _ (by decide) h, not32 c h]
theorem xor_byte (x : Nat) (c : UInt8) (h : x < 4294967296) : bits .xor .u32 (x : Int) ((c.toNat : Int) % 4294967296) = ((x ^^^ c.toNat : Nat) : Int) := by
  have hc : c.toNat < 256 := UInt8.toNat_lt c
  rw [show ((c.toNat : Int) % 4294967296) = (c.toNat : Int) by omega]
  exact bits_xor_u32 _ _ h (by omega)
end Go.Proofs.YtefbioainibmaaaGreatDoor
namespace Go.Proofs.YtefbioainibmaaaGreatDoor
open Go.RowKit

/-- the lowest k bytes of a number, the highest first -/
def be (n : Nat) : Nat → List UInt8
  | 0 => []
  | k + 1 => UInt8.ofNat (n / 256 ^ k) :: be n k
theorem be_len (n k : Nat) : (be n k).length = k := by
  induction k with
  | zero => rfl
  | succ k ih => simp [be, ih]

/-- what stands in the bytes when the lowest k are laid -/
def laidW (n wide k : Nat) : List UInt8 := List.replicate (wide - k) 0 ++ be n k
theorem laidW_len (n wide k : Nat) (h : k ≤ wide) : (laidW n wide k).length = wide := by simp [laidW, be_len]; omega
theorem laidW_full (n wide : Nat) : laidW n wide wide = be n wide := by simp [laidW]

theorem set_rep (m : Nat) (l : List UInt8) (b : UInt8) : (List.replicate (m + 1) 0 ++ l).set m b = List.replicate m 0 ++ b :: l := by
  induction m with
  | zero => rfl
  | succ m ih => rw [List.replicate_succ, List.cons_append, List.set_cons_succ, ih, List.replicate_succ, List.cons_append]
theorem laidW_step (n wide k : Nat) (h : k < wide) : (laidW n wide k).set (wide - 1 - k) (UInt8.ofNat (n / 256 ^ k)) = laidW n wide (k + 1) := by
  unfold laidW
  have e : wide - k = (wide - 1 - k) + 1 := by omega
  rw [e, set_rep]
  have e2 : wide - (k + 1) = wide - 1 - k := by omega
  rw [e2]; rfl
theorem bs_set (l : List UInt8) (j : Nat) (b : UInt8) : (bs l).set j (.int .u8 b.toNat) = bs (l.set j b) := by simp [bs, List.map_set]
theorem bs_zero (m : Nat) : bs (List.replicate m 0) = List.replicate m (.int .u8 0) := by simp [bs]

/-- the bytes of a wide number, or that there are none -/
def wideR (n : Nat) (wide : Int) : List UInt8 := if 1 ≤ wide ∧ wide ≤ 8 ∧ n < 256 ^ wide.toNat then be n wide.toNat else []
def wideE (n : Nat) (wide : Int) : Nat := if 1 ≤ wide ∧ wide ≤ 8 ∧ n < 256 ^ wide.toNat then 0 else 1

/-- the number that bytes say, the highest first -/
def beN (l : List UInt8) : Nat := l.foldl (fun a c => a * 256 + c.toNat) 0
theorem beN_snoc (l : List UInt8) (c : UInt8) : beN (l ++ [c]) = beN l * 256 + c.toNat := by simp [beN]
theorem foldl_lt (l : List UInt8) : ∀ a k, a < 256 ^ k → l.foldl (fun a c => a * 256 + c.toNat) a < 256 ^ (k + l.length) := by
  induction l with
  | nil => intro a k h; simpa using h
  | cons c r ih =>
    intro a k h
    have hc : c.toNat < 256 := UInt8.toNat_lt c
    have := ih (a * 256 + c.toNat) (k + 1) (by rw [Nat.pow_succ]; omega)
    rw [List.foldl_cons, List.length_cons, show k + (r.length + 1) = k + 1 + r.length by omega]
    exact this
theorem beN_lt (l : List UInt8) : beN l < 256 ^ l.length := by have := foldl_lt l 0 0 (by simp); simpa [beN] using this

/-- the wide number at a place -/
def rdW (s : ByteArray) (a wide : Int) : Got :=
  if 1 ≤ wide ∧ wide ≤ 8 ∧ 0 ≤ a ∧ a ≤ s.size then
    if a + wide ≤ s.size then ⟨beN ((s.data.toList.drop a.toNat).take wide.toNat), wide.toNat, 0⟩ else ⟨0, 0, 5⟩
  else ⟨0, 0, 1⟩

theorem take_snoc (s : ByteArray) (a k : Nat) (h : a + k < s.size) : (s.data.toList.drop a).take (k + 1) = (s.data.toList.drop a).take k ++ [s[a + k]] := by
  have hl : k < (s.data.toList.drop a).length := by simp; omega
  rw [List.take_succ_eq_append_getElem hl]
  congr 1
  simp; rfl
theorem pow256_le (k : Nat) (hk : k ≤ 7) : 256 ^ k ≤ 72057594037927936 := by
  have : (256 : Nat) ^ k ≤ 256 ^ 7 := Nat.pow_le_pow_right (by omega) hk
  simpa using this

theorem or_small (x c : Nat) (hx : x < 72057594037927936) (hc : c < 256) : bits .or .u64 ((x * 256 : Nat) : Int) (c : Int) = ((x * 256 + c : Nat) : Int) := by
  rw [bits_or_u64_nat _ _ (by omega) (by omega)]
  have := or_is_add c x 8 (by omega)
  rw [Nat.or_comm] at this
  simp at this
  rw [this]; omega

theorem pow256 (k : Nat) : (256 : Nat) ^ k = 2 ^ (8 * k) := by rw [Nat.pow_mul]
theorem shr8_ne (n k : Nat) (h : n < 256 ^ k) : (((n : Int) / 2 ^ (8 * k)) != 0) = false := by
  have e : ((n : Int) / 2 ^ (8 * k)) = ((n / 2 ^ (8 * k) : Nat) : Int) := by simp
  rw [e, ← pow256, Nat.div_eq_of_lt h]; rfl
theorem shr8_ne' (n k : Nat) (h : ¬ n < 256 ^ k) : (((n : Int) / 2 ^ (8 * k)) != 0) = true := by
  have e : ((n : Int) / 2 ^ (8 * k)) = ((n / 2 ^ (8 * k) : Nat) : Int) := by simp
  have hp : 0 < n / 256 ^ k := Nat.div_pos (by omega) (Nat.pos_of_ne_zero (by simp))
  rw [e, ← pow256, bne_iff_ne]
  omega
theorem shr8_byte (n k : Nat) : ((n : Int) / 2 ^ (8 * k)) % 256 = ((UInt8.ofNat (n / 256 ^ k)).toNat : Int) := by
  have e : ((n : Int) / 2 ^ (8 * k)) = ((n / 2 ^ (8 * k) : Nat) : Int) := by simp
  rw [e, ← pow256]; simp
theorem wide_yes (n k : Nat) (h1 : 1 ≤ k) (h8 : k ≤ 8) (h : n < 256 ^ k) : wideR n k = be n k ∧ wideE n k = 0 := by
  have c : 1 ≤ (k : Int) ∧ (k : Int) ≤ 8 ∧ n < 256 ^ (k : Int).toNat := ⟨by omega, by omega, by simpa using h⟩
  rw [wideR, wideE, if_pos c, if_pos c]; simp
theorem wide_no (n : Nat) (k : Int) (h : ¬ (1 ≤ k ∧ k ≤ 8 ∧ n < 256 ^ k.toNat)) : wideR n k = [] ∧ wideE n k = 1 := by
  rw [wideR, wideE, if_neg h, if_neg h]; simp
end Go.Proofs.YtefbioainibmaaaGreatDoor
namespace Go.Proofs.YtefbioainibmaaaGreatDoor
open Go.RowKit

theorem rd_bounds (l : List UInt8) : ∀ (k acc : Nat), k ≤ 9 → acc < 128 ^ k → (rd l k acc).e = 0 → k < (rd l k acc).len ∧ (rd l k acc).len ≤ k + l.length ∧ (rd l k acc).len ≤ 10 ∧ (rd l k acc).n < 18446744073709551616 := by
  induction l with
  | nil => intro k acc _ _ h; simp [rd] at h
  | cons c r ih =>
    intro k acc hk ha h
    have hc8 : c.toNat < 256 := UInt8.toNat_lt c
    cases hm : mayB c.toNat k with
    | false => rw [rd_bad _ _ _ _ hm] at h; simp at h
    | true =>
      by_cases hc : c.toNat < 128
      · rw [rd_last _ _ _ _ hm hc]
        have := add_le c.toNat k acc hk hc8 hm ha
        simp; omega
      · rw [rd_more _ _ _ _ hm hc] at h ⊢
        have hk9 := may_more c.toNat k hk hm hc
        have := ih (k + 1) _ (by omega) (add_lt c.toNat k acc ha) h
        simp; omega

theorem rdAt_bounds (s : ByteArray) (a : Int) (h : (rdAt s a).e = 0) : 0 ≤ a ∧ a + (rdAt s a).len ≤ s.size ∧ 1 ≤ (rdAt s a).len ∧ (rdAt s a).len ≤ 10 ∧ (rdAt s a).n < 18446744073709551616 := by
  unfold rdAt at h ⊢
  by_cases ha : 0 ≤ a ∧ a ≤ s.size
  · rw [if_pos ha] at h ⊢
    have := rd_bounds _ 0 0 (by omega) (by simp) h
    simp at this
    omega
  · rw [if_neg ha] at h; simp at h

theorem rd_e (l : List UInt8) : ∀ k acc, (rd l k acc).e = 0 ∨ (rd l k acc).e = 3 ∨ (rd l k acc).e = 5 := by
  induction l with
  | nil => intro k acc; simp [rd]
  | cons c r ih =>
    intro k acc
    unfold rd
    split
    · simp
    · split
      · simp
      · exact ih _ _
theorem rdAt_e (s : ByteArray) (a : Int) : (rdAt s a).e ≤ 5 := by
  unfold rdAt
  split
  · rcases rd_e (s.data.toList.drop a.toNat) 0 0 with h | h | h <;> omega
  · simp

/-- a text that is read: its bytes, the place behind it, the error -/
structure Txt where
  x : ByteArray
  to : Int
  e : Nat

/-- the text at a place -/
def txtAt (s : ByteArray) (a : Int) : Txt :=
  if (rdAt s a).e = 0 then
    if a.toNat + (rdAt s a).len + (rdAt s a).n ≤ s.size then ⟨s.extract (a.toNat + (rdAt s a).len) (a.toNat + (rdAt s a).len + (rdAt s a).n), ((a.toNat + (rdAt s a).len + (rdAt s a).n : Nat) : Int), 0⟩ else ⟨⟨#[]⟩, 0, 5⟩
  else ⟨⟨#[]⟩, 0, (rdAt s a).e⟩
end Go.Proofs.YtefbioainibmaaaGreatDoor
namespace Go.Proofs.YtefbioainibmaaaGreatDoor
open Go.RowKit

/-- a word turned to the right -/
def rot (x n : Nat) : Nat := (x / 2 ^ n) ||| (x * 2 ^ (32 - n) % 4294967296)
/-- a word turned in three ways, joined -/
def rot3 (x i j k : Nat) : Nat := rot x i ^^^ rot x j ^^^ rot x k
def older (x : Nat) : Nat := rot x 7 ^^^ rot x 18 ^^^ (x / 2 ^ 3)
def newer (x : Nat) : Nat := rot x 17 ^^^ rot x 19 ^^^ (x / 2 ^ 10)
def chosen (e f g : Nat) : Nat := (e &&& f) ^^^ ((4294967295 - e) &&& g)
def most (a b c : Nat) : Nat := (a &&& b) ^^^ (a &&& c) ^^^ (b &&& c)

/-- eight words -/
structure St8 where
  a : Nat
  b : Nat
  c : Nat
  d : Nat
  e : Nat
  f : Nat
  g : Nat
  h : Nat

/-- the first number of a round -/
def rT (s : St8) (k w : Nat) : Nat := (s.h + rot3 s.e 6 11 25 + chosen s.e s.f s.g + k + w) % 4294967296
/-- a round -/
def rnd (s : St8) (k w : Nat) : St8 :=
  ⟨(rT s k w + rot3 s.a 2 13 22 + most s.a s.b s.c) % 4294967296, s.a, s.b, s.c, (s.d + rT s k w) % 4294967296, s.e, s.f, s.g⟩
def rnds : List Nat → List Nat → St8 → St8
  | k :: ks, w :: ws, s => rnds ks ws (rnd s k w)
  | _, _, s => s

/-- the numbers of the rounds -/
def kNums : List Nat := [
  0x428a2f98, 0x71374491, 0xb5c0fbcf, 0xe9b5dba5, 0x3956c25b, 0x59f111f1, 0x923f82a4, 0xab1c5ed5,
  0xd807aa98, 0x12835b01, 0x243185be, 0x550c7dc3, 0x72be5d74, 0x80deb1fe, 0x9bdc06a7, 0xc19bf174,
  0xe49b69c1, 0xefbe4786, 0x0fc19dc6, 0x240ca1cc, 0x2de92c6f, 0x4a7484aa, 0x5cb0a9dc, 0x76f988da,
  0x983e5152, 0xa831c66d, 0xb00327c8, 0xbf597fc7, 0xc6e00bf3, 0xd5a79147, 0x06ca6351, 0x14292967,
  0x27b70a85, 0x2e1b2138, 0x4d2c6dfc, 0x53380d13, 0x650a7354, 0x766a0abb, 0x81c2c92e, 0x92722c85,
  0xa2bfe8a1, 0xa81a664b, 0xc24b8b70, 0xc76c51a3, 0xd192e819, 0xd6990624, 0xf40e3585, 0x106aa070,
  0x19a4c116, 0x1e376c08, 0x2748774c, 0x34b0bcb5, 0x391c0cb3, 0x4ed8aa4a, 0x5b9cca4f, 0x682e6ff3,
  0x748f82ee, 0x78a5636f, 0x84c87814, 0x8cc70208, 0x90befffa, 0xa4506ceb, 0xbef9a3f7, 0xc67178f2]

/-- four bytes as a word -/
def word (b : List UInt8) (i : Nat) : Nat := (b.getD (4 * i) 0).toNat * 16777216 + (b.getD (4 * i + 1) 0).toNat * 65536 + (b.getD (4 * i + 2) 0).toNat * 256 + (b.getD (4 * i + 3) 0).toNat
/-- the first k words of a block -/
def wFirst (b : List UInt8) : Nat → List Nat
  | 0 => []
  | k + 1 => wFirst b k ++ [word b k]
/-- the word that follows from others -/
def wNext (l : List Nat) : Nat := (l.getD (l.length - 16) 0 + older (l.getD (l.length - 15) 0) + l.getD (l.length - 7) 0 + newer (l.getD (l.length - 2) 0)) % 4294967296
def wGrow : Nat → List Nat → List Nat
  | 0, l => l
  | k + 1, l => wGrow k (l ++ [wNext l])
/-- the words of the rounds -/
def wds (b : List UInt8) : List Nat := wGrow 48 (wFirst b 16)

def first8 : St8 := ⟨0x6a09e667, 0xbb67ae85, 0x3c6ef372, 0xa54ff53a, 0x510e527f, 0x9b05688c, 0x1f83d9ab, 0x5be0cd19⟩
def add8 (s t : St8) : St8 := ⟨(s.a + t.a) % 4294967296, (s.b + t.b) % 4294967296, (s.c + t.c) % 4294967296, (s.d + t.d) % 4294967296, (s.e + t.e) % 4294967296, (s.f + t.f) % 4294967296, (s.g + t.g) % 4294967296, (s.h + t.h) % 4294967296⟩
/-- a state behind one more block -/
def mix (s : St8) (b : List UInt8) : St8 := add8 s (rnds kNums (wds b) s)
/-- a state behind so many more blocks -/
def mixN : Nat → St8 → List UInt8 → St8
  | 0, s, _ => s
  | n + 1, s, l => mixN n (mix s (l.take 64)) (l.drop 64)

/-- what stands behind so many bytes in the last blocks -/
def tail (n : Nat) : List UInt8 := 128 :: (List.replicate ((119 - n % 64) % 64) 0 ++ be (8 * n % 18446744073709551616) 8)
/-- the state behind the whole blocks of bytes -/
def st (l : List UInt8) : St8 := mixN (l.length / 64) first8 l
end Go.Proofs.YtefbioainibmaaaGreatDoor
namespace Go.Proofs.YtefbioainibmaaaGreatDoor
open Go.RowKit

end Go.Proofs.YtefbioainibmaaaGreatDoor
