/- Joined: The mathematics of a number's bytes as they are put; nothing of the program stands here. The mathematics of texts in bytes: what reading a text comes to; nothing of the program stands here. The mathematics of wide numbers: so many bytes, the highest first; nothing of the program stands here. The mathematics of the digest: SHA-256 on plain numbers and lists of bytes; nothing of the program stands here. The mathematics of digits: two a byte; and the published digests by reckoning; nothing of the program stands here. -/
import Derived.Test.YtnldjcoajliciaaGreatNum
import Derived.Lib.AppendStr
namespace Go.Proofs.YtnldjcoajliciaaGreat
open Go.RowKit

/-- a number's bytes, at most so many more than one -/
def putF : Nat → Nat → List UInt8
  | 0, n => [UInt8.ofNat n]
  | f + 1, n => if n < 128 then [UInt8.ofNat n] else UInt8.ofNat (n % 128 + 128) :: putF f (n / 128)
/-- a number's bytes -/
def put (n : Nat) : List UInt8 := putF 9 n

/-- bytes as cells -/
def bs (l : List UInt8) : List Value := l.map fun b => Value.int .u8 b.toNat
end Go.Proofs.YtnldjcoajliciaaGreat
namespace Go.Proofs.YtnldjcoajliciaaGreat
open Go.RowKit

theorem rd_bounds (l : List UInt8) : ∀ (k acc : Nat), k ≤ 9 → acc < 128 ^ k → (rd l k acc).e = 0 → k < (rd l k acc).len ∧ (rd l k acc).len ≤ k + l.length ∧ (rd l k acc).len ≤ 10 ∧ (rd l k acc).n < 18446744073709551616 := by
  induction l with
  | nil => intro k acc _ _ h; simp [rd] at h
  | cons c r ih =>
    intro k acc hk ha h
    have hc8 : c.toNat < 256 := UInt8.toNat_lt c
    cases hm : mayB c.toNat k with
    | false => rw [rd_bad _ _ _ _ hm] at h; simp at h
    | true =>
      by_cases hc : c.toNat < 128
      · rw [rd_last _ _ _ _ hm hc]
        have := add_le c.toNat k acc hk hc8 hm ha
        simp; omega
      · rw [rd_more _ _ _ _ hm hc] at h ⊢
        have hk9 := may_more c.toNat k hk hm hc
        have := ih (k + 1) _ (by omega) (add_lt c.toNat k acc ha) h
        simp; omega

theorem rdAt_bounds (s : ByteArray) (a : Int) (h : (rdAt s a).e = 0) : 0 ≤ a ∧ a + (rdAt s a).len ≤ s.size ∧ 1 ≤ (rdAt s a).len ∧ (rdAt s a).len ≤ 10 ∧ (rdAt s a).n < 18446744073709551616 := by
  unfold rdAt at h ⊢
  by_cases ha : 0 ≤ a ∧ a ≤ s.size
  · rw [if_pos ha] at h ⊢
    have := rd_bounds _ 0 0 (by omega) (by simp) h
    simp at this
    omega
  · rw [if_neg ha] at h; simp at h

end Go.Proofs.YtnldjcoajliciaaGreat
namespace Go.Proofs.YtnldjcoajliciaaGreat
open Go.RowKit

/-- the lowest k bytes of a number, the highest first -/
def be (n : Nat) : Nat → List UInt8
  | 0 => []
  | k + 1 => UInt8.ofNat (n / 256 ^ k) :: be n k
end Go.Proofs.YtnldjcoajliciaaGreat
namespace Go.Proofs.YtnldjcoajliciaaGreat
open Go.RowKit

/-- a word turned to the right -/
def rot (x n : Nat) : Nat := (x / 2 ^ n) ||| (x * 2 ^ (32 - n) % 4294967296)
/-- a word turned in three ways, joined -/
def rot3 (x i j k : Nat) : Nat := rot x i ^^^ rot x j ^^^ rot x k
def older (x : Nat) : Nat := rot x 7 ^^^ rot x 18 ^^^ (x / 2 ^ 3)
def newer (x : Nat) : Nat := rot x 17 ^^^ rot x 19 ^^^ (x / 2 ^ 10)
def chosen (e f g : Nat) : Nat := (e &&& f) ^^^ ((4294967295 - e) &&& g)
def most (a b c : Nat) : Nat := (a &&& b) ^^^ (a &&& c) ^^^ (b &&& c)

/-- eight words -/
structure St8 where
  a : Nat
  b : Nat
  c : Nat
  d : Nat
  e : Nat
  f : Nat
  g : Nat
  h : Nat

/-- the first number of a round -/
def rT (s : St8) (k w : Nat) : Nat := (s.h + rot3 s.e 6 11 25 + chosen s.e s.f s.g + k + w) % 4294967296
/-- a round -/
def rnd (s : St8) (k w : Nat) : St8 :=
  ⟨(rT s k w + rot3 s.a 2 13 22 + most s.a s.b s.c) % 4294967296, s.a, s.b, s.c, (s.d + rT s k w) % 4294967296, s.e, s.f, s.g⟩
def rnds : List Nat → List Nat → St8 → St8
  | k :: ks, w :: ws, s => rnds ks ws (rnd s k w)
  | _, _, s => s

/-- the numbers of the rounds -/
def kNums : List Nat := [
  0x428a2f98, 0x71374491, 0xb5c0fbcf, 0xe9b5dba5, 0x3956c25b, 0x59f111f1, 0x923f82a4, 0xab1c5ed5,
  0xd807aa98, 0x12835b01, 0x243185be, 0x550c7dc3, 0x72be5d74, 0x80deb1fe, 0x9bdc06a7, 0xc19bf174,
  0xe49b69c1, 0xefbe4786, 0x0fc19dc6, 0x240ca1cc, 0x2de92c6f, 0x4a7484aa, 0x5cb0a9dc, 0x76f988da,
  0x983e5152, 0xa831c66d, 0xb00327c8, 0xbf597fc7, 0xc6e00bf3, 0xd5a79147, 0x06ca6351, 0x14292967,
  0x27b70a85, 0x2e1b2138, 0x4d2c6dfc, 0x53380d13, 0x650a7354, 0x766a0abb, 0x81c2c92e, 0x92722c85,
  0xa2bfe8a1, 0xa81a664b, 0xc24b8b70, 0xc76c51a3, 0xd192e819, 0xd6990624, 0xf40e3585, 0x106aa070,
  0x19a4c116, 0x1e376c08, 0x2748774c, 0x34b0bcb5, 0x391c0cb3, 0x4ed8aa4a, 0x5b9cca4f, 0x682e6ff3,
  0x748f82ee, 0x78a5636f, 0x84c87814, 0x8cc70208, 0x90befffa, 0xa4506ceb, 0xbef9a3f7, 0xc67178f2]

/-- four bytes as a word -/
def word (b : List UInt8) (i : Nat) : Nat := (b.getD (4 * i) 0).toNat * 16777216 + (b.getD (4 * i + 1) 0).toNat * 65536 + (b.getD (4 * i + 2) 0).toNat * 256 + (b.getD (4 * i + 3) 0).toNat
/-- the first k words of a block -/
def wFirst (b : List UInt8) : Nat → List Nat
  | 0 => []
  | k + 1 => wFirst b k ++ [word b k]
/-- the word that follows from others -/
def wNext (l : List Nat) : Nat := (l.getD (l.length - 16) 0 + older (l.getD (l.length - 15) 0) + l.getD (l.length - 7) 0 + newer (l.getD (l.length - 2) 0)) % 4294967296
def wGrow : Nat → List Nat → List Nat
  | 0, l => l
  | k + 1, l => wGrow k (l ++ [wNext l])
/-- the words of the rounds -/
def wds (b : List UInt8) : List Nat := wGrow 48 (wFirst b 16)

def first8 : St8 := ⟨0x6a09e667, 0xbb67ae85, 0x3c6ef372, 0xa54ff53a, 0x510e527f, 0x9b05688c, 0x1f83d9ab, 0x5be0cd19⟩
def add8 (s t : St8) : St8 := ⟨(s.a + t.a) % 4294967296, (s.b + t.b) % 4294967296, (s.c + t.c) % 4294967296, (s.d + t.d) % 4294967296, (s.e + t.e) % 4294967296, (s.f + t.f) % 4294967296, (s.g + t.g) % 4294967296, (s.h + t.h) % 4294967296⟩
/-- a state behind one more block -/
def mix (s : St8) (b : List UInt8) : St8 := add8 s (rnds kNums (wds b) s)
/-- a state behind so many more blocks -/
def mixN : Nat → St8 → List UInt8 → St8
  | 0, s, _ => s
  | n + 1, s, l => mixN n (mix s (l.take 64)) (l.drop 64)

/-- the state behind the whole blocks of bytes -/
def st (l : List UInt8) : St8 := mixN (l.length / 64) first8 l
end Go.Proofs.YtnldjcoajliciaaGreat
namespace Go.Proofs.YtnldjcoajliciaaGreat
open Go.RowKit

end Go.Proofs.YtnldjcoajliciaaGreat
