/- The mathematics of the digest: SHA-256 on plain numbers and lists of bytes; nothing of the program stands here. -/
import Derived.Test.YtnohkhgoejjfhaaDoorWideM
namespace Go.Proofs.YtnohkhgoejjfhaaDoor
open Go.RowKit

/-- a word turned to the right -/
def rot (x n : Nat) : Nat := (x / 2 ^ n) ||| (x * 2 ^ (32 - n) % 4294967296)
/-- a word turned in three ways, joined -/
def rot3 (x i j k : Nat) : Nat := rot x i ^^^ rot x j ^^^ rot x k
def older (x : Nat) : Nat := rot x 7 ^^^ rot x 18 ^^^ (x / 2 ^ 3)
def newer (x : Nat) : Nat := rot x 17 ^^^ rot x 19 ^^^ (x / 2 ^ 10)
def chosen (e f g : Nat) : Nat := (e &&& f) ^^^ ((4294967295 - e) &&& g)
def most (a b c : Nat) : Nat := (a &&& b) ^^^ (a &&& c) ^^^ (b &&& c)

/-- eight words -/
structure St8 where
  a : Nat
  b : Nat
  c : Nat
  d : Nat
  e : Nat
  f : Nat
  g : Nat
  h : Nat

/-- the first number of a round -/
def rT (s : St8) (k w : Nat) : Nat := (s.h + rot3 s.e 6 11 25 + chosen s.e s.f s.g + k + w) % 4294967296
/-- a round -/
def rnd (s : St8) (k w : Nat) : St8 :=
  ⟨(rT s k w + rot3 s.a 2 13 22 + most s.a s.b s.c) % 4294967296, s.a, s.b, s.c, (s.d + rT s k w) % 4294967296, s.e, s.f, s.g⟩
def rnds : List Nat → List Nat → St8 → St8
  | k :: ks, w :: ws, s => rnds ks ws (rnd s k w)
  | _, _, s => s

/-- the numbers of the rounds -/
def kNums : List Nat := [
  0x428a2f98, 0x71374491, 0xb5c0fbcf, 0xe9b5dba5, 0x3956c25b, 0x59f111f1, 0x923f82a4, 0xab1c5ed5,
  0xd807aa98, 0x12835b01, 0x243185be, 0x550c7dc3, 0x72be5d74, 0x80deb1fe, 0x9bdc06a7, 0xc19bf174,
  0xe49b69c1, 0xefbe4786, 0x0fc19dc6, 0x240ca1cc, 0x2de92c6f, 0x4a7484aa, 0x5cb0a9dc, 0x76f988da,
  0x983e5152, 0xa831c66d, 0xb00327c8, 0xbf597fc7, 0xc6e00bf3, 0xd5a79147, 0x06ca6351, 0x14292967,
  0x27b70a85, 0x2e1b2138, 0x4d2c6dfc, 0x53380d13, 0x650a7354, 0x766a0abb, 0x81c2c92e, 0x92722c85,
  0xa2bfe8a1, 0xa81a664b, 0xc24b8b70, 0xc76c51a3, 0xd192e819, 0xd6990624, 0xf40e3585, 0x106aa070,
  0x19a4c116, 0x1e376c08, 0x2748774c, 0x34b0bcb5, 0x391c0cb3, 0x4ed8aa4a, 0x5b9cca4f, 0x682e6ff3,
  0x748f82ee, 0x78a5636f, 0x84c87814, 0x8cc70208, 0x90befffa, 0xa4506ceb, 0xbef9a3f7, 0xc67178f2]

/-- four bytes as a word -/
def word (b : List UInt8) (i : Nat) : Nat := (b.getD (4 * i) 0).toNat * 16777216 + (b.getD (4 * i + 1) 0).toNat * 65536 + (b.getD (4 * i + 2) 0).toNat * 256 + (b.getD (4 * i + 3) 0).toNat
/-- the first k words of a block -/
def wFirst (b : List UInt8) : Nat → List Nat
  | 0 => []
  | k + 1 => wFirst b k ++ [word b k]
/-- the word that follows from others -/
def wNext (l : List Nat) : Nat := (l.getD (l.length - 16) 0 + older (l.getD (l.length - 15) 0) + l.getD (l.length - 7) 0 + newer (l.getD (l.length - 2) 0)) % 4294967296
def wGrow : Nat → List Nat → List Nat
  | 0, l => l
  | k + 1, l => wGrow k (l ++ [wNext l])
/-- the words of the rounds -/
def wds (b : List UInt8) : List Nat := wGrow 48 (wFirst b 16)

def first8 : St8 := ⟨0x6a09e667, 0xbb67ae85, 0x3c6ef372, 0xa54ff53a, 0x510e527f, 0x9b05688c, 0x1f83d9ab, 0x5be0cd19⟩
def add8 (s t : St8) : St8 := ⟨(s.a + t.a) % 4294967296, (s.b + t.b) % 4294967296, (s.c + t.c) % 4294967296, (s.d + t.d) % 4294967296, (s.e + t.e) % 4294967296, (s.f + t.f) % 4294967296, (s.g + t.g) % 4294967296, (s.h + t.h) % 4294967296⟩
/-- a state behind one more block -/
def mix (s : St8) (b : List UInt8) : St8 := add8 s (rnds kNums (wds b) s)
/-- a state behind so many more blocks -/
def mixN : Nat → St8 → List UInt8 → St8
  | 0, s, _ => s
  | n + 1, s, l => mixN n (mix s (l.take 64)) (l.drop 64)

/-- what stands behind so many bytes in the last blocks -/
def tail (n : Nat) : List UInt8 := 128 :: (List.replicate ((119 - n % 64) % 64) 0 ++ be (8 * n % 18446744073709551616) 8)
/-- bytes, filled up to whole blocks -/
def padL (l : List UInt8) : List UInt8 := l ++ tail l.length
def out8 (s : St8) : List UInt8 := be s.a 4 ++ be s.b 4 ++ be s.c 4 ++ be s.d 4 ++ be s.e 4 ++ be s.f 4 ++ be s.g 4 ++ be s.h 4
/-- the state behind the whole blocks of bytes -/
def st (l : List UInt8) : St8 := mixN (l.length / 64) first8 l
/-- the digest -/
def sha (l : List UInt8) : List UInt8 := out8 (st (padL l))

theorem tail_len (n : Nat) : (n + (tail n).length) % 64 = 0 := by
  simp [tail, be_len]; omega
theorem tail_len2 (n : Nat) : (tail n).length ≤ 72 := by simp [tail, be_len]; omega
theorem padL_len (l : List UInt8) : (padL l).length % 64 = 0 := by
  have := tail_len l.length
  simpa [padL] using this

theorem mixN_add (a b : Nat) (s : St8) (l : List UInt8) : mixN (a + b) s l = mixN b (mixN a s l) (l.drop (64 * a)) := by
  induction a generalizing s l with
  | zero => simp [mixN]
  | succ a ih =>
    rw [show a + 1 + b = (a + b) + 1 by omega, mixN, ih, mixN, List.drop_drop, show 64 + 64 * a = 64 * (a + 1) by omega]
theorem mixN_take (n : Nat) (s : St8) (l m : List UInt8) (h : 64 * n ≤ l.length) : mixN n s (l ++ m) = mixN n s l := by
  induction n generalizing s l with
  | zero => rfl
  | succ n ih =>
    rw [mixN, mixN, List.take_append_of_le_length (by omega), List.drop_append_of_le_length (by omega), ih _ _ (by simp; omega)]

/-- bytes that do not fill a block leave the state -/
theorem st_some (l m : List UInt8) (h : l.length % 64 + m.length < 64) : st (l ++ m) = st l := by
  unfold st
  have e : (l ++ m).length / 64 = l.length / 64 := by simp; omega
  rw [e, mixN_take _ _ _ _ (by omega)]
/-- bytes that fill a block -/
theorem st_full (l m : List UInt8) (h : l.length % 64 + m.length = 64) : st (l ++ m) = mix (st l) (l.drop (64 * (l.length / 64)) ++ m) := by
  unfold st
  have e : (l ++ m).length / 64 = l.length / 64 + 1 := by simp; omega
  rw [e, mixN_add, mixN_take _ _ _ _ (by omega), mixN, mixN, List.drop_append_of_le_length (by omega)]
  rw [List.take_of_length_le (by simp; omega)]

theorem kNums_len : kNums.length = 64 := rfl
theorem wFirst_len (b : List UInt8) (k : Nat) : (wFirst b k).length = k := by
  induction k with
  | zero => rfl
  | succ k ih => simp [wFirst, ih]
theorem wGrow_len (k : Nat) (l : List Nat) : (wGrow k l).length = l.length + k := by
  induction k generalizing l with
  | zero => rfl
  | succ k ih => rw [wGrow, ih]; simp; omega
theorem wds_len (b : List UInt8) : (wds b).length = 64 := by rw [wds, wGrow_len, wFirst_len]
theorem wGrow_snoc (k : Nat) (l : List Nat) : wGrow (k + 1) l = wGrow k l ++ [wNext (wGrow k l)] := by
  induction k generalizing l with
  | zero => rfl
  | succ k ih => rw [wGrow, ih, wGrow]

theorem rnds_snoc (ks ws : List Nat) (k w : Nat) (s : St8) (h : ks.length = ws.length) : rnds (ks ++ [k]) (ws ++ [w]) s = rnd (rnds ks ws s) k w := by
  induction ks generalizing ws s with
  | nil => cases ws with
    | nil => rfl
    | cons _ _ => simp at h
  | cons x ks ih => cases ws with
    | nil => simp at h
    | cons y ws => simp [rnds]; exact ih ws _ (by simpa using h)

theorem sha_len (l : List UInt8) : (sha l).length = 32 := by simp [sha, out8, be_len]
end Go.Proofs.YtnohkhgoejjfhaaDoor
