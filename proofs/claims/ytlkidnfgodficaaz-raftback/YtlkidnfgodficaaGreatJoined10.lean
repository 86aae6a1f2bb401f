/- Joined: The walks of the putting of a list, and of the comparison of two lists. The mathematics of there and back: what is put is read again, and what is read is just what is put; nothing of the program's text stands here. -/
import Derived.Test.YtlkidnfgodficaaGreatJoined01
import Derived.Test.YtlkidnfgodficaaGreatReadLst
import Derived.Deep.QuietTactic
import Derived.BigQuiet
namespace Go.Proofs.YtlkidnfgodficaaGreat
open Go.RowKit
set_option linter.unusedVariables false

end Go.Proofs.YtlkidnfgodficaaGreat
namespace Go.Proofs.YtlkidnfgodficaaGreat
open Go.RowKit
set_option linter.unusedVariables false

theorem ofNat_toNat (n : Nat) (h : n < 256) : (UInt8.ofNat n).toNat = n := by simp; omega
theorem toNat_ofNat (c : UInt8) : UInt8.ofNat c.toNat = c := by simp

/-- a number that was put is read -/
theorem rd_put (r : List UInt8) : ∀ (f n k acc : Nat), f + k = 9 → (k = 0 ∨ 0 < n) → n * 128 ^ k < 18446744073709551616 →
    rd (putF f n ++ r) k acc = ⟨acc + n * 128 ^ k, k + (putF f n).length, 0⟩ := by
  intro f
  induction f with
  | zero =>
    intro n k acc hk hn hb
    have hk9 : k = 9 := by omega
    subst hk9
    have e : (128 : Nat) ^ 9 = 9223372036854775808 := by decide
    rw [e] at hb
    have hn1 : n = 1 := by omega
    subst hn1
    have hm : mayB (UInt8.ofNat 1).toNat 9 = true := by decide
    simp only [putF, List.cons_append, List.nil_append]
    rw [rd_last _ _ _ _ hm (by decide)]
    rfl
  | succ f ih =>
    intro n k acc hk hn hb
    have hk8 : k ≤ 8 := by omega
    by_cases h : n < 128
    · rw [putF_small _ _ h]
      have e := ofNat_toNat n (by omega)
      have hm : mayB (UInt8.ofNat n).toNat k = true := by rw [e]; simp [mayB]; omega
      rw [List.cons_append, rd_last _ _ _ _ hm (by rw [e]; exact h), e, Nat.mod_eq_of_lt h]
      rfl
    · rw [putF_more _ _ h]
      have e := ofNat_toNat (n % 128 + 128) (by omega)
      have hm : mayB (UInt8.ofNat (n % 128 + 128)).toNat k = true := by rw [e]; simp [mayB]; omega
      rw [List.cons_append, rd_more _ _ _ _ hm (by rw [e]; omega), e]
      have hd : n / 128 * 128 ^ (k + 1) ≤ n * 128 ^ k := by
        rw [Nat.pow_succ, Nat.mul_comm (128 ^ k) 128, ← Nat.mul_assoc]
        exact Nat.mul_le_mul_right _ (by omega)
      rw [ih (n / 128) (k + 1) _ (by omega) (.inr (by omega)) (by omega)]
      have e2 : (n % 128 + 128) % 128 = n % 128 := by omega
      have e3 : n % 128 * 128 ^ k + n / 128 * 128 ^ (k + 1) = n * 128 ^ k := by
        rw [Nat.pow_succ, Nat.mul_comm (128 ^ k) 128, ← Nat.mul_assoc, ← Nat.add_mul]
        congr 1; omega
      rw [e2, Nat.add_assoc, e3, List.length_cons]
      congr 1; omega

theorem rdAt_put (s : ByteArray) (p r : List UInt8) (n : Nat) (hs : s.data.toList = p ++ (put n ++ r)) (hn : n < 18446744073709551616) : rdAt s (p.length : Int) = ⟨n, (put n).length, 0⟩ := by
  have hl : p.length ≤ s.size := by
    have : s.data.toList.length = s.size := by simp
    rw [hs, List.length_append] at this; omega
  rw [rdAt, if_pos ⟨by omega, by omega⟩, Int.toNat_natCast, hs, List.drop_left, put, rd_put _ 9 n 0 0 (by omega) (.inl rfl) (by simpa using hn)]
  simp

theorem size_of (s : ByteArray) (l : List UInt8) (h : s.data.toList = l) : s.size = l.length := by
  have : s.data.toList.length = s.size := by simp
  rw [h] at this; omega
theorem extract_mid (s x : ByteArray) (p r : List UInt8) (h : s.data.toList = p ++ (x.data.toList ++ r)) : s.extract p.length (p.length + x.size) = x := by
  apply ByteArray.ext
  apply Array.ext'
  rw [ByteArray.data_extract, Array.toList_extract, h]
  have hx : x.data.toList.length = x.size := by simp
  simp only [List.extract, List.drop_left, Nat.add_sub_cancel_left]
  rw [← hx, List.take_left]

theorem txtAt_put (s : ByteArray) (p r : List UInt8) (x : ByteArray) (hs : s.data.toList = p ++ (ptx x ++ r)) (hx : x.size < 18446744073709551616) : txtAt s (p.length : Int) = ⟨x, ((p.length + (ptx x).length : Nat) : Int), 0⟩ := by
  have h1 := rdAt_put s p (x.data.toList ++ r) x.size (by rw [hs, ptx]; simp) hx
  have h2 := size_of s _ hs
  have h3 := ptx_len x
  rw [List.length_append, List.length_append] at h2
  rw [txtAt, h1, if_pos rfl]
  simp only [Int.toNat_natCast]
  rw [if_pos (by omega)]
  have h4 := extract_mid s x (p ++ put x.size) r (by rw [hs, ptx]; simp)
  rw [List.length_append] at h4
  rw [h4, h3]
  congr 2; omega

/-- bytes that are read as a number are just those that are put for it -/
theorem rd_one : ∀ (l : List UInt8) (k acc : Nat), k ≤ 9 → (rd l k acc).e = 0 → ∃ m, (rd l k acc).n = acc + m * 128 ^ k ∧ (k = 0 ∨ 0 < m) ∧ k < (rd l k acc).len ∧ l.take ((rd l k acc).len - k) = putF (9 - k) m := by
  intro l
  induction l with
  | nil => intro k acc _ h; simp [rd] at h
  | cons c r ih =>
    intro k acc hk h
    have hc8 : c.toNat < 256 := UInt8.toNat_lt c
    cases hm : mayB c.toNat k with
    | false => rw [rd_bad _ _ _ _ hm] at h; simp at h
    | true =>
      by_cases hc : c.toNat < 128
      · rw [rd_last _ _ _ _ hm hc]
        refine ⟨c.toNat, by simp [Nat.mod_eq_of_lt hc], ?_, by simp, ?_⟩
        · simp [mayB] at hm; omega
        · rw [putF_small _ _ hc]; simp
      · rw [rd_more _ _ _ _ hm hc] at h ⊢
        have hk9 := may_more c.toNat k hk hm hc
        obtain ⟨m, h1, h2, h3, h4⟩ := ih (k + 1) _ (by omega) h
        refine ⟨c.toNat % 128 + 128 * m, ?_, .inr (by omega), by omega, ?_⟩
        · rw [h1, Nat.pow_succ, Nat.add_mul, Nat.mul_comm (128 ^ k) 128, ← Nat.mul_assoc, Nat.mul_comm m 128, Nat.add_assoc]
        · have e : (rd r (k + 1) (acc + c.toNat % 128 * 128 ^ k)).len - k = ((rd r (k + 1) (acc + c.toNat % 128 * 128 ^ k)).len - (k + 1)) + 1 := by omega
          rw [e, List.take_succ_cons, h4, show 9 - k = (9 - (k + 1)) + 1 by omega, putF_more _ _ (by omega)]
          have e1 : (c.toNat % 128 + 128 * m) % 128 + 128 = c.toNat := by omega
          have e2 : (c.toNat % 128 + 128 * m) / 128 = m := by omega
          rw [e1, e2, toNat_ofNat]

theorem rdAt_one (s : ByteArray) (a : Nat) (h : (rdAt s a).e = 0) : (s.data.toList.drop a).take (rdAt s a).len = put (rdAt s a).n := by
  have hb := rdAt_bounds s a h
  have e : rdAt s a = rd (s.data.toList.drop a) 0 0 := by rw [rdAt, if_pos ⟨by omega, by omega⟩, Int.toNat_natCast]
  rw [e] at h ⊢
  obtain ⟨m, h1, _, _, h4⟩ := rd_one _ 0 0 (by omega) h
  simp at h1 h4
  rw [h4, h1, put]

theorem txtAt_one (s : ByteArray) (a : Nat) (h : (txtAt s a).e = 0) : ∃ to : Nat, (txtAt s a).to = to ∧ a ≤ to ∧ to ≤ s.size ∧ (s.data.toList.drop a).take (to - a) = ptx (txtAt s a).x := by
  unfold txtAt at h ⊢
  by_cases h0 : (rdAt s a).e = 0
  · rw [if_pos h0] at h ⊢
    have hb := rdAt_bounds s a h0
    have hone := rdAt_one s a h0
    simp only [Int.toNat_natCast] at h ⊢
    by_cases h1 : a + (rdAt s a).len + (rdAt s a).n ≤ s.size
    · rw [if_pos h1] at h ⊢
      generalize (rdAt s a).len = len at *
      generalize (rdAt s a).n = n at *
      refine ⟨a + len + n, rfl, by omega, h1, ?_⟩
      have hx : (s.extract (a + len) (a + len + n)).size = n := by rw [ByteArray.size_extract]; omega
      rw [ptx, hx, ← hone]
      have hd : (s.extract (a + len) (a + len + n)).data.toList = (s.data.toList.drop (a + len)).take n := by
        rw [ByteArray.data_extract, Array.toList_extract]; simp [List.extract]
      rw [hd, show a + len + n - a = len + n by omega, List.take_add, List.drop_drop]
    · rw [if_neg h1] at h; simp at h
  · rw [if_neg h0] at h; simp at h; exact absurd h h0

end Go.Proofs.YtlkidnfgodficaaGreat
