/- Joined: The walks of the putting of a list, and of the comparison of two lists. The mathematics of there and back: what is put is read again, and what is read is just what is put; nothing of the program's text stands here. -/
import Derived.Test.YtflecoplpdbonaaJoined01
import Derived.Test.YtflecoplpdbonaaReadLst
import Derived.Deep.QuietTactic
import Derived.BigQuiet
namespace Go.Proofs.Ytflecoplpdbonaa
open Go.RowKit
set_option linter.unusedVariables false

/-- a list's bytes -/
def pls (xs : List ByteArray) : List UInt8 := put xs.length ++ (xs.map ptx).flatten
theorem flat_len (xs : List ByteArray) : ((xs.map ptx).flatten).length ≤ room xs := by
  induction xs with
  | nil => simp [room]
  | cons x r ih =>
    have h1 := ptx_len x
    have h2 := (put_len x.size).2
    simp only [room, List.map_cons, List.sum_cons, List.flatten_cons, List.length_append] at ih ⊢
    omega
theorem flat_take (xs : List ByteArray) (j : Nat) (h : j < xs.length) : ((xs.take (j + 1)).map ptx).flatten = ((xs.take j).map ptx).flatten ++ ptx (xs.getD j ⟨#[]⟩) := by
  rw [List.take_succ_eq_append_getElem h, List.map_append, List.flatten_append, List.getD_eq_getElem?_getD, List.getElem?_eq_getElem h]; simp
/-- what is laid behind j texts -/
def laidL (n : Nat) (xs : List ByteArray) (j : Nat) : List UInt8 := put n ++ ((xs.take j).map ptx).flatten
theorem laidL_len (n : Nat) (xs : List ByteArray) (j : Nat) : (laidL n xs j).length ≤ 10 + room (xs.take j) := by
  have h1 := (put_len n).2
  have h2 := flat_len (xs.take j)
  rw [laidL, List.length_append]; omega
theorem laidL_step (n : Nat) (xs : List ByteArray) (j : Nat) (h : j < xs.length) : laidL n xs (j + 1) = laidL n xs j ++ ptx (xs.getD j ⟨#[]⟩) := by
  rw [laidL, laidL, flat_take xs j h, List.append_assoc]

end Go.Proofs.Ytflecoplpdbonaa
namespace Go.Proofs.Ytflecoplpdbonaa
open Go.RowKit
set_option linter.unusedVariables false

theorem ofNat_toNat (n : Nat) (h : n < 256) : (UInt8.ofNat n).toNat = n := by simp; omega
theorem toNat_ofNat (c : UInt8) : UInt8.ofNat c.toNat = c := by simp

/-- a number that was put is read -/
theorem rd_put (r : List UInt8) : ∀ (f n k acc : Nat), f + k = 9 → (k = 0 ∨ 0 < n) → n * 128 ^ k < 18446744073709551616 →
    rd (putF f n ++ r) k acc = ⟨acc + n * 128 ^ k, k + (putF f n).length, 0⟩ := by
  intro f
  induction f with
  | zero =>
    intro n k acc hk hn hb
    have hk9 : k = 9 := by omega
    subst hk9
    have e : (128 : Nat) ^ 9 = 9223372036854775808 := by decide
    rw [e] at hb
    have hn1 : n = 1 := by omega
    subst hn1
    have hm : mayB (UInt8.ofNat 1).toNat 9 = true := by decide
    simp only [putF, List.cons_append, List.nil_append]
    rw [rd_last _ _ _ _ hm (by decide)]
    rfl
  | succ f ih =>
    intro n k acc hk hn hb
    have hk8 : k ≤ 8 := by omega
    by_cases h : n < 128
    · rw [putF_small _ _ h]
      have e := ofNat_toNat n (by omega)
      have hm : mayB (UInt8.ofNat n).toNat k = true := by rw [e]; simp [mayB]; omega
      rw [List.cons_append, rd_last _ _ _ _ hm (by rw [e]; exact h), e, Nat.mod_eq_of_lt h]
      rfl
    · rw [putF_more _ _ h]
      have e := ofNat_toNat (n % 128 + 128) (by omega)
      have hm : mayB (UInt8.ofNat (n % 128 + 128)).toNat k = true := by rw [e]; simp [mayB]; omega
      rw [List.cons_append, rd_more _ _ _ _ hm (by rw [e]; omega), e]
      have hd : n / 128 * 128 ^ (k + 1) ≤ n * 128 ^ k := by
        rw [Nat.pow_succ, Nat.mul_comm (128 ^ k) 128, ← Nat.mul_assoc]
        exact Nat.mul_le_mul_right _ (by omega)
      rw [ih (n / 128) (k + 1) _ (by omega) (.inr (by omega)) (by omega)]
      have e2 : (n % 128 + 128) % 128 = n % 128 := by omega
      have e3 : n % 128 * 128 ^ k + n / 128 * 128 ^ (k + 1) = n * 128 ^ k := by
        rw [Nat.pow_succ, Nat.mul_comm (128 ^ k) 128, ← Nat.mul_assoc, ← Nat.add_mul]
        congr 1; omega
      rw [e2, Nat.add_assoc, e3, List.length_cons]
      congr 1; omega

theorem rdAt_put (s : ByteArray) (p r : List UInt8) (n : Nat) (hs : s.data.toList = p ++ (put n ++ r)) (hn : n < 18446744073709551616) : rdAt s (p.length : Int) = ⟨n, (put n).length, 0⟩ := by
  have hl : p.length ≤ s.size := by
    have : s.data.toList.length = s.size := by simp
    rw [hs, List.length_append] at this; omega
  rw [rdAt, if_pos ⟨by omega, by omega⟩, Int.toNat_natCast, hs, List.drop_left, put, rd_put _ 9 n 0 0 (by omega) (.inl rfl) (by simpa using hn)]
  simp

theorem size_of (s : ByteArray) (l : List UInt8) (h : s.data.toList = l) : s.size = l.length := by
  have : s.data.toList.length = s.size := by simp
  rw [h] at this; omega
theorem extract_mid (s x : ByteArray) (p r : List UInt8) (h : s.data.toList = p ++ (x.data.toList ++ r)) : s.extract p.length (p.length + x.size) = x := by
  apply ByteArray.ext
  apply Array.ext'
  rw [ByteArray.data_extract, Array.toList_extract, h]
  have hx : x.data.toList.length = x.size := by simp
  simp only [List.extract, List.drop_left, Nat.add_sub_cancel_left]
  rw [← hx, List.take_left]

theorem txtAt_put (s : ByteArray) (p r : List UInt8) (x : ByteArray) (hs : s.data.toList = p ++ (ptx x ++ r)) (hx : x.size < 18446744073709551616) : txtAt s (p.length : Int) = ⟨x, ((p.length + (ptx x).length : Nat) : Int), 0⟩ := by
  have h1 := rdAt_put s p (x.data.toList ++ r) x.size (by rw [hs, ptx]; simp) hx
  have h2 := size_of s _ hs
  have h3 := ptx_len x
  rw [List.length_append, List.length_append] at h2
  rw [txtAt, h1, if_pos rfl]
  simp only [Int.toNat_natCast]
  rw [if_pos (by omega)]
  have h4 := extract_mid s x (p ++ put x.size) r (by rw [hs, ptx]; simp)
  rw [List.length_append] at h4
  rw [h4, h3]
  congr 2; omega

theorem lstF_put (s : ByteArray) : ∀ (xs : List ByteArray) (p r : List UInt8) (acc : List ByteArray), s.data.toList = p ++ ((xs.map ptx).flatten ++ r) → (∀ x ∈ xs, x.size < 18446744073709551616) →
    lstF s xs.length (p.length : Int) acc = ⟨acc ++ xs, ((p.length + ((xs.map ptx).flatten).length : Nat) : Int), 0⟩ := by
  intro xs
  induction xs with
  | nil => intro p r acc _ _; simp [lstF]
  | cons x xs ih =>
    intro p r acc hs hx
    have h1 := txtAt_put s p ((xs.map ptx).flatten ++ r) x (by rw [hs]; simp) (hx x (by simp))
    rw [List.length_cons, lstF, h1, if_pos rfl]
    have h2 := ih (p ++ ptx x) r (acc ++ [x]) (by rw [hs]; simp) (fun y hy => hx y (by simp [hy]))
    rw [List.length_append] at h2
    simp only
    rw [h2]
    simp [Nat.add_assoc]

theorem lstAt_put (s : ByteArray) (p r : List UInt8) (xs : List ByteArray) (hs : s.data.toList = p ++ (pls xs ++ r)) (hl : xs.length < 18446744073709551616) (hx : ∀ x ∈ xs, x.size < 18446744073709551616) :
    lstAt s (p.length : Int) = ⟨xs, ((p.length + (pls xs).length : Nat) : Int), 0⟩ := by
  have h1 := rdAt_put s p ((xs.map ptx).flatten ++ r) xs.length (by rw [hs, pls]; simp) hl
  have h2 := lstF_put s xs (p ++ put xs.length) r [] (by rw [hs, pls]; simp) hx
  rw [lstAt, h1, if_pos rfl]
  simp only
  rw [List.length_append] at h2
  rw [show (p.length : Int) + ((put xs.length).length : Int) = ((p.length + (put xs.length).length : Nat) : Int) by omega, h2]
  simp [pls, Nat.add_assoc]

/-- bytes that are read as a number are just those that are put for it -/
theorem rd_one : ∀ (l : List UInt8) (k acc : Nat), k ≤ 9 → (rd l k acc).e = 0 → ∃ m, (rd l k acc).n = acc + m * 128 ^ k ∧ (k = 0 ∨ 0 < m) ∧ k < (rd l k acc).len ∧ l.take ((rd l k acc).len - k) = putF (9 - k) m := by
  intro l
  induction l with
  | nil => intro k acc _ h; simp [rd] at h
  | cons c r ih =>
    intro k acc hk h
    have hc8 : c.toNat < 256 := UInt8.toNat_lt c
    cases hm : mayB c.toNat k with
    | false => rw [rd_bad _ _ _ _ hm] at h; simp at h
    | true =>
      by_cases hc : c.toNat < 128
      · rw [rd_last _ _ _ _ hm hc]
        refine ⟨c.toNat, by simp [Nat.mod_eq_of_lt hc], ?_, by simp, ?_⟩
        · simp [mayB] at hm; omega
        · rw [putF_small _ _ hc]; simp
      · rw [rd_more _ _ _ _ hm hc] at h ⊢
        have hk9 := may_more c.toNat k hk hm hc
        obtain ⟨m, h1, h2, h3, h4⟩ := ih (k + 1) _ (by omega) h
        refine ⟨c.toNat % 128 + 128 * m, ?_, .inr (by omega), by omega, ?_⟩
        · rw [h1, Nat.pow_succ, Nat.add_mul, Nat.mul_comm (128 ^ k) 128, ← Nat.mul_assoc, Nat.mul_comm m 128, Nat.add_assoc]
        · have e : (rd r (k + 1) (acc + c.toNat % 128 * 128 ^ k)).len - k = ((rd r (k + 1) (acc + c.toNat % 128 * 128 ^ k)).len - (k + 1)) + 1 := by omega
          rw [e, List.take_succ_cons, h4, show 9 - k = (9 - (k + 1)) + 1 by omega, putF_more _ _ (by omega)]
          have e1 : (c.toNat % 128 + 128 * m) % 128 + 128 = c.toNat := by omega
          have e2 : (c.toNat % 128 + 128 * m) / 128 = m := by omega
          rw [e1, e2, toNat_ofNat]

theorem rdAt_one (s : ByteArray) (a : Nat) (h : (rdAt s a).e = 0) : (s.data.toList.drop a).take (rdAt s a).len = put (rdAt s a).n := by
  have hb := rdAt_bounds s a h
  have e : rdAt s a = rd (s.data.toList.drop a) 0 0 := by rw [rdAt, if_pos ⟨by omega, by omega⟩, Int.toNat_natCast]
  rw [e] at h ⊢
  obtain ⟨m, h1, _, _, h4⟩ := rd_one _ 0 0 (by omega) h
  simp at h1 h4
  rw [h4, h1, put]

theorem txtAt_one (s : ByteArray) (a : Nat) (h : (txtAt s a).e = 0) : ∃ to : Nat, (txtAt s a).to = to ∧ a ≤ to ∧ to ≤ s.size ∧ (s.data.toList.drop a).take (to - a) = ptx (txtAt s a).x := by
  unfold txtAt at h ⊢
  by_cases h0 : (rdAt s a).e = 0
  · rw [if_pos h0] at h ⊢
    have hb := rdAt_bounds s a h0
    have hone := rdAt_one s a h0
    simp only [Int.toNat_natCast] at h ⊢
    by_cases h1 : a + (rdAt s a).len + (rdAt s a).n ≤ s.size
    · rw [if_pos h1] at h ⊢
      generalize (rdAt s a).len = len at *
      generalize (rdAt s a).n = n at *
      refine ⟨a + len + n, rfl, by omega, h1, ?_⟩
      have hx : (s.extract (a + len) (a + len + n)).size = n := by rw [ByteArray.size_extract]; omega
      rw [ptx, hx, ← hone]
      have hd : (s.extract (a + len) (a + len + n)).data.toList = (s.data.toList.drop (a + len)).take n := by
        rw [ByteArray.data_extract, Array.toList_extract]; simp [List.extract]
      rw [hd, show a + len + n - a = len + n by omega, List.take_add, List.drop_drop]
    · rw [if_neg h1] at h; simp at h
  · rw [if_neg h0] at h; simp at h; exact absurd h h0

theorem lstF_one (s : ByteArray) : ∀ (c a : Nat) (acc : List ByteArray), (lstF s c a acc).e = 0 → a ≤ s.size → ∃ (xs : List ByteArray) (to : Nat), (lstF s c a acc).l = acc ++ xs ∧ xs.length = c ∧ (lstF s c a acc).to = to ∧ a ≤ to ∧ to ≤ s.size ∧
    (s.data.toList.drop a).take (to - a) = (xs.map ptx).flatten := by
  intro c
  induction c with
  | zero => intro a acc _ ha; exact ⟨[], a, by simp [lstF], rfl, by simp [lstF], by omega, ha, by simp⟩
  | succ c ih =>
    intro a acc h ha
    rw [lstF] at h ⊢
    by_cases h0 : (txtAt s a).e = 0
    · rw [if_pos h0] at h ⊢
      obtain ⟨t, ht, hat, hts, hone⟩ := txtAt_one s a h0
      rw [ht] at h ⊢
      obtain ⟨xs, to, h1, h2, h3, h4, h5, h6⟩ := ih t _ h hts
      refine ⟨(txtAt s a).x :: xs, to, by rw [h1]; simp, by simp [h2], h3, by omega, h5, ?_⟩
      rw [List.map_cons, List.flatten_cons, ← hone, ← h6, show to - a = (t - a) + (to - t) by omega, List.take_add, List.drop_drop, show a + (t - a) = t by omega]
    · rw [if_neg h0] at h; simp at h; exact absurd h h0

theorem lstAt_one (s : ByteArray) (a : Nat) (h : (lstAt s a).e = 0) : ∃ to : Nat, (lstAt s a).to = to ∧ a ≤ to ∧ to ≤ s.size ∧ (s.data.toList.drop a).take (to - a) = pls (lstAt s a).l := by
  rw [lstAt] at h ⊢
  by_cases h0 : (rdAt s a).e = 0
  · rw [if_pos h0] at h ⊢
    have hb := rdAt_bounds s a h0
    have hone := rdAt_one s a h0
    generalize (rdAt s a).len = len at *
    generalize (rdAt s a).n = n at *
    rw [show (a : Int) + (len : Int) = ((a + len : Nat) : Int) by omega] at h ⊢
    obtain ⟨xs, to, h1, h2, h3, h4, h5, h6⟩ := lstF_one s n (a + len) [] h (by omega)
    refine ⟨to, h3, by omega, h5, ?_⟩
    rw [h1, List.nil_append, pls, h2, ← hone, ← h6, show to - a = len + (to - (a + len)) by omega, List.take_add, List.drop_drop]
  · rw [if_neg h0] at h; simp at h; exact absurd h h0
end Go.Proofs.Ytflecoplpdbonaa
