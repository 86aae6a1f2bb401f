/- The mathematics of bursts: a sum of 32 bits finds whatever is turned within 32 bits that stand side by side. -/
import Derived.Test.YtfdhaedpnjlpiacFrameB
namespace Go.Proofs.Ytfdhaedpnjlpiac
open Go.RowKit
set_option linter.unusedVariables false

theorem xor_div2 (a b : Nat) : (a ^^^ b) / 2 = a / 2 ^^^ b / 2 := by
  have := Nat.xor_div_two (a := a) (b := b)
  exact this
theorem xor_mod2 (a b : Nat) : (a ^^^ b) % 2 = (a % 2 + b % 2) % 2 := by
  have h := Nat.xor_mod_two_pow (a := a) (b := b) (n := 1)
  simp only [Nat.pow_one] at h
  rw [h]
  rcases Nat.mod_two_eq_zero_or_one a with ha | ha <;> rcases Nat.mod_two_eq_zero_or_one b with hb | hb <;> rw [ha, hb] <;> rfl
theorem step_lin (a b : Nat) : crcStep (a ^^^ b) = crcStep a ^^^ crcStep b := by
  have h := xor_mod2 a b
  unfold crcStep
  rw [xor_div2]
  by_cases ha : a % 2 = 1
  · by_cases hb : b % 2 = 1
    · rw [if_neg (by omega), if_pos ha, if_pos hb]
      rw [Nat.xor_assoc, Nat.xor_comm 3988292384, Nat.xor_assoc, Nat.xor_self, Nat.xor_zero]
    · rw [if_pos (by omega), if_pos ha, if_neg hb]
      rw [Nat.xor_assoc, Nat.xor_comm (b / 2), ← Nat.xor_assoc]
  · by_cases hb : b % 2 = 1
    · rw [if_pos (by omega), if_neg ha, if_pos hb, Nat.xor_assoc]
    · rw [if_neg (by omega), if_neg ha, if_neg hb]
theorem it_lin (j : Nat) : ∀ a b, crcIt j (a ^^^ b) = crcIt j a ^^^ crcIt j b := by
  induction j with
  | zero => intro a b; rfl
  | succ j ih => intro a b; rw [crcIt, step_lin, ih]; rfl
theorem it_add (j : Nat) : ∀ (k x : Nat), crcIt (j + k) x = crcIt k (crcIt j x) := by
  induction j with
  | zero => intro k x; simp [crcIt]
  | succ j ih => intro k x; rw [show j + 1 + k = (j + k) + 1 by omega, crcIt, ih]; rfl
theorem step_even (m : Nat) : crcStep (m * 2) = m := by unfold crcStep; rw [if_neg (by omega)]; omega
theorem it_shift (j : Nat) : ∀ m, crcIt j (m * 2 ^ j) = m := by
  induction j with
  | zero => intro m; simp [crcIt]
  | succ j ih => intro m; rw [crcIt, Nat.pow_succ, ← Nat.mul_assoc, step_even, ih]
theorem step_zero (x : Nat) (h : x < 4294967296) (h0 : crcStep x = 0) : x = 0 := by
  unfold crcStep at h0
  by_cases hx : x % 2 = 1
  · rw [if_pos hx] at h0
    have : x / 2 = 3988292384 := by
      have e : x / 2 ^^^ 3988292384 ^^^ 3988292384 = 0 ^^^ 3988292384 := by rw [h0]
      rw [Nat.xor_assoc, Nat.xor_self, Nat.xor_zero, Nat.zero_xor] at e
      exact e
    omega
  · rw [if_neg hx] at h0; omega
theorem it_zero (j : Nat) : ∀ x, x < 4294967296 → crcIt j x = 0 → x = 0 := by
  induction j with
  | zero => intro x _ h; exact h
  | succ j ih => intro x h h0; exact step_zero x h (ih _ (crcStep_lt x h) h0)

/-- bytes as one number, the first one lowest -/
def leN : List UInt8 → Nat
  | [] => 0
  | c :: r => c.toNat ^^^ leN r * 256

theorem crc_wide (l : List UInt8) : ∀ x, crc x l = crcIt (8 * l.length) (x ^^^ leN l) := by
  induction l with
  | nil => intro x; simp [crc, leN, crcIt]
  | cons c r ih =>
    intro x
    rw [crc_cons, ih, List.length_cons, show 8 * (r.length + 1) = 8 + 8 * r.length by omega, it_add, leN, ← Nat.xor_assoc, it_lin 8]
    have e := it_shift 8 (leN r)
    rw [show leN r * 256 = leN r * 2 ^ 8 by rfl, e]
    rfl
theorem xor_cancel (x a b : Nat) : (x ^^^ a) ^^^ (x ^^^ b) = a ^^^ b := by
  rw [Nat.xor_comm x a, Nat.xor_assoc, ← Nat.xor_assoc x x b, Nat.xor_self, Nat.zero_xor]
theorem crc_diff (x : Nat) (l m : List UInt8) (h : l.length = m.length) : crc x l ^^^ crc x m = crcIt (8 * l.length) (leN l ^^^ leN m) := by
  rw [crc_wide, crc_wide, ← h, ← it_lin, xor_cancel]

theorem mul_xor (a b k : Nat) : (a ^^^ b) * 2 ^ k = a * 2 ^ k ^^^ b * 2 ^ k := by
  rw [← Nat.shiftLeft_eq, ← Nat.shiftLeft_eq, ← Nat.shiftLeft_eq, Nat.shiftLeft_xor_distrib]

theorem ofNat_small (n : Nat) (h : n < 256) : (UInt8.ofNat n).toNat = n := by simp; omega
/-- a bit of a byte is turned -/
theorem leN_turn (l : List UInt8) : ∀ (i j : Nat) (h : i < l.length), j < 8 → leN (l.set i (UInt8.ofNat ((l[i]).toNat ^^^ 2 ^ j))) = leN l ^^^ 2 ^ (8 * i + j) := by
  induction l with
  | nil => intro i j h; simp at h
  | cons c r ih =>
    intro i j h hj
    cases i with
    | zero =>
      have hc : c.toNat < 256 := UInt8.toNat_lt c
      have hp : (2 : Nat) ^ j < 2 ^ 8 := Nat.pow_lt_pow_right (by omega) hj
      have hx : c.toNat ^^^ 2 ^ j < 256 := Nat.xor_lt_two_pow (n := 8) hc hp
      simp only [List.set_cons_zero, List.getElem_cons_zero, leN]
      have e := ofNat_small _ hx
      rw [e, Nat.mul_zero, Nat.zero_add, Nat.xor_assoc, Nat.xor_comm (2 ^ j), ← Nat.xor_assoc]
    | succ i =>
      simp only [List.set_cons_succ, List.getElem_cons_succ, leN]
      rw [ih i j (by simpa using h) hj]
      have e := mul_xor (leN r) (2 ^ (8 * i + j)) 8
      rw [show (256 : Nat) = 2 ^ 8 by rfl, e, ← Nat.pow_add, ← Nat.xor_assoc, show 8 * i + j + 8 = 8 * (i + 1) + j by omega]

theorem leN_inj (l : List UInt8) : ∀ m : List UInt8, l.length = m.length → leN l = leN m → l = m := by
  induction l with
  | nil => intro m h _; exact (List.length_eq_zero_iff.1 h.symm).symm
  | cons c r ih =>
    intro m h he
    match m, h with
    | d :: s, h =>
      have hc : c.toNat < 2 ^ 8 := UInt8.toNat_lt c
      have hd : d.toNat < 2 ^ 8 := UInt8.toNat_lt d
      simp only [leN] at he
      have f : ∀ (a x : Nat), a < 2 ^ 8 → a ^^^ x * 256 = a + x * 256 := by
        intro a x ha
        have h1 := or_is_add a x 8 ha
        have h2 := Nat.two_pow_add_eq_or_of_lt ha x
        have h3 : a ^^^ x * 2 ^ 8 = a ||| x * 2 ^ 8 := by
          apply Nat.eq_of_testBit_eq
          intro i
          rw [Nat.testBit_xor, Nat.testBit_or]
          by_cases hi : i < 8
          · have : (x * 2 ^ 8).testBit i = false := by rw [Nat.testBit_mul_two_pow]; simp; omega
            rw [this]; simp
          · have : a.testBit i = false := Nat.testBit_lt_two_pow (Nat.lt_of_lt_of_le ha (Nat.pow_le_pow_right (by omega) (by omega)))
            rw [this]; simp
        exact h3.trans h1
      rw [f _ _ hc, f _ _ hd] at he
      have e1 : c.toNat = d.toNat := by omega
      have e2 : leN r = leN s := by omega
      rw [UInt8.toNat_inj.1 e1, ih s (by simpa using h) e2]

/-- a burst is found -/
theorem burst_found (x : Nat) (l m : List UInt8) (V first : Nat) (hl : l.length = m.length) (hx : x < 4294967296) (hV : V < 4294967296) (hf : first ≤ 8 * l.length)
    (he : leN m = leN l ^^^ V * 2 ^ first) (hne : m ≠ l) : crc x l ≠ crc x m := by
  intro h
  have hd := crc_diff x l m hl
  rw [h, Nat.xor_self, he, ← Nat.xor_assoc, Nat.xor_self, Nat.zero_xor, show 8 * l.length = first + (8 * l.length - first) by omega, it_add, it_shift] at hd
  have hV0 := it_zero _ V hV hd.symm
  subst hV0
  rw [Nat.zero_mul, Nat.xor_zero] at he
  exact hne (leN_inj m l hl.symm he)

/-- a body that was turned is found by its sum -/
theorem turned_found (b : ByteArray) (M : List UInt8) (V k : Nat) (H8 : List UInt8) (hl : b.size ≤ 262144) (hM : M.length = b.size) (hk : k ≤ 8 * b.size) (hV : V < 2 ^ 32) (hLE : leN M = leN b.data.toList ^^^ V * 2 ^ k) (hne : M ≠ b.data.toList)
    (hF : frm b.data.toList = H8 ++ b.data.toList) : unfAt ⟨(H8 ++ M).toArray⟩ 0 = ⟨⟨#[]⟩, 0, 10⟩ := by
  have hbl : b.data.toList.length = b.size := by simp
  have h8 : H8 = be b.size 4 ++ be (sumN (be b.size 4 ++ b.data.toList)) 4 := by
    rw [frm, hbl, ← List.append_assoc] at hF
    exact (List.append_cancel_right hF).symm
  have hs : (⟨(H8 ++ M).toArray⟩ : ByteArray).data.toList = be b.size 4 ++ (be (sumN (be b.size 4 ++ b.data.toList)) 4 ++ M) := by simp [h8]
  have hsz := size_of2 _ _ hs
  simp only [List.length_append, be_len, hM] at hsz
  generalize (⟨(H8 ++ M).toArray⟩ : ByteArray) = s at hs hsz
  have h1 := rdW_be s [] (be (sumN (be b.size 4 ++ b.data.toList)) 4 ++ M) b.size (by omega) (by rw [hs]; simp)
  have h2 := rdW_be s (be b.size 4) M (sumN (be b.size 4 ++ b.data.toList)) (sumN_lt _) (by rw [hs])
  have h3 := extract_list s [] (be b.size 4) (be (sumN (be b.size 4 ++ b.data.toList)) 4 ++ M) (by rw [hs]; simp)
  have h4 := extract_list s (be b.size 4 ++ be (sumN (be b.size 4 ++ b.data.toList)) 4) M [] (by rw [hs]; simp)
  rw [be_len] at h2 h3
  rw [List.length_append, be_len, be_len, hM] at h4
  simp only [List.length_nil, Int.natCast_zero, Nat.zero_add] at h1 h3
  have hsum : sumN (be b.size 4 ++ M) ≠ sumN (be b.size 4 ++ b.data.toList) := by
    unfold sumN
    rw [crc_append, crc_append]
    have c0 := crc_lt (be b.size 4) 4294967295 (by decide)
    generalize crc 4294967295 (be b.size 4) = y at c0
    have c1 := crc_lt M y c0
    have c2 := crc_lt b.data.toList y c0
    have := burst_found y b.data.toList M V k (by rw [hbl, hM]) c0 (by simpa using hV) (by rw [hbl]; exact hk) hLE hne
    omega
  rw [unfAt, h1, if_pos rfl, if_pos (by show b.size ≤ _; omega)]
  simp only [Int.toNat_zero, Nat.zero_add]
  rw [if_pos (by omega), h3, h4, h2, if_neg hsum]
theorem toList_inj (x y : ByteArray) (h : x.toList = y.toList) : x = y := by
  apply ba_eq
  rw [← ByteArray.toList_eq, ← ByteArray.toList_eq]; exact h
end Go.Proofs.Ytfdhaedpnjlpiac
