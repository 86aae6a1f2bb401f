/- The mathematics of digits: two a byte; and the published digests by reckoning; nothing of the program stands here. -/
import Derived.Test.YtnohkhgoejjfhaaDoorShaM
namespace Go.Proofs.YtnohkhgoejjfhaaDoor
open Go.RowKit

/-- a digit -/
def dig (n : Nat) : UInt8 := UInt8.ofNat (if n < 10 then 48 + n else 87 + n)
/-- bytes in digits -/
def hexL : List UInt8 → List UInt8
  | [] => []
  | c :: r => dig (c.toNat / 16) :: dig (c.toNat % 16) :: hexL r
/-- what a digit says; below 0, if it is none -/
def halfN (c : Nat) : Int := if 48 ≤ c ∧ c ≤ 57 then (c : Int) - 48 else if 97 ≤ c ∧ c ≤ 102 then (c : Int) - 87 else -1
/-- what digits say, behind what was said already; and the error -/
def unh : List UInt8 → List UInt8 → List UInt8 × Nat
  | [], acc => (acc, 0)
  | [_], _ => ([], 3)
  | a :: b :: r, acc => if halfN a.toNat < 0 ∨ halfN b.toNat < 0 then ([], 3) else unh r (acc ++ [UInt8.ofNat (halfN a.toNat * 16 + halfN b.toNat).toNat])

theorem hexL_append (a b : List UInt8) : hexL (a ++ b) = hexL a ++ hexL b := by
  induction a with
  | nil => rfl
  | cons c r ih => simp [hexL, ih]
theorem hexL_len (a : List UInt8) : (hexL a).length = 2 * a.length := by
  induction a with
  | nil => rfl
  | cons c r ih => simp [hexL, ih]; omega

theorem half_lt (c : Nat) : halfN c < 16 := by unfold halfN; split; omega; split <;> omega
theorem half_dig (n : Nat) (h : n < 16) : halfN (dig n).toNat = n := by
  unfold dig halfN
  by_cases h1 : n < 10
  · rw [if_pos h1, show (UInt8.ofNat (48 + n)).toNat = 48 + n by simp; omega, if_pos (by omega)]; omega
  · rw [if_neg h1, show (UInt8.ofNat (87 + n)).toNat = 87 + n by simp; omega, if_neg (by omega), if_pos (by omega)]; omega
theorem dig_half (c : UInt8) (h : ¬ halfN c.toNat < 0) : dig (halfN c.toNat).toNat = c := by
  unfold halfN at h ⊢
  by_cases h1 : 48 ≤ c.toNat ∧ c.toNat ≤ 57
  · simp only [if_pos h1]
    unfold dig
    rw [if_pos (by omega)]
    apply UInt8.toNat_inj.1
    simp; omega
  · simp only [if_neg h1] at h ⊢
    by_cases h2 : 97 ≤ c.toNat ∧ c.toNat ≤ 102
    · simp only [if_pos h2]
      unfold dig
      rw [if_neg (by omega)]
      apply UInt8.toNat_inj.1
      simp; omega
    · simp only [if_neg h2] at h
      omega

theorem unh_hex (l acc : List UInt8) : unh (hexL l) acc = (acc ++ l, 0) := by
  induction l generalizing acc with
  | nil => simp [hexL, unh]
  | cons c r ih =>
    have hc : c.toNat < 256 := UInt8.toNat_lt c
    rw [hexL, unh, half_dig _ (by omega), half_dig _ (by omega), if_neg (by omega), ih]
    have : UInt8.ofNat ((((c.toNat / 16 : Nat) : Int) * 16 + ((c.toNat % 16 : Nat) : Int)).toNat) = c := by
      apply UInt8.toNat_inj.1
      simp; omega
    rw [this]; simp
/-- what is read is told in no other way -/
theorem hex_unh : ∀ (n : Nat) (l acc x : List UInt8), l.length ≤ n → unh l acc = (x, 0) → ∃ y, x = acc ++ y ∧ hexL y = l := by
  intro n
  induction n with
  | zero =>
    intro l acc x hl h
    have : l = [] := List.length_eq_zero_iff.1 (by omega)
    subst this
    simp [unh] at h
    exact ⟨[], by simp [h], rfl⟩
  | succ n ih =>
    intro l acc x hl h
    match l, hl, h with
    | [], _, h => simp [unh] at h; exact ⟨[], by simp [h], rfl⟩
    | [_], _, h => simp [unh] at h
    | a :: b :: r, hl, h =>
      rw [unh] at h
      by_cases hb : halfN a.toNat < 0 ∨ halfN b.toNat < 0
      · rw [if_pos hb] at h; simp at h
      · rw [if_neg hb] at h
        obtain ⟨y, hy, he⟩ := ih r _ x (by simp at hl; omega) h
        refine ⟨UInt8.ofNat (halfN a.toNat * 16 + halfN b.toNat).toNat :: y, by simp [hy], ?_⟩
        have h1 := half_lt a.toNat
        have h2 := half_lt b.toNat
        have hda := dig_half a (by omega)
        have hdb := dig_half b (by omega)
        have e : (UInt8.ofNat (halfN a.toNat * 16 + halfN b.toNat).toNat).toNat = (halfN a.toNat * 16 + halfN b.toNat).toNat := by simp; omega
        rw [hexL, he, e]
        rw [show (halfN a.toNat * 16 + halfN b.toNat).toNat / 16 = (halfN a.toNat).toNat by omega, show (halfN a.toNat * 16 + halfN b.toNat).toNat % 16 = (halfN b.toNat).toNat by omega, hda, hdb]

theorem unh_err : ∀ (n : Nat) (l acc : List UInt8), l.length ≤ n → (unh l acc).2 = 0 ∨ unh l acc = ([], 3) := by
  intro n
  induction n with
  | zero =>
    intro l acc hl
    have : l = [] := List.length_eq_zero_iff.1 (by omega)
    subst this
    exact Or.inl rfl
  | succ n ih =>
    intro l acc hl
    match l, hl with
    | [], _ => exact Or.inl rfl
    | [_], _ => exact Or.inr rfl
    | a :: b :: r, hl =>
      rw [unh]
      by_cases hb : halfN a.toNat < 0 ∨ halfN b.toNat < 0
      · rw [if_pos hb]; exact Or.inr rfl
      · rw [if_neg hb]; exact ih r _ (by simp at hl; omega)
theorem unh_odd : ∀ (n : Nat) (l acc : List UInt8), l.length ≤ n → l.length % 2 = 1 → unh l acc = ([], 3) := by
  intro n
  induction n with
  | zero => intro l acc hl h; omega
  | succ n ih =>
    intro l acc hl h
    match l, hl, h with
    | [], _, h => simp at h
    | [_], _, _ => rfl
    | a :: b :: r, hl, h =>
      rw [unh]
      by_cases hb : halfN a.toNat < 0 ∨ halfN b.toNat < 0
      · rw [if_pos hb]
      · rw [if_neg hb]; exact ih r _ (by simp at hl; omega) (by simp at h; omega)

/-- the published digest of abc -/
theorem hex_abc : hexL (sha [97, 98, 99]) = [98, 97, 55, 56, 49, 54, 98, 102, 56, 102, 48, 49, 99, 102, 101, 97, 52, 49, 52, 49, 52, 48, 100, 101, 53, 100, 97, 101, 50, 50, 50, 51, 98, 48, 48, 51, 54, 49, 97, 51, 57, 54, 49, 55, 55, 97, 57, 99, 98, 52, 49, 48, 102, 102, 54, 49, 102, 50, 48, 48, 49, 53, 97, 100] := by
  decide +kernel
end Go.Proofs.YtnohkhgoejjfhaaDoor
