/- The mathematics of parts: what is digested of parts tells them apart; nothing of the program stands here. -/
import Derived.Test.YtnlodlpjokkepaaWPieces
namespace Go.Proofs.Ytnlodlpjokkepaa
open Go.RowKit

theorem beN_be (n k : Nat) (h : n < 256 ^ k) : beN (be n k) = n := by
  have key : ∀ (k n a : Nat), (be n k).foldl (fun a c => a * 256 + c.toNat) a = a * 256 ^ k + n % 256 ^ k := by
    intro k
    induction k with
    | zero => intro n a; simp [be, Nat.mod_one]
    | succ k ih =>
      intro n a
      have hc : (UInt8.ofNat (n / 256 ^ k)).toNat = n / 256 ^ k % 256 := by simp
      rw [be, List.foldl_cons, ih, hc, Nat.pow_succ, Nat.add_mul, Nat.mod_mul, Nat.mul_assoc, Nat.mul_comm 256 (256 ^ k), Nat.add_assoc, Nat.mul_comm (n / 256 ^ k % 256)]
      omega
  have := key k n 0
  unfold beN
  rw [this, Nat.mod_eq_of_lt h]; omega
theorem be_inj (n m k : Nat) (hn : n < 256 ^ k) (hm : m < 256 ^ k) (h : be n k = be m k) : n = m := by
  rw [← beN_be n k hn, ← beN_be m k hm, h]
theorem parts_inj : ∀ (xs ys : List ByteArray), (∀ x ∈ xs, x.size < 256 ^ 8) → (∀ y ∈ ys, y.size < 256 ^ 8) → (xs.flatMap fun x => be x.size 8 ++ x.data.toList) = (ys.flatMap fun x => be x.size 8 ++ x.data.toList) → xs = ys
  | [], [], _, _, _ => rfl
  | [], y :: ys, _, _, h => by
    have := congrArg List.length h
    simp [be_len] at this
    omega
  | x :: xs, [], _, _, h => by
    have := congrArg List.length h
    simp [be_len] at this
  | x :: xs, y :: ys, hx, hy, h => by
    simp only [List.flatMap_cons, List.append_assoc] at h
    obtain ⟨h1, h2⟩ := List.append_inj h (by rw [be_len, be_len])
    have hs := be_inj _ _ 8 (hx x (by simp)) (hy y (by simp)) h1
    have hl : x.data.toList.length = y.data.toList.length := by simpa using hs
    obtain ⟨h3, h4⟩ := List.append_inj h2 hl
    have e : x = y := by
      apply ByteArray.ext; apply Array.ext'; exact h3
    rw [e, parts_inj xs ys (fun z hz => hx z (by simp [hz])) (fun z hz => hy z (by simp [hz])) h4]
theorem mem_room (xs : List ByteArray) : ∀ x ∈ xs, x.size ≤ room xs := by
  induction xs with
  | nil => intro x h; simp at h
  | cons y r ih =>
    intro x h
    simp only [room, List.map_cons, List.sum_cons] at ih ⊢
    rcases List.mem_cons.1 h with rfl | h
    · omega
    · have := ih x h; omega
theorem tld_inj (p q : UInt8) (xs ys : List ByteArray) (hx : room xs ≤ 10485760) (hy : room ys ≤ 10485760) : tld p xs = tld q ys ↔ p = q ∧ xs = ys := by
  constructor
  · intro h
    simp only [tld, List.cons.injEq] at h
    exact ⟨h.1, parts_inj xs ys (fun x hm => by have := mem_room xs x hm; omega) (fun x hm => by have := mem_room ys x hm; omega) h.2⟩
  · rintro ⟨rfl, rfl⟩; rfl
/-- are the first k parts, and the rest of what is told, the same? -/
def sm (p q : UInt8) (xs ys : List ByteArray) (k : Nat) : Bool := decide (p = q ∧ xs.length = ys.length ∧ xs.take k = ys.take k)
theorem sm_zero (p q : UInt8) (xs ys : List ByteArray) : sm p q xs ys 0 = (decide (p = q) && decide (xs.length = ys.length)) := by simp [sm]
theorem sm_succ (p q : UInt8) (xs ys : List ByteArray) (k : Nat) (h : sm p q xs ys k = true) (hk : k < xs.length) : sm p q xs ys (k + 1) = decide (xs.getD k ⟨#[]⟩ = ys.getD k ⟨#[]⟩) := by
  have h' := of_decide_eq_true h
  obtain ⟨h1, h2, h3⟩ := h'
  have hk2 : k < ys.length := by omega
  have ex : xs.getD k ⟨#[]⟩ = xs[k] := by rw [List.getD_eq_getElem?_getD, List.getElem?_eq_getElem hk]; rfl
  have ey : ys.getD k ⟨#[]⟩ = ys[k] := by rw [List.getD_eq_getElem?_getD, List.getElem?_eq_getElem hk2]; rfl
  unfold sm
  rw [ex, ey, List.take_succ_eq_append_getElem hk, List.take_succ_eq_append_getElem hk2, h3, decide_eq_decide]
  constructor
  · rintro ⟨_, _, h⟩; exact List.singleton_inj.1 (List.append_cancel_left h)
  · intro h; exact ⟨h1, h2, by rw [h]⟩
theorem sm_all (p q : UInt8) (xs ys : List ByteArray) (k : Nat) (h : k = xs.length ∨ sm p q xs ys k = false) : sm p q xs ys k = decide (p = q ∧ xs = ys) := by
  unfold sm at h ⊢
  rw [decide_eq_decide]
  constructor
  · rintro ⟨h1, h2, h3⟩
    rcases h with h | h
    · refine ⟨h1, ?_⟩
      rw [h, List.take_of_length_le (by omega), List.take_of_length_le (by omega)] at h3; exact h3
    · exact absurd ⟨h1, h2, h3⟩ (of_decide_eq_false h)
  · rintro ⟨rfl, rfl⟩; exact ⟨rfl, rfl, rfl⟩
end Go.Proofs.Ytnlodlpjokkepaa
