/- The walk of the law OctetOne: whatever the bytes, up to 1048576 of them, it answers true. -/
import Derived.Test.YtfdhaedpnjlpiabAwake1
import Derived.Test.YtfdhaedpnjlpiabBackM
import Derived.Deep.RegionHeld3
namespace Go.Proofs.Ytfdhaedpnjlpiab
open Go.RowKit
set_option linter.unusedVariables false

theorem extract_take (s : ByteArray) (i : Nat) (l : List UInt8) (h : (s.data.toList.drop 0).take i = l) : s.extract 0 i = ⟨l.toArray⟩ := by
  apply ByteArray.ext
  apply Array.ext'
  rw [ByteArray.data_extract, Array.toList_extract]
  simp [List.extract] at h ⊢
  exact h

theorem one_num (s : ByteArray) (hs : s.size ≤ 1048576) : ∃ n i e : Nat, e = (rdAt s 0).e ∧
    (∀ w, Calls Try.prog 9 #[.string s, .int .i64 0] w fun r w' => r = .returned (.tuple #[.int .u64 n, .int .i64 i, .int .i64 e]) ∧ w' = w) ∧
    i ≤ s.size ∧ (e = 0 → n < 18446744073709551616 ∧ s.extract 0 i = ⟨(put n).toArray⟩) := by
  have h1 := rdAt_one s 0
  have h2 := rdAt_bounds s 0
  have HR := fun w => readNumber_any s 0 w (by unfold maxLen; omega)
  simp only [Int.natCast_zero] at h1
  generalize rdAt s 0 = g at h1 h2 HR ⊢
  obtain ⟨n, len, e⟩ := g
  simp only [endAt] at h1 h2 HR ⊢
  by_cases h0 : e = 0
  · subst h0
    obtain ⟨_, b2, b3, b4, b5⟩ := h2 rfl
    refine ⟨n, len, 0, rfl, ?_, by omega, fun _ => ⟨b5, extract_take s len _ (h1 rfl)⟩⟩
    intro w; have := HR w; simp at this; simpa using this
  · refine ⟨n, 0, e, rfl, ?_, by omega, fun h => absurd h h0⟩
    intro w; have := HR w; rw [if_neg h0] at this; exact this

theorem one_txt (s : ByteArray) (hs : s.size ≤ 1048576) : ∃ (x : ByteArray) (i e : Nat), (e = 0 → (rdAt s 0).e = 0) ∧
    (∀ w, Calls Try.prog 10 #[.string s, .int .i64 0] w fun r w' => r = .returned (.tuple #[.string x, .int .i64 i, .int .i64 e]) ∧ Below w.heap.size w w') ∧
    i ≤ s.size ∧ (e = 0 → x.size ≤ reachBytes ∧ s.extract 0 i = ⟨(ptx x).toArray⟩) := by
  have h1 := txtAt_one s 0
  have h2 := txt_ok s 0
  have h3 : (txtAt s 0).e = 0 ∨ (txtAt s 0).to = 0 := by
    unfold txtAt
    split
    · split
      · exact .inl rfl
      · exact .inr rfl
    · exact .inr rfl
  have h4 : (txtAt s 0).e = 0 → (rdAt s 0).e = 0 := by
    unfold txtAt
    split
    · intro _; assumption
    · intro h; exact h
  have HR := fun w => readText_any s 0 w (by omega)
  simp only [Int.natCast_zero] at h1
  generalize txtAt s 0 = g at h1 h2 h3 h4 HR
  obtain ⟨x, to, e⟩ := g
  simp only at h1 h2 h3 h4 HR
  by_cases h0 : e = 0
  · subst h0
    obtain ⟨t, rfl, _, b2, b3⟩ := h1 rfl
    obtain ⟨_, _, _, c4⟩ := h2 rfl
    have hr : (1048576 : Nat) ≤ reachBytes := by decide
    exact ⟨x, t, 0, h4, HR, b2, fun _ => ⟨by omega, extract_take s t _ b3⟩⟩
  · have hto : to = 0 := by rcases h3 with h | h; exact absurd h h0; exact h
    subst hto
    exact ⟨x, 0, e, h4, HR, by omega, fun h => absurd h h0⟩

theorem room_le (xs : List ByteArray) : room xs ≤ 10 * ((xs.map ptx).flatten).length := by
  induction xs with
  | nil => simp [room]
  | cons x r ih =>
    have h1 := ptx_len x
    have h2 := (put_len x.size).1
    simp only [room, List.map_cons, List.sum_cons, List.flatten_cons, List.length_append] at ih ⊢
    omega
theorem count_le (xs : List ByteArray) : xs.length ≤ ((xs.map ptx).flatten).length := by
  induction xs with
  | nil => simp
  | cons x r ih =>
    have h1 := ptx_len x
    have h2 := (put_len x.size).1
    simp only [List.map_cons, List.flatten_cons, List.length_append, List.length_cons] at ih ⊢
    omega

theorem one_lst (s : ByteArray) (hs : s.size ≤ 1048576) : ∃ (xs : List ByteArray) (i e : Nat), (e = 0 → (rdAt s 0).e = 0) ∧
    (∀ w, Calls Try.prog 11 #[.string s, .int .i64 0] w fun r w' => ∃ v, r = .returned (.tuple #[v, .int .i64 i, .int .i64 e]) ∧ Strs w' v xs ∧ Below w.heap.size w w') ∧
    i ≤ s.size ∧ (e = 0 → room xs + 10 ≤ 140737488355328 ∧ xs.length ≤ 140737488355328 ∧ s.extract 0 i = ⟨(pls xs).toArray⟩) := by
  have h1 := lstAt_one s 0
  have h3 : (lstAt s 0).e = 0 ∨ (lstAt s 0).to = 0 := by
    unfold lstAt
    split
    · rename_i h
      generalize (0 : Int) + ((rdAt s 0).len : Int) = a
      generalize (rdAt s 0).n = c
      generalize ([] : List ByteArray) = acc
      induction c generalizing a acc with
      | zero => exact .inl rfl
      | succ c ih =>
        rw [lstF]
        split
        · exact ih _ _
        · exact .inr rfl
    · exact .inr rfl
  have h6 : (lstAt s 0).e = 0 → (rdAt s 0).e = 0 := by
    unfold lstAt
    split
    · intro _; assumption
    · intro h; exact h
  have HR := fun w => readList_any s 0 w (by omega)
  simp only [Int.natCast_zero] at h1
  generalize lstAt s 0 = g at h1 h3 h6 HR
  obtain ⟨l, to, e⟩ := g
  simp only at h1 h3 h6 HR
  have HR' : ∀ w, Calls Try.prog 11 #[.string s, .int .i64 0] w fun r w' => ∃ v, r = .returned (.tuple #[v, .int .i64 to, .int .i64 e]) ∧ Strs w' v l ∧ Below w.heap.size w w' :=
    fun w => (HR w).mono fun r w' ⟨v, a, b, c⟩ => ⟨v, a, Strs.own b, c⟩
  by_cases h0 : e = 0
  · subst h0
    obtain ⟨t, rfl, _, b2, b3⟩ := h1 rfl
    have hl : (pls l).length ≤ s.size := by rw [← b3]; simp; omega
    have h4 := room_le l
    have h5 := count_le l
    rw [pls, List.length_append] at hl
    exact ⟨l, t, 0, h6, HR', b2, fun _ => ⟨by omega, by omega, extract_take s t _ b3⟩⟩
  · have hto : to = 0 := by rcases h3 with h | h; exact absurd h h0; exact h
    subst hto
    exact ⟨l, 0, e, h6, HR', by omega, fun h => absurd h h0⟩
end Go.Proofs.Ytfdhaedpnjlpiab
