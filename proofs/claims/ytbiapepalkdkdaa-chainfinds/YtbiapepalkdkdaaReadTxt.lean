/- The walk of octet's reading of a text: it comes to 'txtAt'. -/
import Derived.Test.YtbiapepalkdkdaaReadNum
import Derived.Test.YtbiapepalkdkdaaClone
import Derived.Test.YtbiapepalkdkdaaTextM
namespace Go.Proofs.Ytbiapepalkdkdaa
open Go.RowKit
set_option linter.unusedVariables false

theorem ret_txt {T : Txt} {x : ByteArray} {i e : Int} (h1 : x = T.x) (h2 : i = T.to) (h3 : e = T.e) :
    Ending.returned (.tuple #[.string x, .int .i64 i, .int .i64 e]) = .returned (.tuple #[.string T.x, .int .i64 T.to, .int .i64 T.e]) := by rw [h1, h2, h3]

set_option maxRecDepth 100000 in
set_option maxHeartbeats 400000 in
theorem readText_any (s : ByteArray) (a : Int) (w : World) (hs : s.size ≤ 140737488355328) :
    Calls Try.prog 83 #[.string s, .int .i64 a] w fun e w' =>
      e = .returned (.tuple #[.string (txtAt s a).x, .int .i64 (txtAt s a).to, .int .i64 (txtAt s a).e]) ∧ Below w.heap.size w w' := by
  have HR := show Hid _ from fun w => readNumber_any s a w (by unfold maxLen; omega)
  have hb := rdAt_bounds s a
  have he := rdAt_e s a
  have hT := txtAt.eq_1 s a
  generalize txtAt s a = T at hT ⊢
  generalize rdAt s a = g at HR hT hb he
  obtain ⟨n, len, e⟩ := g
  simp only [endAt] at HR hT hb he
  by_cases h0 : e = 0
  · subst h0
    obtain ⟨ha, hl, hl1, hl2, hn⟩ := hb rfl
    obtain ⟨a, rfl⟩ := Int.eq_ofNat_of_zero_le ha
    have HR' : Hid (∀ w, Calls Try.prog 81 #[.string s, .int .i64 a] w fun e w' => e = .returned (.tuple #[.int .u64 n, .int .i64 ((a + len : Nat) : Int), .int .i64 0]) ∧ w' = w) := by
      show ∀ w, _; intro w; exact HR.out w
    clear HR hb
    simp only [Int.toNat_natCast, if_true] at hT
    have hp : a + len ≤ s.size := by omega
    generalize a + len = p at HR' hT hp
    clear hl hl1 hl2 he ha
    by_cases hlong : p + n ≤ s.size
    · have HT : Hid (T = ⟨s.extract p (p + n), ((p + n : Nat) : Int), 0⟩) := by show T = _; rw [hT, if_pos hlong]
      clear hT
      have hns : (n : Int) ≤ (s.size : Int) - (p : Int) := by omega
      go_enter Try.func83, Try.ntmps83
      go_wp2_with (first | (go_at_call 81; refine (HR'.out _).mono ?_; rintro e w' ⟨rfl, rfl⟩))
      refine (clone_any _ _ (by rw [ByteArray.size_extract]; omega)).mono ?_
      rintro e w2 ⟨rfl, hB⟩
      go_wp2
      go_ret3
      exact ⟨ret_txt (by rw [HT.out]) (by rw [HT.out]; simp) (by rw [HT.out]; rfl), hB⟩
    · have HT : Hid (T = ⟨⟨#[]⟩, 0, 5⟩) := by show T = _; rw [hT, if_neg hlong]
      clear hT
      have hns : (s.size : Int) - (p : Int) < n := by omega
      go_enter Try.func83, Try.ntmps83
      go_wp2_with (first | (go_at_call 81; refine (HR'.out _).mono ?_; rintro e w' ⟨rfl, rfl⟩))
      go_ret3
      exact ⟨ret_txt (by rw [HT.out]) (by rw [HT.out]) (by rw [HT.out]; rfl), Below.refl _ _⟩
  · have HT : Hid (T = ⟨⟨#[]⟩, 0, e⟩) := by show T = _; rw [hT, if_neg h0]
    have HR' : Hid (∀ w, Calls Try.prog 81 #[.string s, .int .i64 a] w fun e' w' => e' = .returned (.tuple #[.int .u64 n, .int .i64 0, .int .i64 e]) ∧ w' = w) := by
      show ∀ w, _; intro w; have := HR.out w; rw [if_neg h0] at this; exact this
    have hne : ((e : Int) != 0) = true := by rw [bne_iff_ne]; omega
    clear hT HR hb he h0
    go_enter Try.func83, Try.ntmps83
    go_wp2_with (first | (go_at_call 81; refine (HR'.out _).mono ?_; rintro e w' ⟨rfl, rfl⟩))
    go_ret3
    exact ⟨ret_txt (by rw [HT.out]) (by rw [HT.out]) (by rw [HT.out]), Below.refl _ _⟩
end Go.Proofs.Ytbiapepalkdkdaa
