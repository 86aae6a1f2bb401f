/- The walk of the law DigestBack. -/
import Derived.Test.YtnlodlpjokkepaaUnhexW
import Derived.Test.YtnlodlpjokkepaaAwake3
namespace Go.Proofs.Ytnlodlpjokkepaa
open Go.RowKit
set_option linter.unusedVariables false

set_option maxRecDepth 100000 in
set_option maxHeartbeats 1000000 in
theorem digestBack_walk (s t : ByteArray) (w : World) (hs : s.size ≤ 1048576) (ht : t.size ≤ 1048576) :
    Calls Try.prog 7 #[.string s, .string t] w fun e w' => e = .returned (.bool true) ∧ Below w.heap.size w w' := by
  have H1 : Hid (∀ W : World, _) := fun W => hex_any s W (by omega)
  have e1 : (ByteArray.mk (hexL s.data.toList).toArray).size = 2 * s.size := by show (hexL s.data.toList).toArray.size = _; simp [hexL_len]
  have H2 : Hid (∀ W : World, Calls Try.prog 17 #[.string ⟨(hexL s.data.toList).toArray⟩] W fun e w' => e = .returned (.tuple #[.string s, .int .i64 0]) ∧ Below W.heap.size W w') :=
    fun W => unhex_any ⟨(hexL s.data.toList).toArray⟩ W (by rw [e1]; omega) s.data.toList 0 (by simpa using unh_hex s.data.toList [])
  have hu := unh_err _ t.data.toList [] (Nat.le_refl _)
  obtain ⟨x, er, hx⟩ : ∃ x er, unh t.data.toList [] = (x, er) := ⟨_, _, rfl⟩
  have H3 : Hid (∀ W : World, _) := fun W => unhex_any t W (by omega) x er hx
  by_cases h0 : er = 0
  · subst h0
    obtain ⟨y, hy, he⟩ := hex_unh _ t.data.toList [] x (Nat.le_refl _) hx
    simp at hy
    subst hy
    have hl : 2 * x.length = t.size := by have := hexL_len x; rw [he] at this; simp at this; omega
    have e2 : (ByteArray.mk x.toArray).size = x.length := by show x.toArray.size = _; simp
    have H4 : Hid (∀ W : World, Calls Try.prog 19 #[.string ⟨x.toArray⟩] W fun e w' => e = .returned (.string t) ∧ Below W.heap.size W w') := fun W => by
      have h := hex_any ⟨x.toArray⟩ W (by rw [e2]; omega)
      have e3 : (ByteArray.mk x.toArray).data.toList = x := by simp
      rw [e3, he] at h
      exact h
    clear hu hx he hl e2 e1
    generalize ByteArray.mk x.toArray = b at H3 H4
    generalize ByteArray.mk (hexL s.data.toList).toArray = d at H1 H2
    go_enter Try.func7, Try.ntmps7
    go_wp2_with fail
    refine (H1.out _).mono ?_
    rintro e w1 ⟨rfl, hB1⟩
    go_wp2_with fail
    refine (H2.out _).mono ?_
    rintro e w2 ⟨rfl, hB2⟩
    have b2 := hB1.trans (hB2.mono hB1.size)
    go_wp2_with fail
    refine (H3.out _).mono ?_
    rintro e w3 ⟨rfl, hB3⟩
    have b3 := b2.trans (hB3.mono b2.size)
    go_wp2_with fail
    refine (awake3 _).mono ?_
    rintro e w4 ⟨rfl, hB4⟩
    have b4 := b3.trans (hB4.mono b3.size)
    go_wp2_with fail
    refine (H4.out _).mono ?_
    rintro e w5 ⟨rfl, hB5⟩
    have b5 := b4.trans (hB5.mono b4.size)
    go_wp2
    go_ret
    exact ⟨rfl, b5⟩
  · have hne : ¬ ((er : Int) = 0) := by omega
    have hnb : ((er : Int) != 0) = true := by rw [bne_iff_ne]; exact hne
    clear hu hx e1
    generalize ByteArray.mk x.toArray = b at H3
    generalize ByteArray.mk (hexL s.data.toList).toArray = d at H1 H2
    go_enter Try.func7, Try.ntmps7
    go_wp2_with fail
    refine (H1.out _).mono ?_
    rintro e w1 ⟨rfl, hB1⟩
    go_wp2_with fail
    refine (H2.out _).mono ?_
    rintro e w2 ⟨rfl, hB2⟩
    have b2 := hB1.trans (hB2.mono hB1.size)
    go_wp2_with fail
    refine (H3.out _).mono ?_
    rintro e w3 ⟨rfl, hB3⟩
    have b3 := b2.trans (hB3.mono b2.size)
    go_wp2_with fail
    refine (awake3 _).mono ?_
    rintro e w4 ⟨rfl, hB4⟩
    have b4 := b3.trans (hB4.mono b3.size)
    go_wp2
    go_ret
    exact ⟨rfl, b4⟩
end Go.Proofs.Ytnlodlpjokkepaa
