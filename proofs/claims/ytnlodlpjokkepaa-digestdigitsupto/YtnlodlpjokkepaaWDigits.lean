/- The walk of the law DigestDigits. -/
import Derived.Test.YtnlodlpjokkepaaRHex
import Derived.Test.YtnlodlpjokkepaaRUnhex
import Derived.Test.YtnlodlpjokkepaaAwake3
namespace Go.Proofs.Ytnlodlpjokkepaa
open Go.RowKit
set_option linter.unusedVariables false

set_option maxRecDepth 100000 in
set_option maxHeartbeats 1000000 in
theorem digestDigits_walk (s t : ByteArray) (w : World) (hs : s.size ≤ 1048576) (ht : t.size ≤ 1048576) :
    Calls Try.prog 6 #[.string s, .string t] w fun e w' => e = .returned (.bool true) ∧ Below w.heap.size w w' := by
  have H1 : Hid (∀ W : World, _) := fun W => hex_any s W (by omega)
  have H2 : Hid (∀ W : World, _) := fun W => rhex_any s W hs
  obtain ⟨x, er, hx⟩ : ∃ x er, unh t.data.toList [] = (x, er) := ⟨_, _, rfl⟩
  have H3 : Hid (∀ W : World, _) := fun W => unhex_any t W (by omega) x er hx
  have H4 : Hid (∀ W : World, _) := fun W => runhex_any t W ht x er hx
  have her : er = 0 ∨ er = 3 := by
    rcases unh_err _ t.data.toList [] (Nat.le_refl _) with h | h
    · rw [hx] at h; exact .inl h
    · rw [hx] at h; injection h with _ h; exact .inr h
  have her2 : er ≤ 3 := by omega
  clear hx her
  generalize ByteArray.mk x.toArray = b at H3 H4
  generalize ByteArray.mk (hexL s.data.toList).toArray = d at H1 H2
  go_enter Try.func6, Try.ntmps6
  go_wp2_with fail
  refine (H3.out _).mono ?_
  rintro e w1 ⟨rfl, hB1⟩
  go_wp2_with fail
  refine (H4.out _).mono ?_
  rintro e w2 ⟨rfl, hB2⟩
  have b2 := hB1.trans (hB2.mono hB1.size)
  go_wp2_with fail
  refine (awake3 _).mono ?_
  rintro e w3 ⟨rfl, hB3⟩
  have b3 := b2.trans (hB3.mono b2.size)
  go_wp2_with fail
  refine (H1.out _).mono ?_
  rintro e w4 ⟨rfl, hB4⟩
  have b4 := b3.trans (hB4.mono b3.size)
  go_wp2_with fail
  refine (H2.out _).mono ?_
  rintro e w5 ⟨rfl, hB5⟩
  have b5 := b4.trans (hB5.mono b4.size)
  go_wp2
  go_ret
  exact ⟨rfl, b5⟩
end Go.Proofs.Ytnlodlpjokkepaa
