/- The walk of the law OctetOne, of bytes up to 1048576: in each of its cases it answers true. -/
import Derived.Test.YtfdhaedpnjlpiabWOneA
import Derived.Test.YtfdhaedpnjlpiabWOneBnnn
import Derived.Test.YtfdhaedpnjlpiabWOneBoon
import Derived.Test.YtfdhaedpnjlpiabWOneBono
import Derived.Test.YtfdhaedpnjlpiabWOneBonn
namespace Go.Proofs.Ytfdhaedpnjlpiab
open Go.RowKit
set_option linter.unusedVariables false

theorem octetOne_walk (s : ByteArray) (w : World) (hs : s.size ≤ 1048576) :
    Calls Try.prog 3 #[.string s] w fun e w' => e = .returned (.bool true) ∧ Below w.heap.size w w' := by
  obtain ⟨n, i, e1, he1, HN, hi, hn⟩ := one_num s hs
  obtain ⟨x, j, e2, he2, HT, hj, hx⟩ := one_txt s hs
  obtain ⟨l, k, e3, he3, HL, hk, hl⟩ := one_lst s hs
  have b : ∀ e : Nat, e ≠ 0 → ((e : Int) != 0) = true := fun e h => by rw [bne_iff_ne]; omega
  by_cases c1 : e1 = 0
  · subst c1
    obtain ⟨n1, n2⟩ := hn rfl
    by_cases c2 : e2 = 0
    · subst c2
      obtain ⟨x1, x2⟩ := hx rfl
      by_cases c3 : e3 = 0
      · subst c3
        obtain ⟨l1, l2, l3⟩ := hl rfl
        exact octetOne_ooo s n i x j l k w HN HT HL hi hj hk n1 n2 x1 x2 l1 l2 l3
      · exact octetOne_oon s n i x j l k e3 w HN HT HL hi hj hk n1 n2 x1 x2 (b e3 c3)
    · by_cases c3 : e3 = 0
      · subst c3
        obtain ⟨l1, l2, l3⟩ := hl rfl
        exact octetOne_ono s n i x j e2 l k w HN HT HL hi hj hk n1 n2 (b e2 c2) l1 l2 l3
      · exact octetOne_onn s n i x j e2 l k e3 w HN HT HL hi hj hk n1 n2 (b e2 c2) (b e3 c3)
  · have c2 : e2 ≠ 0 := fun h => c1 (by rw [he1]; exact he2 h)
    have c3 : e3 ≠ 0 := fun h => c1 (by rw [he1]; exact he3 h)
    exact octetOne_nnn s n i e1 x j e2 l k e3 w HN HT HL hi hj hk (b e1 c1) (b e2 c2) (b e3 c3)
end Go.Proofs.Ytfdhaedpnjlpiab
