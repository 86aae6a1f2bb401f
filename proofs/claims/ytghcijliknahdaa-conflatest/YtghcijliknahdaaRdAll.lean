/- A reader's calls: each one's contract, whatever it holds. -/
import Derived.Test.YtghcijliknahdaaRdNum
namespace Go.Proofs.Ytghcijliknahdaa
open Go.RowKit
set_option linter.unusedVariables false

theorem numI (g : Nat) (s : ByteArray) (a e : Int) (h : Nat) (m : Int) (w : World) (h0 : RdAt w g s a e) (hm : w.cell? ⟨h, 0, none⟩ = some (.int .i64 m)) (hmm : m ≤ 9223372036854775807) (hs : s.size ≤ maxLen) :
    Calls Try.prog 49 #[.pointer (some ⟨g, 0, none⟩), .func (Fn.func 48) #[] #[.pointer (some ⟨h, 0, none⟩)], .int .i64 2] w fun r w' => r = .returned (.int .u64 (nS s a e (fitI m (rdAt s a).n) 2).n) ∧ RdAt w' g s (nS s a e (fitI m (rdAt s a).n) 2).a (nS s a e (fitI m (rdAt s a).n) 2).e ∧ Only g w w' := by
  unfold nS
  by_cases he : e = 0
  · subst he
    rw [if_pos rfl]
    by_cases hr : (rdAt s a).e = 0
    · rw [if_pos hr]
      have hb := rdAt_bounds s a hr
      have hg : rdAt s a = ⟨(rdAt s a).n, (rdAt s a).len, 0⟩ := by rw [← hr]
      cases hf : fitI m (rdAt s a).n with
      | true => rw [if_pos rfl]; exact num_Ifit g s a h m (rdAt s a).n _ w h0 hm hmm hs hb.2.2.2.2 hg rfl hf
      | false => rw [if_neg (by decide)]; exact num_Inot g s a h m (rdAt s a).n _ w h0 hm hmm hs hb.2.2.2.2 hg rfl hf
    · rw [if_neg hr]; exact num_bad _ _ g s a 2 w h0 hs hr
  · rw [if_neg he]
    exact (num_err _ _ g s a e 2 w h0 he).mono fun r w' ⟨h1, h2⟩ => by subst h2; exact ⟨h1, h0, Only.refl _ _⟩

theorem rd_lt {w : World} {g : Nat} {s : ByteArray} {a e : Int} (h : RdAt w g s a e) : g < w.heap.size := World.block_lt_of_cell? w _ h.1

set_option maxRecDepth 100000 in
set_option maxHeartbeats 400000 in
theorem rd_int (g : Nat) (s : ByteArray) (a e : Int) (m : Int) (w : World) (h0 : RdAt w g s a e) (hs : s.size ≤ maxLen) (hm : m ≤ 9223372036854775807) (hS : (nS s a e (fitI m (rdAt s a).n) 2).n ≤ 9223372036854775807) :
    Calls Try.prog 39 #[.pointer (some ⟨g, 0, none⟩), .int .i64 m] w fun r w' => r = .returned (.int .i64 (nS s a e (fitI m (rdAt s a).n) 2).n) ∧ RdAt w' g s (nS s a e (fitI m (rdAt s a).n) 2).a (nS s a e (fitI m (rdAt s a).n) 2).e ∧ Only g w w' := by
  have hlt := rd_lt h0
  have hB0 : Below w.heap.size w (w.alloc (.cells #[.int .i64 m] 3)) := (Below.refl _ _).alloc (Nat.le_refl _) _
  have H := show Hid _ from fun (_ : Unit) => numI g s a e w.heap.size m (w.alloc (.cells #[.int .i64 m] 3)) (h0.keeps hB0) (by simp) hm hs
  have HB := show Hid _ from hB0
  generalize nS s a e (fitI m (rdAt s a).n) 2 = S at H hS ⊢
  clear h0 hB0
  go_enter Try.func39, Try.ntmps39
  go_wp2_with fail
  refine (H.out ()).mono ?_
  rintro e w2 ⟨rfl, hR2, hB2⟩
  have HR2 := show Hid _ from hR2
  clear hR2
  go_wp2
  go_ret
  exact ⟨rfl, HR2.out, (HB.out.only g).trans hB2⟩

end Go.Proofs.Ytghcijliknahdaa
