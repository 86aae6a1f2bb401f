/- The document's reader: yes or no, the end. -/
import Derived.Test.YtghcijliknahdaaRdRef
namespace Go.Proofs.Ytghcijliknahdaa
open Go.RowKit
set_option linter.unusedVariables false

theorem ref_reader_end (s : ByteArray) (a e : Int) (w : World) :
    Calls Try.prog 42 #[.agg #[.string s, .int .i64 a, .int .i64 e]] w fun r w' => r = .returned (.agg #[.string s, .int .i64 a, .int .i64 (endE s a e)]) ∧ Below w.heap.size w w' := by
  unfold endE
  by_cases he : e = 0
  · subst he
    by_cases hl : a < (s.size : Int)
    · rw [if_pos ⟨rfl, hl⟩]; exact ref_end_left s a w hl
    · rw [if_neg (fun h => hl h.2)]; exact ref_end_done s a w (by omega)
  · rw [if_neg (fun h => he h.1)]; exact ref_end_err s a e w he

theorem rd_e2 (l : List UInt8) : ∀ k acc, (rd l k acc).e ≠ 2 := by
  induction l with
  | nil => intro k acc; simp [rd]
  | cons c r ih =>
    intro k acc
    rw [rd]
    split
    · simp
    · split
      · simp
      · exact ih _ _
theorem rdAt_e2 (s : ByteArray) (a : Int) : (rdAt s a).e ≠ 2 := by
  rw [rdAt]
  split
  · exact rd_e2 _ _ _
  · simp

end Go.Proofs.Ytghcijliknahdaa
