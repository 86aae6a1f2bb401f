/- The walk of the document's putting of a text. -/
import Derived.Test.YtfdhaedpnjlpiaaRefPut
import Derived.Test.YtfdhaedpnjlpiaaPutTxt
namespace Go.Proofs.Ytfdhaedpnjlpiaa
open Go.RowKit
set_option linter.unusedVariables false

set_option maxRecDepth 100000 in
set_option maxHeartbeats 400000 in
theorem ref_text_any (s : ByteArray) (w : World) (hs : s.size ≤ reachBytes) :
    Calls Try.prog 17 #[.string s] w fun e w' => e = .returned (.string ⟨(ptx s).toArray⟩) ∧ Below w.heap.size w w' := by
  have hr : reachBytes + 4096 ≤ 140737488355328 := by decide
  have hpl := (put_len s.size).2
  have HQ := show Hid (ptx s = put s.size ++ s.data.toList) from rfl
  generalize ptx s = P at HQ ⊢
  have hm : s.size ≤ 140737488355328 := by omega
  have hcat : ∀ (W : World), (Op.stringOp .add ⟨(put s.size).toArray⟩ s).run Try.prog W = .ok (.string ⟨P.toArray⟩) W := by
    intro W
    have h := run_string_add_sum (P := Try.prog) (w := W) ⟨(put s.size).toArray⟩ s (by show (put s.size).toArray.size + _ ≤ _; simp; omega)
    rw [h]
    have := ByteArray.mk_append_mk (put s.size) s.data.toList
    rw [HQ.out, ← this]
  clear hpl
  go_enter Try.func17, Try.ntmps17
  go_wp2_with fail
  refine (ref_number_any s.size _ (by omega)).mono ?_
  rintro e w' ⟨rfl, hB⟩
  go_wp2
  go_ret
  exact ⟨rfl, hB⟩
end Go.Proofs.Ytfdhaedpnjlpiaa
