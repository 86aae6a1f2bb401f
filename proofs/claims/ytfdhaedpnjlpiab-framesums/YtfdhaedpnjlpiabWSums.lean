/- The walk of the law FrameSums: whatever the text, it answers true. -/
import Derived.Test.YtfdhaedpnjlpiabAwake2
import Derived.Test.YtfdhaedpnjlpiabRefCrc
namespace Go.Proofs.Ytfdhaedpnjlpiab
open Go.RowKit
set_option linter.unusedVariables false

set_option maxRecDepth 100000 in
set_option maxHeartbeats 400000 in
theorem frameSums_walk (s : ByteArray) (w : World) (hs : s.size ≤ reachBytes) :
    Calls Try.prog 4 #[.string s] w fun e w' => e = .returned (.bool true) ∧ Below w.heap.size w w' := by
  have hs' : s.size ≤ maxLen := Nat.le_trans hs (by decide)
  have H1 := show Hid _ from fun w => sum_any s w hs'
  have H2 := show Hid _ from fun w => ref_sum_any s w hs'
  generalize sumN s.data.toList = u at H1 H2
  go_enter Try.func4, Try.ntmps4
  go_wp2_with fail
  refine (awake2 _).mono ?_
  rintro e w1 ⟨rfl, hB1⟩
  go_wp2_with fail
  refine (H1.out _).mono ?_
  rintro e w2 ⟨rfl, rfl⟩
  go_wp2_with fail
  refine (H2.out _).mono ?_
  rintro e w3 ⟨rfl, rfl⟩
  go_wp2
  go_ret
  exact ⟨rfl, hB1⟩
end Go.Proofs.Ytfdhaedpnjlpiab
