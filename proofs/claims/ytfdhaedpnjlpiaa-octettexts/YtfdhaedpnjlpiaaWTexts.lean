/- The walk of the law OctetTexts: whatever the input, it answers true. -/
import Derived.Test.YtfdhaedpnjlpiaaPutTxt
namespace Go.Proofs.Ytfdhaedpnjlpiaa
open Go.RowKit
set_option linter.unusedVariables false

set_option maxRecDepth 100000 in
set_option maxHeartbeats 800000 in
theorem octetTexts_walk (x : ByteArray) (s : ByteArray) (a : Int) (w : World) (hx : x.size ≤ reachBytes) (hs : s.size ≤ reachBytes) (ha : (Lit.int .i64 a).wf = true) :
    Calls Try.prog 4 #[.string x, .string s, .int .i64 a] w fun e w' => e = .returned (.bool true) ∧ Below w.heap.size w w' := by
  have hr : reachBytes + 4096 ≤ 140737488355328 := by decide
  have HR := show Hid _ from fun w => readText_any s a w (by omega)
  have HF := show Hid _ from fun w => ref_readText_any s a w (by omega)
  generalize txtAt s a = g at HR HF
  have HX := show Hid _ from hx
  clear hx hs ha hr
  go_enter Try.func4, Try.ntmps4
  go_wp2_with fail
  refine (HR.out _).mono ?_
  rintro e w1 ⟨rfl, hB1⟩
  go_wp2_with fail
  refine (HF.out _).mono ?_
  rintro e w2 ⟨rfl, rfl⟩
  go_wp2_with fail
  refine (awake1 _).mono ?_
  rintro e w3 ⟨rfl, hB3⟩
  go_wp2_with fail
  refine (text_any x _ HX.out).mono ?_
  rintro e w4 ⟨rfl, hB4⟩
  go_wp2_with fail
  refine (ref_text_any x _ HX.out).mono ?_
  rintro e w5 ⟨rfl, hB5⟩
  go_wp2
  go_ret
  have h3 := hB1.trans (hB3.mono hB1.size)
  have h4 := h3.trans (hB4.mono h3.size)
  exact ⟨rfl, h4.trans (hB5.mono h4.size)⟩
end Go.Proofs.Ytfdhaedpnjlpiaa
