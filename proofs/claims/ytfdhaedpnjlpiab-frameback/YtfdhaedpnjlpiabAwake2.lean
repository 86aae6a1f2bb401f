/- The walk of layer 2's worked example: it answers true. -/
import Derived.Test.YtfdhaedpnjlpiabFrameB
import Derived.Test.YtfdhaedpnjlpiabUnframe
namespace Go.Proofs.Ytfdhaedpnjlpiab
open Go.RowKit
set_option linter.unusedVariables false

theorem aw2_sum (w : World) : Calls Try.prog 17 #[.string ⟨#[49, 50, 51, 52, 53, 54, 55, 56, 57]⟩] w fun e w' => e = .returned (.int .u32 3421780262) ∧ w' = w := by
  have h := sum_any ⟨#[49, 50, 51, 52, 53, 54, 55, 56, 57]⟩ w (by decide)
  have e : sumN [49, 50, 51, 52, 53, 54, 55, 56, 57] = 3421780262 := by decide +kernel
  simp only [e] at h
  exact h
theorem aw2_frame (w : World) : Calls Try.prog 19 #[.string ⟨#[97, 98]⟩] w fun e w' => e = .returned (.tuple #[.string ⟨(frm [97, 98]).toArray⟩, .int .i64 0]) ∧ Below w.heap.size w w' :=
  frame_ok ⟨#[97, 98]⟩ w (by decide)
theorem aw2_unframe (w : World) : Calls Try.prog 21 #[.string ⟨(frm [97, 98]).toArray⟩, .int .i64 0] w fun e w' => e = .returned (.tuple #[.string ⟨#[97, 98]⟩, .int .i64 10, .int .i64 0]) ∧ Below w.heap.size w w' := by
  have h := unframe_any ⟨(frm [97, 98]).toArray⟩ 0 w (by show (frm [97, 98]).toArray.size ≤ _; rw [List.size_toArray, frm_len]; decide)
  have e : unfAt ⟨(frm [97, 98]).toArray⟩ 0 = ⟨⟨#[97, 98]⟩, 10, 0⟩ := unf_back ⟨(frm [97, 98]).toArray⟩ ⟨#[97, 98]⟩ [] [] (by decide) (by simp)
  rw [e] at h; exact h

set_option maxRecDepth 100000 in
set_option maxHeartbeats 400000 in
theorem awake2 (w : World) : Calls Try.prog 16 #[] w fun e w' => e = .returned (.bool true) ∧ Below w.heap.size w w' := by
  have H1 := show Hid _ from aw2_frame
  have H2 := show Hid _ from aw2_unframe
  generalize frm [97, 98] = F at H1 H2
  go_enter Try.func16, Try.ntmps16
  go_wp2_with fail
  refine (H1.out _).mono ?_
  rintro e w1 ⟨rfl, hB1⟩
  go_wp2_with fail
  refine (H2.out _).mono ?_
  rintro e w2 ⟨rfl, hB2⟩
  go_wp2_with fail
  refine (aw2_sum _).mono ?_
  rintro e w3 ⟨rfl, rfl⟩
  go_wp2
  go_ret
  exact ⟨rfl, hB1.trans (hB2.mono hB1.size)⟩
end Go.Proofs.Ytfdhaedpnjlpiab
