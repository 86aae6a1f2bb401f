/- The walk of layer 1's worked example: it answers true. -/
import Derived.Test.YtfdhaedpnjlpiaaReadTxt
import Derived.Test.YtfdhaedpnjlpiaaPutNum
namespace Go.Proofs.Ytfdhaedpnjlpiaa
open Go.RowKit
set_option linter.unusedVariables false

theorem aw_num (w : World) : Calls Try.prog 9 #[.string ⟨#[128, 0]⟩, .int .i64 0] w fun e w' => e = .returned (.tuple #[.int .u64 0, .int .i64 0, .int .i64 3]) ∧ w' = w := by
  have h := readNumber_any ⟨#[128, 0]⟩ 0 w (by decide)
  have e : rdAt ⟨#[128, 0]⟩ 0 = ⟨0, 0, 3⟩ := by rfl
  rw [e] at h; exact h
theorem aw_txt (w : World) : Calls Try.prog 14 #[.string ⟨#[97, 2, 120, 121, 122]⟩, .int .i64 1] w fun e w' => e = .returned (.tuple #[.string ⟨#[120, 121]⟩, .int .i64 4, .int .i64 0]) ∧ Below w.heap.size w w' := by
  have h := readText_any ⟨#[97, 2, 120, 121, 122]⟩ 1 w (by decide)
  have e : txtAt ⟨#[97, 2, 120, 121, 122]⟩ 1 = ⟨⟨#[120, 121]⟩, 4, 0⟩ := by
    have e1 : rdAt ⟨#[97, 2, 120, 121, 122]⟩ 1 = ⟨2, 1, 0⟩ := by rfl
    unfold txtAt; rw [e1]; rfl
  rw [e] at h; exact h
theorem aw_put (w : World) : Calls Try.prog 12 #[.int .u64 300] w fun e w' => e = .returned (.string ⟨#[172, 2]⟩) ∧ Below w.heap.size w w' := by
  have h := number_any 300 w (by decide)
  have e : put 300 = [172, 2] := by rfl
  rw [e] at h; exact h

set_option maxRecDepth 100000 in
set_option maxHeartbeats 400000 in
theorem awake1 (w : World) : Calls Try.prog 11 #[] w fun e w' => e = .returned (.bool true) ∧ Below w.heap.size w w' := by
  go_enter Try.func11, Try.ntmps11
  go_wp2_with fail
  refine (aw_num _).mono ?_
  rintro e w' ⟨rfl, rfl⟩
  go_wp2_with fail
  refine (aw_txt _).mono ?_
  rintro e w2 ⟨rfl, hB2⟩
  go_wp2_with fail
  refine (aw_put _).mono ?_
  rintro e w3 ⟨rfl, hB3⟩
  go_wp2
  go_ret
  exact ⟨rfl, hB2.trans (hB3.mono hB2.size)⟩
end Go.Proofs.Ytfdhaedpnjlpiaa
