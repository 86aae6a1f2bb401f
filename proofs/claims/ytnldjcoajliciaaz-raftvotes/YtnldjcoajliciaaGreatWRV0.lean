/- What the walk of RaftVotes calls: among. -/
import Derived.Test.YtnldjcoajliciaaGreatJoined21
import Derived.Test.YtnldjcoajliciaaGreatAsZ
namespace Go.Proofs.YtnldjcoajliciaaGreat
open Go.RowKit Go.Maps
set_option linter.unusedVariables false
set_option linter.unusedSimpArgs false

def amg (x n : Int) : Int := (x.tmod n + n).tmod n
theorem amg_ar (x n : Int) (h0 : 0 < n) (h1 : n ≤ 100) : wrap64 (x.tmod n) = x.tmod n ∧ wrap64 (x.tmod n + n) = x.tmod n + n ∧ wrap64 (amg x n) = amg x n ∧ 0 ≤ amg x n ∧ amg x n < n := by
  have a1 : x.tmod n < n := Int.tmod_lt_of_pos x h0
  have a2 : -n < x.tmod n := by
    have := Int.tmod_lt_of_pos (-x) h0
    rw [Int.neg_tmod] at this
    omega
  have a3 : amg x n < n := Int.tmod_lt_of_pos _ h0
  have a4 : 0 ≤ amg x n := Int.tmod_nonneg _ (by omega)
  exact ⟨IntWalk.wrap64_in _ (by omega), IntWalk.wrap64_in _ (by omega), IntWalk.wrap64_in _ (by omega), a4, a3⟩
set_option maxRecDepth 100000 in
set_option maxHeartbeats 1000000 in
theorem among_any (x n : Int) (h0 : 0 < n) (h1 : n ≤ 100) (w : World) : Calls Tryz.prog 5 #[.int .i64 x, .int .i64 n] w fun e w' => e = .returned (.int .i64 (amg x n)) ∧ Below w.heap.size w w' := by
  obtain ⟨q1, q2, q3, -, -⟩ := amg_ar x n h0 h1
  unfold amg at *
  have n0 : n ≠ 0 := by omega
  have n1 : (n == 0) = false := by rw [beq_eq_false_iff_ne]; exact n0
  have n2 : decide (n = 0) = false := decide_eq_false n0
  clear h0 h1
  go_enter Tryz.func5, Tryz.ntmps5
  go_wp2
  go_ret
  exact ⟨rfl, Below.refl _ _⟩
end Go.Proofs.YtnldjcoajliciaaGreat
