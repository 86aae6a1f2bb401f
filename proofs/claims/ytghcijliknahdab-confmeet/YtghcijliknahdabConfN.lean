/- Neighbours: the program's way to tell them and the document's are one. -/
import Derived.Test.YtghcijliknahdabConfM
namespace Go.Proofs.Ytghcijliknahdab
open Go.RowKit Go.Maps
set_option linter.unusedVariables false
set_option linter.unusedSimpArgs false

set_option maxRecDepth 1000000 in
set_option maxHeartbeats 4000000 in
theorem near_all : ((subsC 7).all fun a => (subsC 7).all fun b => nearC a b == nearR a b) = true := by decide +kernel
theorem near_eq (a b : List Int) : nearC a b = nearR a b := by
  by_cases ha : areM a = true
  · by_cases hb : areM b = true
    · have h := near_all
      rw [List.all_eq_true] at h
      have h1 := h a (areM_sub ha)
      rw [List.all_eq_true] at h1
      exact beq_iff_eq.1 (h1 b (areM_sub hb))
    · simp [nearC, nearR, hb]
  · simp [nearC, nearR, ha]
end Go.Proofs.Ytghcijliknahdab
