/- A configuration with a node more, in order: sorting gives the document's list. -/
import Derived.Test.YtghcijliknahdaaConfP
namespace Go.Proofs.Ytghcijliknahdaa
open Go.RowKit Go.Maps
set_option linter.unusedVariables false
set_option linter.unusedSimpArgs false

def addOk (l : List Int) (n : Int) : Bool := hasI n l || ((addL l n).isPerm (l ++ [n]) && decide ((addL l n).Pairwise (· ≤ ·)))
set_option maxRecDepth 1000000 in
set_option maxHeartbeats 4000000 in
theorem add_all : ((subsC 7).all fun l => (nodesF 7 0).all fun n => addOk l n) = true := by decide +kernel
theorem nd_mem {n : Int} (h : isNd n = true) : n ∈ nodesF 7 0 := by
  simp [isNd] at h
  have : n = 0 ∨ n = 1 ∨ n = 2 ∨ n = 3 ∨ n = 4 ∨ n = 5 ∨ n = 6 := by omega
  rcases this with rfl | rfl | rfl | rfl | rfl | rfl | rfl <;> decide
theorem srt_add {l : List Int} {n : Int} (h1 : areM l = true) (h2 : isNd n = true) (h3 : hasI n l = false) : srt (l ++ [n]) = addL l n := by
  have h := add_all
  rw [List.all_eq_true] at h
  have h4 := h l (areM_sub h1)
  rw [List.all_eq_true] at h4
  have h5 := h4 n (nd_mem h2)
  unfold addOk at h5
  rw [h3, Bool.false_or, Bool.and_eq_true] at h5
  have hp : (addL l n).Perm (l ++ [n]) := List.isPerm_iff.1 h5.1
  have hs : (addL l n).Pairwise (· ≤ ·) := of_decide_eq_true h5.2
  have hq : (srt (l ++ [n])).Pairwise (· ≤ ·) := by
    rw [List.pairwise_iff_getElem]
    intro i j hi hj hij
    exact srt_le _ (Nat.le_of_lt hij) hj
  exact ((srt_perm (l ++ [n])).trans hp.symm).eq_of_pairwise (fun a b _ _ x y => Int.le_antisymm x y) hq hs
end Go.Proofs.Ytghcijliknahdaa
