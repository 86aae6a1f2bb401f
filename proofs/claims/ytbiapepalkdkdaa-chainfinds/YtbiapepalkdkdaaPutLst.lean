/- The walks of the putting of a list, and of the comparison of two lists. -/
import Derived.Test.YtbiapepalkdkdaaPutTxt
import Derived.Test.YtbiapepalkdkdaaReadLst
import Derived.Deep.QuietTactic
import Derived.BigQuiet
namespace Go.Proofs.Ytbiapepalkdkdaa
open Go.RowKit
set_option linter.unusedVariables false

/-- a list's bytes -/
def pls (xs : List ByteArray) : List UInt8 := put xs.length ++ (xs.map ptx).flatten
theorem flat_len (xs : List ByteArray) : ((xs.map ptx).flatten).length ≤ room xs := by
  induction xs with
  | nil => simp [room]
  | cons x r ih =>
    have h1 := ptx_len x
    have h2 := (put_len x.size).2
    simp only [room, List.map_cons, List.sum_cons, List.flatten_cons, List.length_append] at ih ⊢
    omega
theorem flat_take (xs : List ByteArray) (j : Nat) (h : j < xs.length) : ((xs.take (j + 1)).map ptx).flatten = ((xs.take j).map ptx).flatten ++ ptx (xs.getD j ⟨#[]⟩) := by
  rw [List.take_succ_eq_append_getElem h, List.map_append, List.flatten_append, List.getD_eq_getElem?_getD, List.getElem?_eq_getElem h]; simp
/-- what is laid behind j texts -/
def laidL (n : Nat) (xs : List ByteArray) (j : Nat) : List UInt8 := put n ++ ((xs.take j).map ptx).flatten
theorem laidL_len (n : Nat) (xs : List ByteArray) (j : Nat) : (laidL n xs j).length ≤ 10 + room (xs.take j) := by
  have h1 := (put_len n).2
  have h2 := flat_len (xs.take j)
  rw [laidL, List.length_append]; omega
theorem laidL_step (n : Nat) (xs : List ByteArray) (j : Nat) (h : j < xs.length) : laidL n xs (j + 1) = laidL n xs j ++ ptx (xs.getD j ⟨#[]⟩) := by
  rw [laidL, laidL, flat_take xs j h, List.append_assoc]

end Go.Proofs.Ytbiapepalkdkdaa
