/- Joined: The walks of the putting of a list, and of the comparison of two lists. The walk of the comparison of two lists of the same texts: it answers true, and writes nothing. -/
import Derived.Test.YtbiapepalkdkdabJoined01
import Derived.Test.YtbiapepalkdkdabReadLst
import Derived.Deep.QuietTactic
import Derived.BigQuiet
namespace Go.Proofs.Ytbiapepalkdkdab
open Go.RowKit
set_option linter.unusedVariables false

/-- a list's bytes -/
def pls (xs : List ByteArray) : List UInt8 := put xs.length ++ (xs.map ptx).flatten
theorem flat_len (xs : List ByteArray) : ((xs.map ptx).flatten).length ≤ room xs := by
  induction xs with
  | nil => simp [room]
  | cons x r ih =>
    have h1 := ptx_len x
    have h2 := (put_len x.size).2
    simp only [room, List.map_cons, List.sum_cons, List.flatten_cons, List.length_append] at ih ⊢
    omega
theorem flat_take (xs : List ByteArray) (j : Nat) (h : j < xs.length) : ((xs.take (j + 1)).map ptx).flatten = ((xs.take j).map ptx).flatten ++ ptx (xs.getD j ⟨#[]⟩) := by
  rw [List.take_succ_eq_append_getElem h, List.map_append, List.flatten_append, List.getD_eq_getElem?_getD, List.getElem?_eq_getElem h]; simp
/-- what is laid behind j texts -/
def laidL (n : Nat) (xs : List ByteArray) (j : Nat) : List UInt8 := put n ++ ((xs.take j).map ptx).flatten
theorem laidL_len (n : Nat) (xs : List ByteArray) (j : Nat) : (laidL n xs j).length ≤ 10 + room (xs.take j) := by
  have h1 := (put_len n).2
  have h2 := flat_len (xs.take j)
  rw [laidL, List.length_append]; omega
theorem laidL_step (n : Nat) (xs : List ByteArray) (j : Nat) (h : j < xs.length) : laidL n xs (j + 1) = laidL n xs j ++ ptx (xs.getD j ⟨#[]⟩) := by
  rw [laidL, laidL, flat_take xs j h, List.append_assoc]

end Go.Proofs.Ytbiapepalkdkdab
namespace Go.Proofs.Ytbiapepalkdkdab
open Go.RowKit
set_option linter.unusedVariables false

set_option maxRecDepth 100000 in
set_option maxHeartbeats 800000 in
theorem same_any (u v : Value) (xs : List ByteArray) (w : World) (hu : Strs w u xs) (hv : Strs w v xs) (hxl : xs.length ≤ 140737488355328) :
    Calls Try.prog 16 #[u, v] w fun e w' => e = .returned (.bool true) ∧ Below w.heap.size w w' := by
  obtain ⟨ad, cap, rfl, hc⟩ := hu.at
  obtain ⟨bd, dap, rfl, hd⟩ := hv.at
  have HC := show Hid _ from hc
  have HD := show Hid _ from hd
  clear hu hv hc hd
  generalize hn : xs.length = n at *
  have hne : ((n : Int) != (n : Int)) = false := by simp
  go_enter Try.func16, Try.ntmps16
  go_wp2
  go_loopw [5] (fun i wr => ∃ (j q : Nat), j ≤ n ∧ i = .int .i64 j ∧ wr = w.drewN q) (fun i _ => n - (intOf i).toNat)
  case atStart => exact ⟨0, 0, by omega, rfl, rfl⟩
  case round =>
    obtain ⟨j, q, hj, rfl, rfl⟩ := hrel
    by_cases hlt : j < n
    · obtain ⟨b, off, rfl, hb, hcell⟩ := HC.out j (by omega)
      obtain ⟨c, off2, rfl, hb2, hcell2⟩ := HD.out j (by omega)
      generalize xs.getD j ⟨#[]⟩ = x at hcell hcell2
      clear HC HD
      have h1 : (0 : Int) ≤ (j : Int) := by omega
      have h2 : (j : Int) < (n : Int) := by omega
      go_wp2
      go_quiet (fail)
      go_wp2
      go_roundw
      case rel => exact ⟨j + 1, q + nq, by omega, by go_num, rfl⟩
      case measure => simp [intOf]; omega
    · go_wp2
      go_ret
      exact ⟨rfl, below_drewN (Below.refl _ _) _⟩
end Go.Proofs.Ytbiapepalkdkdab
