/- The walk of the document's filling up of bytes. -/
import Derived.Test.YtikkpfchbcfhlaaJoined02
import Derived.Test.YtikkpfchbcfhlaaEight
namespace Go.Proofs.Ytikkpfchbcfhlaa
open Go.RowKit
set_option linter.unusedVariables false

/-- the first k bytes of eight -/
def e8p (n k : Nat) : List UInt8 := (be n 8).take k
theorem e8p_zero (n : Nat) : e8p n 0 = [] := by simp [e8p]
theorem e8p_all (n : Nat) : e8p n 8 = be n 8 := by unfold e8p; exact List.take_of_length_le (by rw [be_len]; omega)
theorem e8p_succ (n k : Nat) (h : k < 8) : e8p n (k + 1) = e8p n k ++ [UInt8.ofNat (n / 256 ^ (7 - k))] := by
  have hb := be_at n 8 k h
  have hk : k < (be n 8).length := by rw [be_len]; exact h
  have e : (be n 8)[k] = UInt8.ofNat (n / 256 ^ (7 - k)) := by
    have := List.getElem?_eq_getElem hk
    rw [hb] at this
    exact (Option.some.inj this).symm
  unfold e8p
  rw [List.take_succ_eq_append_getElem hk, e]
theorem e8p_len (n k : Nat) (h : k ≤ 8) : (e8p n k).length = k := by simp [e8p, be_len]; omega
/-- how many elements a slice has -/
def slen : Value → Nat
  | .slice _ n _ => n
  | _ => 0

end Go.Proofs.Ytikkpfchbcfhlaa
