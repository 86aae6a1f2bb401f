/- The walk of the law OctetNumbers: whatever the input, it answers true. -/
import Derived.Test.YtfdhaedpnjlpiaaAwake1
namespace Go.Proofs.Ytfdhaedpnjlpiaa
open Go.RowKit
set_option linter.unusedVariables false

theorem u64_nat {n : Int} (h : (Lit.int .u64 n).wf = true) : ∃ k : Nat, n = k ∧ k < 18446744073709551616 := by
  have hx : 0 ≤ n ∧ n ≤ 18446744073709551615 := by simpa [Lit.wf, IntKind.min, IntKind.max, IntKind.signed, IntKind.bits] using h
  exact ⟨n.toNat, by omega, by omega⟩

set_option maxRecDepth 100000 in
set_option maxHeartbeats 800000 in
theorem octetNumbers_walk (n : Int) (s : ByteArray) (a : Int) (w : World) (hn : (Lit.int .u64 n).wf = true) (hs : s.size ≤ reachBytes) (ha : (Lit.int .i64 a).wf = true) :
    Calls Try.prog 3 #[.int .u64 n, .string s, .int .i64 a] w fun e w' => e = .returned (.bool true) ∧ Below w.heap.size w w' := by
  obtain ⟨k, rfl, hk⟩ := u64_nat hn
  have hs' : s.size ≤ maxLen := Nat.le_trans hs (by decide)
  have HR := show Hid _ from fun w => readNumber_any s a w hs'
  have HF := show Hid _ from fun w => ref_readNumber_any s a w hs'
  generalize rdAt s a = g at HR HF
  generalize endAt a g = t at HR HF
  have HK := show Hid _ from hk
  clear hn hs hs' ha hk
  go_enter Try.func3, Try.ntmps3
  go_wp2_with fail
  refine (HR.out _).mono ?_
  rintro e w' ⟨rfl, rfl⟩
  go_wp2_with fail
  refine (HF.out _).mono ?_
  rintro e w2 ⟨rfl, rfl⟩
  go_wp2_with fail
  refine (awake1 _).mono ?_
  rintro e w3 ⟨rfl, hB3⟩
  go_wp2_with fail
  refine (number_any k _ HK.out).mono ?_
  rintro e w4 ⟨rfl, hB4⟩
  go_wp2_with fail
  refine (ref_number_any k _ HK.out).mono ?_
  rintro e w5 ⟨rfl, hB5⟩
  go_wp2
  go_ret
  exact ⟨rfl, (hB3.trans (hB4.mono hB3.size)).trans (hB5.mono (Nat.le_trans hB3.size hB4.size))⟩
end Go.Proofs.Ytfdhaedpnjlpiaa
