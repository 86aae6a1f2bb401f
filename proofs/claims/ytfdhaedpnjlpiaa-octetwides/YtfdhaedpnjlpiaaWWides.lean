/- The walk of the law OctetWides: whatever the input, it answers true. -/
import Derived.Test.YtfdhaedpnjlpiaaRefReadWide
namespace Go.Proofs.Ytfdhaedpnjlpiaa
open Go.RowKit
set_option linter.unusedVariables false

theorem u64_nat' {n : Int} (h : (Lit.int .u64 n).wf = true) : ∃ k : Nat, n = k ∧ k < 18446744073709551616 := by
  have hx : 0 ≤ n ∧ n ≤ 18446744073709551615 := by simpa [Lit.wf, IntKind.min, IntKind.max, IntKind.signed, IntKind.bits] using h
  exact ⟨n.toNat, by omega, by omega⟩

set_option maxRecDepth 100000 in
set_option maxHeartbeats 800000 in
theorem octetWides_walk (n k : Int) (s : ByteArray) (a k2 : Int) (w : World) (hn : (Lit.int .u64 n).wf = true) (hk : (Lit.int .i64 k).wf = true) (hs : s.size ≤ maxLen) (ha : (Lit.int .i64 a).wf = true) (hk2 : (Lit.int .i64 k2).wf = true) :
    Calls Try.prog 6 #[.int .u64 n, .int .i64 k, .agg #[.string s, .int .i64 a, .int .i64 k2]] w fun e w' => e = .returned (.bool true) ∧ Below w.heap.size w w' := by
  obtain ⟨m, rfl, hm⟩ := u64_nat' hn
  have HR := show Hid _ from fun w => readWide_any s a k2 w hs
  have HF := show Hid _ from fun w => ref_readWide_any s a k2 w hs
  generalize rdW s a k2 = g at HR HF
  generalize endAt a g = t at HR HF
  have HA := show Hid _ from fun w => wide_any m k w hm
  have HB := show Hid _ from fun w => ref_wide_any m k w hm
  generalize wideR m k = x at HA HB
  generalize wideE m k = e1 at HA HB
  clear hn hs hm hk ha hk2
  go_enter Try.func6, Try.ntmps6
  go_wp2_with fail
  refine (HA.out _).mono ?_
  rintro e w1 ⟨rfl, hB1⟩
  go_wp2_with fail
  refine (HB.out _).mono ?_
  rintro e w2 ⟨rfl, hB2⟩
  have hX := hB1.trans (hB2.mono hB1.size)
  have hc := bcell hX
  have hz := hX.size
  simp at hz
  go_wp2_with fail
  refine (HR.out _).mono ?_
  rintro e w' ⟨rfl, rfl⟩
  go_wp2_with fail
  refine (HF.out _).mono ?_
  rintro e w2 ⟨rfl, rfl⟩
  go_wp2_with fail
  refine (awake1 _).mono ?_
  rintro e w3 ⟨rfl, hB3⟩
  go_wp2
  go_ret
  have h0 := (Below.refl w.heap.size w).alloc (Nat.le_refl _) (.cells #[.string s, .int .i64 a, .int .i64 k2] 46)
  have h1 := h0.trans (hX.mono (by simp))
  exact ⟨rfl, h1.trans (hB3.mono h1.size)⟩
end Go.Proofs.Ytfdhaedpnjlpiaa
