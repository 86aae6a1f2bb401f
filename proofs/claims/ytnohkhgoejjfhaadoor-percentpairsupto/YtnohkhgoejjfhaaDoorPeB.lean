/- The digits of escapes; the tests that call a test. -/
import Derived.Test.YtnohkhgoejjfhaaDoorPeA
import Derived.Test.YtnohkhgoejjfhaaDoorKeepM
namespace Go.Proofs.YtnohkhgoejjfhaaDoor
open Go.RowKit
set_option linter.unusedVariables false
set_option linter.unusedSimpArgs false

/-- what the document's number answers -/
def nmN (c : Nat) : Int := if 48 ≤ c ∧ c ≤ 57 then (c : Int) - 48 else if 65 ≤ c ∧ c ≤ 70 then (c : Int) - 55 else if 97 ≤ c ∧ c ≤ 102 then (c : Int) - 87 else 16
theorem nm_sx (c : Nat) : (15 < nmN c ↔ sxN c < 0) ∧ (0 ≤ sxN c → nmN c = sxN c) ∧ 0 ≤ nmN c := by unfold nmN sxN; repeat' split <;> omega
set_option maxRecDepth 100000 in
set_option maxHeartbeats 2000000 in
theorem sixteen_any (c : UInt8) (w : World) : Calls Tryd.prog 53 #[.int .u8 (c.toNat : Int)] w fun e w' => e = .returned (.int .i64 (sxN c.toNat)) ∧ w' = w := by
  have hc := UInt8.toNat_lt c
  generalize c.toNat = n at *
  by_cases g0 : 0 ≤ n ∧ n ≤ 47
  · have e : sxN n = -1 := by unfold sxN; rw [if_neg (by omega), if_neg (by omega), if_neg (by omega)]
    rw [e]
    clear e
    skip
    have a48 : ¬ (48 : Int) ≤ (n : Int) := by omega
    have a65 : ¬ (65 : Int) ≤ (n : Int) := by omega
    have a97 : ¬ (97 : Int) ≤ (n : Int) := by omega
    have b57 : (n : Int) ≤ 57 := by omega
    have b70 : (n : Int) ≤ 70 := by omega
    have b102 : (n : Int) ≤ 102 := by omega
    obtain ⟨g, gg⟩ := g0
    go_enter Tryd.func53, Tryd.ntmps53
    go_wp2
    go_ret
    exact ⟨rfl, rfl⟩
  by_cases g1 : 48 ≤ n ∧ n ≤ 57
  · have e : sxN n = (n : Int) - 48 := by unfold sxN; rw [if_pos (by omega)]
    rw [e]
    clear e
    clear g0
    have a48 : (48 : Int) ≤ (n : Int) := by omega
    have a65 : ¬ (65 : Int) ≤ (n : Int) := by omega
    have a97 : ¬ (97 : Int) ≤ (n : Int) := by omega
    have b57 : (n : Int) ≤ 57 := by omega
    have b70 : (n : Int) ≤ 70 := by omega
    have b102 : (n : Int) ≤ 102 := by omega
    obtain ⟨g, gg⟩ := g1
    go_enter Tryd.func53, Tryd.ntmps53
    go_wp2
    go_ret
    exact ⟨ret_i64 (by go_num), rfl⟩
  by_cases g2 : 58 ≤ n ∧ n ≤ 64
  · have e : sxN n = -1 := by unfold sxN; rw [if_neg (by omega), if_neg (by omega), if_neg (by omega)]
    rw [e]
    clear e
    clear g0 g1
    have a48 : (48 : Int) ≤ (n : Int) := by omega
    have a65 : ¬ (65 : Int) ≤ (n : Int) := by omega
    have a97 : ¬ (97 : Int) ≤ (n : Int) := by omega
    have b57 : ¬ (n : Int) ≤ 57 := by omega
    have b70 : (n : Int) ≤ 70 := by omega
    have b102 : (n : Int) ≤ 102 := by omega
    obtain ⟨g, gg⟩ := g2
    go_enter Tryd.func53, Tryd.ntmps53
    go_wp2
    go_ret
    exact ⟨rfl, rfl⟩
  by_cases g3 : 65 ≤ n ∧ n ≤ 70
  · have e : sxN n = (n : Int) - 55 := by unfold sxN; rw [if_neg (by omega), if_pos (by omega)]
    rw [e]
    clear e
    clear g0 g1 g2
    have a48 : (48 : Int) ≤ (n : Int) := by omega
    have a65 : (65 : Int) ≤ (n : Int) := by omega
    have a97 : ¬ (97 : Int) ≤ (n : Int) := by omega
    have b57 : ¬ (n : Int) ≤ 57 := by omega
    have b70 : (n : Int) ≤ 70 := by omega
    have b102 : (n : Int) ≤ 102 := by omega
    obtain ⟨g, gg⟩ := g3
    go_enter Tryd.func53, Tryd.ntmps53
    go_wp2
    go_ret
    exact ⟨ret_i64 (by go_num), rfl⟩
  by_cases g4 : 71 ≤ n ∧ n ≤ 96
  · have e : sxN n = -1 := by unfold sxN; rw [if_neg (by omega), if_neg (by omega), if_neg (by omega)]
    rw [e]
    clear e
    clear g0 g1 g2 g3
    have a48 : (48 : Int) ≤ (n : Int) := by omega
    have a65 : (65 : Int) ≤ (n : Int) := by omega
    have a97 : ¬ (97 : Int) ≤ (n : Int) := by omega
    have b57 : ¬ (n : Int) ≤ 57 := by omega
    have b70 : ¬ (n : Int) ≤ 70 := by omega
    have b102 : (n : Int) ≤ 102 := by omega
    obtain ⟨g, gg⟩ := g4
    go_enter Tryd.func53, Tryd.ntmps53
    go_wp2
    go_ret
    exact ⟨rfl, rfl⟩
  by_cases g5 : 97 ≤ n ∧ n ≤ 102
  · have e : sxN n = (n : Int) - 87 := by unfold sxN; rw [if_neg (by omega), if_neg (by omega), if_pos (by omega)]
    rw [e]
    clear e
    clear g0 g1 g2 g3 g4
    have a48 : (48 : Int) ≤ (n : Int) := by omega
    have a65 : (65 : Int) ≤ (n : Int) := by omega
    have a97 : (97 : Int) ≤ (n : Int) := by omega
    have b57 : ¬ (n : Int) ≤ 57 := by omega
    have b70 : ¬ (n : Int) ≤ 70 := by omega
    have b102 : (n : Int) ≤ 102 := by omega
    obtain ⟨g, gg⟩ := g5
    go_enter Tryd.func53, Tryd.ntmps53
    go_wp2
    go_ret
    exact ⟨ret_i64 (by go_num), rfl⟩
  have g6 : 103 ≤ n ∧ n ≤ 255 := by omega
  have e : sxN n = -1 := by unfold sxN; rw [if_neg (by omega), if_neg (by omega), if_neg (by omega)]
  rw [e]
  clear e
  clear g0 g1 g2 g3 g4 g5
  have a48 : (48 : Int) ≤ (n : Int) := by omega
  have a65 : (65 : Int) ≤ (n : Int) := by omega
  have a97 : (97 : Int) ≤ (n : Int) := by omega
  have b57 : ¬ (n : Int) ≤ 57 := by omega
  have b70 : ¬ (n : Int) ≤ 70 := by omega
  have b102 : ¬ (n : Int) ≤ 102 := by omega
  obtain ⟨g, gg⟩ := g6
  go_enter Tryd.func53, Tryd.ntmps53
  go_wp2
  go_ret
  exact ⟨rfl, rfl⟩
set_option maxRecDepth 100000 in
set_option maxHeartbeats 2000000 in
theorem number_any (c : UInt8) (w : World) : Calls Tryd.prog 41 #[.int .u8 (c.toNat : Int)] w fun e w' => e = .returned (.int .i64 (nmN c.toNat)) ∧ w' = w := by
  have hc := UInt8.toNat_lt c
  generalize c.toNat = n at *
  by_cases g0 : 0 ≤ n ∧ n ≤ 47
  · have e : nmN n = 16 := by unfold nmN; rw [if_neg (by omega), if_neg (by omega), if_neg (by omega)]
    rw [e]
    clear e
    skip
    have a48 : ¬ (48 : Int) ≤ (n : Int) := by omega
    have a65 : ¬ (65 : Int) ≤ (n : Int) := by omega
    have a97 : ¬ (97 : Int) ≤ (n : Int) := by omega
    have b57 : (n : Int) ≤ 57 := by omega
    have b70 : (n : Int) ≤ 70 := by omega
    have b102 : (n : Int) ≤ 102 := by omega
    obtain ⟨g, gg⟩ := g0
    go_enter Tryd.func41, Tryd.ntmps41
    go_wp2
    go_ret
    exact ⟨rfl, rfl⟩
  by_cases g1 : 48 ≤ n ∧ n ≤ 57
  · have e : nmN n = (n : Int) - 48 := by unfold nmN; rw [if_pos (by omega)]
    rw [e]
    clear e
    clear g0
    have a48 : (48 : Int) ≤ (n : Int) := by omega
    have a65 : ¬ (65 : Int) ≤ (n : Int) := by omega
    have a97 : ¬ (97 : Int) ≤ (n : Int) := by omega
    have b57 : (n : Int) ≤ 57 := by omega
    have b70 : (n : Int) ≤ 70 := by omega
    have b102 : (n : Int) ≤ 102 := by omega
    obtain ⟨g, gg⟩ := g1
    go_enter Tryd.func41, Tryd.ntmps41
    go_wp2
    go_ret
    exact ⟨ret_i64 (by go_num), rfl⟩
  by_cases g2 : 58 ≤ n ∧ n ≤ 64
  · have e : nmN n = 16 := by unfold nmN; rw [if_neg (by omega), if_neg (by omega), if_neg (by omega)]
    rw [e]
    clear e
    clear g0 g1
    have a48 : (48 : Int) ≤ (n : Int) := by omega
    have a65 : ¬ (65 : Int) ≤ (n : Int) := by omega
    have a97 : ¬ (97 : Int) ≤ (n : Int) := by omega
    have b57 : ¬ (n : Int) ≤ 57 := by omega
    have b70 : (n : Int) ≤ 70 := by omega
    have b102 : (n : Int) ≤ 102 := by omega
    obtain ⟨g, gg⟩ := g2
    go_enter Tryd.func41, Tryd.ntmps41
    go_wp2
    go_ret
    exact ⟨rfl, rfl⟩
  by_cases g3 : 65 ≤ n ∧ n ≤ 70
  · have e : nmN n = (n : Int) - 55 := by unfold nmN; rw [if_neg (by omega), if_pos (by omega)]
    rw [e]
    clear e
    clear g0 g1 g2
    have a48 : (48 : Int) ≤ (n : Int) := by omega
    have a65 : (65 : Int) ≤ (n : Int) := by omega
    have a97 : ¬ (97 : Int) ≤ (n : Int) := by omega
    have b57 : ¬ (n : Int) ≤ 57 := by omega
    have b70 : (n : Int) ≤ 70 := by omega
    have b102 : (n : Int) ≤ 102 := by omega
    obtain ⟨g, gg⟩ := g3
    go_enter Tryd.func41, Tryd.ntmps41
    go_wp2
    go_ret
    exact ⟨ret_i64 (by go_num), rfl⟩
  by_cases g4 : 71 ≤ n ∧ n ≤ 96
  · have e : nmN n = 16 := by unfold nmN; rw [if_neg (by omega), if_neg (by omega), if_neg (by omega)]
    rw [e]
    clear e
    clear g0 g1 g2 g3
    have a48 : (48 : Int) ≤ (n : Int) := by omega
    have a65 : (65 : Int) ≤ (n : Int) := by omega
    have a97 : ¬ (97 : Int) ≤ (n : Int) := by omega
    have b57 : ¬ (n : Int) ≤ 57 := by omega
    have b70 : ¬ (n : Int) ≤ 70 := by omega
    have b102 : (n : Int) ≤ 102 := by omega
    obtain ⟨g, gg⟩ := g4
    go_enter Tryd.func41, Tryd.ntmps41
    go_wp2
    go_ret
    exact ⟨rfl, rfl⟩
  by_cases g5 : 97 ≤ n ∧ n ≤ 102
  · have e : nmN n = (n : Int) - 87 := by unfold nmN; rw [if_neg (by omega), if_neg (by omega), if_pos (by omega)]
    rw [e]
    clear e
    clear g0 g1 g2 g3 g4
    have a48 : (48 : Int) ≤ (n : Int) := by omega
    have a65 : (65 : Int) ≤ (n : Int) := by omega
    have a97 : (97 : Int) ≤ (n : Int) := by omega
    have b57 : ¬ (n : Int) ≤ 57 := by omega
    have b70 : ¬ (n : Int) ≤ 70 := by omega
    have b102 : (n : Int) ≤ 102 := by omega
    obtain ⟨g, gg⟩ := g5
    go_enter Tryd.func41, Tryd.ntmps41
    go_wp2
    go_ret
    exact ⟨ret_i64 (by go_num), rfl⟩
  have g6 : 103 ≤ n ∧ n ≤ 255 := by omega
  have e : nmN n = 16 := by unfold nmN; rw [if_neg (by omega), if_neg (by omega), if_neg (by omega)]
  rw [e]
  clear e
  clear g0 g1 g2 g3 g4 g5
  have a48 : (48 : Int) ≤ (n : Int) := by omega
  have a65 : (65 : Int) ≤ (n : Int) := by omega
  have a97 : (97 : Int) ≤ (n : Int) := by omega
  have b57 : ¬ (n : Int) ≤ 57 := by omega
  have b70 : ¬ (n : Int) ≤ 70 := by omega
  have b102 : ¬ (n : Int) ≤ 102 := by omega
  obtain ⟨g, gg⟩ := g6
  go_enter Tryd.func41, Tryd.ntmps41
  go_wp2
  go_ret
  exact ⟨rfl, rfl⟩
set_option maxRecDepth 100000 in
set_option maxHeartbeats 1000000 in
theorem rdigit_any (k : Nat) (hk : k < 16) (w : World) : Calls Tryd.prog 43 #[.int .u8 (k : Int)] w fun e w' => e = .returned (.int .u8 ((dgU k).toNat : Int)) ∧ w' = w := by
  by_cases h : k < 10
  · have e : ((dgU k).toNat : Int) = 48 + (k : Int) := by unfold dgU; rw [if_pos h, show (UInt8.ofNat (48 + k)).toNat = 48 + k by simp; omega]; omega
    rw [e]
    clear e
    have h1 : (k : Int) < 10 := by omega
    go_enter Tryd.func43, Tryd.ntmps43
    go_wp2
    go_ret
    exact ⟨ret_u8 (by go_num), rfl⟩
  · have e : ((dgU k).toNat : Int) = 55 + (k : Int) := by unfold dgU; rw [if_neg h, show (UInt8.ofNat (55 + k)).toNat = 55 + k by simp; omega]; omega
    rw [e]
    clear e
    have h1 : ¬ (k : Int) < 10 := by omega
    go_enter Tryd.func43, Tryd.ntmps43
    go_wp2
    go_ret
    exact ⟨ret_u8 (by go_num), rfl⟩
set_option maxRecDepth 100000 in
set_option maxHeartbeats 1000000 in
theorem path1_any (c : UInt8) (w : World) : Calls Tryd.prog 28 #[.int .u8 (c.toNat : Int)] w fun e w' => e = .returned (.bool (plP c)) ∧ w' = w := by
  have HI := hid (isPlain_any c w)
  have HB : Hid (plP c = (plB c || ((c.toNat : Int) == 47))) := by show _ = _; unfold plP; rw [show decide (c.toNat = 47) = ((c.toNat : Int) == 47) by rw [Bool.eq_iff_iff, decide_eq_true_iff, beq_iff_eq]; omega]
  rw [HB.out]
  clear HB
  generalize plB c = b at *
  generalize c.toNat = n at *
  obtain hb | hb : b = false ∨ b = true := by cases b <;> simp
  · subst hb
    generalize hq : ((n : Int) == 47) = q
    go_enter Tryd.func28, Tryd.ntmps28
    go_wp2_with fail
    refine HI.out.mono ?_
    rintro e w1 ⟨rfl, rfl⟩
    go_wp2
    go_ret
    exact ⟨by simp [hq], rfl⟩
  · subst hb
    go_enter Tryd.func28, Tryd.ntmps28
    go_wp2_with fail
    refine HI.out.mono ?_
    rintro e w1 ⟨rfl, rfl⟩
    go_wp2
    go_ret
    exact ⟨rfl, rfl⟩
/-- what a function says of raw bytes -/
def RawF (f : FuncId) (raw : UInt8 → Option UInt8) : Prop := ∀ (c : UInt8) (w : World), Calls Tryd.prog f #[.int .u8 (c.toNat : Int)] w fun e w' => ∃ (d : UInt8) (b : Bool), e = .returned (.tuple #[.int .u8 (d.toNat : Int), .bool b]) ∧ (raw c = if b then some d else none) ∧ w' = w
set_option maxRecDepth 100000 in
set_option maxHeartbeats 1000000 in
theorem unpath1_any : RawF 24 rwP := by
  intro c w
  have HI := hid (isRaw_any c w)
  have HB : Hid (rwP c = if (rwB c && ((c.toNat : Int) != 63)) then some c else none) := by
    show _ = _; unfold rwP; rw [show decide (c.toNat ≠ 63) = ((c.toNat : Int) != 63) by rw [Bool.eq_iff_iff]; simp; omega]
  generalize rwB c = b at *
  generalize hn : c.toNat = n at *
  obtain hb | hb : b = false ∨ b = true := by cases b <;> simp
  · subst hb
    go_enter Tryd.func24, Tryd.ntmps24
    go_wp2_with fail
    refine HI.out.mono ?_
    rintro e w1 ⟨rfl, rfl⟩
    go_wp2
    go_ret2
    exact ⟨c, false, by rw [hn]; rfl, HB.out, rfl⟩
  · subst hb
    go_enter Tryd.func24, Tryd.ntmps24
    go_wp2_with fail
    refine HI.out.mono ?_
    rintro e w1 ⟨rfl, rfl⟩
    go_wp2
    go_ret2
    exact ⟨c, ((n : Int) != 63), by rw [hn]; rfl, by have := HB.out; simpa using this, rfl⟩
set_option maxRecDepth 100000 in
set_option maxHeartbeats 1000000 in
theorem queryByte_any : RawF 51 rwQ := by
  intro c w
  have HI := hid (isRaw_any c w)
  have HB : Hid (rwQ c = if c.toNat = 43 then some 32 else if rwB c then some c else none) := rfl
  generalize rwB c = b at *
  generalize hn : c.toNat = n at *
  by_cases h : n = 43
  · have h1 : ((n : Int) == 43) = true := by rw [beq_iff_eq]; omega
    go_enter Tryd.func51, Tryd.ntmps51
    go_wp2
    go_ret2
    exact ⟨32, true, rfl, by have := HB.out; rw [if_pos h] at this; exact this, rfl⟩
  · have h1 : ((n : Int) == 43) = false := by rw [beq_eq_false_iff_ne]; omega
    go_enter Tryd.func51, Tryd.ntmps51
    go_wp2_with fail
    refine HI.out.mono ?_
    rintro e w1 ⟨rfl, rfl⟩
    go_wp2
    go_ret2
    exact ⟨c, b, by rw [hn]; rfl, by have := HB.out; rw [if_neg h] at this; exact this, rfl⟩
end Go.Proofs.YtnohkhgoejjfhaaDoor
