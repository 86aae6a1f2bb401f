/- The tests of single bytes. -/
import Derived.Test.YtnohkhgoejjfhaaDoorPeM
import Derived.Test.YtnohkhgoejjfhaaDoorBase
import Derived.Test.YtnohkhgoejjfhaaDoorHidM
namespace Go.Proofs.YtnohkhgoejjfhaaDoor
open Go.RowKit
set_option linter.unusedVariables false
set_option linter.unusedSimpArgs false

theorem ret_i64 {i j : Int} (h : i = j) : Ending.returned (.int .i64 i) = .returned (.int .i64 j) := by rw [h]
theorem ret_u8 {i j : Int} (h : i = j) : Ending.returned (.int .u8 i) = .returned (.int .u8 j) := by rw [h]
set_option maxRecDepth 100000 in
set_option maxHeartbeats 2000000 in
theorem isPlain_any (c : UInt8) (w : World) : Calls Tryd.prog 29 #[.int .u8 (c.toNat : Int)] w fun e w' => e = .returned (.bool (plB c)) ∧ w' = w := by
  have hc := UInt8.toNat_lt c
  by_cases g0 : 0 ≤ c.toNat ∧ c.toNat ≤ 44
  · have e : plB c = false := by unfold plB; exact decide_eq_false (by omega)
    rw [e]
    clear e
    skip
    generalize c.toNat = n at *
    have a97 : ¬ (97 : Int) ≤ (n : Int) := by omega
    have a65 : ¬ (65 : Int) ≤ (n : Int) := by omega
    have a48 : ¬ (48 : Int) ≤ (n : Int) := by omega
    have b122 : (n : Int) ≤ 122 := by omega
    have b90 : (n : Int) ≤ 90 := by omega
    have b57 : (n : Int) ≤ 57 := by omega
    have c45 : ((n : Int) == 45) = false := by rw [beq_eq_false_iff_ne]; omega
    have c46 : ((n : Int) == 46) = false := by rw [beq_eq_false_iff_ne]; omega
    have c95 : ((n : Int) == 95) = false := by rw [beq_eq_false_iff_ne]; omega
    have c126 : ((n : Int) == 126) = false := by rw [beq_eq_false_iff_ne]; omega
    clear hc g0
    go_enter Tryd.func29, Tryd.ntmps29
    go_wp2
    go_ret
    exact ⟨rfl, rfl⟩
  by_cases g1 : 45 ≤ c.toNat ∧ c.toNat ≤ 45
  · have e : plB c = true := by unfold plB; exact decide_eq_true (by omega)
    rw [e]
    clear e
    clear g0
    generalize c.toNat = n at *
    have a97 : ¬ (97 : Int) ≤ (n : Int) := by omega
    have a65 : ¬ (65 : Int) ≤ (n : Int) := by omega
    have a48 : ¬ (48 : Int) ≤ (n : Int) := by omega
    have b122 : (n : Int) ≤ 122 := by omega
    have b90 : (n : Int) ≤ 90 := by omega
    have b57 : (n : Int) ≤ 57 := by omega
    have c45 : ((n : Int) == 45) = true := by rw [beq_iff_eq]; omega
    have c46 : ((n : Int) == 46) = false := by rw [beq_eq_false_iff_ne]; omega
    have c95 : ((n : Int) == 95) = false := by rw [beq_eq_false_iff_ne]; omega
    have c126 : ((n : Int) == 126) = false := by rw [beq_eq_false_iff_ne]; omega
    clear hc g1
    go_enter Tryd.func29, Tryd.ntmps29
    go_wp2
    go_ret
    exact ⟨rfl, rfl⟩
  by_cases g2 : 46 ≤ c.toNat ∧ c.toNat ≤ 46
  · have e : plB c = true := by unfold plB; exact decide_eq_true (by omega)
    rw [e]
    clear e
    clear g0 g1
    generalize c.toNat = n at *
    have a97 : ¬ (97 : Int) ≤ (n : Int) := by omega
    have a65 : ¬ (65 : Int) ≤ (n : Int) := by omega
    have a48 : ¬ (48 : Int) ≤ (n : Int) := by omega
    have b122 : (n : Int) ≤ 122 := by omega
    have b90 : (n : Int) ≤ 90 := by omega
    have b57 : (n : Int) ≤ 57 := by omega
    have c45 : ((n : Int) == 45) = false := by rw [beq_eq_false_iff_ne]; omega
    have c46 : ((n : Int) == 46) = true := by rw [beq_iff_eq]; omega
    have c95 : ((n : Int) == 95) = false := by rw [beq_eq_false_iff_ne]; omega
    have c126 : ((n : Int) == 126) = false := by rw [beq_eq_false_iff_ne]; omega
    clear hc g2
    go_enter Tryd.func29, Tryd.ntmps29
    go_wp2
    go_ret
    exact ⟨rfl, rfl⟩
  by_cases g3 : 47 ≤ c.toNat ∧ c.toNat ≤ 47
  · have e : plB c = false := by unfold plB; exact decide_eq_false (by omega)
    rw [e]
    clear e
    clear g0 g1 g2
    generalize c.toNat = n at *
    have a97 : ¬ (97 : Int) ≤ (n : Int) := by omega
    have a65 : ¬ (65 : Int) ≤ (n : Int) := by omega
    have a48 : ¬ (48 : Int) ≤ (n : Int) := by omega
    have b122 : (n : Int) ≤ 122 := by omega
    have b90 : (n : Int) ≤ 90 := by omega
    have b57 : (n : Int) ≤ 57 := by omega
    have c45 : ((n : Int) == 45) = false := by rw [beq_eq_false_iff_ne]; omega
    have c46 : ((n : Int) == 46) = false := by rw [beq_eq_false_iff_ne]; omega
    have c95 : ((n : Int) == 95) = false := by rw [beq_eq_false_iff_ne]; omega
    have c126 : ((n : Int) == 126) = false := by rw [beq_eq_false_iff_ne]; omega
    clear hc g3
    go_enter Tryd.func29, Tryd.ntmps29
    go_wp2
    go_ret
    exact ⟨rfl, rfl⟩
  by_cases g4 : 48 ≤ c.toNat ∧ c.toNat ≤ 57
  · have e : plB c = true := by unfold plB; exact decide_eq_true (by omega)
    rw [e]
    clear e
    clear g0 g1 g2 g3
    generalize c.toNat = n at *
    have a97 : ¬ (97 : Int) ≤ (n : Int) := by omega
    have a65 : ¬ (65 : Int) ≤ (n : Int) := by omega
    have a48 : (48 : Int) ≤ (n : Int) := by omega
    have b122 : (n : Int) ≤ 122 := by omega
    have b90 : (n : Int) ≤ 90 := by omega
    have b57 : (n : Int) ≤ 57 := by omega
    have c45 : ((n : Int) == 45) = false := by rw [beq_eq_false_iff_ne]; omega
    have c46 : ((n : Int) == 46) = false := by rw [beq_eq_false_iff_ne]; omega
    have c95 : ((n : Int) == 95) = false := by rw [beq_eq_false_iff_ne]; omega
    have c126 : ((n : Int) == 126) = false := by rw [beq_eq_false_iff_ne]; omega
    clear hc g4
    go_enter Tryd.func29, Tryd.ntmps29
    go_wp2
    go_ret
    exact ⟨rfl, rfl⟩
  by_cases g5 : 58 ≤ c.toNat ∧ c.toNat ≤ 64
  · have e : plB c = false := by unfold plB; exact decide_eq_false (by omega)
    rw [e]
    clear e
    clear g0 g1 g2 g3 g4
    generalize c.toNat = n at *
    have a97 : ¬ (97 : Int) ≤ (n : Int) := by omega
    have a65 : ¬ (65 : Int) ≤ (n : Int) := by omega
    have a48 : (48 : Int) ≤ (n : Int) := by omega
    have b122 : (n : Int) ≤ 122 := by omega
    have b90 : (n : Int) ≤ 90 := by omega
    have b57 : ¬ (n : Int) ≤ 57 := by omega
    have c45 : ((n : Int) == 45) = false := by rw [beq_eq_false_iff_ne]; omega
    have c46 : ((n : Int) == 46) = false := by rw [beq_eq_false_iff_ne]; omega
    have c95 : ((n : Int) == 95) = false := by rw [beq_eq_false_iff_ne]; omega
    have c126 : ((n : Int) == 126) = false := by rw [beq_eq_false_iff_ne]; omega
    clear hc g5
    go_enter Tryd.func29, Tryd.ntmps29
    go_wp2
    go_ret
    exact ⟨rfl, rfl⟩
  by_cases g6 : 65 ≤ c.toNat ∧ c.toNat ≤ 90
  · have e : plB c = true := by unfold plB; exact decide_eq_true (by omega)
    rw [e]
    clear e
    clear g0 g1 g2 g3 g4 g5
    generalize c.toNat = n at *
    have a97 : ¬ (97 : Int) ≤ (n : Int) := by omega
    have a65 : (65 : Int) ≤ (n : Int) := by omega
    have a48 : (48 : Int) ≤ (n : Int) := by omega
    have b122 : (n : Int) ≤ 122 := by omega
    have b90 : (n : Int) ≤ 90 := by omega
    have b57 : ¬ (n : Int) ≤ 57 := by omega
    have c45 : ((n : Int) == 45) = false := by rw [beq_eq_false_iff_ne]; omega
    have c46 : ((n : Int) == 46) = false := by rw [beq_eq_false_iff_ne]; omega
    have c95 : ((n : Int) == 95) = false := by rw [beq_eq_false_iff_ne]; omega
    have c126 : ((n : Int) == 126) = false := by rw [beq_eq_false_iff_ne]; omega
    clear hc g6
    go_enter Tryd.func29, Tryd.ntmps29
    go_wp2
    go_ret
    exact ⟨rfl, rfl⟩
  by_cases g7 : 91 ≤ c.toNat ∧ c.toNat ≤ 94
  · have e : plB c = false := by unfold plB; exact decide_eq_false (by omega)
    rw [e]
    clear e
    clear g0 g1 g2 g3 g4 g5 g6
    generalize c.toNat = n at *
    have a97 : ¬ (97 : Int) ≤ (n : Int) := by omega
    have a65 : (65 : Int) ≤ (n : Int) := by omega
    have a48 : (48 : Int) ≤ (n : Int) := by omega
    have b122 : (n : Int) ≤ 122 := by omega
    have b90 : ¬ (n : Int) ≤ 90 := by omega
    have b57 : ¬ (n : Int) ≤ 57 := by omega
    have c45 : ((n : Int) == 45) = false := by rw [beq_eq_false_iff_ne]; omega
    have c46 : ((n : Int) == 46) = false := by rw [beq_eq_false_iff_ne]; omega
    have c95 : ((n : Int) == 95) = false := by rw [beq_eq_false_iff_ne]; omega
    have c126 : ((n : Int) == 126) = false := by rw [beq_eq_false_iff_ne]; omega
    clear hc g7
    go_enter Tryd.func29, Tryd.ntmps29
    go_wp2
    go_ret
    exact ⟨rfl, rfl⟩
  by_cases g8 : 95 ≤ c.toNat ∧ c.toNat ≤ 95
  · have e : plB c = true := by unfold plB; exact decide_eq_true (by omega)
    rw [e]
    clear e
    clear g0 g1 g2 g3 g4 g5 g6 g7
    generalize c.toNat = n at *
    have a97 : ¬ (97 : Int) ≤ (n : Int) := by omega
    have a65 : (65 : Int) ≤ (n : Int) := by omega
    have a48 : (48 : Int) ≤ (n : Int) := by omega
    have b122 : (n : Int) ≤ 122 := by omega
    have b90 : ¬ (n : Int) ≤ 90 := by omega
    have b57 : ¬ (n : Int) ≤ 57 := by omega
    have c45 : ((n : Int) == 45) = false := by rw [beq_eq_false_iff_ne]; omega
    have c46 : ((n : Int) == 46) = false := by rw [beq_eq_false_iff_ne]; omega
    have c95 : ((n : Int) == 95) = true := by rw [beq_iff_eq]; omega
    have c126 : ((n : Int) == 126) = false := by rw [beq_eq_false_iff_ne]; omega
    clear hc g8
    go_enter Tryd.func29, Tryd.ntmps29
    go_wp2
    go_ret
    exact ⟨rfl, rfl⟩
  by_cases g9 : 96 ≤ c.toNat ∧ c.toNat ≤ 96
  · have e : plB c = false := by unfold plB; exact decide_eq_false (by omega)
    rw [e]
    clear e
    clear g0 g1 g2 g3 g4 g5 g6 g7 g8
    generalize c.toNat = n at *
    have a97 : ¬ (97 : Int) ≤ (n : Int) := by omega
    have a65 : (65 : Int) ≤ (n : Int) := by omega
    have a48 : (48 : Int) ≤ (n : Int) := by omega
    have b122 : (n : Int) ≤ 122 := by omega
    have b90 : ¬ (n : Int) ≤ 90 := by omega
    have b57 : ¬ (n : Int) ≤ 57 := by omega
    have c45 : ((n : Int) == 45) = false := by rw [beq_eq_false_iff_ne]; omega
    have c46 : ((n : Int) == 46) = false := by rw [beq_eq_false_iff_ne]; omega
    have c95 : ((n : Int) == 95) = false := by rw [beq_eq_false_iff_ne]; omega
    have c126 : ((n : Int) == 126) = false := by rw [beq_eq_false_iff_ne]; omega
    clear hc g9
    go_enter Tryd.func29, Tryd.ntmps29
    go_wp2
    go_ret
    exact ⟨rfl, rfl⟩
  by_cases g10 : 97 ≤ c.toNat ∧ c.toNat ≤ 122
  · have e : plB c = true := by unfold plB; exact decide_eq_true (by omega)
    rw [e]
    clear e
    clear g0 g1 g2 g3 g4 g5 g6 g7 g8 g9
    generalize c.toNat = n at *
    have a97 : (97 : Int) ≤ (n : Int) := by omega
    have a65 : (65 : Int) ≤ (n : Int) := by omega
    have a48 : (48 : Int) ≤ (n : Int) := by omega
    have b122 : (n : Int) ≤ 122 := by omega
    have b90 : ¬ (n : Int) ≤ 90 := by omega
    have b57 : ¬ (n : Int) ≤ 57 := by omega
    have c45 : ((n : Int) == 45) = false := by rw [beq_eq_false_iff_ne]; omega
    have c46 : ((n : Int) == 46) = false := by rw [beq_eq_false_iff_ne]; omega
    have c95 : ((n : Int) == 95) = false := by rw [beq_eq_false_iff_ne]; omega
    have c126 : ((n : Int) == 126) = false := by rw [beq_eq_false_iff_ne]; omega
    clear hc g10
    go_enter Tryd.func29, Tryd.ntmps29
    go_wp2
    go_ret
    exact ⟨rfl, rfl⟩
  by_cases g11 : 123 ≤ c.toNat ∧ c.toNat ≤ 125
  · have e : plB c = false := by unfold plB; exact decide_eq_false (by omega)
    rw [e]
    clear e
    clear g0 g1 g2 g3 g4 g5 g6 g7 g8 g9 g10
    generalize c.toNat = n at *
    have a97 : (97 : Int) ≤ (n : Int) := by omega
    have a65 : (65 : Int) ≤ (n : Int) := by omega
    have a48 : (48 : Int) ≤ (n : Int) := by omega
    have b122 : ¬ (n : Int) ≤ 122 := by omega
    have b90 : ¬ (n : Int) ≤ 90 := by omega
    have b57 : ¬ (n : Int) ≤ 57 := by omega
    have c45 : ((n : Int) == 45) = false := by rw [beq_eq_false_iff_ne]; omega
    have c46 : ((n : Int) == 46) = false := by rw [beq_eq_false_iff_ne]; omega
    have c95 : ((n : Int) == 95) = false := by rw [beq_eq_false_iff_ne]; omega
    have c126 : ((n : Int) == 126) = false := by rw [beq_eq_false_iff_ne]; omega
    clear hc g11
    go_enter Tryd.func29, Tryd.ntmps29
    go_wp2
    go_ret
    exact ⟨rfl, rfl⟩
  by_cases g12 : 126 ≤ c.toNat ∧ c.toNat ≤ 126
  · have e : plB c = true := by unfold plB; exact decide_eq_true (by omega)
    rw [e]
    clear e
    clear g0 g1 g2 g3 g4 g5 g6 g7 g8 g9 g10 g11
    generalize c.toNat = n at *
    have a97 : (97 : Int) ≤ (n : Int) := by omega
    have a65 : (65 : Int) ≤ (n : Int) := by omega
    have a48 : (48 : Int) ≤ (n : Int) := by omega
    have b122 : ¬ (n : Int) ≤ 122 := by omega
    have b90 : ¬ (n : Int) ≤ 90 := by omega
    have b57 : ¬ (n : Int) ≤ 57 := by omega
    have c45 : ((n : Int) == 45) = false := by rw [beq_eq_false_iff_ne]; omega
    have c46 : ((n : Int) == 46) = false := by rw [beq_eq_false_iff_ne]; omega
    have c95 : ((n : Int) == 95) = false := by rw [beq_eq_false_iff_ne]; omega
    have c126 : ((n : Int) == 126) = true := by rw [beq_iff_eq]; omega
    clear hc g12
    go_enter Tryd.func29, Tryd.ntmps29
    go_wp2
    go_ret
    exact ⟨rfl, rfl⟩
  have g13 : 127 ≤ c.toNat ∧ c.toNat ≤ 255 := by omega
  have e : plB c = false := by unfold plB; exact decide_eq_false (by omega)
  rw [e]
  clear e
  clear g0 g1 g2 g3 g4 g5 g6 g7 g8 g9 g10 g11 g12
  generalize c.toNat = n at *
  have a97 : (97 : Int) ≤ (n : Int) := by omega
  have a65 : (65 : Int) ≤ (n : Int) := by omega
  have a48 : (48 : Int) ≤ (n : Int) := by omega
  have b122 : ¬ (n : Int) ≤ 122 := by omega
  have b90 : ¬ (n : Int) ≤ 90 := by omega
  have b57 : ¬ (n : Int) ≤ 57 := by omega
  have c45 : ((n : Int) == 45) = false := by rw [beq_eq_false_iff_ne]; omega
  have c46 : ((n : Int) == 46) = false := by rw [beq_eq_false_iff_ne]; omega
  have c95 : ((n : Int) == 95) = false := by rw [beq_eq_false_iff_ne]; omega
  have c126 : ((n : Int) == 126) = false := by rw [beq_eq_false_iff_ne]; omega
  clear hc g13
  go_enter Tryd.func29, Tryd.ntmps29
  go_wp2
  go_ret
  exact ⟨rfl, rfl⟩
set_option maxRecDepth 100000 in
set_option maxHeartbeats 2000000 in
theorem rplain_any (c : UInt8) (w : World) : Calls Tryd.prog 42 #[.int .u8 (c.toNat : Int)] w fun e w' => e = .returned (.bool (plB c)) ∧ w' = w := by
  have hc := UInt8.toNat_lt c
  by_cases g0 : 0 ≤ c.toNat ∧ c.toNat ≤ 44
  · have e : plB c = false := by unfold plB; exact decide_eq_false (by omega)
    rw [e]
    clear e
    skip
    generalize c.toNat = n at *
    have a97 : ¬ (97 : Int) ≤ (n : Int) := by omega
    have a65 : ¬ (65 : Int) ≤ (n : Int) := by omega
    have a48 : ¬ (48 : Int) ≤ (n : Int) := by omega
    have b122 : (n : Int) ≤ 122 := by omega
    have b90 : (n : Int) ≤ 90 := by omega
    have b57 : (n : Int) ≤ 57 := by omega
    have c45 : ((n : Int) == 45) = false := by rw [beq_eq_false_iff_ne]; omega
    have c46 : ((n : Int) == 46) = false := by rw [beq_eq_false_iff_ne]; omega
    have c95 : ((n : Int) == 95) = false := by rw [beq_eq_false_iff_ne]; omega
    have c126 : ((n : Int) == 126) = false := by rw [beq_eq_false_iff_ne]; omega
    clear hc g0
    go_enter Tryd.func42, Tryd.ntmps42
    go_wp2
    go_ret
    exact ⟨rfl, rfl⟩
  by_cases g1 : 45 ≤ c.toNat ∧ c.toNat ≤ 45
  · have e : plB c = true := by unfold plB; exact decide_eq_true (by omega)
    rw [e]
    clear e
    clear g0
    generalize c.toNat = n at *
    have a97 : ¬ (97 : Int) ≤ (n : Int) := by omega
    have a65 : ¬ (65 : Int) ≤ (n : Int) := by omega
    have a48 : ¬ (48 : Int) ≤ (n : Int) := by omega
    have b122 : (n : Int) ≤ 122 := by omega
    have b90 : (n : Int) ≤ 90 := by omega
    have b57 : (n : Int) ≤ 57 := by omega
    have c45 : ((n : Int) == 45) = true := by rw [beq_iff_eq]; omega
    have c46 : ((n : Int) == 46) = false := by rw [beq_eq_false_iff_ne]; omega
    have c95 : ((n : Int) == 95) = false := by rw [beq_eq_false_iff_ne]; omega
    have c126 : ((n : Int) == 126) = false := by rw [beq_eq_false_iff_ne]; omega
    clear hc g1
    go_enter Tryd.func42, Tryd.ntmps42
    go_wp2
    go_ret
    exact ⟨rfl, rfl⟩
  by_cases g2 : 46 ≤ c.toNat ∧ c.toNat ≤ 46
  · have e : plB c = true := by unfold plB; exact decide_eq_true (by omega)
    rw [e]
    clear e
    clear g0 g1
    generalize c.toNat = n at *
    have a97 : ¬ (97 : Int) ≤ (n : Int) := by omega
    have a65 : ¬ (65 : Int) ≤ (n : Int) := by omega
    have a48 : ¬ (48 : Int) ≤ (n : Int) := by omega
    have b122 : (n : Int) ≤ 122 := by omega
    have b90 : (n : Int) ≤ 90 := by omega
    have b57 : (n : Int) ≤ 57 := by omega
    have c45 : ((n : Int) == 45) = false := by rw [beq_eq_false_iff_ne]; omega
    have c46 : ((n : Int) == 46) = true := by rw [beq_iff_eq]; omega
    have c95 : ((n : Int) == 95) = false := by rw [beq_eq_false_iff_ne]; omega
    have c126 : ((n : Int) == 126) = false := by rw [beq_eq_false_iff_ne]; omega
    clear hc g2
    go_enter Tryd.func42, Tryd.ntmps42
    go_wp2
    go_ret
    exact ⟨rfl, rfl⟩
  by_cases g3 : 47 ≤ c.toNat ∧ c.toNat ≤ 47
  · have e : plB c = false := by unfold plB; exact decide_eq_false (by omega)
    rw [e]
    clear e
    clear g0 g1 g2
    generalize c.toNat = n at *
    have a97 : ¬ (97 : Int) ≤ (n : Int) := by omega
    have a65 : ¬ (65 : Int) ≤ (n : Int) := by omega
    have a48 : ¬ (48 : Int) ≤ (n : Int) := by omega
    have b122 : (n : Int) ≤ 122 := by omega
    have b90 : (n : Int) ≤ 90 := by omega
    have b57 : (n : Int) ≤ 57 := by omega
    have c45 : ((n : Int) == 45) = false := by rw [beq_eq_false_iff_ne]; omega
    have c46 : ((n : Int) == 46) = false := by rw [beq_eq_false_iff_ne]; omega
    have c95 : ((n : Int) == 95) = false := by rw [beq_eq_false_iff_ne]; omega
    have c126 : ((n : Int) == 126) = false := by rw [beq_eq_false_iff_ne]; omega
    clear hc g3
    go_enter Tryd.func42, Tryd.ntmps42
    go_wp2
    go_ret
    exact ⟨rfl, rfl⟩
  by_cases g4 : 48 ≤ c.toNat ∧ c.toNat ≤ 57
  · have e : plB c = true := by unfold plB; exact decide_eq_true (by omega)
    rw [e]
    clear e
    clear g0 g1 g2 g3
    generalize c.toNat = n at *
    have a97 : ¬ (97 : Int) ≤ (n : Int) := by omega
    have a65 : ¬ (65 : Int) ≤ (n : Int) := by omega
    have a48 : (48 : Int) ≤ (n : Int) := by omega
    have b122 : (n : Int) ≤ 122 := by omega
    have b90 : (n : Int) ≤ 90 := by omega
    have b57 : (n : Int) ≤ 57 := by omega
    have c45 : ((n : Int) == 45) = false := by rw [beq_eq_false_iff_ne]; omega
    have c46 : ((n : Int) == 46) = false := by rw [beq_eq_false_iff_ne]; omega
    have c95 : ((n : Int) == 95) = false := by rw [beq_eq_false_iff_ne]; omega
    have c126 : ((n : Int) == 126) = false := by rw [beq_eq_false_iff_ne]; omega
    clear hc g4
    go_enter Tryd.func42, Tryd.ntmps42
    go_wp2
    go_ret
    exact ⟨rfl, rfl⟩
  by_cases g5 : 58 ≤ c.toNat ∧ c.toNat ≤ 64
  · have e : plB c = false := by unfold plB; exact decide_eq_false (by omega)
    rw [e]
    clear e
    clear g0 g1 g2 g3 g4
    generalize c.toNat = n at *
    have a97 : ¬ (97 : Int) ≤ (n : Int) := by omega
    have a65 : ¬ (65 : Int) ≤ (n : Int) := by omega
    have a48 : (48 : Int) ≤ (n : Int) := by omega
    have b122 : (n : Int) ≤ 122 := by omega
    have b90 : (n : Int) ≤ 90 := by omega
    have b57 : ¬ (n : Int) ≤ 57 := by omega
    have c45 : ((n : Int) == 45) = false := by rw [beq_eq_false_iff_ne]; omega
    have c46 : ((n : Int) == 46) = false := by rw [beq_eq_false_iff_ne]; omega
    have c95 : ((n : Int) == 95) = false := by rw [beq_eq_false_iff_ne]; omega
    have c126 : ((n : Int) == 126) = false := by rw [beq_eq_false_iff_ne]; omega
    clear hc g5
    go_enter Tryd.func42, Tryd.ntmps42
    go_wp2
    go_ret
    exact ⟨rfl, rfl⟩
  by_cases g6 : 65 ≤ c.toNat ∧ c.toNat ≤ 90
  · have e : plB c = true := by unfold plB; exact decide_eq_true (by omega)
    rw [e]
    clear e
    clear g0 g1 g2 g3 g4 g5
    generalize c.toNat = n at *
    have a97 : ¬ (97 : Int) ≤ (n : Int) := by omega
    have a65 : (65 : Int) ≤ (n : Int) := by omega
    have a48 : (48 : Int) ≤ (n : Int) := by omega
    have b122 : (n : Int) ≤ 122 := by omega
    have b90 : (n : Int) ≤ 90 := by omega
    have b57 : ¬ (n : Int) ≤ 57 := by omega
    have c45 : ((n : Int) == 45) = false := by rw [beq_eq_false_iff_ne]; omega
    have c46 : ((n : Int) == 46) = false := by rw [beq_eq_false_iff_ne]; omega
    have c95 : ((n : Int) == 95) = false := by rw [beq_eq_false_iff_ne]; omega
    have c126 : ((n : Int) == 126) = false := by rw [beq_eq_false_iff_ne]; omega
    clear hc g6
    go_enter Tryd.func42, Tryd.ntmps42
    go_wp2
    go_ret
    exact ⟨rfl, rfl⟩
  by_cases g7 : 91 ≤ c.toNat ∧ c.toNat ≤ 94
  · have e : plB c = false := by unfold plB; exact decide_eq_false (by omega)
    rw [e]
    clear e
    clear g0 g1 g2 g3 g4 g5 g6
    generalize c.toNat = n at *
    have a97 : ¬ (97 : Int) ≤ (n : Int) := by omega
    have a65 : (65 : Int) ≤ (n : Int) := by omega
    have a48 : (48 : Int) ≤ (n : Int) := by omega
    have b122 : (n : Int) ≤ 122 := by omega
    have b90 : ¬ (n : Int) ≤ 90 := by omega
    have b57 : ¬ (n : Int) ≤ 57 := by omega
    have c45 : ((n : Int) == 45) = false := by rw [beq_eq_false_iff_ne]; omega
    have c46 : ((n : Int) == 46) = false := by rw [beq_eq_false_iff_ne]; omega
    have c95 : ((n : Int) == 95) = false := by rw [beq_eq_false_iff_ne]; omega
    have c126 : ((n : Int) == 126) = false := by rw [beq_eq_false_iff_ne]; omega
    clear hc g7
    go_enter Tryd.func42, Tryd.ntmps42
    go_wp2
    go_ret
    exact ⟨rfl, rfl⟩
  by_cases g8 : 95 ≤ c.toNat ∧ c.toNat ≤ 95
  · have e : plB c = true := by unfold plB; exact decide_eq_true (by omega)
    rw [e]
    clear e
    clear g0 g1 g2 g3 g4 g5 g6 g7
    generalize c.toNat = n at *
    have a97 : ¬ (97 : Int) ≤ (n : Int) := by omega
    have a65 : (65 : Int) ≤ (n : Int) := by omega
    have a48 : (48 : Int) ≤ (n : Int) := by omega
    have b122 : (n : Int) ≤ 122 := by omega
    have b90 : ¬ (n : Int) ≤ 90 := by omega
    have b57 : ¬ (n : Int) ≤ 57 := by omega
    have c45 : ((n : Int) == 45) = false := by rw [beq_eq_false_iff_ne]; omega
    have c46 : ((n : Int) == 46) = false := by rw [beq_eq_false_iff_ne]; omega
    have c95 : ((n : Int) == 95) = true := by rw [beq_iff_eq]; omega
    have c126 : ((n : Int) == 126) = false := by rw [beq_eq_false_iff_ne]; omega
    clear hc g8
    go_enter Tryd.func42, Tryd.ntmps42
    go_wp2
    go_ret
    exact ⟨rfl, rfl⟩
  by_cases g9 : 96 ≤ c.toNat ∧ c.toNat ≤ 96
  · have e : plB c = false := by unfold plB; exact decide_eq_false (by omega)
    rw [e]
    clear e
    clear g0 g1 g2 g3 g4 g5 g6 g7 g8
    generalize c.toNat = n at *
    have a97 : ¬ (97 : Int) ≤ (n : Int) := by omega
    have a65 : (65 : Int) ≤ (n : Int) := by omega
    have a48 : (48 : Int) ≤ (n : Int) := by omega
    have b122 : (n : Int) ≤ 122 := by omega
    have b90 : ¬ (n : Int) ≤ 90 := by omega
    have b57 : ¬ (n : Int) ≤ 57 := by omega
    have c45 : ((n : Int) == 45) = false := by rw [beq_eq_false_iff_ne]; omega
    have c46 : ((n : Int) == 46) = false := by rw [beq_eq_false_iff_ne]; omega
    have c95 : ((n : Int) == 95) = false := by rw [beq_eq_false_iff_ne]; omega
    have c126 : ((n : Int) == 126) = false := by rw [beq_eq_false_iff_ne]; omega
    clear hc g9
    go_enter Tryd.func42, Tryd.ntmps42
    go_wp2
    go_ret
    exact ⟨rfl, rfl⟩
  by_cases g10 : 97 ≤ c.toNat ∧ c.toNat ≤ 122
  · have e : plB c = true := by unfold plB; exact decide_eq_true (by omega)
    rw [e]
    clear e
    clear g0 g1 g2 g3 g4 g5 g6 g7 g8 g9
    generalize c.toNat = n at *
    have a97 : (97 : Int) ≤ (n : Int) := by omega
    have a65 : (65 : Int) ≤ (n : Int) := by omega
    have a48 : (48 : Int) ≤ (n : Int) := by omega
    have b122 : (n : Int) ≤ 122 := by omega
    have b90 : ¬ (n : Int) ≤ 90 := by omega
    have b57 : ¬ (n : Int) ≤ 57 := by omega
    have c45 : ((n : Int) == 45) = false := by rw [beq_eq_false_iff_ne]; omega
    have c46 : ((n : Int) == 46) = false := by rw [beq_eq_false_iff_ne]; omega
    have c95 : ((n : Int) == 95) = false := by rw [beq_eq_false_iff_ne]; omega
    have c126 : ((n : Int) == 126) = false := by rw [beq_eq_false_iff_ne]; omega
    clear hc g10
    go_enter Tryd.func42, Tryd.ntmps42
    go_wp2
    go_ret
    exact ⟨rfl, rfl⟩
  by_cases g11 : 123 ≤ c.toNat ∧ c.toNat ≤ 125
  · have e : plB c = false := by unfold plB; exact decide_eq_false (by omega)
    rw [e]
    clear e
    clear g0 g1 g2 g3 g4 g5 g6 g7 g8 g9 g10
    generalize c.toNat = n at *
    have a97 : (97 : Int) ≤ (n : Int) := by omega
    have a65 : (65 : Int) ≤ (n : Int) := by omega
    have a48 : (48 : Int) ≤ (n : Int) := by omega
    have b122 : ¬ (n : Int) ≤ 122 := by omega
    have b90 : ¬ (n : Int) ≤ 90 := by omega
    have b57 : ¬ (n : Int) ≤ 57 := by omega
    have c45 : ((n : Int) == 45) = false := by rw [beq_eq_false_iff_ne]; omega
    have c46 : ((n : Int) == 46) = false := by rw [beq_eq_false_iff_ne]; omega
    have c95 : ((n : Int) == 95) = false := by rw [beq_eq_false_iff_ne]; omega
    have c126 : ((n : Int) == 126) = false := by rw [beq_eq_false_iff_ne]; omega
    clear hc g11
    go_enter Tryd.func42, Tryd.ntmps42
    go_wp2
    go_ret
    exact ⟨rfl, rfl⟩
  by_cases g12 : 126 ≤ c.toNat ∧ c.toNat ≤ 126
  · have e : plB c = true := by unfold plB; exact decide_eq_true (by omega)
    rw [e]
    clear e
    clear g0 g1 g2 g3 g4 g5 g6 g7 g8 g9 g10 g11
    generalize c.toNat = n at *
    have a97 : (97 : Int) ≤ (n : Int) := by omega
    have a65 : (65 : Int) ≤ (n : Int) := by omega
    have a48 : (48 : Int) ≤ (n : Int) := by omega
    have b122 : ¬ (n : Int) ≤ 122 := by omega
    have b90 : ¬ (n : Int) ≤ 90 := by omega
    have b57 : ¬ (n : Int) ≤ 57 := by omega
    have c45 : ((n : Int) == 45) = false := by rw [beq_eq_false_iff_ne]; omega
    have c46 : ((n : Int) == 46) = false := by rw [beq_eq_false_iff_ne]; omega
    have c95 : ((n : Int) == 95) = false := by rw [beq_eq_false_iff_ne]; omega
    have c126 : ((n : Int) == 126) = true := by rw [beq_iff_eq]; omega
    clear hc g12
    go_enter Tryd.func42, Tryd.ntmps42
    go_wp2
    go_ret
    exact ⟨rfl, rfl⟩
  have g13 : 127 ≤ c.toNat ∧ c.toNat ≤ 255 := by omega
  have e : plB c = false := by unfold plB; exact decide_eq_false (by omega)
  rw [e]
  clear e
  clear g0 g1 g2 g3 g4 g5 g6 g7 g8 g9 g10 g11 g12
  generalize c.toNat = n at *
  have a97 : (97 : Int) ≤ (n : Int) := by omega
  have a65 : (65 : Int) ≤ (n : Int) := by omega
  have a48 : (48 : Int) ≤ (n : Int) := by omega
  have b122 : ¬ (n : Int) ≤ 122 := by omega
  have b90 : ¬ (n : Int) ≤ 90 := by omega
  have b57 : ¬ (n : Int) ≤ 57 := by omega
  have c45 : ((n : Int) == 45) = false := by rw [beq_eq_false_iff_ne]; omega
  have c46 : ((n : Int) == 46) = false := by rw [beq_eq_false_iff_ne]; omega
  have c95 : ((n : Int) == 95) = false := by rw [beq_eq_false_iff_ne]; omega
  have c126 : ((n : Int) == 126) = false := by rw [beq_eq_false_iff_ne]; omega
  clear hc g13
  go_enter Tryd.func42, Tryd.ntmps42
  go_wp2
  go_ret
  exact ⟨rfl, rfl⟩
set_option maxRecDepth 100000 in
set_option maxHeartbeats 2000000 in
theorem isRaw_any (c : UInt8) (w : World) : Calls Tryd.prog 25 #[.int .u8 (c.toNat : Int)] w fun e w' => e = .returned (.bool (rwB c)) ∧ w' = w := by
  have hc := UInt8.toNat_lt c
  by_cases g0 : 0 ≤ c.toNat ∧ c.toNat ≤ 32
  · have e : rwB c = false := by unfold rwB; exact decide_eq_false (by omega)
    rw [e]
    clear e
    skip
    generalize c.toNat = n at *
    have a33 : ¬ (33 : Int) ≤ (n : Int) := by omega
    have b126 : (n : Int) ≤ 126 := by omega
    have c37 : ((n : Int) == 37) = false := by rw [beq_eq_false_iff_ne]; omega
    have c35 : ((n : Int) == 35) = false := by rw [beq_eq_false_iff_ne]; omega
    have d37 : ((n : Int) != 37) = true := by unfold bne; rw [c37]; rfl
    have d35 : ((n : Int) != 35) = true := by unfold bne; rw [c35]; rfl
    clear hc g0
    go_enter Tryd.func25, Tryd.ntmps25
    go_wp2
    go_ret
    exact ⟨rfl, rfl⟩
  by_cases g1 : 33 ≤ c.toNat ∧ c.toNat ≤ 34
  · have e : rwB c = true := by unfold rwB; exact decide_eq_true (by omega)
    rw [e]
    clear e
    clear g0
    generalize c.toNat = n at *
    have a33 : (33 : Int) ≤ (n : Int) := by omega
    have b126 : (n : Int) ≤ 126 := by omega
    have c37 : ((n : Int) == 37) = false := by rw [beq_eq_false_iff_ne]; omega
    have c35 : ((n : Int) == 35) = false := by rw [beq_eq_false_iff_ne]; omega
    have d37 : ((n : Int) != 37) = true := by unfold bne; rw [c37]; rfl
    have d35 : ((n : Int) != 35) = true := by unfold bne; rw [c35]; rfl
    clear hc g1
    go_enter Tryd.func25, Tryd.ntmps25
    go_wp2
    go_ret
    exact ⟨rfl, rfl⟩
  by_cases g2 : 35 ≤ c.toNat ∧ c.toNat ≤ 35
  · have e : rwB c = false := by unfold rwB; exact decide_eq_false (by omega)
    rw [e]
    clear e
    clear g0 g1
    generalize c.toNat = n at *
    have a33 : (33 : Int) ≤ (n : Int) := by omega
    have b126 : (n : Int) ≤ 126 := by omega
    have c37 : ((n : Int) == 37) = false := by rw [beq_eq_false_iff_ne]; omega
    have c35 : ((n : Int) == 35) = true := by rw [beq_iff_eq]; omega
    have d37 : ((n : Int) != 37) = true := by unfold bne; rw [c37]; rfl
    have d35 : ((n : Int) != 35) = false := by unfold bne; rw [c35]; rfl
    clear hc g2
    go_enter Tryd.func25, Tryd.ntmps25
    go_wp2
    go_ret
    exact ⟨rfl, rfl⟩
  by_cases g3 : 36 ≤ c.toNat ∧ c.toNat ≤ 36
  · have e : rwB c = true := by unfold rwB; exact decide_eq_true (by omega)
    rw [e]
    clear e
    clear g0 g1 g2
    generalize c.toNat = n at *
    have a33 : (33 : Int) ≤ (n : Int) := by omega
    have b126 : (n : Int) ≤ 126 := by omega
    have c37 : ((n : Int) == 37) = false := by rw [beq_eq_false_iff_ne]; omega
    have c35 : ((n : Int) == 35) = false := by rw [beq_eq_false_iff_ne]; omega
    have d37 : ((n : Int) != 37) = true := by unfold bne; rw [c37]; rfl
    have d35 : ((n : Int) != 35) = true := by unfold bne; rw [c35]; rfl
    clear hc g3
    go_enter Tryd.func25, Tryd.ntmps25
    go_wp2
    go_ret
    exact ⟨rfl, rfl⟩
  by_cases g4 : 37 ≤ c.toNat ∧ c.toNat ≤ 37
  · have e : rwB c = false := by unfold rwB; exact decide_eq_false (by omega)
    rw [e]
    clear e
    clear g0 g1 g2 g3
    generalize c.toNat = n at *
    have a33 : (33 : Int) ≤ (n : Int) := by omega
    have b126 : (n : Int) ≤ 126 := by omega
    have c37 : ((n : Int) == 37) = true := by rw [beq_iff_eq]; omega
    have c35 : ((n : Int) == 35) = false := by rw [beq_eq_false_iff_ne]; omega
    have d37 : ((n : Int) != 37) = false := by unfold bne; rw [c37]; rfl
    have d35 : ((n : Int) != 35) = true := by unfold bne; rw [c35]; rfl
    clear hc g4
    go_enter Tryd.func25, Tryd.ntmps25
    go_wp2
    go_ret
    exact ⟨rfl, rfl⟩
  by_cases g5 : 38 ≤ c.toNat ∧ c.toNat ≤ 126
  · have e : rwB c = true := by unfold rwB; exact decide_eq_true (by omega)
    rw [e]
    clear e
    clear g0 g1 g2 g3 g4
    generalize c.toNat = n at *
    have a33 : (33 : Int) ≤ (n : Int) := by omega
    have b126 : (n : Int) ≤ 126 := by omega
    have c37 : ((n : Int) == 37) = false := by rw [beq_eq_false_iff_ne]; omega
    have c35 : ((n : Int) == 35) = false := by rw [beq_eq_false_iff_ne]; omega
    have d37 : ((n : Int) != 37) = true := by unfold bne; rw [c37]; rfl
    have d35 : ((n : Int) != 35) = true := by unfold bne; rw [c35]; rfl
    clear hc g5
    go_enter Tryd.func25, Tryd.ntmps25
    go_wp2
    go_ret
    exact ⟨rfl, rfl⟩
  have g6 : 127 ≤ c.toNat ∧ c.toNat ≤ 255 := by omega
  have e : rwB c = false := by unfold rwB; exact decide_eq_false (by omega)
  rw [e]
  clear e
  clear g0 g1 g2 g3 g4 g5
  generalize c.toNat = n at *
  have a33 : (33 : Int) ≤ (n : Int) := by omega
  have b126 : ¬ (n : Int) ≤ 126 := by omega
  have c37 : ((n : Int) == 37) = false := by rw [beq_eq_false_iff_ne]; omega
  have c35 : ((n : Int) == 35) = false := by rw [beq_eq_false_iff_ne]; omega
  have d37 : ((n : Int) != 37) = true := by unfold bne; rw [c37]; rfl
  have d35 : ((n : Int) != 35) = true := by unfold bne; rw [c35]; rfl
  clear hc g6
  go_enter Tryd.func25, Tryd.ntmps25
  go_wp2
  go_ret
  exact ⟨rfl, rfl⟩
end Go.Proofs.YtnohkhgoejjfhaaDoor
