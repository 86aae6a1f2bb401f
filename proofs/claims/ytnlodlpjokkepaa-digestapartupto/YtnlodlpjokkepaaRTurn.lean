/- The walks of the document's turning of words. -/
import Derived.Test.YtnlodlpjokkepaaHSum
namespace Go.Proofs.Ytnlodlpjokkepaa
open Go.RowKit
set_option linter.unusedVariables false

/-- a turning to the right, as the walk writes it -/
theorem rot_is2 (x m n : Nat) (h : x < 4294967296) (hm : m = 32 - n) : bits .or .u32 ((x : Int) / 2 ^ n) ((x : Int) * 2 ^ m % 4294967296) = ((rot x n : Nat) : Int) := by
  subst hm
  have e1 : ((x : Int) * 2 ^ (32 - n) % 4294967296) = ((x * 2 ^ (32 - n) % 4294967296 : Nat) : Int) := by simp
  have e2 : ((x : Int) / 2 ^ n) = ((x / 2 ^ n : Nat) : Int) := by simp
  rw [e1, e2, bits_or_u32 _ _ (div32 x n h) (Nat.mod_lt _ (by decide))]
  rfl

set_option maxRecDepth 100000 in
set_option maxHeartbeats 400000 in
theorem rturn2 (x : Nat) (w : World) (hx : x < 4294967296) :
    Calls Try.prog 29 #[.int .u32 x, .int .u64 2] w fun e w' => e = .returned (.int .u32 (rot x 2)) ∧ w' = w := by
  have H := show Hid _ from rot_is2 x 30 2 hx (by decide)
  generalize rot x 2 = r at H ⊢
  go_enter Try.func29, Try.ntmps29
  go_wp2
  go_ret
  exact ⟨ret_u32 (by rw [← H.out]; first | rfl | (congr 1; simp [IntKind.wrap_u32])), rfl⟩

set_option maxRecDepth 100000 in
set_option maxHeartbeats 400000 in
theorem rturn6 (x : Nat) (w : World) (hx : x < 4294967296) :
    Calls Try.prog 29 #[.int .u32 x, .int .u64 6] w fun e w' => e = .returned (.int .u32 (rot x 6)) ∧ w' = w := by
  have H := show Hid _ from rot_is2 x 26 6 hx (by decide)
  generalize rot x 6 = r at H ⊢
  go_enter Try.func29, Try.ntmps29
  go_wp2
  go_ret
  exact ⟨ret_u32 (by rw [← H.out]; first | rfl | (congr 1; simp [IntKind.wrap_u32])), rfl⟩

set_option maxRecDepth 100000 in
set_option maxHeartbeats 400000 in
theorem rturn7 (x : Nat) (w : World) (hx : x < 4294967296) :
    Calls Try.prog 29 #[.int .u32 x, .int .u64 7] w fun e w' => e = .returned (.int .u32 (rot x 7)) ∧ w' = w := by
  have H := show Hid _ from rot_is2 x 25 7 hx (by decide)
  generalize rot x 7 = r at H ⊢
  go_enter Try.func29, Try.ntmps29
  go_wp2
  go_ret
  exact ⟨ret_u32 (by rw [← H.out]; first | rfl | (congr 1; simp [IntKind.wrap_u32])), rfl⟩

set_option maxRecDepth 100000 in
set_option maxHeartbeats 400000 in
theorem rturn11 (x : Nat) (w : World) (hx : x < 4294967296) :
    Calls Try.prog 29 #[.int .u32 x, .int .u64 11] w fun e w' => e = .returned (.int .u32 (rot x 11)) ∧ w' = w := by
  have H := show Hid _ from rot_is2 x 21 11 hx (by decide)
  generalize rot x 11 = r at H ⊢
  go_enter Try.func29, Try.ntmps29
  go_wp2
  go_ret
  exact ⟨ret_u32 (by rw [← H.out]; first | rfl | (congr 1; simp [IntKind.wrap_u32])), rfl⟩

set_option maxRecDepth 100000 in
set_option maxHeartbeats 400000 in
theorem rturn13 (x : Nat) (w : World) (hx : x < 4294967296) :
    Calls Try.prog 29 #[.int .u32 x, .int .u64 13] w fun e w' => e = .returned (.int .u32 (rot x 13)) ∧ w' = w := by
  have H := show Hid _ from rot_is2 x 19 13 hx (by decide)
  generalize rot x 13 = r at H ⊢
  go_enter Try.func29, Try.ntmps29
  go_wp2
  go_ret
  exact ⟨ret_u32 (by rw [← H.out]; first | rfl | (congr 1; simp [IntKind.wrap_u32])), rfl⟩

set_option maxRecDepth 100000 in
set_option maxHeartbeats 400000 in
theorem rturn17 (x : Nat) (w : World) (hx : x < 4294967296) :
    Calls Try.prog 29 #[.int .u32 x, .int .u64 17] w fun e w' => e = .returned (.int .u32 (rot x 17)) ∧ w' = w := by
  have H := show Hid _ from rot_is2 x 15 17 hx (by decide)
  generalize rot x 17 = r at H ⊢
  go_enter Try.func29, Try.ntmps29
  go_wp2
  go_ret
  exact ⟨ret_u32 (by rw [← H.out]; first | rfl | (congr 1; simp [IntKind.wrap_u32])), rfl⟩

set_option maxRecDepth 100000 in
set_option maxHeartbeats 400000 in
theorem rturn18 (x : Nat) (w : World) (hx : x < 4294967296) :
    Calls Try.prog 29 #[.int .u32 x, .int .u64 18] w fun e w' => e = .returned (.int .u32 (rot x 18)) ∧ w' = w := by
  have H := show Hid _ from rot_is2 x 14 18 hx (by decide)
  generalize rot x 18 = r at H ⊢
  go_enter Try.func29, Try.ntmps29
  go_wp2
  go_ret
  exact ⟨ret_u32 (by rw [← H.out]; first | rfl | (congr 1; simp [IntKind.wrap_u32])), rfl⟩

set_option maxRecDepth 100000 in
set_option maxHeartbeats 400000 in
theorem rturn19 (x : Nat) (w : World) (hx : x < 4294967296) :
    Calls Try.prog 29 #[.int .u32 x, .int .u64 19] w fun e w' => e = .returned (.int .u32 (rot x 19)) ∧ w' = w := by
  have H := show Hid _ from rot_is2 x 13 19 hx (by decide)
  generalize rot x 19 = r at H ⊢
  go_enter Try.func29, Try.ntmps29
  go_wp2
  go_ret
  exact ⟨ret_u32 (by rw [← H.out]; first | rfl | (congr 1; simp [IntKind.wrap_u32])), rfl⟩

set_option maxRecDepth 100000 in
set_option maxHeartbeats 400000 in
theorem rturn22 (x : Nat) (w : World) (hx : x < 4294967296) :
    Calls Try.prog 29 #[.int .u32 x, .int .u64 22] w fun e w' => e = .returned (.int .u32 (rot x 22)) ∧ w' = w := by
  have H := show Hid _ from rot_is2 x 10 22 hx (by decide)
  generalize rot x 22 = r at H ⊢
  go_enter Try.func29, Try.ntmps29
  go_wp2
  go_ret
  exact ⟨ret_u32 (by rw [← H.out]; first | rfl | (congr 1; simp [IntKind.wrap_u32])), rfl⟩

set_option maxRecDepth 100000 in
set_option maxHeartbeats 400000 in
theorem rturn25 (x : Nat) (w : World) (hx : x < 4294967296) :
    Calls Try.prog 29 #[.int .u32 x, .int .u64 25] w fun e w' => e = .returned (.int .u32 (rot x 25)) ∧ w' = w := by
  have H := show Hid _ from rot_is2 x 7 25 hx (by decide)
  generalize rot x 25 = r at H ⊢
  go_enter Try.func29, Try.ntmps29
  go_wp2
  go_ret
  exact ⟨ret_u32 (by rw [← H.out]; first | rfl | (congr 1; simp [IntKind.wrap_u32])), rfl⟩
end Go.Proofs.Ytnlodlpjokkepaa
