/- The walks of the turning of words. -/
import Derived.Test.YtnlodlpjokkepaaBase
import Derived.Test.YtnlodlpjokkepaaHexM
namespace Go.Proofs.Ytnlodlpjokkepaa
open Go.RowKit
set_option linter.unusedVariables false

theorem ret_u32 {a b : Int} (h : a = b) : Ending.returned (.int .u32 a) = .returned (.int .u32 b) := by rw [h]
theorem xor32 (a b : Nat) (ha : a < 4294967296) (hb : b < 4294967296) : a ^^^ b < 4294967296 := Nat.xor_lt_two_pow (n := 32) ha hb
theorem or32 (a b : Nat) (ha : a < 4294967296) (hb : b < 4294967296) : a ||| b < 4294967296 := Nat.or_lt_two_pow (n := 32) ha hb
theorem and32 (a b : Nat) (ha : a < 4294967296) : a &&& b < 4294967296 := Nat.lt_of_le_of_lt Nat.and_le_left ha
theorem ofInt32 (a : Nat) (ha : a < 4294967296) : (BitVec.ofInt 32 (a : Int)).toNat = a := by
  rw [BitVec.ofInt_natCast, BitVec.toNat_ofNat]; exact Nat.mod_eq_of_lt (by omega)
theorem bits_xor_u32 (a b : Nat) (ha : a < 4294967296) (hb : b < 4294967296) : bits .xor .u32 (a : Int) (b : Int) = ((a ^^^ b : Nat) : Int) := by
  have hx := xor32 a b ha hb
  show IntKind.u32.wrap ((BitVec.ofInt 32 (a : Int) ^^^ BitVec.ofInt 32 (b : Int)).toNat : Int) = _
  rw [BitVec.toNat_xor, ofInt32 a ha, ofInt32 b hb, IntKind.wrap_u32]
  omega
theorem bits_and_u32 (a b : Nat) (ha : a < 4294967296) (hb : b < 4294967296) : bits .and .u32 (a : Int) (b : Int) = ((a &&& b : Nat) : Int) := by
  have hx := and32 a b ha
  show IntKind.u32.wrap ((BitVec.ofInt 32 (a : Int) &&& BitVec.ofInt 32 (b : Int)).toNat : Int) = _
  rw [BitVec.toNat_and, ofInt32 a ha, ofInt32 b hb, IntKind.wrap_u32]
  omega
theorem bits_or_u32 (a b : Nat) (ha : a < 4294967296) (hb : b < 4294967296) : bits .or .u32 (a : Int) (b : Int) = ((a ||| b : Nat) : Int) := by
  have hx := or32 a b ha hb
  show IntKind.u32.wrap ((BitVec.ofInt 32 (a : Int) ||| BitVec.ofInt 32 (b : Int)).toNat : Int) = _
  rw [BitVec.toNat_or, ofInt32 a ha, ofInt32 b hb, IntKind.wrap_u32]
  omega
theorem div32 (x n : Nat) (h : x < 4294967296) : x / 2 ^ n < 4294967296 := Nat.lt_of_le_of_lt (Nat.div_le_self _ _) h
theorem rot_lt (x n : Nat) (h : x < 4294967296) : rot x n < 4294967296 := or32 _ _ (div32 x n h) (Nat.mod_lt _ (by decide))
theorem rot3_lt (x i j k : Nat) (h : x < 4294967296) : rot3 x i j k < 4294967296 := xor32 _ _ (xor32 _ _ (rot_lt x i h) (rot_lt x j h)) (rot_lt x k h)
theorem older_lt (x : Nat) (h : x < 4294967296) : older x < 4294967296 := xor32 _ _ (xor32 _ _ (rot_lt x 7 h) (rot_lt x 18 h)) (div32 x 3 h)
theorem newer_lt (x : Nat) (h : x < 4294967296) : newer x < 4294967296 := xor32 _ _ (xor32 _ _ (rot_lt x 17 h) (rot_lt x 19 h)) (div32 x 10 h)
/-- a turning to the left, as the walk writes it -/
theorem rot_is (x m n : Nat) (h : x < 4294967296) (hm : m = 32 - n) : bits .or .u32 ((x : Int) * 2 ^ m % 4294967296) ((x : Int) / 2 ^ n) = ((rot x n : Nat) : Int) := by
  subst hm
  have e1 : ((x : Int) * 2 ^ (32 - n) % 4294967296) = ((x * 2 ^ (32 - n) % 4294967296 : Nat) : Int) := by simp
  have e2 : ((x : Int) / 2 ^ n) = ((x / 2 ^ n : Nat) : Int) := by simp
  rw [e1, e2, bits_or_u32 _ _ (Nat.mod_lt _ (by decide)) (div32 x n h), Nat.or_comm]
  rfl

set_option maxRecDepth 100000 in
set_option maxHeartbeats 400000 in
theorem rotl2 (x : Nat) (w : World) (hx : x < 4294967296) :
    Calls Try.prog 34 #[.int .u32 x, .int .i64 (-2)] w fun e w' => e = .returned (.int .u32 (rot x 2)) ∧ w' = w := by
  have hb : bits BinOp.and IntKind.u64 (IntKind.u64.wrap (-2)) 31 = 30 := by decide
  have H := show Hid _ from rot_is x 30 2 hx (by decide)
  generalize rot x 2 = r at H ⊢
  go_enter Try.func34, Try.ntmps34
  go_wp2
  go_ret
  exact ⟨ret_u32 (by rw [← H.out]; first | rfl | (congr 1; simp [IntKind.wrap_u32])), rfl⟩

set_option maxRecDepth 100000 in
set_option maxHeartbeats 400000 in
theorem rotl6 (x : Nat) (w : World) (hx : x < 4294967296) :
    Calls Try.prog 34 #[.int .u32 x, .int .i64 (-6)] w fun e w' => e = .returned (.int .u32 (rot x 6)) ∧ w' = w := by
  have hb : bits BinOp.and IntKind.u64 (IntKind.u64.wrap (-6)) 31 = 26 := by decide
  have H := show Hid _ from rot_is x 26 6 hx (by decide)
  generalize rot x 6 = r at H ⊢
  go_enter Try.func34, Try.ntmps34
  go_wp2
  go_ret
  exact ⟨ret_u32 (by rw [← H.out]; first | rfl | (congr 1; simp [IntKind.wrap_u32])), rfl⟩

set_option maxRecDepth 100000 in
set_option maxHeartbeats 400000 in
theorem rotl7 (x : Nat) (w : World) (hx : x < 4294967296) :
    Calls Try.prog 34 #[.int .u32 x, .int .i64 (-7)] w fun e w' => e = .returned (.int .u32 (rot x 7)) ∧ w' = w := by
  have hb : bits BinOp.and IntKind.u64 (IntKind.u64.wrap (-7)) 31 = 25 := by decide
  have H := show Hid _ from rot_is x 25 7 hx (by decide)
  generalize rot x 7 = r at H ⊢
  go_enter Try.func34, Try.ntmps34
  go_wp2
  go_ret
  exact ⟨ret_u32 (by rw [← H.out]; first | rfl | (congr 1; simp [IntKind.wrap_u32])), rfl⟩

set_option maxRecDepth 100000 in
set_option maxHeartbeats 400000 in
theorem rotl11 (x : Nat) (w : World) (hx : x < 4294967296) :
    Calls Try.prog 34 #[.int .u32 x, .int .i64 (-11)] w fun e w' => e = .returned (.int .u32 (rot x 11)) ∧ w' = w := by
  have hb : bits BinOp.and IntKind.u64 (IntKind.u64.wrap (-11)) 31 = 21 := by decide
  have H := show Hid _ from rot_is x 21 11 hx (by decide)
  generalize rot x 11 = r at H ⊢
  go_enter Try.func34, Try.ntmps34
  go_wp2
  go_ret
  exact ⟨ret_u32 (by rw [← H.out]; first | rfl | (congr 1; simp [IntKind.wrap_u32])), rfl⟩

set_option maxRecDepth 100000 in
set_option maxHeartbeats 400000 in
theorem rotl13 (x : Nat) (w : World) (hx : x < 4294967296) :
    Calls Try.prog 34 #[.int .u32 x, .int .i64 (-13)] w fun e w' => e = .returned (.int .u32 (rot x 13)) ∧ w' = w := by
  have hb : bits BinOp.and IntKind.u64 (IntKind.u64.wrap (-13)) 31 = 19 := by decide
  have H := show Hid _ from rot_is x 19 13 hx (by decide)
  generalize rot x 13 = r at H ⊢
  go_enter Try.func34, Try.ntmps34
  go_wp2
  go_ret
  exact ⟨ret_u32 (by rw [← H.out]; first | rfl | (congr 1; simp [IntKind.wrap_u32])), rfl⟩

set_option maxRecDepth 100000 in
set_option maxHeartbeats 400000 in
theorem rotl17 (x : Nat) (w : World) (hx : x < 4294967296) :
    Calls Try.prog 34 #[.int .u32 x, .int .i64 (-17)] w fun e w' => e = .returned (.int .u32 (rot x 17)) ∧ w' = w := by
  have hb : bits BinOp.and IntKind.u64 (IntKind.u64.wrap (-17)) 31 = 15 := by decide
  have H := show Hid _ from rot_is x 15 17 hx (by decide)
  generalize rot x 17 = r at H ⊢
  go_enter Try.func34, Try.ntmps34
  go_wp2
  go_ret
  exact ⟨ret_u32 (by rw [← H.out]; first | rfl | (congr 1; simp [IntKind.wrap_u32])), rfl⟩

set_option maxRecDepth 100000 in
set_option maxHeartbeats 400000 in
theorem rotl18 (x : Nat) (w : World) (hx : x < 4294967296) :
    Calls Try.prog 34 #[.int .u32 x, .int .i64 (-18)] w fun e w' => e = .returned (.int .u32 (rot x 18)) ∧ w' = w := by
  have hb : bits BinOp.and IntKind.u64 (IntKind.u64.wrap (-18)) 31 = 14 := by decide
  have H := show Hid _ from rot_is x 14 18 hx (by decide)
  generalize rot x 18 = r at H ⊢
  go_enter Try.func34, Try.ntmps34
  go_wp2
  go_ret
  exact ⟨ret_u32 (by rw [← H.out]; first | rfl | (congr 1; simp [IntKind.wrap_u32])), rfl⟩

set_option maxRecDepth 100000 in
set_option maxHeartbeats 400000 in
theorem rotl19 (x : Nat) (w : World) (hx : x < 4294967296) :
    Calls Try.prog 34 #[.int .u32 x, .int .i64 (-19)] w fun e w' => e = .returned (.int .u32 (rot x 19)) ∧ w' = w := by
  have hb : bits BinOp.and IntKind.u64 (IntKind.u64.wrap (-19)) 31 = 13 := by decide
  have H := show Hid _ from rot_is x 13 19 hx (by decide)
  generalize rot x 19 = r at H ⊢
  go_enter Try.func34, Try.ntmps34
  go_wp2
  go_ret
  exact ⟨ret_u32 (by rw [← H.out]; first | rfl | (congr 1; simp [IntKind.wrap_u32])), rfl⟩

set_option maxRecDepth 100000 in
set_option maxHeartbeats 400000 in
theorem rotl22 (x : Nat) (w : World) (hx : x < 4294967296) :
    Calls Try.prog 34 #[.int .u32 x, .int .i64 (-22)] w fun e w' => e = .returned (.int .u32 (rot x 22)) ∧ w' = w := by
  have hb : bits BinOp.and IntKind.u64 (IntKind.u64.wrap (-22)) 31 = 10 := by decide
  have H := show Hid _ from rot_is x 10 22 hx (by decide)
  generalize rot x 22 = r at H ⊢
  go_enter Try.func34, Try.ntmps34
  go_wp2
  go_ret
  exact ⟨ret_u32 (by rw [← H.out]; first | rfl | (congr 1; simp [IntKind.wrap_u32])), rfl⟩

set_option maxRecDepth 100000 in
set_option maxHeartbeats 400000 in
theorem rotl25 (x : Nat) (w : World) (hx : x < 4294967296) :
    Calls Try.prog 34 #[.int .u32 x, .int .i64 (-25)] w fun e w' => e = .returned (.int .u32 (rot x 25)) ∧ w' = w := by
  have hb : bits BinOp.and IntKind.u64 (IntKind.u64.wrap (-25)) 31 = 7 := by decide
  have H := show Hid _ from rot_is x 7 25 hx (by decide)
  generalize rot x 25 = r at H ⊢
  go_enter Try.func34, Try.ntmps34
  go_wp2
  go_ret
  exact ⟨ret_u32 (by rw [← H.out]; first | rfl | (congr 1; simp [IntKind.wrap_u32])), rfl⟩

set_option maxRecDepth 100000 in
set_option maxHeartbeats 400000 in
theorem turned6 (x : Nat) (w : World) (hx : x < 4294967296) :
    Calls Try.prog 33 #[.int .u32 x, .int .i64 6, .int .i64 11, .int .i64 25] w fun e w' => e = .returned (.int .u32 (rot3 x 6 11 25)) ∧ w' = w := by
  have H1 := show Hid _ from fun w => rotl6 x w hx
  have H2 := show Hid _ from fun w => rotl11 x w hx
  have H3 := show Hid _ from fun w => rotl25 x w hx
  have h1 := rot_lt x 6 hx
  have h2 := rot_lt x 11 hx
  have h3 := rot_lt x 25 hx
  have HR : Hid (rot3 x 6 11 25 = rot x 6 ^^^ rot x 11 ^^^ rot x 25) := rfl
  generalize rot3 x 6 11 25 = R at HR ⊢
  generalize rot x 6 = a at H1 h1 HR
  generalize rot x 11 = b at H2 h2 HR
  generalize rot x 25 = c at H3 h3 HR
  have H4 := show Hid _ from bits_xor_u32 a b h1 h2
  have H5 := show Hid _ from bits_xor_u32 (a ^^^ b) c (xor32 a b h1 h2) h3
  go_enter Try.func33, Try.ntmps33
  go_wp2_with fail
  refine (H1.out _).mono ?_
  rintro e w' ⟨rfl, rfl⟩
  go_wp2_with fail
  refine (H2.out _).mono ?_
  rintro e w' ⟨rfl, rfl⟩
  go_wp2_with fail
  refine (H3.out _).mono ?_
  rintro e w' ⟨rfl, rfl⟩
  go_wp2
  go_ret
  exact ⟨ret_u32 (by rw [H4.out, H5.out, HR.out]), rfl⟩

set_option maxRecDepth 100000 in
set_option maxHeartbeats 400000 in
theorem turned2 (x : Nat) (w : World) (hx : x < 4294967296) :
    Calls Try.prog 33 #[.int .u32 x, .int .i64 2, .int .i64 13, .int .i64 22] w fun e w' => e = .returned (.int .u32 (rot3 x 2 13 22)) ∧ w' = w := by
  have H1 := show Hid _ from fun w => rotl2 x w hx
  have H2 := show Hid _ from fun w => rotl13 x w hx
  have H3 := show Hid _ from fun w => rotl22 x w hx
  have h1 := rot_lt x 2 hx
  have h2 := rot_lt x 13 hx
  have h3 := rot_lt x 22 hx
  have HR : Hid (rot3 x 2 13 22 = rot x 2 ^^^ rot x 13 ^^^ rot x 22) := rfl
  generalize rot3 x 2 13 22 = R at HR ⊢
  generalize rot x 2 = a at H1 h1 HR
  generalize rot x 13 = b at H2 h2 HR
  generalize rot x 22 = c at H3 h3 HR
  have H4 := show Hid _ from bits_xor_u32 a b h1 h2
  have H5 := show Hid _ from bits_xor_u32 (a ^^^ b) c (xor32 a b h1 h2) h3
  go_enter Try.func33, Try.ntmps33
  go_wp2_with fail
  refine (H1.out _).mono ?_
  rintro e w' ⟨rfl, rfl⟩
  go_wp2_with fail
  refine (H2.out _).mono ?_
  rintro e w' ⟨rfl, rfl⟩
  go_wp2_with fail
  refine (H3.out _).mono ?_
  rintro e w' ⟨rfl, rfl⟩
  go_wp2
  go_ret
  exact ⟨ret_u32 (by rw [H4.out, H5.out, HR.out]), rfl⟩
end Go.Proofs.Ytnlodlpjokkepaa
