/- The walks of the two sums: each comes to 'crc'. -/
import Derived.Test.YtfdhaedpnjlpiabBase
import Derived.Test.YtfdhaedpnjlpiabCrcM
namespace Go.Proofs.Ytfdhaedpnjlpiab
open Go.RowKit
set_option linter.unusedVariables false

theorem ret_u32 {a b : Int} (h : a = b) : Ending.returned (.int .u32 a) = .returned (.int .u32 b) := by rw [h]

set_option maxRecDepth 100000 in
set_option maxHeartbeats 800000 in
theorem shift_any (x : Nat) (s : ByteArray) (w : World) (hx : x < 4294967296) (hs : s.size ≤ maxLen) :
    Calls Try.prog 31 #[.int .u32 x, .string s] w fun e w' => e = .returned (.int .u32 (crc x s.data.toList)) ∧ w' = w := by
  unfold maxLen at hs
  have hG : Hid (crc x s.data.toList = crc x (s.data.toList.drop 0)) := rfl
  generalize crc x s.data.toList = G at hG ⊢
  go_enter Try.func31, Try.ntmps31
  go_wp2
  go_loop [0, 9] (fun st i => ∃ (k y : Nat), k ≤ s.size ∧ i = .int .i64 k ∧ st = .int .u32 y ∧ y ≤ 4294967295 ∧ Hid (G = crc y (s.data.toList.drop k))) (fun _ i => s.size - (intOf i).toNat)
  case atStart => exact ⟨0, x, by omega, rfl, rfl, by omega, hG⟩
  case round =>
    clear hG
    obtain ⟨k, y, hk, rfl, rfl, hy, hG⟩ := hrel
    by_cases hlt : k < s.size
    · have hdr := drop_cons s k hlt
      generalize hidx : s[k] = c at hdr
      have HG : Hid (G = crc (crcIt (8 - 0) (y ^^^ c.toNat)) (s.data.toList.drop (k + 1))) := by show G = _; rw [hG.out, hdr]; rfl
      have HX := show Hid _ from xor_byte y c (by omega)
      have hz := xor32 y c.toNat (by omega) (by have := UInt8.toNat_lt c; omega)
      generalize y ^^^ c.toNat = z at HG HX hz
      clear hG hdr
      have hlt' : (k : Int) < (s.size : Int) := by omega
      go_wp2
      go_loop [0, 18] (fun st i => ∃ (j u : Nat), j ≤ 8 ∧ i = .int .i64 j ∧ st = .int .u32 u ∧ u ≤ 4294967295 ∧ Hid (G = crc (crcIt (8 - j) u) (s.data.toList.drop (k + 1)))) (fun _ i => 8 - (intOf i).toNat)
      case atStart => exact ⟨0, z, by omega, rfl, congrArg (Value.int .u32) HX.out, by omega, HG⟩
      case round =>
        clear HG HX
        obtain ⟨j, u, hj, rfl, rfl, hu, HG⟩ := hrel
        by_cases hj8 : j < 8
        · have HS := show Hid _ from mask_step u (by omega)
          have hl := crcStep_lt u (by omega)
          have HG2 : Hid (G = crc (crcIt (8 - (j + 1)) (crcStep u)) (s.data.toList.drop (k + 1))) := by show G = _; rw [HG.out, show 8 - j = (8 - (j + 1)) + 1 by omega]; rfl
          clear HG
          generalize crcStep u = u2 at HS hl HG2
          go_wp2
          go_round
          case rel => exact ⟨j + 1, u2, by omega, by go_num, congrArg (Value.int .u32) HS.out, by omega, HG2⟩
          case measure => simp [intOf]; omega
        · have HG2 : Hid (G = crc u (s.data.toList.drop (k + 1))) := by show G = _; rw [HG.out, show 8 - j = 0 by omega]; rfl
          clear HG
          go_wp2
          go_round
          case rel => exact ⟨k + 1, u, by omega, by go_num, rfl, by omega, HG2⟩
          case measure => simp [intOf]; omega
    · have HG : Hid (G = y) := by show G = _; rw [hG.out, drop_none s k (by omega)]; rfl
      clear hG
      go_wp2
      go_ret
      exact ⟨ret_u32 (by rw [HG.out]), rfl⟩

/-- the sum of bytes -/
def sumN (l : List UInt8) : Nat := 4294967295 - crc 4294967295 l

set_option maxRecDepth 100000 in
set_option maxHeartbeats 400000 in
theorem sum_any (s : ByteArray) (w : World) (hs : s.size ≤ maxLen) :
    Calls Try.prog 17 #[.string s] w fun e w' => e = .returned (.int .u32 (sumN s.data.toList)) ∧ w' = w := by
  have HS := show Hid _ from fun w => shift_any 4294967295 s w (by decide) hs
  have hc := crc_lt s.data.toList 4294967295 (by decide)
  have HU := show Hid (sumN s.data.toList = 4294967295 - crc 4294967295 s.data.toList) from rfl
  generalize crc 4294967295 s.data.toList = c at HS hc HU
  go_enter Try.func17, Try.ntmps17
  go_wp2_with fail
  refine (HS.out _).mono ?_
  rintro e w' ⟨rfl, rfl⟩
  go_wp2
  go_ret
  exact ⟨ret_u32 (by rw [HU.out]; exact not_is c hc), rfl⟩

set_option maxRecDepth 100000 in
set_option maxHeartbeats 400000 in
theorem sumOf_any (a s : ByteArray) (w : World) (ha : a.size ≤ maxLen) (hs : s.size ≤ maxLen) :
    Calls Try.prog 33 #[.string a, .string s] w fun e w' => e = .returned (.int .u32 (sumN (a.data.toList ++ s.data.toList))) ∧ w' = w := by
  have HA := show Hid _ from fun w => shift_any 4294967295 a w (by decide) ha
  have hc := crc_lt a.data.toList 4294967295 (by decide)
  have HU := show Hid (sumN (a.data.toList ++ s.data.toList) = 4294967295 - crc 4294967295 (a.data.toList ++ s.data.toList)) from rfl
  rw [crc_append] at HU
  generalize crc 4294967295 a.data.toList = c at HA hc HU
  have HS := show Hid _ from fun w => shift_any c s w hc hs
  have hd := crc_lt s.data.toList c hc
  generalize crc c s.data.toList = d at HS hd HU
  go_enter Try.func33, Try.ntmps33
  go_wp2_with fail
  refine (HA.out _).mono ?_
  rintro e w' ⟨rfl, rfl⟩
  go_wp2_with fail
  refine (HS.out _).mono ?_
  rintro e w2 ⟨rfl, rfl⟩
  go_wp2
  go_ret
  exact ⟨ret_u32 (by rw [HU.out]; exact not_is d hd), rfl⟩

theorem sumN_lt (l : List UInt8) : sumN l < 4294967296 := by unfold sumN; omega
end Go.Proofs.Ytfdhaedpnjlpiab
