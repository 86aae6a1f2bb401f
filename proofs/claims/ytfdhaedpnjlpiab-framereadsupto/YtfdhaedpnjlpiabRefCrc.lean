/- The walk of the document's sum: it comes to 'sumN' too. -/
import Derived.Test.YtfdhaedpnjlpiabCrc
namespace Go.Proofs.Ytfdhaedpnjlpiab
open Go.RowKit
set_option linter.unusedVariables false

set_option maxRecDepth 100000 in
set_option maxHeartbeats 800000 in
theorem ref_sum_any (s : ByteArray) (w : World) (hs : s.size ≤ maxLen) :
    Calls Try.prog 18 #[.string s] w fun e w' => e = .returned (.int .u32 (sumN s.data.toList)) ∧ w' = w := by
  unfold maxLen at hs
  have hG : Hid (sumN s.data.toList = 4294967295 - crc 4294967295 (s.data.toList.drop 0)) := rfl
  generalize sumN s.data.toList = G at hG ⊢
  go_enter Try.func18, Try.ntmps18
  go_wp2
  go_loop [3, 4] (fun st i => ∃ (k y : Nat), k ≤ s.size ∧ i = .int .i64 k ∧ st = .int .u32 y ∧ y ≤ 4294967295 ∧ Hid (G = 4294967295 - crc y (s.data.toList.drop k))) (fun _ i => s.size - (intOf i).toNat)
  case atStart => exact ⟨0, 4294967295, by omega, rfl, rfl, by omega, hG⟩
  case round =>
    clear hG
    obtain ⟨k, y, hk, rfl, rfl, hy, hG⟩ := hrel
    by_cases hlt : k < s.size
    · have hdr := drop_cons s k hlt
      generalize hidx : s[k] = c at hdr
      have HG : Hid (G = 4294967295 - crc (crcIt (8 - 0) (y ^^^ c.toNat)) (s.data.toList.drop (k + 1))) := by show G = _; rw [hG.out, hdr]; rfl
      have HX := show Hid _ from xor_byte y c (by omega)
      have hz := xor32 y c.toNat (by omega) (by have := UInt8.toNat_lt c; omega)
      generalize y ^^^ c.toNat = z at HG HX hz
      clear hG hdr
      have hlt' : (k : Int) < (s.size : Int) := by omega
      go_wp2
      go_loop [3, 5] (fun st i => ∃ (j u : Nat), j ≤ 8 ∧ i = .int .i64 j ∧ st = .int .u32 u ∧ u ≤ 4294967295 ∧ Hid (G = 4294967295 - crc (crcIt (8 - j) u) (s.data.toList.drop (k + 1)))) (fun _ i => 8 - (intOf i).toNat)
      case atStart => exact ⟨0, z, by omega, rfl, congrArg (Value.int .u32) HX.out, by omega, HG⟩
      case round =>
        clear HG HX
        obtain ⟨j, u, hj, rfl, rfl, hu, HG⟩ := hrel
        by_cases hj8 : j < 8
        · have hl := crcStep_lt u (by omega)
          have HG2 : Hid (G = 4294967295 - crc (crcIt (8 - (j + 1)) (crcStep u)) (s.data.toList.drop (k + 1))) := by show G = _; rw [HG.out, show 8 - j = (8 - (j + 1)) + 1 by omega]; rfl
          clear HG
          by_cases hodd : u % 2 = 1
          · have HS := show Hid _ from ref_step1 u (by omega) hodd
            have hb : ((u : Int) % 2 == 1) = true := by rw [beq_iff_eq]; omega
            clear hodd
            generalize crcStep u = u2 at HS hl HG2
            go_wp2
            go_round
            case rel => exact ⟨j + 1, u2, by omega, by go_num, congrArg (Value.int .u32) HS.out, by omega, HG2⟩
            case measure => simp [intOf]; omega
          · have HS := show Hid _ from ref_step0 u hodd
            have hb : ((u : Int) % 2 == 1) = false := by rw [beq_eq_false_iff_ne]; omega
            clear hodd
            generalize crcStep u = u2 at HS hl HG2
            go_wp2
            go_round
            case rel => exact ⟨j + 1, u2, by omega, by go_num, congrArg (Value.int .u32) HS.out, by omega, HG2⟩
            case measure => simp [intOf]; omega
        · have HG2 : Hid (G = 4294967295 - crc u (s.data.toList.drop (k + 1))) := by show G = _; rw [HG.out, show 8 - j = 0 by omega]; rfl
          clear HG
          go_wp2
          go_round
          case rel => exact ⟨k + 1, u, by omega, by go_num, rfl, by omega, HG2⟩
          case measure => simp [intOf]; omega
    · have HG : Hid (G = 4294967295 - y) := by show G = _; rw [hG.out, drop_none s k (by omega)]; rfl
      clear hG
      go_wp2
      go_ret
      exact ⟨ret_u32 (by rw [HG.out]; omega), rfl⟩
end Go.Proofs.Ytfdhaedpnjlpiab
