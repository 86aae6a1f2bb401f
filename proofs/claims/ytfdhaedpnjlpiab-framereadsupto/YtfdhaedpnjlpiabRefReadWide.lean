/- The walk of the document's reading of a wide number. -/
import Derived.Test.YtfdhaedpnjlpiabReadWide
namespace Go.Proofs.Ytfdhaedpnjlpiab
open Go.RowKit
set_option linter.unusedVariables false

theorem add_step (x c : Nat) (hx : x < 72057594037927936) (hc : c < 256) : IntKind.u64.wrap (IntKind.u64.wrap ((x : Int) * 256) + IntKind.u64.wrap (c : Int)) = ((x * 256 + c : Nat) : Int) := by
  rw [IntKind.wrap_u64, IntKind.wrap_u64, IntKind.wrap_u64]; omega

set_option maxRecDepth 100000 in
set_option maxHeartbeats 800000 in
theorem ref_readWide_ok (s : ByteArray) (a k : Nat) (w : World) (hs : s.size ≤ maxLen) (h1 : 1 ≤ k) (h8 : k ≤ 8) (h2 : a + k ≤ s.size) :
    Calls Try.prog 36 #[.string s, .int .i64 a, .int .i64 k] w fun e w' =>
      e = .returned (.tuple #[.int .u64 (rdW s a k).n, .int .i64 (endAt a (rdW s a k)), .int .i64 (rdW s a k).e]) ∧ w' = w := by
  unfold maxLen at hs
  have HG := show Hid _ from rdW_ok s a k h1 h8 h2
  generalize rdW s a k = G at HG ⊢
  have q1 : (k : Int) ≤ (s.size : Int) - a := by omega
  have q2 : (a : Int) ≤ s.size := by omega
  have t1 : decide ((s.size : Int) - a < k) = false := by simp; omega
  have t2 : decide ((k : Int) < 1) = false := by simp; omega
  have t3 : decide (8 < (k : Int)) = false := by simp; omega
  have t4 : decide ((a : Int) < 0) = false := by simp
  have t5 : decide ((s.size : Int) < (a : Int)) = false := by simp; omega
  have t6 : decide (s.size < a) = false := by simp; omega
  have t7 : decide (8 < k) = false := by simp; omega
  go_enter Try.func36, Try.ntmps36
  go_wp2
  go_loop [9, 10] (fun n i => ∃ (j x : Nat), j ≤ k ∧ i = .int .i64 ((a : Int) + j) ∧ n = .int .u64 x ∧ Hid (x = beN ((s.data.toList.drop a).take j))) (fun _ i => a + k - (intOf i).toNat)
  case atStart => exact ⟨0, 0, by omega, by simp, rfl, rfl⟩
  case round =>
    obtain ⟨j, x, hj, rfl, rfl, HX⟩ := hrel
    by_cases hlt : j < k
    · have hlt2 : a + j < s.size := by omega
      have HS := beN_step s a j hlt2
      have hx := beN_small s a j (by omega)
      rw [← HX.out] at hx HS
      generalize hidx : s[a + j] = c at HS
      have HS' := show Hid _ from HS c rfl
      have HO := show Hid _ from add_step x c.toNat hx (UInt8.toNat_lt c)
      clear HS hx
      have hq : (a : Int) + j < (a : Int) + k := by omega
      go_wp2
      go_round
      case rel => exact ⟨j + 1, x * 256 + c.toNat, by omega, by go_num, congrArg (Value.int .u64) HO.out, HS'.out.symm⟩
      case measure => simp [intOf]; omega
    · have hjk : j = k := by omega
      subst hjk
      go_wp2
      go_ret3
      exact ⟨ret_w (by rw [HG.out]; rw [HX.out]) (by rw [HG.out]; rfl) (by rw [HG.out]; rfl), rfl⟩

set_option maxRecDepth 100000 in
set_option maxHeartbeats 800000 in
theorem ref_readWide_end (s : ByteArray) (a : Nat) (k : Int) (w : World) (hs : s.size ≤ maxLen) (h : 1 ≤ k ∧ k ≤ 8) (ha : a ≤ s.size) (h2 : ¬ a + k ≤ s.size) :
    Calls Try.prog 36 #[.string s, .int .i64 a, .int .i64 k] w fun e w' =>
      e = .returned (.tuple #[.int .u64 (rdW s a k).n, .int .i64 (endAt a (rdW s a k)), .int .i64 (rdW s a k).e]) ∧ w' = w := by
  unfold maxLen at hs
  have HG := show Hid _ from rdW_end s a k ⟨h.1, h.2, by omega, by omega⟩ h2
  generalize rdW s a k = G at HG ⊢
  have q1 : (s.size : Int) - a < k := by omega
  have q2 := h.1
  have q3 := h.2
  clear h h2
  go_enter Try.func36, Try.ntmps36
  go_wp2
  go_ret3
  exact ⟨ret_w (by rw [HG.out]; rfl) (by rw [HG.out]; rfl) (by rw [HG.out]; rfl), rfl⟩

set_option maxRecDepth 100000 in
set_option maxHeartbeats 800000 in
theorem ref_readWide_arg (s : ByteArray) (a k : Int) (w : World) (h : ¬ (1 ≤ k ∧ k ≤ 8 ∧ 0 ≤ a ∧ a ≤ s.size)) :
    Calls Try.prog 36 #[.string s, .int .i64 a, .int .i64 k] w fun e w' =>
      e = .returned (.tuple #[.int .u64 (rdW s a k).n, .int .i64 (endAt a (rdW s a k)), .int .i64 (rdW s a k).e]) ∧ w' = w := by
  have HG := show Hid _ from rdW_arg s a k h
  generalize rdW s a k = G at HG ⊢
  by_cases k1 : k < 1
  · clear h
    go_enter Try.func36, Try.ntmps36
    go_wp2
    go_ret3
    exact ⟨ret_w (by rw [HG.out]; rfl) (by rw [HG.out]; rfl) (by rw [HG.out]; rfl), rfl⟩
  · by_cases k8 : 8 < k
    · clear h
      go_enter Try.func36, Try.ntmps36
      go_wp2
      go_ret3
      exact ⟨ret_w (by rw [HG.out]; rfl) (by rw [HG.out]; rfl) (by rw [HG.out]; rfl), rfl⟩
    · by_cases a0 : a < 0
      · clear h
        go_enter Try.func36, Try.ntmps36
        go_wp2
        go_ret3
        exact ⟨ret_w (by rw [HG.out]; rfl) (by rw [HG.out]; rfl) (by rw [HG.out]; rfl), rfl⟩
      · have a1 : (s.size : Int) < a := by omega
        clear h
        go_enter Try.func36, Try.ntmps36
        go_wp2
        go_ret3
        exact ⟨ret_w (by rw [HG.out]; rfl) (by rw [HG.out]; rfl) (by rw [HG.out]; rfl), rfl⟩

theorem ref_readWide_any (s : ByteArray) (a k : Int) (w : World) (hs : s.size ≤ maxLen) :
    Calls Try.prog 36 #[.string s, .int .i64 a, .int .i64 k] w fun e w' =>
      e = .returned (.tuple #[.int .u64 (rdW s a k).n, .int .i64 (endAt a (rdW s a k)), .int .i64 (rdW s a k).e]) ∧ w' = w := by
  by_cases h : 1 ≤ k ∧ k ≤ 8 ∧ 0 ≤ a ∧ a ≤ s.size
  · obtain ⟨b, rfl⟩ := Int.eq_ofNat_of_zero_le h.2.2.1
    by_cases h2 : b + k ≤ s.size
    · obtain ⟨m, rfl⟩ := Int.eq_ofNat_of_zero_le (show 0 ≤ k by omega)
      exact ref_readWide_ok s b m w hs (by omega) (by omega) (by omega)
    · exact ref_readWide_end s b k w hs ⟨h.1, h.2.1⟩ (by omega) h2
  · exact ref_readWide_arg s a k w h
end Go.Proofs.Ytfdhaedpnjlpiab
