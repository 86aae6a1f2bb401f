/- The walks of the two readings of a number: each comes to 'rdAt', and writes nothing. -/
import Derived.Test.YtbiapepalkdkdaaPlace
namespace Go.Proofs.Ytbiapepalkdkdaa
open Go.RowKit
set_option linter.unusedVariables false

theorem ret_boolN {a b : Bool} (h : a = b) : Ending.returned (.bool a) = .returned (.bool b) := by rw [h]
theorem mayB_1 (c k : Nat) (h1 : 0 < k) (h2 : ((c : Int) == 0) = true) : false = mayB c k := by simp [mayB] at *; omega
theorem mayB_2 (c k : Nat) (h1 : 0 < k) (h2 : ((c : Int) == 0) = false) (h3 : 9 ≤ (k : Int)) : (decide ((k : Int) < 9) || decide ((c : Int) ≤ 1)) = mayB c k := by
  have : ¬ (k : Int) < 9 := by omega
  have : ¬ k < 9 := by omega
  have hc : ¬ c = 0 := by simpa using h2
  simp [mayB, *]; omega
theorem mayB_3 (c k : Nat) (h1 : 0 < k) (h2 : ((c : Int) == 0) = false) (h3 : (k : Int) < 9) : true = mayB c k := by
  have hc : ¬ c = 0 := by simpa using h2
  have : k < 9 := by omega
  simp [mayB, *]
theorem mayB_4 (c k : Nat) (h1 : ¬ 0 < k) (h3 : (k : Int) < 9) : true = mayB c k := by
  have : k < 9 := by omega
  simp [mayB, *]

set_option maxHeartbeats 400000 in
theorem mayStand_any (c : UInt8) (k : Nat) (w : World) (hk : k ≤ 20) :
    Calls Try.prog 85 #[.int .u8 c.toNat, .int .i64 k] w fun e w' => e = .returned (.bool (mayB c.toNat k)) ∧ w' = w := by
  go_enter Try.func85, Try.ntmps85
  go_wp2
  all_goals go_ret
  · exact ⟨ret_boolN (mayB_1 _ _ ‹_› ‹_›), rfl⟩
  · exact ⟨ret_boolN (mayB_2 _ _ ‹_› ‹_› ‹_›), rfl⟩
  · exact ⟨ret_boolN (mayB_3 _ _ ‹_› ‹_› ‹_›), rfl⟩
  · exact ⟨ret_boolN (mayB_4 _ _ ‹_› ‹_›), rfl⟩

theorem ret_got {a : Int} {G : Got} {n i e : Int} (h1 : n = G.n) (h2 : i = endAt a G) (h3 : e = G.e) :
    Ending.returned (.tuple #[.int .u64 n, .int .i64 i, .int .i64 e]) = .returned (.tuple #[.int .u64 G.n, .int .i64 (endAt a G), .int .i64 G.e]) := by rw [h1, h2, h3]

set_option maxRecDepth 100000 in
set_option maxHeartbeats 800000 in
theorem readNumber_in (s : ByteArray) (a : Nat) (w : World) (h1 : a ≤ s.size) (hs : s.size ≤ maxLen) :
    Calls Try.prog 81 #[.string s, .int .i64 a] w fun e w' =>
      e = .returned (.tuple #[.int .u64 (rdAt s a).n, .int .i64 (endAt a (rdAt s a)), .int .i64 (rdAt s a).e]) ∧ w' = w := by
  unfold maxLen at hs
  have h0 : (0 : Int) ≤ (a : Int) := by omega
  have h1' : (a : Int) ≤ s.size := by omega
  have hG : Hid (rdAt s a = rd (s.data.toList.drop (a + 0)) 0 0) := by show rdAt s a = _; rw [rdAt, if_pos ⟨h0, h1'⟩]; simp
  generalize rdAt s a = G at hG ⊢
  go_enter Try.func81, Try.ntmps81
  go_wp2_with (go_at_call 84; refine (isPlace_yes _ _ _ h0 h1').mono ?_; rintro e w' ⟨rfl, rfl⟩)
  go_loop [7, 18] (fun n i => ∃ k acc : Nat, k ≤ 9 ∧ a + k ≤ s.size ∧ i = .int .i64 k ∧ n = .int .u64 acc ∧ acc < 128 ^ k ∧ Hid (G = rd (s.data.toList.drop (a + k)) k acc)) (fun _ i => s.size - (intOf i).toNat)
  case atStart => exact ⟨0, 0, by omega, by omega, rfl, rfl, by simp, hG⟩
  case round =>
    clear hG
    obtain ⟨k, acc, hk, hak, rfl, rfl, hacc, hG⟩ := hrel
    by_cases hlt : a + k < s.size
    · have hlt' : (k : Int) < (s.size : Int) - (a : Int) := by omega
      have hdr := drop_cons s _ hlt
      generalize hidx : s[a + k] = c at hdr
      rw [Hid, hdr] at hG
      clear hdr
      have hc8 := UInt8.toNat_lt c
      cases hm : mayB c.toNat k with
      | false =>
        have HG : Hid (G = ⟨0, 0, 3⟩) := by show G = _; rw [hG, rd_bad _ _ _ _ hm]
        have HM := show Hid _ from hm
        clear hG hm
        go_wp2_with (go_at_call 85; refine (mayStand_any _ _ _ (by omega)).mono ?_; rintro e w' ⟨rfl, rfl⟩; rw [HM.out])
        go_ret3
        exact ⟨ret_got (by rw [HG.out]; rfl) (by rw [HG.out]; rfl) (by rw [HG.out]; rfl), rfl⟩
      | true =>
        have HA := show Hid _ from step_is c.toNat k acc hk hc8 hm hacc
        have HL := show Hid _ from add_lt c.toNat k acc hacc
        have HM := show Hid _ from hm
        have HN := show Hid _ from may_more c.toNat k hk hm
        clear hm hacc
        by_cases hc : c.toNat < 128
        · have HG : Hid (G = ⟨acc + c.toNat % 128 * 128 ^ k, k + 1, 0⟩) := by show G = _; rw [hG, rd_last _ _ _ _ HM.out hc]
          clear hG HN HL
          go_wp2_with (go_at_call 85; refine (mayStand_any _ _ _ (by omega)).mono ?_; rintro e w' ⟨rfl, rfl⟩; rw [HM.out])
          go_ret3
          exact ⟨ret_got (by rw [HG.out]; exact HA.out) (by rw [HG.out]; simp [endAt]; omega) (by rw [HG.out]; rfl), rfl⟩
        · have HG : Hid (G = rd (s.data.toList.drop (a + k + 1)) (k + 1) (acc + c.toNat % 128 * 128 ^ k)) := by show G = _; rw [hG, rd_more _ _ _ _ HM.out hc]
          have hk9 := HN.out hc
          clear hG HN
          go_wp2_with (go_at_call 85; refine (mayStand_any _ _ _ (by omega)).mono ?_; rintro e w' ⟨rfl, rfl⟩; rw [HM.out])
          go_round
          case rel => exact ⟨k + 1, _, by omega, by omega, by go_num, congrArg (Value.int .u64) HA.out, HL.out, HG⟩
          case measure => simp [intOf]; omega
    · have HG : Hid (G = ⟨0, 0, 5⟩) := by show G = _; rw [hG.out, drop_none s _ (by omega)]; rfl
      clear hG
      go_wp2
      go_ret3
      exact ⟨ret_got (by rw [HG.out]; rfl) (by rw [HG.out]; rfl) (by rw [HG.out]; rfl), rfl⟩

set_option maxHeartbeats 400000 in
theorem readNumber_out (s : ByteArray) (a : Int) (w : World) (h : ¬ (0 ≤ a ∧ a ≤ s.size)) :
    Calls Try.prog 81 #[.string s, .int .i64 a] w fun e w' =>
      e = .returned (.tuple #[.int .u64 (rdAt s a).n, .int .i64 (endAt a (rdAt s a)), .int .i64 (rdAt s a).e]) ∧ w' = w := by
  have hG : Hid (rdAt s a = ⟨0, 0, 1⟩) := by show rdAt s a = _; rw [rdAt, if_neg h]
  have H := show Hid _ from h
  clear h
  generalize rdAt s a = G at hG ⊢
  go_enter Try.func81, Try.ntmps81
  go_wp2_with (go_at_call 84; refine (isPlace_no _ _ _ H.out).mono ?_; rintro e w' ⟨rfl, rfl⟩)
  go_ret3
  exact ⟨ret_got (by rw [hG.out]; rfl) (by rw [hG.out]; rfl) (by rw [hG.out]; rfl), rfl⟩

theorem readNumber_any (s : ByteArray) (a : Int) (w : World) (hs : s.size ≤ maxLen) :
    Calls Try.prog 81 #[.string s, .int .i64 a] w fun e w' =>
      e = .returned (.tuple #[.int .u64 (rdAt s a).n, .int .i64 (endAt a (rdAt s a)), .int .i64 (rdAt s a).e]) ∧ w' = w := by
  by_cases h : 0 ≤ a ∧ a ≤ s.size
  · obtain ⟨n, rfl⟩ := Int.eq_ofNat_of_zero_le h.1
    exact readNumber_in s n w (by omega) hs
  · exact readNumber_out s a w h
end Go.Proofs.Ytbiapepalkdkdaa
