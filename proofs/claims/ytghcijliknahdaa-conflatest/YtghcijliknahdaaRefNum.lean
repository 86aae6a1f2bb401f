/- The walk of the document's reading of a number: it comes to 'rdAt' too. -/
import Derived.Test.YtghcijliknahdaaReadNum
namespace Go.Proofs.Ytghcijliknahdaa
open Go.RowKit
set_option linter.unusedVariables false

theorem ref_readNumber_out (s : ByteArray) (a : Int) (w : World) (h : ¬ (0 ≤ a ∧ a ≤ s.size)) :
    Calls Try.prog 53 #[.string s, .int .i64 a] w fun e w' =>
      e = .returned (.tuple #[.int .u64 (rdAt s a).n, .int .i64 (endAt a (rdAt s a)), .int .i64 (rdAt s a).e]) ∧ w' = w := by
  have hG : Hid (rdAt s a = ⟨0, 0, 1⟩) := by show rdAt s a = _; rw [rdAt, if_neg h]
  generalize rdAt s a = G at hG ⊢
  by_cases h0 : a < 0
  · clear h
    go_enter Try.func53, Try.ntmps53
    go_wp2
    go_ret3
    exact ⟨ret_got (by rw [hG.out]; rfl) (by rw [hG.out]; rfl) (by rw [hG.out]; rfl), rfl⟩
  · have h1 : (s.size : Int) < a := by omega
    clear h
    go_enter Try.func53, Try.ntmps53
    go_wp2
    go_ret3
    exact ⟨ret_got (by rw [hG.out]; rfl) (by rw [hG.out]; rfl) (by rw [hG.out]; rfl), rfl⟩

set_option maxRecDepth 100000 in
set_option maxHeartbeats 800000 in
theorem ref_readNumber_in (s : ByteArray) (a : Nat) (w : World) (h1 : a ≤ s.size) (hs : s.size ≤ maxLen) :
    Calls Try.prog 53 #[.string s, .int .i64 a] w fun e w' =>
      e = .returned (.tuple #[.int .u64 (rdAt s a).n, .int .i64 (endAt a (rdAt s a)), .int .i64 (rdAt s a).e]) ∧ w' = w := by
  unfold maxLen at hs
  have h0 : (0 : Int) ≤ (a : Int) := by omega
  have h1' : (a : Int) ≤ s.size := by omega
  have hG : Hid (rdAt s a = rd (s.data.toList.drop (a + 0)) 0 0) := by show rdAt s a = _; rw [rdAt, if_pos ⟨h0, h1'⟩]; simp
  generalize rdAt s a = G at hG ⊢
  have t1 : decide ((a : Int) < 0) = false := by simp
  have t2 : decide ((s.size : Int) < (a : Int)) = false := by simp; omega
  have t3 : decide (s.size < a) = false := by simp; omega
  go_enter Try.func53, Try.ntmps53
  go_wp2
  go_loop [7, 8, 9] (fun n t i => ∃ k acc : Nat, k ≤ 9 ∧ a + k ≤ s.size ∧ i = .int .i64 ((a : Int) + k) ∧ n = .int .u64 acc ∧ t = .int .u64 (pw k) ∧ Hid (acc < 128 ^ k) ∧ Hid (G = rd (s.data.toList.drop (a + k)) k acc)) (fun _ _ i => s.size - (intOf i).toNat)
  case atStart => exact ⟨0, 0, by omega, by omega, by simp, rfl, rfl, (show (0:Nat) < 128 ^ 0 by simp), hG⟩
  case round =>
    clear hG
    obtain ⟨k, acc, hk, hak, rfl, rfl, rfl, hacc, hG⟩ := hrel
    by_cases hlt : a + k < s.size
    · have hdr := drop_cons s _ hlt
      generalize hidx : s[a + k] = c at hdr
      rw [Hid, hdr] at hG
      clear hdr
      have hc8 : c.toNat < 256 := UInt8.toNat_lt c
      cases hm : mayB c.toNat k with
      | false =>
        have HG : Hid (G = ⟨0, 0, 3⟩) := by show G = _; rw [hG, rd_bad _ _ _ _ hm]
        clear hG
        by_cases h9 : 9 ≤ k
        · by_cases h1c : 1 < c.toNat
          · clear hm
            go_wp2
            go_ret3
            exact ⟨ret_got (by rw [HG.out]; rfl) (by rw [HG.out]; rfl) (by rw [HG.out]; rfl), rfl⟩
          · have h0c : c.toNat = 0 := by simp [mayB] at hm; omega
            have h0b : ((c.toNat : Int) == 0) = true := by simp [h0c]
            have h0k : 0 < k := by omega
            clear hm h0c
            go_wp2
            go_ret3
            exact ⟨ret_got (by rw [HG.out]; rfl) (by rw [HG.out]; rfl) (by rw [HG.out]; rfl), rfl⟩
        · have h0k : 0 < k := by simp [mayB] at hm; omega
          have h0c : c.toNat = 0 := by simp [mayB] at hm; omega
          have h0b : ((c.toNat : Int) == 0) = true := by simp [h0c]
          have h9' : k < 9 := by omega
          clear hm h0c h9
          go_wp2
          go_ret3
          exact ⟨ret_got (by rw [HG.out]; rfl) (by rw [HG.out]; rfl) (by rw [HG.out]; rfl), rfl⟩
      | true =>
        have HA := show Hid _ from ref_step_is c.toNat k acc hk hc8 hm hacc.out
        have HL := show Hid _ from add_lt c.toNat k acc hacc.out
        have HT := show Hid (k < 9 → _) from ref_times_is k
        have HM := show Hid _ from hm
        have HN := show Hid _ from may_more c.toNat k hk hm
        have H9 : 9 ≤ k → c.toNat ≤ 1 := by intro h; simp [mayB] at hm; omega
        have H0 : 0 < k → 1 ≤ c.toNat := by intro h; simp [mayB] at hm; omega
        clear hm hacc
        by_cases hc : c.toNat < 128
        · have HG : Hid (G = ⟨acc + c.toNat % 128 * 128 ^ k, k + 1, 0⟩) := by show G = _; rw [hG, rd_last _ _ _ _ HM.out hc]
          clear hG HN HL
          by_cases h9 : 9 ≤ k
          · have h1c := H9 h9
            have h0c := H0 (by omega)
            have h0b : ((c.toNat : Int) == 0) = false := by simp; omega
            clear H9 H0
            go_wp2
            go_ret3
            exact ⟨ret_got (by rw [HG.out]; exact HA.out) (by rw [HG.out]; simp [endAt]; omega) (by rw [HG.out]; rfl), rfl⟩
          · by_cases h0k : 0 < k
            · have h0c := H0 h0k
              have h0b : ((c.toNat : Int) == 0) = false := by simp; omega
              clear H9 H0
              go_wp2
              go_ret3
              exact ⟨ret_got (by rw [HG.out]; exact HA.out) (by rw [HG.out]; simp [endAt]; omega) (by rw [HG.out]; rfl), rfl⟩
            · clear H9 H0
              go_wp2
              go_ret3
              exact ⟨ret_got (by rw [HG.out]; exact HA.out) (by rw [HG.out]; simp [endAt]; omega) (by rw [HG.out]; rfl), rfl⟩
        · have HG : Hid (G = rd (s.data.toList.drop (a + (k + 1))) (k + 1) (acc + c.toNat % 128 * 128 ^ k)) := by show G = _; rw [hG, rd_more _ _ _ _ HM.out hc]; rfl
          have hk9 := HN.out hc
          clear hG HN H9 H0
          have h1c : 128 ≤ c.toNat := by omega
          have h0b : ((c.toNat : Int) == 0) = false := by simp; omega
          have h9b : (((a : Int) + (k : Int) - (a : Int)) == 9) = false := by rw [beq_eq_false_iff_ne]; omega
          clear hc
          by_cases h0k : 0 < k
          all_goals
            go_wp2
            go_round
            case rel => exact ⟨k + 1, _, by omega, by omega, by go_num, congrArg (Value.int .u64) HA.out, congrArg (Value.int .u64) (HT.out hk9), HL, HG⟩
            case measure => simp [intOf]; omega
    · have HG : Hid (G = ⟨0, 0, 5⟩) := by show G = _; rw [hG.out, drop_none s _ (by omega)]; rfl
      clear hG
      go_wp2
      go_ret3
      exact ⟨ret_got (by rw [HG.out]; rfl) (by rw [HG.out]; rfl) (by rw [HG.out]; rfl), rfl⟩

theorem ref_readNumber_any (s : ByteArray) (a : Int) (w : World) (hs : s.size ≤ maxLen) :
    Calls Try.prog 53 #[.string s, .int .i64 a] w fun e w' =>
      e = .returned (.tuple #[.int .u64 (rdAt s a).n, .int .i64 (endAt a (rdAt s a)), .int .i64 (rdAt s a).e]) ∧ w' = w := by
  by_cases h : 0 ≤ a ∧ a ≤ s.size
  · obtain ⟨n, rfl⟩ := Int.eq_ofNat_of_zero_le h.1
    exact ref_readNumber_in s n w (by omega) hs
  · exact ref_readNumber_out s a w h
end Go.Proofs.Ytghcijliknahdaa
