/- The walk of the document's names. -/
import Derived.Test.YtnlodlpjokkepabNameW
namespace Go.Proofs.Ytnlodlpjokkepab
open Go.RowKit
set_option linter.unusedVariables false
set_option linter.unusedSimpArgs false

theorem eq_empty (s : ByteArray) : (s.toList == []) = decide (s.size = 0) := by
  rw [ByteArray.toList_eq, Bool.eq_iff_iff]
  simp only [beq_iff_eq, decide_eq_true_eq]
  have e : s.data.toList.length = s.size := by simp
  constructor
  · intro h; rw [h] at e; exact e.symm
  · intro h; exact List.length_eq_zero_iff.1 (e.trans h)
theorem inN_int (n : Nat) : inN n = ((decide ((97 : Int) ≤ (n : Int)) && decide ((n : Int) ≤ 122)) || (decide ((48 : Int) ≤ (n : Int)) && decide ((n : Int) ≤ 57)) || (n : Int) == 46 || (n : Int) == 45) := by
  unfold inN
  rw [Bool.eq_iff_iff]; simp; omega

set_option maxRecDepth 100000 in
set_option maxHeartbeats 4000000 in
theorem rname_any (s : ByteArray) (w : World) : Calls Try.prog 32 #[.string s] w fun e w' => e = .returned (.bool (nameOk s.data.toList)) ∧ w' = w := by
  have hsz : s.data.toList.length = s.size := by simp
  have hem := eq_empty s
  by_cases h0 : s.size = 0
  · have e : nameOk s.data.toList = false := by unfold nameOk; rw [hsz]; simp [h0]
    rw [e]
    rw [decide_eq_true h0] at hem
    clear e hsz
    go_enter Try.func32, Try.ntmps32
    go_wp2
    go_ret
    exact ⟨rfl, rfl⟩
  · rw [decide_eq_false h0] at hem
    by_cases h1 : s.size ≤ 80
    · have h2 : decide ((80 : Int) < (s.size : Int)) = false := decide_eq_false (by omega)
      have HE : Hid (nameOk s.data.toList = s.data.toList.all fun c => inN c.toNat) := by show _ = _; unfold nameOk; rw [hsz]; simp [h1, Nat.pos_of_ne_zero h0]
      rw [HE.out]
      clear HE hsz
      have HS0 : Hid ((s.data.toList.take 0).all (fun c => inN c.toNat) = true) := rfl
      go_enter Try.func32, Try.ntmps32
      go_wp2
      go_loopw [3] (fun i wr => ∃ k : Nat, k ≤ s.size ∧ i = .int .i64 k ∧ wr = w ∧ Hid ((s.data.toList.take k).all (fun c => inN c.toNat) = true)) (fun i _ => s.size - (intOf i).toNat)
      case atStart => exact ⟨0, by omega, rfl, rfl, HS0⟩
      case round =>
        clear HS0
        obtain ⟨k, hk, rfl, hwr, HA⟩ := hrel
        subst hwr
        by_cases hlt : k < s.size
        · have hk0 : (0 : Int) ≤ (k : Int) := by omega
          have hk1 : (k : Int) < (s.size : Int) := by omega
          have HT := show Hid _ from all_take_succ s k hlt
          have HN := show Hid _ from not_all (s := s) (k := k) hlt
          generalize hc : s[k] = c at HT HN
          have HI := show Hid (_ = _) from inN_int c.toNat
          by_cases c1 : (97 : Int) ≤ (c.toNat : Int) <;> by_cases c2 : (c.toNat : Int) ≤ 122 <;> by_cases c3 : (48 : Int) ≤ (c.toNat : Int) <;> by_cases c4 : (c.toNat : Int) ≤ 57 <;> by_cases c5 : (c.toNat : Int) = 46 <;> by_cases c6 : (c.toNat : Int) = 45
          all_goals first | (exfalso; omega) | skip
          all_goals
            first
            | (have hi : inN c.toNat = true := by
                 rw [HI.out]; simp; omega
               have HT2 : Hid ((s.data.toList.take (k + 1)).all (fun c => inN c.toNat) = true) := by show _ = _; rw [HT.out, HA.out, hi]; rfl
               clear hi HI HN HT HA
               go_wp2
               exact ⟨⟨k + 1, by omega, by go_num, by trivial, HT2⟩, by simp [intOf]; omega⟩)
            | (have hi : inN c.toNat = false := by
                 rw [HI.out]; simp; omega
               have HF : Hid (false = s.data.toList.all fun c => inN c.toNat) := (HN.out hi).symm
               have n5 : ((c.toNat : Int) != 46) = true := by rw [bne_iff_ne]; exact c5
               have n6 : ((c.toNat : Int) != 45) = true := by rw [bne_iff_ne]; exact c6
               clear hi HI HN HT HA
               go_wp2
               go_ret
               exact ⟨ret_bool (by first | exact HF.out | (have h := HF.out; simpa using h)), rfl⟩)
        · have hd : decide ((k : Int) < (s.size : Int)) = false := decide_eq_false (by omega)
          have hks : k = s.size := by omega
          have HE : Hid (true = s.data.toList.all fun c => inN c.toNat) := by
            have := HA.out
            rw [hks, List.take_of_length_le (by simp)] at this
            exact this.symm
          clear HA hks
          go_wp2
          go_ret
          exact ⟨ret_bool (by first | exact HE.out | (have h := HE.out; simpa using h)), rfl⟩
    · have h2 : (80 : Int) < (s.size : Int) := by omega
      have e : nameOk s.data.toList = false := by unfold nameOk; rw [hsz]; simp [h1]
      rw [e]
      clear e hsz
      go_enter Try.func32, Try.ntmps32
      go_wp2
      go_ret
      exact ⟨rfl, rfl⟩
end Go.Proofs.Ytnlodlpjokkepab
