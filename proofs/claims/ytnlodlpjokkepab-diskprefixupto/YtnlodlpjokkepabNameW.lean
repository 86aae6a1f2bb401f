/- The walks of names: which texts may be one. -/
import Derived.Test.YtnlodlpjokkepabKeepM
namespace Go.Proofs.Ytnlodlpjokkepab
open Go.RowKit
set_option linter.unusedVariables false
set_option linter.unusedSimpArgs false

/-- may a byte stand in a name? -/
def inN (n : Nat) : Bool := (decide (97 ≤ n) && decide (n ≤ 122)) || (decide (48 ≤ n) && decide (n ≤ 57)) || n == 46 || n == 45
/-- may a text be a name? -/
def nameOk (l : Bs) : Bool := decide (0 < l.length) && decide (l.length ≤ 80) && l.all fun c => inN c.toNat

theorem ret_bool {a b : Bool} (h : a = b) : Ending.returned (.bool a) = .returned (.bool b) := by rw [h]
set_option maxRecDepth 100000 in
set_option maxHeartbeats 2000000 in
theorem inName_any (c : UInt8) (w : World) : Calls Try.prog 55 #[.int .u8 (c.toNat : Int)] w fun e w' => e = .returned (.bool (inN c.toNat)) ∧ w' = w := by
  generalize c.toNat = n
  unfold inN
  by_cases h1 : (97 : Int) ≤ (n : Int) <;> by_cases h2 : (n : Int) ≤ 122 <;> by_cases h3 : (48 : Int) ≤ (n : Int) <;> by_cases h4 : (n : Int) ≤ 57 <;> by_cases h5 : (n : Int) = 46
  all_goals first | (exfalso; omega) | skip
  all_goals
    have e1 : decide (97 ≤ n) = decide ((97 : Int) ≤ (n : Int)) := decide_eq_decide.2 (by omega)
    have e2 : decide (n ≤ 122) = decide ((n : Int) ≤ 122) := decide_eq_decide.2 (by omega)
    have e3 : decide (48 ≤ n) = decide ((48 : Int) ≤ (n : Int)) := decide_eq_decide.2 (by omega)
    have e4 : decide (n ≤ 57) = decide ((n : Int) ≤ 57) := decide_eq_decide.2 (by omega)
    have e5 : (n == 46) = decide ((n : Int) = 46) := by rw [Bool.eq_iff_iff]; simp; omega
    have e6 : (n == 45) = ((n : Int) == 45) := by rw [Bool.eq_iff_iff]; simp; omega
    have HE : Hid ((decide (97 ≤ n) && decide (n ≤ 122) || decide (48 ≤ n) && decide (n ≤ 57) || n == 46 || n == 45) = (decide ((97 : Int) ≤ (n : Int)) && decide ((n : Int) ≤ 122) || decide ((48 : Int) ≤ (n : Int)) && decide ((n : Int) ≤ 57) || decide ((n : Int) = 46) || ((n : Int) == 45))) := by show _ = _; rw [e1, e2, e3, e4, e5, e6]
    clear e1 e2 e3 e4 e5 e6
    rw [HE.out]
    clear HE
    go_enter Try.func55, Try.ntmps55
    go_wp2
    go_ret
    refine ⟨ret_bool ?_, rfl⟩
    first | rfl | simp [h1, h2, h3, h4, h5] | (rw [Bool.eq_iff_iff]; simp; omega)

theorem all_take_succ (s : ByteArray) (k : Nat) (h : k < s.size) : (s.data.toList.take (k + 1)).all (fun c => inN c.toNat) = ((s.data.toList.take k).all (fun c => inN c.toNat) && inN (s[k]).toNat) := by
  rw [List.take_succ_eq_append_getElem (by simpa using h), List.all_append]
  simp
  rfl
theorem not_all {s : ByteArray} {k : Nat} (h : k < s.size) (hc : inN (s[k]).toNat = false) : s.data.toList.all (fun c => inN c.toNat) = false := by
  rw [List.all_eq_false]
  exact ⟨s[k], by have : s[k] = s.data.toList[k]'(by simpa using h) := rfl; rw [this]; exact List.getElem_mem _, by rw [hc]; simp⟩

set_option maxRecDepth 100000 in
set_option maxHeartbeats 2000000 in
theorem name_any (s : ByteArray) (w : World) : Calls Try.prog 31 #[.string s] w fun e w' => e = .returned (.bool (nameOk s.data.toList)) ∧ w' = w := by
  have hsz : s.data.toList.length = s.size := by simp
  have HI := show Hid _ from fun c => inName_any c w
  by_cases h0 : s.size = 0
  · have e : nameOk s.data.toList = false := by unfold nameOk; rw [hsz]; simp [h0]
    rw [e]
    have hb : ((s.size : Int) == 0) = true := by rw [h0]; rfl
    clear e hsz HI
    go_enter Try.func31, Try.ntmps31
    go_wp2
    go_ret
    exact ⟨rfl, rfl⟩
  · have hb : ((s.size : Int) == 0) = false := by rw [beq_eq_false_iff_ne]; omega
    by_cases h1 : s.size ≤ 80
    · have h2 : decide ((80 : Int) < (s.size : Int)) = false := decide_eq_false (by omega)
      have HE : Hid (nameOk s.data.toList = s.data.toList.all fun c => inN c.toNat) := by show _ = _; unfold nameOk; rw [hsz]; simp [h1, Nat.pos_of_ne_zero h0]
      rw [HE.out]
      clear HE hsz
      have HS0 : Hid ((s.data.toList.take 0).all (fun c => inN c.toNat) = true) := rfl
      go_enter Try.func31, Try.ntmps31
      go_wp2
      go_loopw [14] (fun i wr => ∃ k : Nat, k ≤ s.size ∧ i = .int .i64 k ∧ wr = w ∧ Hid ((s.data.toList.take k).all (fun c => inN c.toNat) = true)) (fun i _ => s.size - (intOf i).toNat)
      case atStart => exact ⟨0, by omega, rfl, rfl, HS0⟩
      case round =>
        clear HS0
        obtain ⟨k, hk, rfl, hwr, HA⟩ := hrel
        subst hwr
        by_cases hlt : k < s.size
        · have hk0 : (0 : Int) ≤ (k : Int) := by omega
          have hk1 : (k : Int) < (s.size : Int) := by omega
          have HT := show Hid _ from all_take_succ s k hlt
          have HN := show Hid _ from not_all (s := s) (k := k) hlt
          generalize hc : s[k] = c at HT HN
          cases hi : inN c.toNat with
          | true =>
            have HI2 : Hid (Calls Try.prog 55 #[.int .u8 (c.toNat : Int)] wr fun e w' => e = .returned (.bool true) ∧ w' = wr) := by have := HI.out c; rw [hi] at this; exact this
            rw [hi, HA.out] at HT
            clear hi HN HA
            go_wp2_with fail
            refine HI2.out.mono ?_
            rintro e w1 ⟨rfl, rfl⟩
            go_wp2
            exact ⟨⟨k + 1, by omega, by go_num, by trivial, HT.out⟩, by simp [intOf]; omega⟩
          | false =>
            have HI2 : Hid (Calls Try.prog 55 #[.int .u8 (c.toNat : Int)] wr fun e w' => e = .returned (.bool false) ∧ w' = wr) := by have := HI.out c; rw [hi] at this; exact this
            have HF : Hid (false = s.data.toList.all fun c => inN c.toNat) := (HN.out hi).symm
            clear hi HN HA HT
            go_wp2_with fail
            refine HI2.out.mono ?_
            rintro e w1 ⟨rfl, rfl⟩
            go_wp2
            go_ret
            exact ⟨ret_bool HF.out, rfl⟩
        · have hd : decide ((k : Int) < (s.size : Int)) = false := decide_eq_false (by omega)
          have hks : k = s.size := by omega
          have HE : Hid (true = s.data.toList.all fun c => inN c.toNat) := by
            have := HA.out
            rw [hks, List.take_of_length_le (by simp)] at this
            exact this.symm
          clear HA hks
          go_wp2
          go_ret
          exact ⟨ret_bool HE.out, rfl⟩
    · have h2 : (80 : Int) < (s.size : Int) := by omega
      have e : nameOk s.data.toList = false := by unfold nameOk; rw [hsz]; simp [h1]
      rw [e]
      clear e hsz HI
      go_enter Try.func31, Try.ntmps31
      go_wp2
      go_ret
      exact ⟨rfl, rfl⟩
end Go.Proofs.Ytnlodlpjokkepab
