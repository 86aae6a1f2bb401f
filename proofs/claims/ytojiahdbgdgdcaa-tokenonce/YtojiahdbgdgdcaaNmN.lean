/- Which texts may be tokens: both sides. -/
import Derived.Test.YtojiahdbgdgdcaaNmP
namespace Go.Proofs.Ytojiahdbgdgdcaa
open Go.RowKit Go.Shelf
set_option linter.unusedVariables false
set_option linter.unusedSimpArgs false

def tokOk (l : Bs) : Bool := decide (1 ≤ l.length) && decide (l.length ≤ 64) && l.all fun c => inTk c.toNat
set_option maxRecDepth 100000 in
set_option maxHeartbeats 1000000 in
theorem ptoken_any (s : ByteArray) (w : World) : Calls Try.prog 49 #[.string s] w fun e w' => e = .returned (.bool (tokOk s.data.toList)) ∧ w' = w := by
  have hsz : s.data.toList.length = s.size := by simp
  by_cases h1 : s.size ≤ 64
  · have HK := hid (allT_any s w (by omega))
    by_cases h0 : 1 ≤ s.size
    · have HE : Hid (tokOk s.data.toList = s.data.toList.all fun c => inTk c.toNat) := by show _ = _; unfold tokOk; rw [hsz]; simp [h0, h1]
      rw [HE.out]
      generalize (s.data.toList.all fun c => inTk c.toNat) = b at *
      have h0' : (1 : Int) ≤ (s.size : Int) := by omega
      have h1' : (s.size : Int) ≤ 64 := by omega
      clear HE hsz
      go_enter Try.func49, Try.ntmps49
      go_wp2_with fail
      refine HK.out.mono ?_
      rintro e w1 ⟨rfl, rfl⟩
      go_wp2
      go_ret
      exact ⟨rfl, rfl⟩
    · have HE : Hid (tokOk s.data.toList = false) := by show _ = _; unfold tokOk; rw [hsz]; simp [h0]
      rw [HE.out]
      have h0' : ¬ (1 : Int) ≤ (s.size : Int) := by omega
      have h0d : decide ((1 : Int) ≤ (s.size : Int)) = false := decide_eq_false h0'
      clear HE hsz HK h1 h0
      go_enter Try.func49, Try.ntmps49
      go_wp2
      go_ret
      exact ⟨rfl, rfl⟩
  · have HE : Hid (tokOk s.data.toList = false) := by show _ = _; unfold tokOk; rw [hsz]; simp [h1]
    rw [HE.out]
    have h0' : (1 : Int) ≤ (s.size : Int) := by omega
    have h1' : ¬ (s.size : Int) ≤ 64 := by omega
    have h1d : decide ((s.size : Int) ≤ 64) = false := decide_eq_false h1'
    clear HE hsz h1
    go_enter Try.func49, Try.ntmps49
    go_wp2
    go_ret
    exact ⟨rfl, rfl⟩
set_option maxRecDepth 100000 in
set_option maxHeartbeats 2000000 in
theorem rtoken_any (s : ByteArray) (w : World) (hz : s.size ≤ 140737488355328) : Calls Try.prog 52 #[.string s] w fun e w' => e = .returned (.bool (tokOk s.data.toList)) ∧ w' = w := by
  have hsz : s.data.toList.length = s.size := by simp
  have HS0 : Hid ((s.data.toList.take 0).all (fun c => inTk c.toNat) = true) := rfl
  go_enter Try.func52, Try.ntmps52
  go_wp2
  go_loopw [3] (fun i wr => ∃ k : Nat, k ≤ s.size ∧ i = .int .i64 k ∧ wr = w ∧ Hid ((s.data.toList.take k).all (fun c => inTk c.toNat) = true)) (fun i _ => s.size - (intOf i).toNat)
  case atStart => exact ⟨0, by omega, rfl, rfl, HS0⟩
  case round =>
    clear HS0
    obtain ⟨k, hk, rfl, hwr, HA⟩ := hrel
    subst hwr
    by_cases hlt : k < s.size
    · have hk0 : (0 : Int) ≤ (k : Int) := by omega
      have hk1 : (k : Int) < (s.size : Int) := by omega
      have HT := show Hid _ from allN_succ inTk s k hlt
      have HN := show Hid _ from notN_all inTk (s := s) (k := k) hlt
      generalize hc : s[k] = c at HT HN
      by_cases c1 : (c.toNat : Int) < 33
      · have hi : inTk c.toNat = false := by unfold inTk; rw [decide_eq_false (by omega)]; rfl
        have HF : Hid (false = tokOk s.data.toList) := by show _ = _; unfold tokOk; rw [HN.out hi]; simp
        clear hi HN HA HT hsz
        go_wp2
        go_ret
        exact ⟨retB HF.out, rfl⟩
      · have c1d : decide ((c.toNat : Int) < 33) = false := decide_eq_false c1
        by_cases c2 : (126 : Int) < (c.toNat : Int)
        · have hi : inTk c.toNat = false := by unfold inTk; rw [decide_eq_false (show ¬ c.toNat ≤ 126 by omega), Bool.and_false]
          have HF : Hid (false = tokOk s.data.toList) := by show _ = _; unfold tokOk; rw [HN.out hi]; simp
          clear hi HN HA HT hsz c1
          go_wp2
          go_ret
          exact ⟨retB HF.out, rfl⟩
        · have c2d : decide ((126 : Int) < (c.toNat : Int)) = false := decide_eq_false c2
          have hi : inTk c.toNat = true := by unfold inTk; rw [decide_eq_true (show 33 ≤ c.toNat by omega), decide_eq_true (show c.toNat ≤ 126 by omega)]; rfl
          rw [hi, HA.out] at HT
          clear hi HN HA hsz c1 c2
          go_wp2
          exact ⟨⟨k + 1, by omega, by go_num, by trivial, HT.out⟩, by simp [intOf]; omega⟩
    · have hd : decide ((k : Int) < (s.size : Int)) = false := decide_eq_false (by omega)
      have hks : k = s.size := by omega
      have HE : Hid (tokOk s.data.toList = (decide ((1 : Int) ≤ (s.size : Int)) && decide ((s.size : Int) ≤ 64))) := by
        have := HA.out
        rw [hks, List.take_of_length_le (by simp)] at this
        show _ = _
        unfold tokOk
        rw [this, hsz, Bool.and_true, decide_eq_decide.2 (show 1 ≤ s.size ↔ (1 : Int) ≤ (s.size : Int) by omega), decide_eq_decide.2 (show s.size ≤ 64 ↔ (s.size : Int) ≤ 64 by omega)]
      clear HA hks hsz
      by_cases h1 : (1 : Int) ≤ (s.size : Int)
      · go_wp2
        go_ret
        exact ⟨retB (by rw [HE.out]; simp [h1]), rfl⟩
      · have h1d : decide ((1 : Int) ≤ (s.size : Int)) = false := decide_eq_false h1
        go_wp2
        go_ret
        exact ⟨retB (by rw [HE.out, h1d]; rfl), rfl⟩
end Go.Proofs.Ytojiahdbgdgdcaa
