/- Which texts are digests, and which pieces may be: both sides. -/
import Derived.Test.YtbiapepalkdkdaaCvM
import Derived.Test.YtbiapepalkdkdaaRUnhex
import Derived.Deep.RegionHeld3
namespace Go.Proofs.Ytbiapepalkdkdaa
open Go.RowKit Go.Maps
set_option linter.unusedVariables false
set_option linter.unusedSimpArgs false

theorem all_at (l : List UInt8) (k : Nat) (hk : k < l.length) : (l.drop k).all dgC = (dgC l[k] && (l.drop (k + 1)).all dgC) := by
  rw [List.drop_eq_getElem_cons hk]; rfl
set_option maxRecDepth 100000 in
set_option maxHeartbeats 1000000 in
theorem isDigest_any (s : ByteArray) (w : World) : Calls Try.prog 34 #[.string s] w fun e w' => e = .returned (.bool (isDg s)) ∧ Below w.heap.size w w' := by
  by_cases h : s.size = 64
  · have HI : Hid (isDg s = (s.data.toList.drop 0).all dgC) := by show _ = _; unfold isDg; simp [h]
    have HA : Hid (∀ k (hk : k < s.data.toList.length), (s.data.toList.drop k).all dgC = (dgC s.data.toList[k] && (s.data.toList.drop (k + 1)).all dgC)) := fun k hk => all_at _ k hk
    have hz : s.data.toList.length = s.size := by simp
    generalize isDg s = R at *
    have hn : ((s.size : Int) != 64) = false := by rw [h]; rfl
    have hn2 : (s.size == 64) = true := by rw [h]; rfl
    have HZ := hid hz
    have H64 := hid h
    clear h hz
    go_enter Try.func34, Try.ntmps34
    go_wp2
    go_loopw [10] (fun i wr => ∃ k : Nat, k ≤ s.size ∧ i = .int .i64 (k : Int) ∧ Hid (Below w.heap.size w wr) ∧ Hid (R = (s.data.toList.drop k).all dgC)) (fun i _ => s.size - (intOf i).toNat)
    case atStart => exact ⟨0, Nat.zero_le _, rfl, Below.refl _ _, HI⟩
    case round =>
      clear HI hn hn2
      obtain ⟨k, hk, rfl, HB, HR⟩ := hrel
      by_cases hlt : k < s.size
      · have hk0 : (0 : Int) ≤ (k : Int) := by omega
        have hk1 : (k : Int) < (s.size : Int) := by omega
        have HLT := hid hlt
        have hkl : k < s.data.toList.length := by rw [HZ.out]; exact hlt
        have HC : s.data.toList[k] = s[k] := rfl
        have HS : Hid (R = (dgC s[k] && (s.data.toList.drop (k + 1)).all dgC)) := by show _ = _; rw [HR.out, HA.out k hkl, HC]
        have HD : Hid (dgC s[k] = decide (0 ≤ halfN s[k].toNat)) := rfl
        clear HR HA HZ HC
        generalize hc : s[k] = c at HS HD
        have hwk : wrap64 ((k : Int) + 1) = ((k + 1 : Nat) : Int) := by have := H64.out; rw [IntWalk.wrap64_in _ (by omega)]; omega
        have hcl := UInt8.toNat_lt c
        clear hlt hk
        by_cases h1 : 48 ≤ c.toNat ∧ c.toNat ≤ 57
        · have HS2 : Hid (R = (s.data.toList.drop (k + 1)).all dgC) := by
            show _ = _
            rw [HS.out, HD.out, decide_eq_true (by unfold halfN; rw [if_pos h1]; omega), Bool.true_and]
          have h4 : decide ((c.toNat : Int) < 48) = false := decide_eq_false (by omega)
          have h5 : decide (57 < (c.toNat : Int)) = false := decide_eq_false (by omega)
          clear HS HD h1 hcl
          go_wp2
          exact ⟨⟨k + 1, HLT.out, by first | rw [hwk] | rfl | simp, HB, HS2⟩, by rw [hwk]; have := HLT.out; simp [intOf]; omega⟩
        · by_cases h2 : 97 ≤ c.toNat ∧ c.toNat ≤ 102
          · have HS2 : Hid (R = (s.data.toList.drop (k + 1)).all dgC) := by
              show _ = _
              rw [HS.out, HD.out, decide_eq_true (by unfold halfN; rw [if_neg h1, if_pos h2]; omega), Bool.true_and]
            have h3 : decide ((c.toNat : Int) < 48) = false := decide_eq_false (by omega)
            have h4 : decide ((c.toNat : Int) < 97) = false := decide_eq_false (by omega)
            have h5 : decide (102 < (c.toNat : Int)) = false := decide_eq_false (by omega)
            have h6 : decide (57 < (c.toNat : Int)) = true := decide_eq_true (by omega)
            clear HS HD h1 h2 hcl
            go_wp2
            exact ⟨⟨k + 1, HLT.out, by first | rw [hwk] | rfl | simp, HB, HS2⟩, by rw [hwk]; have := HLT.out; simp [intOf]; omega⟩
          · have HS2 : Hid (R = false) := by
              show _ = _
              rw [HS.out, HD.out, decide_eq_false (by unfold halfN; rw [if_neg h1, if_neg h2]; omega), Bool.false_and]
            have hr := HS2.out
            subst hr
            clear HS HD HS2
            by_cases h3 : c.toNat < 48
            · have h4 : decide ((c.toNat : Int) < 48) = true := decide_eq_true (by omega)
              have h5 : decide ((c.toNat : Int) < 97) = true := decide_eq_true (by omega)
              clear h1 h2 hcl h3
              go_wp2
              go_ret
              exact ⟨rfl, HB.out⟩
            · have h4 : decide ((c.toNat : Int) < 48) = false := decide_eq_false (by omega)
              have h6 : decide (57 < (c.toNat : Int)) = true := decide_eq_true (by omega)
              by_cases h7 : c.toNat < 97
              · have h5 : decide ((c.toNat : Int) < 97) = true := decide_eq_true (by omega)
                clear h1 h2 hcl h3 h7
                go_wp2
                go_ret
                exact ⟨rfl, HB.out⟩
              · have h5 : decide ((c.toNat : Int) < 97) = false := decide_eq_false (by omega)
                have h8 : decide (102 < (c.toNat : Int)) = true := decide_eq_true (by omega)
                clear h1 h2 hcl h3 h7
                go_wp2
                go_ret
                exact ⟨rfl, HB.out⟩
      · have hke : k = s.size := by omega
        have hd : decide ((k : Int) < (s.size : Int)) = false := decide_eq_false (by omega)
        have HS2 : Hid (R = true) := by
          show _ = _
          rw [HR.out, hke, ← HZ.out, List.drop_length]; rfl
        have hr := HS2.out
        subst hr
        clear HR HA HZ HS2 hke
        go_wp2
        go_ret
        exact ⟨rfl, HB.out⟩
  · have HI : isDg s = false := by unfold isDg; simp [h]
    rw [HI]
    have hn : ((s.size : Int) != 64) = true := by rw [bne_iff_ne]; omega
    have hn2 : (s.size == 64) = false := by rw [beq_eq_false_iff_ne]; exact h
    clear HI h
    go_enter Try.func34, Try.ntmps34
    go_wp2
    go_ret
    exact ⟨rfl, Below.refl _ _⟩
set_option maxRecDepth 100000 in
set_option maxHeartbeats 1000000 in
theorem rmay6_any (s : ByteArray) (w : World) (hs : s.size ≤ 140737488355328) : Calls Try.prog 35 #[.string s] w fun e w' => e = .returned (.bool (isDg s)) ∧ Below w.heap.size w w' := by
  have U := hid (runhex_any s w hs (unh s.data.toList []).1 (unh s.data.toList []).2 rfl)
  have HI := hid (isDg_unh s)
  generalize isDg s = R at *
  generalize (unh s.data.toList []).1 = X at *
  generalize (unh s.data.toList []).2 = E at *
  clear hs
  have hz2 : decide (s.size = 64) = ((s.size : Int) == 64) := by
    by_cases h : s.size = 64
    · rw [h]; rfl
    · rw [decide_eq_false h, eq_comm, beq_eq_false_iff_ne]; omega
  rw [hz2] at HI
  clear hz2
  by_cases h0 : E = 0
  · subst h0
    have HR : Hid (R = ((s.size : Int) == 64)) := by have := HI.out; show _ = _; rw [this]; rfl
    clear HI
    by_cases h4 : s.size = 64
    · have hz : ((s.size : Int) == 64) = true := by rw [h4]; rfl
      have hz2 : (s.size == 64) = true := by rw [h4]; rfl
      have hr := HR.out
      rw [hz] at hr
      subst hr
      clear h4 HR
      go_enter Try.func35, Try.ntmps35
      go_wp2_with fail
      refine U.out.mono ?_
      rintro e w1 ⟨rfl, b1⟩
      have B1 := hid b1
      clear U b1
      go_wp2
      go_ret
      exact ⟨rfl, B1.out⟩
    · have hz : ((s.size : Int) == 64) = false := by rw [beq_eq_false_iff_ne]; omega
      have hz2 : (s.size == 64) = false := by rw [beq_eq_false_iff_ne]; exact h4
      have hr := HR.out
      rw [hz] at hr
      subst hr
      clear h4 HR
      go_enter Try.func35, Try.ntmps35
      go_wp2_with fail
      refine U.out.mono ?_
      rintro e w1 ⟨rfl, b1⟩
      have B1 := hid b1
      clear U b1
      go_wp2
      go_ret
      exact ⟨rfl, B1.out⟩
  · have hE : ((E : Int) == 0) = false := by rw [beq_eq_false_iff_ne]; omega
    have hr : R = false := by rw [HI.out, hE]; rfl
    subst hr
    clear HI h0
    go_enter Try.func35, Try.ntmps35
    go_wp2_with fail
    refine U.out.mono ?_
    rintro e w1 ⟨rfl, b1⟩
    have B1 := hid b1
    clear U b1
    go_wp2
    go_ret
    exact ⟨rfl, B1.out⟩
end Go.Proofs.Ytbiapepalkdkdaa
