/- Which configurations may be, who is a member, what a majority is: the program's walks and the reference's. -/
import Derived.Test.YtghcijliknahdaaConfM
import Derived.Deep.QuietTactic
import Derived.BigQuiet
namespace Go.Proofs.Ytghcijliknahdaa
open Go.RowKit Go.Maps
set_option linter.unusedVariables false
set_option linter.unusedSimpArgs false

set_option maxRecDepth 100000 in
set_option maxHeartbeats 400000 in
theorem isNode_any (n : Int) (w : World) : Calls Try.prog 33 #[.int .i64 n] w fun e w' => e = .returned (.bool (isNd n)) ∧ w' = w := by
  go_enter Try.func33, Try.ntmps33
  by_cases h : 0 ≤ n
  · have hw : isNd n = decide (n < 7) := by simp [isNd, h]
    go_wp2
    go_ret
    rw [hw]
    exact ⟨rfl, rfl⟩
  · have hw : isNd n = false := by simp [isNd]; omega
    have h' : decide (0 ≤ n) = false := decide_eq_false h
    go_wp2
    go_ret
    exact ⟨rfl, rfl⟩
theorem rises_at2 {a : Int} (ha : -1 ≤ a) {l : List Int} {k : Nat} (hk : k < l.length) : rises a (l.drop k) = (!decide (l[k] ≤ a) && isNd l[k] && rises l[k] (l.drop (k + 1))) := by
  rw [rises_at hk]
  congr 1
  unfold isNd
  by_cases h1 : a < l[k]
  · rw [decide_eq_true h1, decide_eq_false (show ¬ l[k] ≤ a by omega), decide_eq_true (show 0 ≤ l[k] by omega)]; rfl
  · rw [decide_eq_false h1, decide_eq_true (show l[k] ≤ a by omega)]; rfl
set_option maxRecDepth 100000 in
set_option maxHeartbeats 1000000 in
theorem ccheck_any (v : Value) (l : List Int) (w : World) (hv : IntsI w v l) (hl : l.length ≤ 9223372036854775807) : Calls Try.prog 10 #[v] w fun e w' => e = .returned (.int .i64 (chkC l)) ∧ w' = w := by
  obtain ⟨ad, cap, rfl, hc⟩ := hv.form
  have HC := hid hc
  have ND := hid (fun n W => isNode_any n W)
  have HK : Hid (chkC l = if (rises (-1) l && decide (0 < l.length)) = true then 0 else 70) := rfl
  generalize chkC l = R at *
  clear hc hv
  go_enter Try.func10, Try.ntmps10
  go_wp2
  go_loopw [3, 7] (fun a i wr => ∃ (k : Nat) (x : Int), k ≤ l.length ∧ a = .int .i64 x ∧ i = .int .i64 (k : Int) ∧ w = wr ∧ Hid (rises (-1) l = rises x (l.drop k) ∧ -1 ≤ x)) (fun _ i _ => l.length - (intOf i).toNat)
  case atStart => exact ⟨0, -1, Nat.zero_le _, rfl, rfl, rfl, rfl, by omega⟩
  case round =>
    obtain ⟨k, x, hk, rfl, rfl, rfl, HR⟩ := hrel
    by_cases hlt : k < l.length
    · have hk0 : (0 : Int) ≤ (k : Int) := by omega
      have hk1 : (k : Int) < (l.length : Int) := by omega
      obtain ⟨b, off, rfl, hb, hc⟩ := HC.out k hlt
      have HRA := hid (rises_at2 HR.out.2 hlt)
      generalize l[k] = y at *
      clear HC hb
      by_cases h1 : y ≤ x
      · have b1 : decide (y ≤ x) = true := decide_eq_true h1
        have HRF : Hid (R = 70) := by show _ = _; rw [HK.out, HR.out.1, HRA.out, b1]; rfl
        clear HR HRA HK h1 ND
        go_wp2
        go_ret
        rw [HRF.out]
        exact ⟨rfl, rfl⟩
      · have b1 : decide (y ≤ x) = false := decide_eq_false h1
        have HN := hid (ND.out y w)
        have HXY : Hid (-1 ≤ y) := by have := HR.out.2; show _ ≤ _; omega
        clear ND
        generalize isNd y = B at *
        cases B
        · have HRF : Hid (R = 70) := by show _ = _; rw [HK.out, HR.out.1, HRA.out, b1]; rfl
          clear HR HRA HK h1
          go_wp2_with fail
          refine HN.out.mono ?_
          rintro e w1 ⟨rfl, rfl⟩
          go_wp2
          go_ret
          rw [HRF.out]
          exact ⟨rfl, rfl⟩
        · have HR2 : Hid (rises (-1) l = rises y (l.drop (k + 1)) ∧ -1 ≤ y) := by refine ⟨?_, HXY.out⟩; rw [HR.out.1, HRA.out, b1]; rfl
          clear HR HRA HK h1
          go_wp2_with fail
          refine HN.out.mono ?_
          rintro e w1 ⟨rfl, rfl⟩
          go_wp2
          exact ⟨⟨k + 1, y, by omega, rfl, by go_num, by first | rfl | trivial, HR2⟩, by simp [intOf]; omega⟩
    · have hk9 : k = l.length := by omega
      subst hk9
      have hdl : decide ((l.length : Int) < (l.length : Int)) = false := decide_eq_false (by omega)
      have HR2 : Hid (R = if decide (0 < l.length) = true then 0 else 70) := by
        show _ = _
        rw [HK.out, HR.out.1, List.drop_length]
        simp [rises]
      clear HR HK HC ND
      by_cases h0 : l.length = 0
      · have hz : ((l.length : Int) == 0) = true := by rw [h0]; rfl
        have HR3 : Hid (R = 70) := by show _ = _; rw [HR2.out, h0]; rfl
        clear HR2 h0
        go_wp2
        go_ret
        rw [HR3.out]
        exact ⟨rfl, rfl⟩
      · have hz : ((l.length : Int) == 0) = false := by rw [beq_eq_false_iff_ne]; omega
        have HR3 : Hid (R = 0) := by show _ = _; rw [HR2.out, if_pos (decide_eq_true (by omega))]
        clear HR2 h0
        go_wp2
        go_ret
        rw [HR3.out]
        exact ⟨rfl, rfl⟩

set_option maxRecDepth 100000 in
set_option maxHeartbeats 1000000 in
theorem chas_any (v : Value) (l : List Int) (n : Int) (w : World) (hv : IntsI w v l) (hl : l.length ≤ 9223372036854775807) : Calls Try.prog 12 #[v, .int .i64 n] w fun e w' => e = .returned (.bool (hasI n l)) ∧ w' = w := by
  obtain ⟨ad, cap, rfl, hc⟩ := hv.form
  have HC := hid hc
  have HA : Hid (∃ R, R = hasI n l) := ⟨_, rfl⟩
  obtain ⟨R, HA⟩ := HA.out
  have HA : Hid (R = hasI n l) := HA
  rw [← HA.out]
  clear hc hv
  go_enter Try.func12, Try.ntmps12
  go_wp2
  go_loopw [8] (fun i wr => ∃ (k : Nat), k ≤ l.length ∧ i = .int .i64 (k : Int) ∧ w = wr ∧ Hid (hasI n l = hasI n (l.drop k))) (fun i _ => l.length - (intOf i).toNat)
  case atStart => exact ⟨0, Nat.zero_le _, rfl, rfl, rfl⟩
  case round =>
    obtain ⟨k, hk, rfl, rfl, HR⟩ := hrel
    by_cases hlt : k < l.length
    · have hk0 : (0 : Int) ≤ (k : Int) := by omega
      have hk1 : (k : Int) < (l.length : Int) := by omega
      obtain ⟨b, off, rfl, hb, hc⟩ := HC.out k hlt
      have HRA := hid (hasI_at (n := n) hlt)
      generalize l[k] = y at *
      clear HC hb
      cases h1 : (y == n)
      · have HR2 : Hid (hasI n l = hasI n (l.drop (k + 1))) := by show _ = _; rw [HR.out, HRA.out, h1]; rfl
        clear HR HRA HA
        go_wp2
        exact ⟨⟨k + 1, by omega, by go_num, by first | rfl | trivial, HR2⟩, by simp [intOf]; omega⟩
      · have HRT : Hid (R = true) := by show _ = _; rw [HA.out, HR.out, HRA.out, h1]; rfl
        clear HR HRA HA
        go_wp2
        go_ret
        rw [HRT.out]
        exact ⟨rfl, rfl⟩
    · have hk9 : k = l.length := by omega
      subst hk9
      have hdl : decide ((l.length : Int) < (l.length : Int)) = false := decide_eq_false (by omega)
      have HRF : Hid (R = false) := by
        show _ = _
        rw [HA.out, HR.out, List.drop_length]
        rfl
      clear HR HA HC
      go_wp2
      go_ret
      rw [HRF.out]
      exact ⟨rfl, rfl⟩

set_option maxRecDepth 100000 in
set_option maxHeartbeats 1000000 in
theorem rhas_any (v : Value) (l : List Int) (n : Int) (w : World) (hv : IntsI w v l) (hl : l.length ≤ 9223372036854775807) : Calls Try.prog 13 #[v, .int .i64 n] w fun e w' => e = .returned (.bool (hasI n l)) ∧ w' = w := by
  obtain ⟨ad, cap, rfl, hc⟩ := hv.form
  have HC := hid hc
  have HA : Hid (∃ R, R = hasI n l) := ⟨_, rfl⟩
  obtain ⟨R, HA⟩ := HA.out
  have HA : Hid (R = hasI n l) := HA
  rw [← HA.out]
  clear hc hv
  go_enter Try.func13, Try.ntmps13
  go_wp2
  go_loopw [5] (fun i wr => ∃ (k : Nat), k ≤ l.length ∧ i = .int .i64 (k : Int) ∧ w = wr ∧ Hid (hasI n l = hasI n (l.drop k))) (fun i _ => l.length - (intOf i).toNat)
  case atStart => exact ⟨0, Nat.zero_le _, rfl, rfl, rfl⟩
  case round =>
    obtain ⟨k, hk, rfl, rfl, HR⟩ := hrel
    by_cases hlt : k < l.length
    · have hk0 : (0 : Int) ≤ (k : Int) := by omega
      have hk1 : (k : Int) < (l.length : Int) := by omega
      obtain ⟨b, off, rfl, hb, hc⟩ := HC.out k hlt
      have HRA := hid (hasI_at (n := n) hlt)
      generalize l[k] = y at *
      clear HC hb
      cases h1 : (y == n)
      · have HR2 : Hid (hasI n l = hasI n (l.drop (k + 1))) := by show _ = _; rw [HR.out, HRA.out, h1]; rfl
        clear HR HRA HA
        go_wp2
        exact ⟨⟨k + 1, by omega, by go_num, by first | rfl | trivial, HR2⟩, by simp [intOf]; omega⟩
      · have HRT : Hid (R = true) := by show _ = _; rw [HA.out, HR.out, HRA.out, h1]; rfl
        clear HR HRA HA
        go_wp2
        go_ret
        rw [HRT.out]
        exact ⟨rfl, rfl⟩
    · have hk9 : k = l.length := by omega
      subst hk9
      have hdl : decide ((l.length : Int) < (l.length : Int)) = false := decide_eq_false (by omega)
      have HRF : Hid (R = false) := by
        show _ = _
        rw [HA.out, HR.out, List.drop_length]
        rfl
      clear HR HA HC
      go_wp2
      go_ret
      rw [HRF.out]
      exact ⟨rfl, rfl⟩

end Go.Proofs.Ytghcijliknahdaa
