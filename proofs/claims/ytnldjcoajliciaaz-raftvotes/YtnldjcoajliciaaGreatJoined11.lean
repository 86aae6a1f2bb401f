/- Joined: Which configurations may be, who is a member, what a majority is: the program's walks and the reference's. The reference's May. Majorities: the program's walks and the reference's. How many are in another list; whether some nodes are a majority. -/
import Derived.Test.YtnldjcoajliciaaGreatJoined04
import Derived.Deep.QuietTactic
import Derived.BigQuiet
namespace Go.Proofs.YtnldjcoajliciaaGreat
open Go.RowKit Go.Maps
set_option linter.unusedVariables false
set_option linter.unusedSimpArgs false

set_option maxRecDepth 100000 in
set_option maxHeartbeats 400000 in
theorem isNode_any (n : Int) (w : World) : Calls Tryz.prog 92 #[.int .i64 n] w fun e w' => e = .returned (.bool (isNd n)) ∧ w' = w := by
  go_enter Tryz.func92, Tryz.ntmps92
  by_cases h : 0 ≤ n
  · have hw : isNd n = decide (n < 7) := by simp [isNd, h]
    go_wp2
    go_ret
    rw [hw]
    exact ⟨rfl, rfl⟩
  · have hw : isNd n = false := by simp [isNd]; omega
    have h' : decide (0 ≤ n) = false := decide_eq_false h
    go_wp2
    go_ret
    exact ⟨rfl, rfl⟩
theorem rises_at2 {a : Int} (ha : -1 ≤ a) {l : List Int} {k : Nat} (hk : k < l.length) : rises a (l.drop k) = (!decide (l[k] ≤ a) && isNd l[k] && rises l[k] (l.drop (k + 1))) := by
  rw [rises_at hk]
  congr 1
  unfold isNd
  by_cases h1 : a < l[k]
  · rw [decide_eq_true h1, decide_eq_false (show ¬ l[k] ≤ a by omega), decide_eq_true (show 0 ≤ l[k] by omega)]; rfl
  · rw [decide_eq_false h1, decide_eq_true (show l[k] ≤ a by omega)]; rfl
set_option maxRecDepth 100000 in
set_option maxHeartbeats 1000000 in
theorem ccheck_any (v : Value) (l : List Int) (w : World) (hv : IntsI w v l) (hl : l.length ≤ 9223372036854775807) : Calls Tryz.prog 84 #[v] w fun e w' => e = .returned (.int .i64 (chkC l)) ∧ w' = w := by
  obtain ⟨ad, cap, rfl, hc⟩ := hv.form
  have HC := hid hc
  have ND := hid (fun n W => isNode_any n W)
  have HK : Hid (chkC l = if (rises (-1) l && decide (0 < l.length)) = true then 0 else 70) := rfl
  generalize chkC l = R at *
  clear hc hv
  go_enter Tryz.func84, Tryz.ntmps84
  go_wp2
  go_loopw [3, 7] (fun a i wr => ∃ (k : Nat) (x : Int), k ≤ l.length ∧ a = .int .i64 x ∧ i = .int .i64 (k : Int) ∧ w = wr ∧ Hid (rises (-1) l = rises x (l.drop k) ∧ -1 ≤ x)) (fun _ i _ => l.length - (intOf i).toNat)
  case atStart => exact ⟨0, -1, Nat.zero_le _, rfl, rfl, rfl, rfl, by omega⟩
  case round =>
    obtain ⟨k, x, hk, rfl, rfl, rfl, HR⟩ := hrel
    by_cases hlt : k < l.length
    · have hk0 : (0 : Int) ≤ (k : Int) := by omega
      have hk1 : (k : Int) < (l.length : Int) := by omega
      obtain ⟨b, off, rfl, hb, hc⟩ := HC.out k hlt
      have HRA := hid (rises_at2 HR.out.2 hlt)
      generalize l[k] = y at *
      clear HC hb
      by_cases h1 : y ≤ x
      · have b1 : decide (y ≤ x) = true := decide_eq_true h1
        have HRF : Hid (R = 70) := by show _ = _; rw [HK.out, HR.out.1, HRA.out, b1]; rfl
        clear HR HRA HK h1 ND
        go_wp2
        go_ret
        rw [HRF.out]
        exact ⟨rfl, rfl⟩
      · have b1 : decide (y ≤ x) = false := decide_eq_false h1
        have HN := hid (ND.out y w)
        have HXY : Hid (-1 ≤ y) := by have := HR.out.2; show _ ≤ _; omega
        clear ND
        generalize isNd y = B at *
        cases B
        · have HRF : Hid (R = 70) := by show _ = _; rw [HK.out, HR.out.1, HRA.out, b1]; rfl
          clear HR HRA HK h1
          go_wp2_with fail
          refine HN.out.mono ?_
          rintro e w1 ⟨rfl, rfl⟩
          go_wp2
          go_ret
          rw [HRF.out]
          exact ⟨rfl, rfl⟩
        · have HR2 : Hid (rises (-1) l = rises y (l.drop (k + 1)) ∧ -1 ≤ y) := by refine ⟨?_, HXY.out⟩; rw [HR.out.1, HRA.out, b1]; rfl
          clear HR HRA HK h1
          go_wp2_with fail
          refine HN.out.mono ?_
          rintro e w1 ⟨rfl, rfl⟩
          go_wp2
          exact ⟨⟨k + 1, y, by omega, rfl, by go_num, by first | rfl | trivial, HR2⟩, by simp [intOf]; omega⟩
    · have hk9 : k = l.length := by omega
      subst hk9
      have hdl : decide ((l.length : Int) < (l.length : Int)) = false := decide_eq_false (by omega)
      have HR2 : Hid (R = if decide (0 < l.length) = true then 0 else 70) := by
        show _ = _
        rw [HK.out, HR.out.1, List.drop_length]
        simp [rises]
      clear HR HK HC ND
      by_cases h0 : l.length = 0
      · have hz : ((l.length : Int) == 0) = true := by rw [h0]; rfl
        have HR3 : Hid (R = 70) := by show _ = _; rw [HR2.out, h0]; rfl
        clear HR2 h0
        go_wp2
        go_ret
        rw [HR3.out]
        exact ⟨rfl, rfl⟩
      · have hz : ((l.length : Int) == 0) = false := by rw [beq_eq_false_iff_ne]; omega
        have HR3 : Hid (R = 0) := by show _ = _; rw [HR2.out, if_pos (decide_eq_true (by omega))]
        clear HR2 h0
        go_wp2
        go_ret
        rw [HR3.out]
        exact ⟨rfl, rfl⟩

set_option maxRecDepth 100000 in
set_option maxHeartbeats 1000000 in
theorem chas_any (v : Value) (l : List Int) (n : Int) (w : World) (hv : IntsI w v l) (hl : l.length ≤ 9223372036854775807) : Calls Tryz.prog 82 #[v, .int .i64 n] w fun e w' => e = .returned (.bool (hasI n l)) ∧ w' = w := by
  obtain ⟨ad, cap, rfl, hc⟩ := hv.form
  have HC := hid hc
  have HA : Hid (∃ R, R = hasI n l) := ⟨_, rfl⟩
  obtain ⟨R, HA⟩ := HA.out
  have HA : Hid (R = hasI n l) := HA
  rw [← HA.out]
  clear hc hv
  go_enter Tryz.func82, Tryz.ntmps82
  go_wp2
  go_loopw [8] (fun i wr => ∃ (k : Nat), k ≤ l.length ∧ i = .int .i64 (k : Int) ∧ w = wr ∧ Hid (hasI n l = hasI n (l.drop k))) (fun i _ => l.length - (intOf i).toNat)
  case atStart => exact ⟨0, Nat.zero_le _, rfl, rfl, rfl⟩
  case round =>
    obtain ⟨k, hk, rfl, rfl, HR⟩ := hrel
    by_cases hlt : k < l.length
    · have hk0 : (0 : Int) ≤ (k : Int) := by omega
      have hk1 : (k : Int) < (l.length : Int) := by omega
      obtain ⟨b, off, rfl, hb, hc⟩ := HC.out k hlt
      have HRA := hid (hasI_at (n := n) hlt)
      generalize l[k] = y at *
      clear HC hb
      cases h1 : (y == n)
      · have HR2 : Hid (hasI n l = hasI n (l.drop (k + 1))) := by show _ = _; rw [HR.out, HRA.out, h1]; rfl
        clear HR HRA HA
        go_wp2
        exact ⟨⟨k + 1, by omega, by go_num, by first | rfl | trivial, HR2⟩, by simp [intOf]; omega⟩
      · have HRT : Hid (R = true) := by show _ = _; rw [HA.out, HR.out, HRA.out, h1]; rfl
        clear HR HRA HA
        go_wp2
        go_ret
        rw [HRT.out]
        exact ⟨rfl, rfl⟩
    · have hk9 : k = l.length := by omega
      subst hk9
      have hdl : decide ((l.length : Int) < (l.length : Int)) = false := decide_eq_false (by omega)
      have HRF : Hid (R = false) := by
        show _ = _
        rw [HA.out, HR.out, List.drop_length]
        rfl
      clear HR HA HC
      go_wp2
      go_ret
      rw [HRF.out]
      exact ⟨rfl, rfl⟩

end Go.Proofs.YtnldjcoajliciaaGreat
namespace Go.Proofs.YtnldjcoajliciaaGreat
open Go.RowKit Go.Maps
set_option linter.unusedVariables false
set_option linter.unusedSimpArgs false

end Go.Proofs.YtnldjcoajliciaaGreat
namespace Go.Proofs.YtnldjcoajliciaaGreat
open Go.RowKit Go.Maps
set_option linter.unusedVariables false
set_option linter.unusedSimpArgs false

set_option maxRecDepth 100000 in
set_option maxHeartbeats 400000 in
theorem cmaj_any (v : Value) (l : List Int) (w : World) (hv : IntsI w v l) (hl : l.length ≤ 9223372036854775807) : Calls Tryz.prog 86 #[v] w fun e w' => e = .returned (.int .i64 (majC l : Nat)) ∧ w' = w := by
  obtain ⟨ad, cap, rfl, _⟩ := hv.form
  have C := hid (ccheck_any _ l w hv hl)
  have HM : Hid (majC l = if areM l = true then l.length / 2 + 1 else 0) := rfl
  have HL := hid (fun h : areM l = true => areM_len h)
  have HCK : Hid (chkC l = if areM l = true then 0 else 70) := rfl
  generalize chkC l = K at *
  generalize majC l = R at *
  generalize areM l = M at *
  clear hv
  go_enter Tryz.func86, Tryz.ntmps86
  cases M
  · have HR : Hid (R = 0) := HM.out
    have hkk : K = 70 := HCK.out
    subst hkk
    clear HM HL
    go_wp2_with fail
    refine C.out.mono ?_
    rintro e w1 ⟨rfl, rfl⟩
    
    go_wp2
    go_ret
    rw [HR.out]
    exact ⟨rfl, rfl⟩
  · have HR : Hid (R = l.length / 2 + 1) := HM.out
    have hl7 := (HL.out rfl).2
    have hq : ((l.length : Int)).tdiv 2 = ((l.length / 2 : Nat) : Int) := by rw [Int.tdiv_eq_ediv_of_nonneg (by omega)]; omega
    have hq2 : wrap64 (((l.length : Int)).tdiv 2) = ((l.length / 2 : Nat) : Int) := by rw [hq]; exact IntWalk.wrap64_in _ (by omega)
    have hq3 : wrap64 (((l.length / 2 : Nat) : Int) + 1) = ((l.length / 2 + 1 : Nat) : Int) := by rw [IntWalk.wrap64_in _ (by omega)]; omega
    have hkk : K = 0 := HCK.out
    subst hkk
    clear HM HL
    go_wp2_with fail
    refine C.out.mono ?_
    rintro e w1 ⟨rfl, rfl⟩
    
    go_wp2
    go_ret
    rw [HR.out]
    first | exact ⟨rfl, rfl⟩ | (refine ⟨?_, rfl⟩; first | (simp only [hq2, hq3]; done) | (rw [hq2, hq3]) | (rw [hq, hq3]) | (congr 2; omega))

end Go.Proofs.YtnldjcoajliciaaGreat
namespace Go.Proofs.YtnldjcoajliciaaGreat
open Go.RowKit Go.Maps
set_option linter.unusedVariables false
set_option linter.unusedSimpArgs false

set_option maxRecDepth 100000 in
set_option maxHeartbeats 1000000 in
theorem common_any (v v2 : Value) (l o : List Int) (w : World) (hv : IntsI w v l) (hv2 : IntsI w v2 o) (hl : l.length ≤ 4611686018427387904) (ho : o.length ≤ 9223372036854775807) : Calls Tryz.prog 89 #[v, v2] w fun e w' => e = .returned (.int .i64 (cmn o l : Nat)) ∧ w' = w := by
  obtain ⟨ad, cap, rfl, hc⟩ := hv.form
  have HC := hid hc
  have CH := hid (fun n => chas_any v2 o n w hv2 ho)
  obtain ⟨ad2, cap2, rfl, _⟩ := hv2.form
  have HA : Hid (∃ R, R = cmn o l) := ⟨_, rfl⟩
  obtain ⟨R, HA⟩ := HA.out
  have HA : Hid (R = cmn o l) := HA
  have HRL : Hid (R ≤ l.length) := by show _ ≤ _; rw [HA.out]; exact cmn_le _ _
  rw [← HA.out]
  have HHL := hid hl
  clear hc hv hv2 hl ho
  go_enter Tryz.func89, Tryz.ntmps89
  go_wp2
  go_loopw [5, 9] (fun c i wr => ∃ (k q : Nat), k ≤ l.length ∧ c = .int .i64 (q : Int) ∧ i = .int .i64 (k : Int) ∧ w = wr ∧ Hid (R = q + cmn o (l.drop k))) (fun _ i _ => l.length - (intOf i).toNat)
  case atStart => exact ⟨0, 0, Nat.zero_le _, rfl, rfl, rfl, by show _ = _; rw [HA.out]; simp⟩
  case round =>
    obtain ⟨k, q, hk, rfl, rfl, rfl, HR⟩ := hrel
    by_cases hlt : k < l.length
    · have hk0 : (0 : Int) ≤ (k : Int) := by omega
      have hk1 : (k : Int) < (l.length : Int) := by omega
      obtain ⟨b, off, rfl, hb, hc⟩ := HC.out k hlt
      have HRA := hid (cmn_at (o := o) hlt)
      generalize l[k] = y at *
      have hwk : wrap64 ((k : Int) + 1) = ((k + 1 : Nat) : Int) := by have := HHL.out; rw [IntWalk.wrap64_in _ (by omega)]; omega
      have hwq : wrap64 ((q : Int) + 1) = ((q + 1 : Nat) : Int) := by have := HHL.out; have := HR.out; have := HRL.out; rw [IntWalk.wrap64_in _ (by omega)]; omega
      have C1 := hid (CH.out y)
      have HLT := hid hlt
      clear HC hb CH HRL HHL HA hlt hk
      generalize hasI y o = B at *
      cases B
      · have HR2 : Hid (R = q + cmn o (l.drop (k + 1))) := by show _ = _; rw [HR.out, HRA.out]; simp
        clear HR HRA
        go_wp2_with fail
        refine C1.out.mono ?_
        rintro e w1 ⟨rfl, rfl⟩
        go_wp2
        exact ⟨⟨k + 1, q, HLT.out, rfl, by rw [hwk], by first | rfl | trivial, HR2⟩, by rw [hwk]; have := HLT.out; simp [intOf]; omega⟩
      · have HR2 : Hid (R = (q + 1) + cmn o (l.drop (k + 1))) := by show _ = _; rw [HR.out, HRA.out, if_pos rfl]; omega
        clear HR HRA
        go_wp2_with fail
        refine C1.out.mono ?_
        rintro e w1 ⟨rfl, rfl⟩
        go_wp2
        exact ⟨⟨k + 1, q + 1, HLT.out, by rw [hwq], by rw [hwk], by first | rfl | trivial, HR2⟩, by rw [hwk]; have := HLT.out; simp [intOf]; omega⟩
    · have hk9 : k = l.length := by omega
      subst hk9
      have hdl : decide ((l.length : Int) < (l.length : Int)) = false := decide_eq_false (by omega)
      have HR2 : Hid (q = R) := by show _ = _; rw [HR.out, List.drop_length]; rfl
      clear HR HA HC CH HRL HHL
      go_wp2
      go_ret
      rw [HR2.out]
      exact ⟨rfl, rfl⟩
set_option maxRecDepth 100000 in
set_option maxHeartbeats 1000000 in
theorem cenough_any (v v2 : Value) (l o : List Int) (w : World) (hv : IntsI w v l) (hv2 : IntsI w v2 o) (hl : l.length ≤ 4611686018427387904) (ho : o.length ≤ 9223372036854775807) : Calls Tryz.prog 79 #[v, v2] w fun e w' => e = .returned (.bool (engC l o)) ∧ w' = w := by
  have C := hid (ccheck_any v l w hv (by omega))
  have M := hid (cmaj_any v l w hv (by omega))
  have N := hid (common_any v v2 l o w hv hv2 hl ho)
  obtain ⟨ad, cap, rfl, _⟩ := hv.form
  obtain ⟨ad2, cap2, rfl, _⟩ := hv2.form
  have HK : Hid (chkC l = if areM l = true then 0 else 70) := rfl
  have HE : Hid (engC l o = (areM l && decide (l.length / 2 + 1 ≤ cmn o l))) := rfl
  have HM : Hid (areM l = true → majC l = l.length / 2 + 1) := fun h => by show (if areM l = true then _ else _) = _; rw [if_pos h]
  generalize engC l o = R at *
  generalize majC l = Q at *
  generalize cmn o l = X at *
  generalize chkC l = K at *
  generalize areM l = A at *
  clear hv hv2 hl ho
  go_enter Tryz.func79, Tryz.ntmps79
  cases A
  · have hk : K = 70 := HK.out
    subst hk
    have HR : Hid (R = false) := HE.out
    clear HE HK HM M N
    go_wp2_with fail
    refine C.out.mono ?_
    rintro e w1 ⟨rfl, rfl⟩
    go_wp2
    go_ret
    rw [HR.out]
    exact ⟨rfl, rfl⟩
  · have hk : K = 0 := HK.out
    subst hk
    have HR : Hid (R = decide ((Q : Int) ≤ (X : Int))) := by
      show _ = _
      rw [HE.out, HM.out rfl, Bool.true_and]
      congr 1
      exact propext ⟨fun h => by omega, fun h => by omega⟩
    clear HE HK HM
    go_wp2_with fail
    refine C.out.mono ?_
    rintro e w1 ⟨rfl, rfl⟩
    go_wp2_with fail
    refine N.out.mono ?_
    rintro e w1 ⟨rfl, rfl⟩
    go_wp2_with fail
    refine M.out.mono ?_
    rintro e w1 ⟨rfl, rfl⟩
    go_wp2
    go_ret
    rw [HR.out]
    first | exact ⟨rfl, rfl⟩ | (refine ⟨?_, rfl⟩; congr 2; simp)
end Go.Proofs.YtnldjcoajliciaaGreat
