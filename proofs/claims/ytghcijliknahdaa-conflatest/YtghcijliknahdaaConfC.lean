/- How many are in another list; whether some nodes are a majority. -/
import Derived.Test.YtghcijliknahdaaConfB
namespace Go.Proofs.Ytghcijliknahdaa
open Go.RowKit Go.Maps
set_option linter.unusedVariables false
set_option linter.unusedSimpArgs false

set_option maxRecDepth 100000 in
set_option maxHeartbeats 1000000 in
theorem common_any (v v2 : Value) (l o : List Int) (w : World) (hv : IntsI w v l) (hv2 : IntsI w v2 o) (hl : l.length ≤ 4611686018427387904) (ho : o.length ≤ 9223372036854775807) : Calls Try.prog 34 #[v, v2] w fun e w' => e = .returned (.int .i64 (cmn o l : Nat)) ∧ w' = w := by
  obtain ⟨ad, cap, rfl, hc⟩ := hv.form
  have HC := hid hc
  have CH := hid (fun n => chas_any v2 o n w hv2 ho)
  obtain ⟨ad2, cap2, rfl, _⟩ := hv2.form
  have HA : Hid (∃ R, R = cmn o l) := ⟨_, rfl⟩
  obtain ⟨R, HA⟩ := HA.out
  have HA : Hid (R = cmn o l) := HA
  have HRL : Hid (R ≤ l.length) := by show _ ≤ _; rw [HA.out]; exact cmn_le _ _
  rw [← HA.out]
  have HHL := hid hl
  clear hc hv hv2 hl ho
  go_enter Try.func34, Try.ntmps34
  go_wp2
  go_loopw [5, 9] (fun c i wr => ∃ (k q : Nat), k ≤ l.length ∧ c = .int .i64 (q : Int) ∧ i = .int .i64 (k : Int) ∧ w = wr ∧ Hid (R = q + cmn o (l.drop k))) (fun _ i _ => l.length - (intOf i).toNat)
  case atStart => exact ⟨0, 0, Nat.zero_le _, rfl, rfl, rfl, by show _ = _; rw [HA.out]; simp⟩
  case round =>
    obtain ⟨k, q, hk, rfl, rfl, rfl, HR⟩ := hrel
    by_cases hlt : k < l.length
    · have hk0 : (0 : Int) ≤ (k : Int) := by omega
      have hk1 : (k : Int) < (l.length : Int) := by omega
      obtain ⟨b, off, rfl, hb, hc⟩ := HC.out k hlt
      have HRA := hid (cmn_at (o := o) hlt)
      generalize l[k] = y at *
      have hwk : wrap64 ((k : Int) + 1) = ((k + 1 : Nat) : Int) := by have := HHL.out; rw [IntWalk.wrap64_in _ (by omega)]; omega
      have hwq : wrap64 ((q : Int) + 1) = ((q + 1 : Nat) : Int) := by have := HHL.out; have := HR.out; have := HRL.out; rw [IntWalk.wrap64_in _ (by omega)]; omega
      have C1 := hid (CH.out y)
      have HLT := hid hlt
      clear HC hb CH HRL HHL HA hlt hk
      generalize hasI y o = B at *
      cases B
      · have HR2 : Hid (R = q + cmn o (l.drop (k + 1))) := by show _ = _; rw [HR.out, HRA.out]; simp
        clear HR HRA
        go_wp2_with fail
        refine C1.out.mono ?_
        rintro e w1 ⟨rfl, rfl⟩
        go_wp2
        exact ⟨⟨k + 1, q, HLT.out, rfl, by rw [hwk], by first | rfl | trivial, HR2⟩, by rw [hwk]; have := HLT.out; simp [intOf]; omega⟩
      · have HR2 : Hid (R = (q + 1) + cmn o (l.drop (k + 1))) := by show _ = _; rw [HR.out, HRA.out, if_pos rfl]; omega
        clear HR HRA
        go_wp2_with fail
        refine C1.out.mono ?_
        rintro e w1 ⟨rfl, rfl⟩
        go_wp2
        exact ⟨⟨k + 1, q + 1, HLT.out, by rw [hwq], by rw [hwk], by first | rfl | trivial, HR2⟩, by rw [hwk]; have := HLT.out; simp [intOf]; omega⟩
    · have hk9 : k = l.length := by omega
      subst hk9
      have hdl : decide ((l.length : Int) < (l.length : Int)) = false := decide_eq_false (by omega)
      have HR2 : Hid (q = R) := by show _ = _; rw [HR.out, List.drop_length]; rfl
      clear HR HA HC CH HRL HHL
      go_wp2
      go_ret
      rw [HR2.out]
      exact ⟨rfl, rfl⟩
set_option maxRecDepth 100000 in
set_option maxHeartbeats 1000000 in
theorem cenough_any (v v2 : Value) (l o : List Int) (w : World) (hv : IntsI w v l) (hv2 : IntsI w v2 o) (hl : l.length ≤ 4611686018427387904) (ho : o.length ≤ 9223372036854775807) : Calls Try.prog 16 #[v, v2] w fun e w' => e = .returned (.bool (engC l o)) ∧ w' = w := by
  have C := hid (ccheck_any v l w hv (by omega))
  have M := hid (cmaj_any v l w hv (by omega))
  have N := hid (common_any v v2 l o w hv hv2 hl ho)
  obtain ⟨ad, cap, rfl, _⟩ := hv.form
  obtain ⟨ad2, cap2, rfl, _⟩ := hv2.form
  have HK : Hid (chkC l = if areM l = true then 0 else 70) := rfl
  have HE : Hid (engC l o = (areM l && decide (l.length / 2 + 1 ≤ cmn o l))) := rfl
  have HM : Hid (areM l = true → majC l = l.length / 2 + 1) := fun h => by show (if areM l = true then _ else _) = _; rw [if_pos h]
  generalize engC l o = R at *
  generalize majC l = Q at *
  generalize cmn o l = X at *
  generalize chkC l = K at *
  generalize areM l = A at *
  clear hv hv2 hl ho
  go_enter Try.func16, Try.ntmps16
  cases A
  · have hk : K = 70 := HK.out
    subst hk
    have HR : Hid (R = false) := HE.out
    clear HE HK HM M N
    go_wp2_with fail
    refine C.out.mono ?_
    rintro e w1 ⟨rfl, rfl⟩
    go_wp2
    go_ret
    rw [HR.out]
    exact ⟨rfl, rfl⟩
  · have hk : K = 0 := HK.out
    subst hk
    have HR : Hid (R = decide ((Q : Int) ≤ (X : Int))) := by
      show _ = _
      rw [HE.out, HM.out rfl, Bool.true_and]
      congr 1
      exact propext ⟨fun h => by omega, fun h => by omega⟩
    clear HE HK HM
    go_wp2_with fail
    refine C.out.mono ?_
    rintro e w1 ⟨rfl, rfl⟩
    go_wp2_with fail
    refine N.out.mono ?_
    rintro e w1 ⟨rfl, rfl⟩
    go_wp2_with fail
    refine M.out.mono ?_
    rintro e w1 ⟨rfl, rfl⟩
    go_wp2
    go_ret
    rw [HR.out]
    first | exact ⟨rfl, rfl⟩ | (refine ⟨?_, rfl⟩; congr 2; simp)
set_option maxRecDepth 100000 in
set_option maxHeartbeats 1000000 in
theorem renough_any (v v2 : Value) (l o : List Int) (w : World) (hv : IntsI w v l) (hv2 : IntsI w v2 o) (hl : l.length ≤ 2305843009213693952) (ho : o.length ≤ 9223372036854775807) : Calls Try.prog 17 #[v, v2] w fun e w' => e = .returned (.bool (engC l o)) ∧ Below w.heap.size w w' := by
  have C := hid (may_any v l w hv (by omega))
  obtain ⟨ad, cap, rfl, hc⟩ := hv.form
  have HC := hid hc
  have CH := hid (fun n => rhas_any v2 o n w hv2 ho)
  obtain ⟨ad2, cap2, rfl, _⟩ := hv2.form
  have HE := hid (engC_two l o)
  have HA : Hid (∃ R, R = cmn o l) := ⟨_, rfl⟩
  obtain ⟨R, HA⟩ := HA.out
  have HA : Hid (R = cmn o l) := HA
  have HRL : Hid (R ≤ l.length) := by show _ ≤ _; rw [HA.out]; exact cmn_le _ _
  rw [← HA.out] at HE
  generalize engC l o = E at *
  generalize areM l = M at *
  have HHL := hid hl
  clear hc hv hv2 hl ho
  go_enter Try.func17, Try.ntmps17
  go_wp2
  go_loopw [5, 6] (fun c i wr => ∃ (k q : Nat), k ≤ l.length ∧ c = .int .i64 (q : Int) ∧ i = .int .i64 (k : Int) ∧ w = wr ∧ Hid (R = q + cmn o (l.drop k))) (fun _ i _ => l.length - (intOf i).toNat)
  case atStart => exact ⟨0, 0, Nat.zero_le _, rfl, rfl, rfl, by show _ = _; rw [HA.out]; simp⟩
  case round =>
    obtain ⟨k, q, hk, rfl, rfl, rfl, HR⟩ := hrel
    by_cases hlt : k < l.length
    · have hk0 : (0 : Int) ≤ (k : Int) := by omega
      have hk1 : (k : Int) < (l.length : Int) := by omega
      obtain ⟨b, off, rfl, hb, hc⟩ := HC.out k hlt
      have HRA := hid (cmn_at (o := o) hlt)
      generalize l[k] = y at *
      have hwk : wrap64 ((k : Int) + 1) = ((k + 1 : Nat) : Int) := by have := HHL.out; rw [IntWalk.wrap64_in _ (by omega)]; omega
      have hwq : wrap64 ((q : Int) + 1) = ((q + 1 : Nat) : Int) := by have := HHL.out; have := HR.out; have := HRL.out; rw [IntWalk.wrap64_in _ (by omega)]; omega
      have C1 := hid (CH.out y)
      have HLT := hid hlt
      clear HC hb CH HRL HHL HA hlt hk C HE
      generalize hasI y o = B at *
      cases B
      · have HR2 : Hid (R = q + cmn o (l.drop (k + 1))) := by show _ = _; rw [HR.out, HRA.out]; simp
        clear HR HRA
        go_wp2_with fail
        refine C1.out.mono ?_
        rintro e w1 ⟨rfl, rfl⟩
        go_wp2
        exact ⟨⟨k + 1, q, HLT.out, rfl, by rw [hwk], by first | rfl | trivial, HR2⟩, by rw [hwk]; have := HLT.out; simp [intOf]; omega⟩
      · have HR2 : Hid (R = (q + 1) + cmn o (l.drop (k + 1))) := by show _ = _; rw [HR.out, HRA.out, if_pos rfl]; omega
        clear HR HRA
        go_wp2_with fail
        refine C1.out.mono ?_
        rintro e w1 ⟨rfl, rfl⟩
        go_wp2
        exact ⟨⟨k + 1, q + 1, HLT.out, by rw [hwq], by rw [hwk], by first | rfl | trivial, HR2⟩, by rw [hwk]; have := HLT.out; simp [intOf]; omega⟩
    · have hk9 : k = l.length := by omega
      subst hk9
      have hdl : decide ((l.length : Int) < (l.length : Int)) = false := decide_eq_false (by omega)
      have HR2 : Hid (q = R) := by show _ = _; rw [HR.out, List.drop_length]; rfl
      have hw2 : wrap64 (2 * (q : Int)) = ((2 * q : Nat) : Int) := by have := HHL.out; have := HR2.out; have := HRL.out; rw [IntWalk.wrap64_in _ (by omega)]; omega
      clear HR HA HC CH HRL HHL
      cases M
      · have HF : Hid (E = false) := HE.out
        clear HE
        go_wp2_with fail
        refine C.out.mono ?_
        rintro e w1 ⟨rfl, h1⟩
        have H1 := hid h1
        clear h1 C
        go_wp2
        go_ret
        rw [HF.out]
        exact ⟨rfl, H1.out⟩
      · have HF : Hid (E = decide ((l.length : Int) < ((2 * q : Nat) : Int))) := by
          show _ = _
          rw [HE.out, Bool.true_and, HR2.out]
          congr 1
          exact propext ⟨fun h => by omega, fun h => by omega⟩
        clear HE
        go_wp2_with fail
        refine C.out.mono ?_
        rintro e w1 ⟨rfl, h1⟩
        have H1 := hid h1
        clear h1 C
        go_wp2
        go_ret
        rw [HF.out]
        first | exact ⟨rfl, H1.out⟩ | (refine ⟨?_, H1.out⟩; congr 2; simp)

end Go.Proofs.Ytghcijliknahdaa
