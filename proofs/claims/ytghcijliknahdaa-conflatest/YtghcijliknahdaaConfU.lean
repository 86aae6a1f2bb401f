/- How far a majority is: the reference's walk. -/
import Derived.Test.YtghcijliknahdaaConfO
namespace Go.Proofs.Ytghcijliknahdaa
open Go.RowKit Go.Maps
set_option linter.unusedVariables false
set_option linter.unusedSimpArgs false

set_option maxRecDepth 100000 in
set_option maxHeartbeats 1000000 in
theorem value_any (v : Value) (o : List Int) (m : Nat) (w : World) (hv : IntsI w v o) : Calls Try.prog 44 #[v, .int .i64 (m : Int)] w fun e w' => e = .returned (.int .i64 (vAt o (m : Int))) ∧ w' = w := by
  obtain ⟨ad, cap, rfl, hc⟩ := hv.form
  have HV : Hid (vAt o (m : Int) = o.getD m 0) := rfl
  generalize vAt o (m : Int) = R at *
  clear hv
  go_enter Try.func44, Try.ntmps44
  by_cases h : m < o.length
  · obtain ⟨b, off, rfl, hb, hcl⟩ := hc m h
    have HR : Hid (R = o[m]) := by show _ = _; rw [HV.out, List.getD_eq_getElem?_getD, List.getElem?_eq_getElem h]; rfl
    generalize o[m] = y at *
    have h0 : (0 : Int) ≤ (m : Int) := by omega
    have h1 : (m : Int) < (o.length : Int) := by omega
    clear hc HV hb
    go_wp2
    go_ret
    rw [HR.out]
    exact ⟨rfl, rfl⟩
  · have HR : Hid (R = 0) := by show _ = _; rw [HV.out, List.getD_eq_getElem?_getD, List.getElem?_eq_none (by omega)]; rfl
    have hd : decide (m < o.length) = false := decide_eq_false h
    have hd2 : decide ((m : Int) < (o.length : Int)) = false := decide_eq_false (by omega)
    clear hc HV
    go_wp2
    go_ret
    rw [HR.out]
    exact ⟨rfl, rfl⟩
set_option maxRecDepth 100000 in
set_option maxHeartbeats 2000000 in
theorem rreached_any (v v2 : Value) (l o : List Int) (w : World) (hv : IntsI w v l) (hv2 : IntsI w v2 o) (hl : l.length ≤ 9223372036854775807) : Calls Try.prog 32 #[v, v2] w fun e w' => e = .returned (.int .i64 (rchC l o)) ∧ Below w.heap.size w w' := by
  have C := hid (may_any v l w hv hl)
  have VA : Hid (∀ (m : Nat) W, Below w.heap.size w W → Calls Try.prog 44 #[v2, .int .i64 (m : Int)] W fun e w' => e = .returned (.int .i64 (vAt o (m : Int))) ∧ w' = W) := fun m W hW => value_any v2 o m W (hv2.next hW)
  have HE := hid (rch_eq l o)
  obtain ⟨ad, cap, rfl, hc⟩ := hv.form
  obtain ⟨ad2, cap2, rfl, _⟩ := hv2.form
  have HC := hid hc
  generalize rchC l o = R at *
  clear hv hv2 hl hc
  cases hA : areM l
  · have HR : Hid (R = 0) := by show _ = _; rw [HE.out, hA]; rfl
    rw [hA] at C
    clear HE VA HC hA
    go_enter Try.func32, Try.ntmps32
    go_wp2_with fail
    refine C.out.mono ?_
    rintro e w1 ⟨rfl, h1⟩
    have H1 := hid h1
    clear h1
    go_wp2
    go_ret
    rw [HR.out]
    exact ⟨rfl, H1.out⟩
  have hl7 := areM_len hA
  have hbd := areM_bd hA
  rw [hA] at C
  rw [if_pos hA] at HE
  -- what stands at each place
  obtain ⟨zs, hzs⟩ : ∃ zs, zs = l.map (vAt o) := ⟨_, rfl⟩
  have hzl : zs.length = l.length := by rw [hzs, List.length_map]
  have AT : Hid (∀ k, k < l.length → ∃ (m : Nat) (z : Int) (b off : Nat), ad = some ⟨b, off, none⟩ ∧ b < w.heap.size ∧ w.cell? ⟨b, off + k, none⟩ = some (.int .i64 (m : Int)) ∧ vAt o (m : Int) = z ∧ (∀ c, lst c (zs.drop k) = lst (min c z) (zs.drop (k + 1))) ∧ (∀ c, bst zs c (zs.drop k) = bst zs (stpB zs c z) (zs.drop (k + 1))) ∧ (∀ x, cge x (zs.drop k) = (if x ≤ z then 1 else 0) + cge x (zs.drop (k + 1))) ∧ (k = 0 → zs.getD 0 0 = z)) := fun k hk => by
    obtain ⟨b, off, ha, hb, hcl⟩ := HC.out k hk
    have hy := hbd l[k] (List.getElem_mem hk)
    have hz : zs[k]'(by rw [hzl]; exact hk) = vAt o l[k] := by simp only [hzs, List.getElem_map]
    have hm : l[k] = (l[k].toNat : Int) := by omega
    refine ⟨l[k].toNat, vAt o l[k], b, off, ha, hb, by rw [← hm]; exact hcl, by rw [← hm], fun c => ?_, fun c => ?_, fun x => ?_, fun h0 => ?_⟩
    · rw [lst_at (by rw [hzl]; exact hk), hz]
    · rw [bst_at (by rw [hzl]; exact hk), hz]
    · rw [cge_at (by rw [hzl]; exact hk), hz]
    · subst h0
      rw [List.getD_eq_getElem?_getD, List.getElem?_eq_getElem (by omega), hz]; rfl
  have HE2 : Hid (R = bst zs (lst (zs.getD 0 0) (zs.drop 0)) zs) := by show _ = _; rw [HE.out, ← hzs]; rfl
  have HZL := hid hzl
  have HL7 := hid hl7
  clear HE HC hA hbd hl7 hzs hzl
  obtain ⟨m0, z0, b0, off0, rfl, hb0, hc0, hv0, _, _, _, hz0⟩ := AT.out 0 (by have := HL7.out; omega)
  have hz0 := hz0 rfl
  rw [hz0] at HE2
  have hlp : (0 : Int) < (l.length : Int) := by have := HL7.out; omega
  rw [Nat.add_zero] at hc0
  go_enter Try.func32, Try.ntmps32
  go_wp2_with fail
  refine C.out.mono ?_
  rintro e w1 ⟨rfl, h1⟩
  have H1 := hid h1
  have hc1 := (h1.cell (p := ⟨b0, off0, none⟩) hb0).trans hc0
  have V0 := hid (VA.out m0 w1 h1)
  rw [hv0] at V0
  clear h1 C hc0 hb0 hv0 hz0
  go_wp2_with fail
  refine V0.out.mono ?_
  rintro e w2 ⟨rfl, rfl⟩
  clear V0 hc1 hlp
  go_wp2
  go_loopw [5, 6] (fun t i wr => ∃ (k : Nat) (c : Int), k ≤ l.length ∧ t = .int .i64 c ∧ i = .int .i64 (k : Int) ∧ w2 = wr ∧ Hid (R = bst zs (lst c (zs.drop k)) zs)) (fun _ i _ => l.length - (intOf i).toNat)
  case atStart => exact ⟨0, z0, Nat.zero_le _, rfl, rfl, rfl, HE2⟩
  case round =>
    clear HE2
    obtain ⟨k, c, hk, rfl, rfl, rfl, HR⟩ := hrel
    by_cases hlt : k < l.length
    · have hk0 : (0 : Int) ≤ (k : Int) := by omega
      have hk1 : (k : Int) < (l.length : Int) := by omega
      have hk7 : k < 7 := by have := HL7.out; omega
      obtain ⟨m, z, b, off, he, hb, hcl, hvz, s1, _, _, _⟩ := AT.out k hlt
      injection he with he
      injection he with e1 e2
      subst e1 e2
      have hc1 := (H1.out.cell (p := ⟨b0, off0 + k, none⟩) hb).trans hcl
      have V1 := hid (VA.out m _ H1.out)
      rw [hvz] at V1
      have HR2 : Hid (R = bst zs (lst (min c z) (zs.drop (k + 1))) zs) := by show _ = _; rw [HR.out, s1]
      clear HR s1 hb hcl hvz AT VA HL7
      go_wp2_with fail
      refine V1.out.mono ?_
      rintro e w3 ⟨rfl, rfl⟩
      clear V1
      go_wp2
      refine ⟨⟨k + 1, min c z, by omega, ?_, by go_num, by first | rfl | trivial, HR2⟩, by simp [intOf]; omega⟩
      first | rfl | (congr 1; omega) | (congr 1; split <;> omega)
    · have hk9 : k = l.length := by omega
      subst hk9
      have hdl : decide ((l.length : Int) < (l.length : Int)) = false := decide_eq_false (by omega)
      have HR1 : Hid (R = bst zs c (zs.drop 0)) := by
        show _ = _
        have := HR.out
        rw [List.drop_of_length_le (by rw [HZL.out]; exact Nat.le_refl _)] at this
        exact this
      clear HR hk hlt
      go_wp2
      go_loopw [5, 7] (fun t i wr => ∃ (k : Nat) (c : Int), k ≤ l.length ∧ t = .int .i64 c ∧ i = .int .i64 (k : Int) ∧ w2 = wr ∧ Hid (R = bst zs c (zs.drop k))) (fun _ i _ => l.length - (intOf i).toNat)
      case atStart => exact ⟨0, c, Nat.zero_le _, rfl, rfl, rfl, HR1⟩
      case round =>
        clear HR1
        obtain ⟨k, c, hk, rfl, rfl, rfl, HR⟩ := hrel
        by_cases hlt : k < l.length
        · have hk0 : (0 : Int) ≤ (k : Int) := by omega
          have hk1 : (k : Int) < (l.length : Int) := by omega
          have hk7 : k < 7 := by have := HL7.out; omega
          obtain ⟨m, z, b, off, he, hb, hcl, hvz, _, s1, _, _⟩ := AT.out k hlt
          injection he with he
          injection he with e1 e2
          subst e1 e2
          have hc1 := (H1.out.cell (p := ⟨b0, off0 + k, none⟩) hb).trans hcl
          have V1 := hid (VA.out m _ H1.out)
          rw [hvz] at V1
          have HR2 : Hid (R = bst zs (stpB zs c z) (zs.drop (k + 1))) := by show _ = _; rw [HR.out, s1]
          have HLT := hid hlt
          clear HR s1 hb hcl hvz hdl
          go_wp2_with fail
          refine V1.out.mono ?_
          rintro e w3 ⟨rfl, rfl⟩
          clear V1 hc1
          go_wp2
          go_loopw [9, 10] (fun t i wr => ∃ (j d : Nat), j ≤ l.length ∧ t = .int .i64 (d : Int) ∧ i = .int .i64 (j : Int) ∧ w3 = wr ∧ Hid (d ≤ j) ∧ Hid (cge z zs = d + cge z (zs.drop j))) (fun _ i _ => l.length - (intOf i).toNat)
          case atStart => exact ⟨0, 0, Nat.zero_le _, rfl, rfl, rfl, Nat.le_refl _, by show _ = _; rw [Nat.zero_add]; rfl⟩
          case round =>
            obtain ⟨j, d, hj, rfl, rfl, rfl, HD, HG⟩ := hrel
            by_cases hjl : j < l.length
            · have hj0 : (0 : Int) ≤ (j : Int) := by omega
              have hj1 : (j : Int) < (l.length : Int) := by omega
              have hj7 : j < 7 := by have := HL7.out; omega
              obtain ⟨m', z', b', off', he', hb', hcl', hvz', _, _, s3, _⟩ := AT.out j hjl
              injection he' with he'
              injection he' with e1 e2
              subst e1 e2
              have hc1 := (H1.out.cell (p := ⟨b0, off0 + j, none⟩) hb').trans hcl'
              have V1 := hid (VA.out m' _ H1.out)
              rw [hvz'] at V1
              have s3 := s3 z
              have hwd : wrap64 ((d : Int) + 1) = ((d + 1 : Nat) : Int) := by have := HD.out; rw [IntWalk.wrap64_in _ (by omega)]; omega
              by_cases hge : z ≤ z'
              · have HG2 : Hid (cge z zs = (d + 1) + cge z (zs.drop (j + 1))) := by show _ = _; rw [HG.out, s3, if_pos hge]; omega
                have HD2 : Hid (d + 1 ≤ j + 1) := by have := HD.out; show _ ≤ _; omega
                have hg : decide (z ≤ z') = true := decide_eq_true hge
                clear HG s3 hb' hcl' hvz' AT VA HL7 HD HR2 HLT hlt hk hk0 hk1 hk7 hge
                go_wp2_with fail
                refine V1.out.mono ?_
                rintro e w4 ⟨rfl, rfl⟩
                clear V1
                go_wp2
                exact ⟨⟨j + 1, d + 1, by omega, by first | rw [hwd] | rfl | simp, by go_num, by first | rfl | trivial, HD2, HG2⟩, by simp [intOf]; omega⟩
              · have HG2 : Hid (cge z zs = d + cge z (zs.drop (j + 1))) := by show _ = _; rw [HG.out, s3, if_neg hge]; omega
                have HD2 : Hid (d ≤ j + 1) := by have := HD.out; show _ ≤ _; omega
                have hg : decide (z ≤ z') = false := decide_eq_false hge
                clear HG s3 hb' hcl' hvz' AT VA HL7 HD HR2 HLT hlt hk hk0 hk1 hk7 hge
                go_wp2_with fail
                refine V1.out.mono ?_
                rintro e w4 ⟨rfl, rfl⟩
                clear V1
                go_wp2
                exact ⟨⟨j + 1, d, by omega, rfl, by go_num, by first | rfl | trivial, HD2, HG2⟩, by simp [intOf]; omega⟩
            · have hj9 : j = l.length := by omega
              subst hj9
              have hdl : decide ((l.length : Int) < (l.length : Int)) = false := decide_eq_false (by omega)
              have HDC : Hid (d = cge z zs) := by
                show _ = _
                have := HG.out
                rw [List.drop_of_length_le (by rw [HZL.out]; exact Nat.le_refl _)] at this
                simpa [cge] using this.symm
              have hd7 : d ≤ 7 := by have := HD.out; have := HL7.out; omega
              have hw2 : wrap64 (2 * (d : Int)) = ((2 * d : Nat) : Int) := by rw [IntWalk.wrap64_in _ (by omega)]; omega
              obtain ⟨X, hX⟩ : ∃ X, X = 2 * d := ⟨_, rfl⟩
              rw [← hX] at hw2
              have HX := hid hX
              have HST : Hid (stpB zs c z = if l.length < X ∧ c < z then z else c) := by show _ = _; unfold stpB; rw [HZL.out, ← HDC.out, HX.out]
              clear HG HDC HD hX hd7 AT VA hj hjl hk hlt
              by_cases q1 : l.length < X
              · have b1 : decide (l.length < X) = true := decide_eq_true q1
                have b1' : decide ((l.length : Int) < (X : Int)) = true := decide_eq_true (by omega)
                by_cases q2 : c < z
                · have b2 : decide (c < z) = true := decide_eq_true q2
                  have HR3 : Hid (R = bst zs z (zs.drop (k + 1))) := by show _ = _; rw [HR2.out, HST.out, if_pos ⟨q1, q2⟩]
                  clear HST HR2 q1 q2
                  go_wp2
                  have hlt := HLT.out
                  exact ⟨⟨k + 1, z, by omega, rfl, by go_num, by first | rfl | trivial, HR3⟩, by simp [intOf]; omega⟩
                · have b2 : decide (c < z) = false := decide_eq_false q2
                  have HR3 : Hid (R = bst zs c (zs.drop (k + 1))) := by show _ = _; rw [HR2.out, HST.out, if_neg (fun h => q2 h.2)]
                  clear HST HR2 q1 q2
                  go_wp2
                  have hlt := HLT.out
                  exact ⟨⟨k + 1, c, by omega, rfl, by go_num, by first | rfl | trivial, HR3⟩, by simp [intOf]; omega⟩
              · have b1 : decide (l.length < X) = false := decide_eq_false q1
                have b1' : decide ((l.length : Int) < (X : Int)) = false := decide_eq_false (by omega)
                have HR3 : Hid (R = bst zs c (zs.drop (k + 1))) := by show _ = _; rw [HR2.out, HST.out, if_neg (fun h => q1 h.1)]
                clear HST HR2 q1
                go_wp2
                have hlt := HLT.out
                exact ⟨⟨k + 1, c, by omega, rfl, by go_num, by first | rfl | trivial, HR3⟩, by simp [intOf]; omega⟩
        · have hk9 : k = l.length := by omega
          subst hk9
          have hdl : decide ((l.length : Int) < (l.length : Int)) = false := decide_eq_false (by omega)
          have HR2 : Hid (R = c) := by
            show _ = _
            rw [HR.out, List.drop_of_length_le (by rw [HZL.out]; exact Nat.le_refl _)]
            rfl
          clear HR AT VA HL7 HZL
          go_wp2
          go_ret
          rw [HR2.out]
          exact ⟨rfl, H1.out⟩
end Go.Proofs.Ytghcijliknahdaa
