/- The walk of the law DiskPrefix, its body. -/
import Derived.Test.YtnlodlpjokkepabWPre
import Derived.Test.YtnlodlpjokkepabA4Bulk
namespace Go.Proofs.Ytnlodlpjokkepab
open Go.RowKit Go.Maps
set_option linter.unusedVariables false
set_option linter.unusedSimpArgs false

theorem pre_min (keep : Int) (q : Nat) : min (max keep 0) (q : Int) = ((min keep.toNat q : Nat) : Int) := by omega

set_option maxRecDepth 100000 in
set_option maxHeartbeats 4000000 in
theorem diskPrefix_core (v : Value) (l : List AC) (v2 : Value) (l2 : List AC) (keep : Int) (w : World) (hv : ActsIn w v l) (hok : ∀ a ∈ l, ActOk a) (hlen : l.length ≤ 70368744177) (hv2 : ActsIn w v2 l2) (hok2 : ∀ a ∈ l2, ActOk a) (hlen2 : l2.length ≤ 70368744177) :
    Calls Try.prog 5 #[v, v2, .int .i64 keep] w fun e w' => e = .returned (.bool true) ∧ Below w.heap.size w w' := by
  obtain ⟨ad1, cap1, rfl⟩ : ∃ ad cap, v = .slice ad l.length cap := by
    rcases hv with ⟨ad, cap, e, e2⟩ | ⟨g, off, cap, e, _⟩
    · exact ⟨ad, cap, by rw [e, e2]; rfl⟩
    · exact ⟨_, _, e⟩
  obtain ⟨ad2, cap2, rfl⟩ : ∃ ad cap, v2 = .slice ad l2.length cap := by
    rcases hv2 with ⟨ad, cap, e, e2⟩ | ⟨g, off, cap, e, _⟩
    · exact ⟨ad, cap, by rw [e, e2]; rfl⟩
    · exact ⟨_, _, e⟩
  have CH : Hid (Calls Try.prog 14 #[.slice ad1 l.length cap1, .int .i64 30] w fun e w' => e = .returned (.pointer (some ⟨w.heap.size, 0, none⟩)) ∧ ∃ w1 d, Keep (fun _ => False) w w1 ∧ Left w1 (c0 w.heap.size) w.heap.size d w' ∧ CI d 30 31457310) := changed_any _ l 30 w hv hok hlen (by decide)
  have AW := hid (fun W : World => awake4 W)
  have HV := hid hv2
  have HOK := hid hok2
  clear hv hok hlen hv2 hok2
  go_enter Try.func5, Try.ntmps5
  go_wp2_with fail
  refine CH.out.mono ?_
  rintro e w2 ⟨rfl, w1, d, hk1, hL, hC⟩
  generalize hpp : w.heap.size = p at hL ⊢
  have HP : Hid (w.heap.size = p) := hpp
  have HK1 := hid hk1
  have HL0 := hid hL
  have HC := hid hC
  clear CH hk1 hL hC hpp
  go_wp2_with fail
  refine (AW.out _).mono ?_
  rintro e w3 ⟨rfl, hb⟩
  have HL1 := hid (show Left w1 (c0 p) p d w3 from (by
    obtain ⟨⟨ci, D, hc⟩, K⟩ := HL0.out
    exact (left_same D (hb.keep _)).trans hc K))
  clear AW hb HL0
  go_wp2_with fail
  refine (left_sync HL1.out HC.out (by omega)).mono ?_
  rintro e w4 ⟨rfl, hL⟩
  have HL2 := hid hL
  have HS : Hid (∃ dS : Ds, dS = synD d ∧ CI dS 30 31457310 ∧ dS.ws = []) := ⟨_, rfl, HC.out.sync HL1.out.ok.1 HL1.out.ok.2, rfl⟩
  clear hL HL1 HC
  obtain ⟨dS, eS, hCS, hws⟩ := HS.out
  rw [← eS] at HL2
  have FN := hid (files_new HL2.out hCS (by omega))
  have HH := hid (hist_new hws hCS.calm.nm)
  have HC := hid hCS
  clear eS HS hCS hws HL2
  go_wp2_with fail
  refine FN.out.mono ?_
  rintro e w5 ⟨ad5, cap5, rfl, hM⟩
  have HM := hid hM
  have P0 : Hid (PreI w1 p (some ⟨w5.heap.size, 0, none⟩) 1 1 0 (w5.alloc (.cells #[.slice ad5 dS.now.length cap5] 26))) := ⟨dS, [dS.now], rfl, HM.out, HC.out, HH.out⟩
  clear FN hM HM HH HC
  go_wp2
  go_loopw [8, 9] (fun m i wr => ∃ k : Nat, k ≤ l2.length ∧ k ≤ 20 ∧ i = .int .i64 k ∧ ∃ ad n cp, m = .slice ad n cp ∧ Hid (PreI w1 p ad n cp k wr)) (fun _ i _ => l2.length - (intOf i).toNat)
  case atStart => exact ⟨0, by omega, by omega, rfl, _, _, _, rfl, P0⟩
  case round =>
    clear P0
    obtain ⟨k, hk, hk20, rfl, ad, n, cp, rfl, HX⟩ := hrel
    have HBE : Hid (∀ W, Keep (fun j => c0 p j < 7) w1 W → Below w.heap.size w W) := fun W hW => by
      have kk : Keep (fun j => c0 p j < 7) w W := (HK1.out.mono (fun _ _ h => h.elim)).trans hW
      refine keep_below kk (fun j hj h => ?_) (Nat.le_refl _)
      have h' : (if j = p then 0 else 7) < 7 := h
      have := HP.out
      rw [if_neg (by omega)] at h'
      omega
    by_cases hlt : k < l2.length
    · have hk0 : (0 : Int) ≤ (k : Int) := by omega
      have hk1 : (k : Int) < (l2.length : Int) := by omega
      by_cases hlt2 : k < 20
      · have hk2 : (k : Int) < 20 := by omega
        have HA := hid (HOK.out l2[k] (List.getElem_mem hlt))
        obtain ⟨g, off, hg, hcl⟩ := acts_cells (p := p) (d := dS) HV.out ((HK1.out.mono (fun _ _ h => h.elim)).trans HX.out.keep) (by have := HP.out; omega) k hlt
        obtain ⟨code, hCA⟩ := pre_call HX.out hlt2 l2[k] HA.out
        have CA := hid hCA
        have XN := hid HX.out.next
        clear HX HOK HV hCA HBE
        generalize l2[k] = a at *
        have q0 := hcl 0 (by omega)
        simp only [acC, List.getElem?_cons_zero, Nat.add_zero] at q0
        subst hg
        by_cases hin : 0 ≤ a.kind ∧ a.kind ≤ 4
        · obtain ⟨hin1, hin2⟩ := hin
          have hge : decide (0 ≤ a.kind) = true := decide_eq_true hin1
          have hle : decide (a.kind ≤ 4) = true := decide_eq_true hin2
          obtain ⟨adx, nx, cpx, hpv⟩ := HA.out.pv
          unfold acV at CA
          rw [hpv] at CA
          clear HA XN
          have r1 := hcl 1 (by omega)
          have r2 := hcl 2 (by omega)
          have r3 := hcl 3 (by omega)
          have r4 := hcl 4 (by omega)
          have r5 := hcl 5 (by omega)
          have r6 := hcl 6 (by omega)
          have r7 := hcl 7 (by omega)
          have r8 := hcl 8 (by omega)
          simp only [acC, List.getElem?_cons_zero, List.getElem?_cons_succ, Nat.add_zero] at r1 r2 r3 r4 r5 r6 r7 r8
          rw [hpv] at r8
          clear hcl hpv
          by_cases hcode : code = 0
          · subst hcode
            go_wp2_with fail
            refine CA.out.mono ?_
            rintro e w6 ⟨rfl, _, hF⟩
            have HF := hid (hF (by trivial))
            clear CA hF q0 r1 r2 r3 r4 r5 r6 r7 r8
            go_wp2_with fail
            refine HF.out.mono ?_
            rintro e w7 ⟨adf, nf, cpf, rfl, hn, hsz, vs, hr, hN⟩
            have HR := hid hr
            have HSZ := hid hsz
            have HNL := hid hn
            have HN := hid hN
            clear HF hr hsz hn hN
            go_wp2_with (at_builtin; go_loud (refine wpl_may rfl _ _ rfl w1.heap.size (.slice ad n cp) vs n (.slice adf nf cpf) rfl w7 #[.slice adf nf cpf] rfl rfl rfl rfl HR.out HSZ.out HNL.out ?_; intro ad3 cp3 w8 hr8 hk8 hl8))
            have HX8 := hid (HN.out ad3 cp3 w8 hr8 hk8 hl8)
            clear HN HR HSZ HNL hr8 hk8 hl8
            go_wp2
            exact ⟨⟨k + 1, by omega, by omega, by go_num, _, _, _, rfl, HX8⟩, by simp [intOf]; omega⟩
          · have hcb : (code == 0) = false := by rw [beq_eq_false_iff_ne]; exact hcode
            go_wp2_with fail
            refine CA.out.mono ?_
            rintro e w6 ⟨rfl, hF, _⟩
            have HX8 := hid (hF hcode)
            clear CA hF q0 r1 r2 r3 r4 r5 r6 r7 r8
            go_wp2
            exact ⟨⟨k + 1, by omega, by omega, by go_num, _, _, _, rfl, HX8⟩, by simp [intOf]; omega⟩
        · clear HA hcl CA
          by_cases hge : 0 ≤ a.kind
          · have hle : decide (a.kind ≤ 4) = false := decide_eq_false (fun h => hin ⟨hge, h⟩)
            clear hin
            go_wp2
            exact ⟨⟨k + 1, by omega, by omega, by go_num, _, _, _, rfl, XN⟩, by simp [intOf]; omega⟩
          · have hge' : decide (0 ≤ a.kind) = false := decide_eq_false hge
            clear hin
            go_wp2
            exact ⟨⟨k + 1, by omega, by omega, by go_num, _, _, _, rfl, XN⟩, by simp [intOf]; omega⟩
      · have hd2 : decide ((k : Int) < 20) = false := decide_eq_false (by omega)
        obtain ⟨q, hnq, hq, hW, hF⟩ := pre_end HX.out hk20 keep
        have HW := hid hW
        have HF := hid hF
        have hmin := pre_min keep q
        have hqq : wrap64 ((n : Int) - 1) = (q : Int) := by rw [IntWalk.wrap64_in _ (by omega)]; omega
        have hqi : IntKind.i64.wrap ((n : Int) - 1) = (q : Int) := by rw [IntKind.wrap_i64]; omega
        have hj : min keep.toNat q < n := by omega
        generalize min keep.toNat q = j at *
        have hj0 : (0 : Int) ≤ (j : Int) := by omega
        have hj1 : (j : Int) < (n : Int) := by omega
        clear hnq
        clear HX HV HOK hW hF
        go_wp2_with fail
        refine HW.out.mono ?_
        rintro e w6 ⟨rfl, rfl⟩
        clear HW
        go_wp2_with fail
        refine HF.out.mono ?_
        rintro e w7 ⟨rfl, hU⟩
        have HU := hid hU
        clear HF hU
        go_wp2_with fail
        refine HU.out.mono ?_
        rintro e w8 ⟨rfl, hK8, g, vx, rfl, ⟨a1, a2, a3, rfl⟩, hcx, hFl⟩
        have HKa : Hid (Keep (fun _ => False) w8 w8) := Keep.refl _ _
        have HKb : Hid (Keep (fun _ => False) w8 w8.drew) := keep_drew _ _
        have FL := hid hFl
        clear HU hFl
        go_wp2
        go_region_held3 (fun w' => w'.cell? ⟨g, j, none⟩ = some (.slice a1 a2 a3)) (first | with_reducible assumption | go_keep) (first | (go_at_call 16; with_reducible (refine (FL.out _ ?_).mono ?_); (first | exact HKa.out | exact HKb.out); rintro e w9 ⟨adf, nf, cpf, rfl, hcy, hSm⟩) | (go_at_call 24; with_reducible (refine (hSm _ ?_).mono ?_); (first | exact Keep.refl _ _ | exact keep_drew _ _); rintro e w10 ⟨rfl, hK10, hcz⟩))
        all_goals
          have HB := hid (HBE.out _ hK10)
          go_wp2
          go_ret
          exact ⟨rfl, HB.out⟩
    · have hd : decide ((k : Int) < (l2.length : Int)) = false := decide_eq_false (by omega)
      obtain ⟨q, hnq, hq, hW, hF⟩ := pre_end HX.out hk20 keep
      have HW := hid hW
      have HF := hid hF
      have hmin := pre_min keep q
      have hqq : wrap64 ((n : Int) - 1) = (q : Int) := by rw [IntWalk.wrap64_in _ (by omega)]; omega
      have hqi : IntKind.i64.wrap ((n : Int) - 1) = (q : Int) := by rw [IntKind.wrap_i64]; omega
      have hj : min keep.toNat q < n := by omega
      generalize min keep.toNat q = j at *
      have hj0 : (0 : Int) ≤ (j : Int) := by omega
      have hj1 : (j : Int) < (n : Int) := by omega
      clear hnq
      clear HX HV HOK hW hF
      go_wp2_with fail
      refine HW.out.mono ?_
      rintro e w6 ⟨rfl, rfl⟩
      clear HW
      go_wp2_with fail
      refine HF.out.mono ?_
      rintro e w7 ⟨rfl, hU⟩
      have HU := hid hU
      clear HF hU
      go_wp2_with fail
      refine HU.out.mono ?_
      rintro e w8 ⟨rfl, hK8, g, vx, rfl, ⟨a1, a2, a3, rfl⟩, hcx, hFl⟩
      have HKa : Hid (Keep (fun _ => False) w8 w8) := Keep.refl _ _
      have HKb : Hid (Keep (fun _ => False) w8 w8.drew) := keep_drew _ _
      have FL := hid hFl
      clear HU hFl
      go_wp2
      go_region_held3 (fun w' => w'.cell? ⟨g, j, none⟩ = some (.slice a1 a2 a3)) (first | with_reducible assumption | go_keep) (first | (go_at_call 16; with_reducible (refine (FL.out _ ?_).mono ?_); (first | exact HKa.out | exact HKb.out); rintro e w9 ⟨adf, nf, cpf, rfl, hcy, hSm⟩) | (go_at_call 24; with_reducible (refine (hSm _ ?_).mono ?_); (first | exact Keep.refl _ _ | exact keep_drew _ _); rintro e w10 ⟨rfl, hK10, hcz⟩))
      all_goals
        have HB := hid (HBE.out _ hK10)
        go_wp2
        go_ret
        exact ⟨rfl, HB.out⟩
end Go.Proofs.Ytnlodlpjokkepab
