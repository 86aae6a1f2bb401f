/- The walk of 'changed'. -/
import Derived.Test.YtnlodlpjokkepabChgdM
namespace Go.Proofs.Ytnlodlpjokkepab
open Go.RowKit Go.Maps
set_option linter.unusedVariables false
set_option linter.unusedSimpArgs false

/-- a call on a disk that is left -/
theorem left_call {w1 wr : World} {c : Nat → Nat} {p : Nat} {d : Ds} {k B : Nat} (hL : Left w1 c p d wr) (hR : CI d k B) (a : AC) (ha : ActOk a) (hk : k ≤ 100) (hB : B ≤ 70000000000) :
    Calls Try.prog 22 #[.pointer (some ⟨p, 0, none⟩), acV a] wr fun e w3 => e = .returned (.int .i64 (calD d a).2) ∧ Left w1 c p (calD d a).1 w3 := by
  have h1 := ha.s
  have h2 := ha.name
  have h3 := ha.to
  have h4 := hR.wt
  have h5 := hR.n
  obtain ⟨⟨ci, D, hc⟩, K⟩ := hL
  exact (call_any p ci d a wr D ha.pv (by omega) (by omega)).mono fun e w' ⟨he, hL⟩ => ⟨he, hL.trans hc K⟩
theorem left_sync {w1 wr : World} {c : Nat → Nat} {p : Nat} {d : Ds} {k B : Nat} (hL : Left w1 c p d wr) (hR : CI d k B) (hB : B ≤ 70000000000) :
    Calls Try.prog 15 #[.pointer (some ⟨p, 0, none⟩)] wr fun e w3 => e = .returned (.int .i64 0) ∧ Left w1 c p (synD d) w3 := by
  have h4 := hR.wt
  obtain ⟨⟨ci, D, hc⟩, K⟩ := hL
  exact (sync_any p ci d wr D hR.calm.dn (by omega)).mono fun e w' ⟨he, hL⟩ => ⟨he, hL.trans hc K⟩

set_option maxRecDepth 100000 in
set_option maxHeartbeats 4000000 in
theorem changed_any (v : Value) (l : List AC) (most : Nat) (w : World) (hv : ActsIn w v l) (hok : ∀ a ∈ l, ActOk a) (hlen : l.length ≤ 70368744177) (hmost : most ≤ 40) :
    Calls Try.prog 14 #[v, .int .i64 (most : Int)] w fun e w' => e = .returned (.pointer (some ⟨w.heap.size, 0, none⟩)) ∧ ∃ w1 d, Keep (fun _ => False) w w1 ∧ Left w1 (c0 w.heap.size) w.heap.size d w' ∧ CI d most (most * 1048577) := by
  obtain ⟨ad, cap, rfl⟩ : ∃ ad cap, v = .slice ad l.length cap := by
    rcases hv with ⟨ad, cap, e, e2⟩ | ⟨g, off, cap, e, _⟩
    · exact ⟨ad, cap, by rw [e, e2]; rfl⟩
    · exact ⟨_, _, e⟩
  have NW := hid (fun W : World => new_any W)
  have HV := hid hv
  have HOK := hid hok
  have RI0 : Hid (CI d0 0 (0 * 1048577)) := ⟨⟨rfl, rfl, fun x hx => by cases hx⟩, rfl, by decide, Nat.le_refl _⟩
  clear hv hok
  go_enter Try.func14, Try.ntmps14
  go_wp2_with fail
  refine (NW.out w).mono ?_
  rintro e w1 ⟨rfl, hD, hk⟩
  generalize hpp : w.heap.size = p at hD ⊢
  have HP : Hid (w.heap.size = p) := hpp
  have HK1 := hid hk
  have HL0 := hid (left_same hD (Keep.refl _ w1))
  clear NW hD hk hpp
  go_wp2
  go_loopw [6] (fun i wr => ∃ k : Nat, k ≤ l.length ∧ k ≤ most ∧ i = .int .i64 k ∧ Hid (∃ d, Left w1 (c0 p) p d wr ∧ CI d k (k * 1048577))) (fun i _ => l.length - (intOf i).toNat)
  case atStart => exact ⟨0, by omega, by omega, rfl, ⟨d0, HL0.out, RI0.out⟩⟩
  case round =>
    clear HL0 RI0
    obtain ⟨k, hk, hk40, rfl, HX⟩ := hrel
    by_cases hlt : k < l.length
    · have hk0 : (0 : Int) ≤ (k : Int) := by omega
      have hk1 : (k : Int) < (l.length : Int) := by omega
      by_cases hlt2 : k < most
      · have hk2 : (k : Int) < (most : Int) := by omega
        obtain ⟨d, hL, hR⟩ := HX.out
        have HL := hid hL
        have HA := hid (HOK.out l[k] (List.getElem_mem hlt))
        obtain ⟨g, off, hg, hcl⟩ := acts_cells (p := p) (d := d) HV.out ((HK1.out.mono (fun _ _ h => h.elim)).trans hL.2) (by have := HP.out; omega) k hlt
        have HCL : Hid (∀ d' W, Left w1 (c0 p) p d' W → ∀ i, i < 9 → W.cell? ⟨g, off + k * 9 + i, none⟩ = (acC l[k])[i]?) := by
          intro d' W hW i hi
          obtain ⟨g', off', hg', hcl'⟩ := acts_cells (p := p) (d := d) HV.out ((HK1.out.mono (fun _ _ h => h.elim)).trans hW.2) (by have := HP.out; omega) k hlt
          rw [hg] at hg'
          injection hg' with e
          injection e with e1 e2
          subst e1 e2
          exact hcl' i hi
        have RX := hid (CI.mono (hR.step l[k] HA.out.s hL.ok.1 hL.ok.2) (Nat.le_refl _) (show k * 1048577 + 1048577 ≤ (k + 1) * 1048577 by omega))
        have CL := hid (left_call hL hR l[k] HA.out (by omega) (by omega))
        have SY := hid (left_sync hL hR (by omega))
        clear hL hR HX HOK HV
        generalize l[k] = a at *
        have q0 := hcl 0 (by omega)
        simp only [acC, List.getElem?_cons_zero, Nat.add_zero] at q0
        subst hg
        by_cases hin : 0 ≤ a.kind ∧ a.kind ≤ 4
        · obtain ⟨hin1, hin2⟩ := hin
          have hge : decide (0 ≤ a.kind) = true := decide_eq_true hin1
          have hle : decide (a.kind ≤ 4) = true := decide_eq_true hin2
          have h5 : (a.kind == 5) = false := by rw [beq_eq_false_iff_ne]; omega
          have es : stD d a = (calD d a).1 := by unfold stD; rw [if_pos ⟨hin1, hin2⟩]
          rw [es] at RX
          obtain ⟨ad2, n2, cp2, hpv⟩ := HA.out.pv
          unfold acV at CL
          rw [hpv] at CL
          clear HA SY HL es
          generalize hcd : calD d a = cr at *
          clear hcd
          obtain ⟨d2, code⟩ := cr
          simp only at CL RX
          have r1 := hcl 1 (by omega)
          have r2 := hcl 2 (by omega)
          have r3 := hcl 3 (by omega)
          have r4 := hcl 4 (by omega)
          have r5 := hcl 5 (by omega)
          have r6 := hcl 6 (by omega)
          have r7 := hcl 7 (by omega)
          have r8 := hcl 8 (by omega)
          simp only [acC, List.getElem?_cons_zero, List.getElem?_cons_succ, Nat.add_zero] at r1 r2 r3 r4 r5 r6 r7 r8
          rw [hpv] at r8
          clear hcl hpv
          go_wp2_with fail
          refine CL.out.mono ?_
          rintro e w4 ⟨rfl, hL4⟩
          have HL4 := hid hL4
          have q4 := HCL.out d2 w4 hL4 0 (by omega)
          simp only [acC, List.getElem?_cons_zero, Nat.add_zero] at q4
          clear CL hL4 q0 r1 r2 r3 r4 r5 r6 r7 r8 HCL
          go_wp2
          exact ⟨⟨k + 1, by omega, by omega, by go_num, ⟨d2, HL4.out, RX.out⟩⟩, by simp [intOf]; omega⟩
        · by_cases h5 : a.kind = 5
          · have es : stD d a = synD d := by unfold stD; rw [if_neg hin, if_pos h5]
            rw [es] at RX
            rw [h5] at q0
            clear HA CL HL es hcl HCL hin
            go_wp2_with fail
            refine SY.out.mono ?_
            rintro e w4 ⟨rfl, hL4⟩
            have HL4 := hid hL4
            clear SY hL4 q0
            go_wp2
            exact ⟨⟨k + 1, by omega, by omega, by go_num, ⟨_, HL4.out, RX.out⟩⟩, by simp [intOf]; omega⟩
          · have es : stD d a = d := by unfold stD; rw [if_neg hin, if_neg h5]
            rw [es] at RX
            have h5' : (a.kind == 5) = false := by rw [beq_eq_false_iff_ne]; exact h5
            clear HA CL es hcl HCL SY
            by_cases hge : 0 ≤ a.kind
            · have hle : decide (a.kind ≤ 4) = false := decide_eq_false (fun h => hin ⟨hge, h⟩)
              clear hin
              go_wp2
              exact ⟨⟨k + 1, by omega, by omega, by go_num, ⟨_, HL.out, RX.out⟩⟩, by simp [intOf]; omega⟩
            · have hge' : decide (0 ≤ a.kind) = false := decide_eq_false hge
              clear hin
              go_wp2
              exact ⟨⟨k + 1, by omega, by omega, by go_num, ⟨_, HL.out, RX.out⟩⟩, by simp [intOf]; omega⟩
      · have hd2 : decide ((k : Int) < (most : Int)) = false := decide_eq_false (by omega)
        have HB : Hid (∃ w1 d, Keep (fun _ => False) w w1 ∧ Left w1 (c0 p) p d wr ∧ CI d most (most * 1048577)) := by
          obtain ⟨d, h, hC⟩ := HX.out
          exact ⟨w1, d, HK1.out, h, hC.mono hk40 (by omega)⟩
        clear HX HV HOK
        go_wp2
        go_ret
        rw [HP.out]
        exact ⟨rfl, HB.out⟩
    · have hd : decide ((k : Int) < (l.length : Int)) = false := decide_eq_false (by omega)
      have HB : Hid (∃ w1 d, Keep (fun _ => False) w w1 ∧ Left w1 (c0 p) p d wr ∧ CI d most (most * 1048577)) := by
        obtain ⟨d, h, hC⟩ := HX.out
        exact ⟨w1, d, HK1.out, h, hC.mono hk40 (by omega)⟩
      clear HX HV HOK
      go_wp2
      go_ret
      rw [HP.out]
      exact ⟨rfl, HB.out⟩
end Go.Proofs.Ytnlodlpjokkepab
