/- The walk of the law DiskSynced, its body. -/
import Derived.Test.YtnlodlpjokkepabWSyn
import Derived.Test.YtnlodlpjokkepabIterW
namespace Go.Proofs.Ytnlodlpjokkepab
open Go.RowKit Go.Maps
set_option linter.unusedVariables false
set_option linter.unusedSimpArgs false

/-- all files of a disk that is left, and the disk goes on beside them -/
theorem left_files {w1 wr : World} {c : Nat → Nat} {p : Nat} {d : Ds} {k B : Nat} (hL : Left w1 c p d wr) (hC : CI d k B) (hB : B ≤ 70000000000) :
    Calls Try.prog 16 #[.pointer (some ⟨p, 0, none⟩)] wr fun e w2 => ∃ v, e = .returned v ∧ w2.ownsRow wr.heap.size 50 2 v d.now.length (fC d.now) ∧ ∃ c2 : Nat → Nat, Left w2 c2 p d w2 ∧ (∀ j, wr.heap.size ≤ j → c2 j = 7) ∧ ∀ d' w', Left w2 c2 p d' w' → Left w1 c p d' w' := by
  have hsr := hL.srt
  have hok := hL.ok
  have hwt := hC.wt
  have hl := (replay_bounds d.ws d.S hok.1 hok.2).2.2
  have hl2 : d.now.length ≤ 70368744177 := by unfold Ds.now; omega
  have hL2 := hL
  obtain ⟨⟨ci, D, hc⟩, K⟩ := hL
  exact (files_any p ci d wr D hC.calm.dn hl2 hC.calm.nm hsr).mono fun e w2 ⟨v1, he, hr1, hk2⟩ => ⟨v1, he, hr1, left_fresh hL2 hk2⟩

set_option maxRecDepth 100000 in
set_option maxHeartbeats 4000000 in
theorem diskSynced_core (v : Value) (l : List AC) (a kp tn : Int) (w : World) (hv : ActsIn w v l) (hok : ∀ a ∈ l, ActOk a) (hlen : l.length ≤ 70368744177) :
    Calls Try.prog 4 #[v, .agg #[.int .i64 a, .int .i64 kp, .int .i64 tn]] w fun e w' => e = .returned (.bool true) ∧ Below w.heap.size w w' := by
  obtain ⟨ad, cap, hva⟩ : ∃ ad cap, v = .slice ad l.length cap := by
    rcases hv with ⟨ad, cap, e, e2⟩ | ⟨g, off, cap, e, _⟩
    · exact ⟨ad, cap, by rw [e, e2]; rfl⟩
    · exact ⟨_, _, e⟩
  subst hva
  have CH : Hid (∀ W, Keep (fun _ => False) w W → Calls Try.prog 14 #[.slice ad l.length cap, .int .i64 40] W fun e w' => e = .returned (.pointer (some ⟨W.heap.size, 0, none⟩)) ∧ ∃ w1 d, Keep (fun _ => False) W w1 ∧ Left w1 (c0 W.heap.size) W.heap.size d w' ∧ CI d 40 41943080) := fun W hW => changed_any _ l 40 W (hv.keep hW) hok hlen (Nat.le_refl _)
  have AW := hid (fun W : World => awake4 W)
  clear hv hok
  go_enter Try.func4, Try.ntmps4
  go_wp2_with fail
  have hk0 := keep_alloc (fun _ => False) w (.cells #[.int .i64 a, .int .i64 kp, .int .i64 tn] 35)
  have hr0 : RowIs (w.alloc (.cells #[.int .i64 a, .int .i64 kp, .int .i64 tn] 35)) w.heap.size [.int .i64 a, .int .i64 kp, .int .i64 tn] 35 := heap_alloc_new _ _
  have hsz0 : w.heap.size < (w.alloc (.cells #[.int .i64 a, .int .i64 kp, .int .i64 tn] 35)).heap.size := by simp
  generalize w.alloc (.cells #[.int .i64 a, .int .i64 kp, .int .i64 tn] 35) = w0 at *
  refine (CH.out w0 hk0).mono ?_
  rintro e w2 ⟨rfl, w1, d, hk1, hL, hC⟩
  generalize w0.heap.size = p at hL hsz0 ⊢
  have HK0 := hid hk0
  have HK1 := hid hk1
  have HR1 := hid (hr0.keep hk1 (fun h => h))
  have HPN : Hid (w.heap.size ≠ p) := by show _ ≠ _; omega
  have HPL : Hid (w.heap.size ≤ p) := by show _ ≤ _; omega
  have HL0 := hid hL
  have HC := hid hC
  clear CH hk0 hk1 hr0 hsz0 hL hC
  go_wp2_with fail
  refine (AW.out _).mono ?_
  rintro e w3 ⟨rfl, hb⟩
  have HL1 := hid (show Left w1 (c0 p) p d w3 from (by
    obtain ⟨⟨ci, D, hc⟩, K⟩ := HL0.out
    exact (left_same D (hb.keep _)).trans hc K))
  clear AW hb HL0
  go_wp2_with fail
  refine (left_sync HL1.out HC.out (by omega)).mono ?_
  rintro e w4 ⟨rfl, hL⟩
  have HL2 := hid hL
  have HS : Hid (∃ dS : Ds, dS = synD d ∧ CI dS 40 41943080 ∧ dS.ws = [] ∧ dS.now = dS.S) := ⟨_, rfl, HC.out.sync HL1.out.ok.1 HL1.out.ok.2, rfl, rfl⟩
  clear hL HL1 HC
  obtain ⟨dS, eS, hCS, hws, hnow⟩ := HS.out
  rw [← eS] at HL2
  have HC := hid hCS
  have SC := hid (syn_calls p dS hCS hws kp tn)
  have SA := hid (syn_all (d := dS) nmO [120] [121] kp tn hCS.calm.dn HL2.out.ok.1 nmO_ok (fun z hz => hCS.calm.nm z (by rw [hnow]; exact hz)))
  have UL : Hid ((upD (twoD dS nmO [120] [121]) kp tn).now.length ≤ 70368744177 ∧ dS.now.length ≤ 70000000000) := by
    have hw := hCS.wt
    rcases SA.out.oth.len with ⟨h, _⟩ | ⟨h, _⟩
    · exact ⟨by rw [h]; omega, by rw [hnow]; omega⟩
    · exact ⟨by rw [h]; omega, by rw [hnow]; omega⟩
  rw [← hnow] at SA
  clear eS HS hCS hws hnow
  go_wp2_with fail
  refine (left_files HL2.out HC.out (by omega)).mono ?_
  rintro e w5 ⟨v5, rfl, hr5, c2, hL5, h7, hT⟩
  obtain ⟨ad5, cap5, hv5⟩ := row_form hr5
  have HR5 := hid hr5
  have HL5 := hid hL5
  have H7 := hid h7
  have HT := hid hT
  subst hv5
  clear HL2 hr5 hL5 h7 hT HC
  generalize hA : dS.now = A at *
  go_wp2_with fail
  refine (step_left HL5.out SC.out.1).mono ?_
  rintro e w6 ⟨rfl, hL⟩
  have HL6 := hid hL
  clear hL HL5
  go_wp2_with fail
  refine (step_left HL6.out SC.out.2.1).mono ?_
  rintro e w7 ⟨rfl, hL⟩
  have HL7 := hid hL
  clear hL HL6
  have hr7 := fb_at (HT.out _ _ HL7.out) HR1.out HPN.out
  have f1 := hr7.cellAt (o := 1) rfl
  have f2 := hr7.cellAt (o := 2) rfl
  clear hr7
  go_wp2_with fail
  refine (step_left HL7.out SC.out.2.2.1).mono ?_
  rintro e w8 ⟨rfl, hL⟩
  have HL8 := hid hL
  clear hL HL7 f1 f2
  go_wp2_with fail
  refine (step_left HL8.out SC.out.2.2.2).mono ?_
  rintro e w9 ⟨rfl, hL⟩
  have HL9 := hid hL
  clear hL HL8 SC
  generalize upD (twoD dS nmO [120] [121]) kp tn = u at *
  have HCL : Hid (∀ (k : Nat) (hk : k < A.length) (W : World), Left w5 c2 p u W → ∃ g, ad5 = some ⟨g, 0, none⟩ ∧ W.cell? ⟨g, k * 2, none⟩ = some (.string (tx (A[k]).1)) ∧ W.cell? ⟨g, k * 2 + 1, none⟩ = some (.string (tx (A[k]).2))) := by
    intro k hk W hW
    have hb := fresh_row HR5.out H7.out hW
    rcases file_form hb with ⟨e, _⟩ | ⟨g, c1, e1⟩
    · rw [e] at hk; simp at hk
    have e2 := e1
    rw [e1] at hb
    have hc1 := file_cell hb hk
    injection e2 with e2
    exact ⟨g, e2, hc1.1, hc1.2⟩
  have RD : Hid (∀ (k : Nat) (hk : k < A.length), ∃ b, ((A[k]).1 ≠ nmO → b = (A[k]).2) ∧ ∀ W, Left w5 c2 p u W → Calls Try.prog 20 #[.pointer (some ⟨p, 0, none⟩), .string (tx (A[k]).1)] W fun e w' => e = .returned (.tuple #[.string (tx b), .int .i64 0]) ∧ Left w5 c2 p u w') := by
    intro k hk
    obtain ⟨b, hb, hb2⟩ := SA.out.rd k hk
    refine ⟨b, hb2, fun W hW => step_same hW fun W' c' hD => ?_⟩
    have := read_any p c' u (A[k]).1 W' hD
    rw [hb] at this
    exact this
  have NM : Hid (∀ W, Left w5 c2 p u W → Calls Try.prog 21 #[.pointer (some ⟨p, 0, none⟩)] W fun e w' => ∃ ad' cap', e = .returned (.slice ad' u.now.length cap') ∧ Left w5 c2 p u w') := by
    intro W hW
    obtain ⟨⟨ci, D, hc⟩, K⟩ := hW
    refine (names_any keysC sortedC p ci u W D SA.out.dn UL.out.1 (fun x hx => nameOk_len (SA.out.nm x hx))).mono fun e w' ⟨v', he, hr, hk⟩ => ?_
    obtain ⟨ad', cap', hv'⟩ := row_form hr
    exact ⟨ad', cap', by rw [he, hv'], (left_same D hk).trans hc K⟩
  have LN : Hid ((wrap64 ((u.now.length : Int) - (A.length : Int)) = 0) ∨ (wrap64 ((u.now.length : Int) - (A.length : Int)) = 1)) := by
    rcases SA.out.oth.len with ⟨h, _⟩ | ⟨h, _⟩
    · refine .inl ?_
      rw [h, IntWalk.wrap64_in _ (by omega)]; omega
    · refine .inr ?_
      rw [h, IntWalk.wrap64_in _ (by omega)]; omega
  have AL := UL.out.2
  clear SA UL HR5 H7 HR1 HPN
  generalize u.now.length = un at *
  go_wp2
  go_loopw [7] (fun i wr => ∃ k : Nat, k ≤ A.length ∧ i = .int .i64 k ∧ Hid (Left w5 c2 p u wr)) (fun i _ => A.length - (intOf i).toNat)
  case atStart => exact ⟨0, by omega, rfl, HL9⟩
  case round =>
    clear HL9
    obtain ⟨k, hk, rfl, HX⟩ := hrel
    by_cases hlt : k < A.length
    · have hk0 : (0 : Int) ≤ (k : Int) := by omega
      have hk1 : (k : Int) < (A.length : Int) := by omega
      obtain ⟨b, hb, hR⟩ := RD.out k hlt
      obtain ⟨g, hg, q0, q1⟩ := HCL.out k hlt wr HX.out
      have R1 := hid (hR wr HX.out)
      have hq := nmO_beq (A[k]).1
      have HC2 : Hid (∀ W, Left w5 c2 p u W → W.cell? ⟨g, k * 2, none⟩ = some (.string (tx (A[k]).1)) ∧ W.cell? ⟨g, k * 2 + 1, none⟩ = some (.string (tx (A[k]).2))) := by
        intro W hW
        obtain ⟨g', hg', h0, h1⟩ := HCL.out k hlt W hW
        rw [hg] at hg'
        injection hg' with e
        injection e with e
        subst e
        exact ⟨h0, h1⟩
      subst hg
      clear RD HCL NM LN hR HX
      by_cases hO : (A[k]).1 = nmO
      · rw [decide_eq_true hO] at hq
        clear hO hb
        generalize tx (A[k]).1 = X at *
        generalize tx (A[k]).2 = Y at *
        generalize tx b = Z at *
        go_wp2_with fail
        refine R1.out.mono ?_
        rintro e w10 ⟨rfl, hL⟩
        obtain ⟨q0', q1'⟩ := HC2.out w10 hL
        have HL10 := hid hL
        clear R1 HC2 hL q0 q1
        go_wp2
        exact ⟨⟨k + 1, by omega, by go_num, HL10⟩, by simp [intOf]; omega⟩
      · rw [decide_eq_false hO] at hq
        rw [hb hO] at R1
        clear hO hb
        have hyy := tl_self (tx (A[k]).2)
        generalize tx (A[k]).1 = X at *
        generalize tx (A[k]).2 = Y at *
        go_wp2_with fail
        refine R1.out.mono ?_
        rintro e w10 ⟨rfl, hL⟩
        obtain ⟨q0', q1'⟩ := HC2.out w10 hL
        have HL10 := hid hL
        clear R1 HC2 hL q0 q1
        go_wp2
        exact ⟨⟨k + 1, by omega, by go_num, HL10⟩, by simp [intOf]; omega⟩
    · have hd : decide ((k : Int) < (A.length : Int)) = false := decide_eq_false (by omega)
      have HB : Hid (∀ W, Left w5 c2 p u W → Below w.heap.size w W) := fun W hW => mov_below HK0.out HK1.out (HT.out _ _ hW) (Keep.refl _ _) HPL.out
      have N1 := hid (NM.out wr HX.out)
      clear RD HCL NM HX HT HK0 HK1 HPL
      go_wp2_with fail
      refine N1.out.mono ?_
      rintro e w10 ⟨ad', cap', rfl, hL⟩
      have HB2 := hid (HB.out w10 hL)
      clear N1 HB hL
      rcases LN.out with hn | hn
      · clear LN
        go_wp2
        go_ret
        exact ⟨rfl, HB2.out⟩
      · clear LN
        go_wp2
        go_ret
        exact ⟨rfl, HB2.out⟩
end Go.Proofs.Ytnlodlpjokkepab
