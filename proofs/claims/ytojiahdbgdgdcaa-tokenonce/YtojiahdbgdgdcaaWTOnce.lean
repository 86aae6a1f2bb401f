/- The law TokenOnce, walked. -/
import Derived.Test.YtojiahdbgdgdcaaTkX
import Derived.Test.YtojiahdbgdgdcaaTkJ
import Derived.Test.YtojiahdbgdgdcaaTkK
import Derived.Test.YtojiahdbgdgdcaaTkZ
import Derived.Test.YtojiahdbgdgdcaaIBulk
import Derived.Laws.Concat
import Derived.Deep.LoopGhost
import Derived.Deep.CutRange
import Derived.Deep.RegionHeld3
import Derived.BigQuiet
import Derived.Deep.QuietTactic
namespace Go.Proofs.Ytojiahdbgdgdcaa
open Go.RowKit Go.Maps
set_option linter.unusedVariables false
set_option linter.unusedSimpArgs false

theorem HdI.cells {w : World} {v : Value} {l : List Hd} (h : HdI w v l) : ∃ ad cap, v = .slice ad l.length cap ∧ ∀ k (hk : k < l.length), ∃ b off, ad = some ⟨b, off, none⟩ ∧ ∀ W, Below w.heap.size w W → W.cell? ⟨b, off + k * 4, none⟩ = some (.string l[k].tk) ∧ W.cell? ⟨b, off + k * 4 + 1, none⟩ = some (.string l[k].su) ∧ W.cell? ⟨b, off + k * 4 + 2, none⟩ = some (.string l[k].ou) ∧ W.cell? ⟨b, off + k * 4 + 3, none⟩ = some (.int .i64 l[k].at_) := by
  obtain ⟨ad, cap, e, hc⟩ := h.form
  refine ⟨ad, cap, e, fun k hk => ?_⟩
  obtain ⟨b, off, e, hb, c0, c1, c2, c3⟩ := hc k hk
  exact ⟨b, off, e, fun W hB => ⟨(hB.cell (p := ⟨b, off + k * 4, none⟩) hb).trans c0, (hB.cell (p := ⟨b, off + k * 4 + 1, none⟩) hb).trans c1, (hB.cell (p := ⟨b, off + k * 4 + 2, none⟩) hb).trans c2, (hB.cell (p := ⟨b, off + k * 4 + 3, none⟩) hb).trans c3⟩⟩
theorem own_cells {w : World} {B : Nat} {ad : Option Addr} {cap : Nat} {l : List Hd} (h : OwnH w B 31 (.slice ad l.length cap) l) (k : Nat) (hk : k < l.length) : ∃ b off, ad = some ⟨b, off, none⟩ ∧ ∀ W, Below w.heap.size w W → W.cell? ⟨b, off + k * 4, none⟩ = some (.string l[k].tk) ∧ W.cell? ⟨b, off + k * 4 + 1, none⟩ = some (.string l[k].su) ∧ W.cell? ⟨b, off + k * 4 + 2, none⟩ = some (.string l[k].ou) ∧ W.cell? ⟨b, off + k * 4 + 3, none⟩ = some (.int .i64 l[k].at_) := by
  obtain ⟨ad', cap', e, hc⟩ := h.hd.cells
  injection e with e1 e2 e3
  subst e1
  exact hc k hk
set_option maxRecDepth 100000 in
set_option maxHeartbeats 16000000 in
theorem tokenOnce_walk (v : Value) (q : List Hd) (uv : Value) (us : List Int) (w : World) (hv : HdI w v q) (hz : q.length * 56 ≤ 140737488355328) (hy : ∀ y ∈ q, ibulk.SzHb y) (hu : IntsI w uv us) (hf : ∀ x ∈ us, (Lit.int .i64 x).wf = true) (hul : us.length ≤ 17592186044416) : Calls Try.prog 7 #[v, uv] w fun e w' => e = .returned (.bool true) ∧ Below w.heap.size w w' := by
  obtain ⟨ad, cap, rfl, hc⟩ := hv.cells
  obtain ⟨adu, capu, rfl, hcu⟩ := hu.form
  have HC := hid hc
  have HCU : Hid (∀ k (hk : k < us.length), ∃ b off, adu = some ⟨b, off, none⟩ ∧ ∀ W, Below w.heap.size w W → W.cell? ⟨b, off + k, none⟩ = some (.int .i64 us[k])) := fun k hk => by
    obtain ⟨b, off, e, hb, c0⟩ := hcu k hk
    exact ⟨b, off, e, fun W hB => (hB.cell (p := ⟨b, off + k, none⟩) hb).trans c0⟩
  have AW := hid (fun W => awake15 W)
  have NT := hid (fun W tv T x h => note15_any tv T x W h)
  have EX := hid (fun W tv T (u : Int) h => expire15_any tv T u W h)
  have LK := hid (fun W tv T t s h => look15_any tv T t s W h)
  have HQ : Hid (q.length ≤ 8796093022208) := by show _ ≤ _; omega
  clear hv hz hy hu hf hul hc hcu
  go_enter Try.func7, Try.ntmps7
  go_wp2_with fail
  refine (AW.out _).mono ?_
  rintro e w0 ⟨rfl, b0⟩
  have O0 := hid (OS.nil w w0 b0)
  have R0 := hid relK_nil
  clear b0 AW
  go_wp2
  go_loopg [5, 6, 7] q.length (fun gk s5 s6 s7 wr => ∃ (i : Nat) (T K : List Hd) (adt : Option Addr) (cpt : Nat) (adk : Option Addr) (cpk : Nat), i ≤ q.length ∧ q.length - i ≤ gk ∧ s5 = .slice adt T.length cpt ∧ s6 = .slice adk K.length cpk ∧ s7 = .int .i64 (i : Int) ∧ Hid (RelK T K) ∧ Hid (OS w (.slice adt T.length cpt) T (.slice adk K.length cpk) K wr))
  case atStart => exact ⟨0, [], [], none, 0, none, 0, Nat.zero_le _, by omega, rfl, rfl, rfl, R0, O0⟩
  case round =>
    clear O0 R0
    obtain ⟨i, T, K, adt, cpt, adk, cpk, hi, hg, rfl, rfl, rfl, HR, HO⟩ := hrel
    by_cases hlt : i < q.length
    case neg =>
      have g1 : decide ((i : Int) < (q.length : Int)) = false := decide_eq_false (by omega)
      have g2 : decide (i < q.length) = false := decide_eq_false hlt
      clear HC HCU NT EX LK HR hlt hi hg
      go_wp2
      go_ret
      exact ⟨rfl, HO.out.b⟩
    have g1 : decide ((i : Int) < (q.length : Int)) = true := decide_eq_true (by omega)
    have g2 : decide (i < q.length) = true := decide_eq_true hlt
    by_cases h120 : i < 120
    case neg =>
      have g3 : decide ((i : Int) < 120) = false := decide_eq_false (by omega)
      have g4 : decide (i < 120) = false := decide_eq_false h120
      clear HC HCU NT EX LK HR hlt hi hg h120
      go_wp2
      go_ret
      exact ⟨rfl, HO.out.b⟩
    have g3 : decide ((i : Int) < 120) = true := decide_eq_true (by omega)
    have g4 : decide (i < 120) = true := decide_eq_true h120
    have hi0 : (0 : Int) ≤ (i : Int) := by omega
    have hi1 : (i : Int) < (q.length : Int) := by omega
    have hi2 : (i : Int) < 120 := by omega
    have hwi : wrap64 ((i : Int) + 1) = ((i + 1 : Nat) : Int) := by rw [IntWalk.wrap64_in _ (by omega)]; omega
    have HLT := hid hlt
    have HG := hid hg
    obtain ⟨b, off, rfl, hcc⟩ := HC.out i hlt
    have HCC := hid hcc
    obtain ⟨d0, d1, d2, d3⟩ := hcc _ HO.out.b
    have N1 := hid (NT.out _ _ T q[i] HO.out.t.hd)
    have NC := hid (note_cases T q[i] HR.out.1)
    have HAS := hid (HR.out.has q[i].tk)
    have HTK : Hid (∀ j (hj : j < K.length), hasH (K.take (j + 1)) q[i].tk = (hasH (K.take j) q[i].tk || decide (K[j].tk = q[i].tk))) := fun j hj => has_take K _ j hj
    have HINS : Hid (hdOk q[i] = true → hasH T q[i].tk = false → T.length < 64 → RelK (insH T q[i]) (K ++ [q[i]])) := fun h1 h2 h3 => HR.out.ins h1 h2 h3
    have HO1 := hid (hdC_one q[i])
    have HX2 : Hid ((hdC q[i]).length = 1 * 4) := rfl
    have HXS : Hid (hdC q[i] = [.string q[i].tk, .string q[i].su, .string q[i].ou, .int .i64 q[i].at_]) := rfl
    have HKC : Hid (hqC (K ++ [q[i]]) = hqC K ++ hdC q[i] ∧ (K ++ [q[i]]).length = K.length + 1) := ⟨by rw [hqC_app, hqC_one], by simp⟩
    have HKL : Hid (K.length ≤ 64 ∧ K.length = T.length) := ⟨by have := HR.out.len; have := HR.out.le; omega, HR.out.len⟩
    clear hcc NT HC hi hg h120
    unfold hdV at N1
    generalize q[i] = x at *
    generalize hdC x = XS at *
    clear hlt
    obtain ⟨tk, su, ou, at_⟩ := x
    simp only at *
    generalize noteL T ⟨tk, su, ou, at_⟩ = NL at *
    generalize noteE T ⟨tk, su, ou, at_⟩ = NE at *
    go_wp2_with fail
    refine N1.out.mono ?_
    rintro e w1 ⟨ad1, cap1, rfl, o1, b1⟩
    have O1 := hid (HO.out.next b1)
    have O1n := hid (HO.out.newT o1 b1)
    have W0 : Hid (hasH (K.take 0) tk = false) := rfl
    clear o1 b1 N1 HO d0 d1 d2 d3
    go_wp2
    go_loopg [10, 11] K.length (fun gj s10 s11 wx => ∃ (j : Nat) (bq : Bool), j ≤ K.length ∧ K.length - j ≤ gj ∧ s10 = .bool bq ∧ s11 = .int .i64 (j : Int) ∧ Hid (bq = hasH (K.take j) tk) ∧ Hid (Below w1.heap.size w1 wx))
    case atStart => exact ⟨0, false, Nat.zero_le _, by omega, rfl, rfl, W0.out.symm, Below.refl _ _⟩
    case round =>
      as_aux_lemma =>
        clear W0
        obtain ⟨j, bq, hj, hgj, rfl, rfl, HBQ, HBX⟩ := hrel
        by_cases hjl : j < K.length
        · have c1 : (j : Int) < (K.length : Int) := by omega
          have c2 : (0 : Int) ≤ (j : Int) := by omega
          have hj64 : (j : Int) < 65 := by have := HKL.out; omega
          have hwj : wrap64 ((j : Int) + 1) = ((j + 1 : Nat) : Int) := by rw [IntWalk.wrap64_in _ (by omega)]; omega
          obtain ⟨bk, ok, rfl, hck⟩ := own_cells O1.out.k j hjl
          obtain ⟨k0, -, -, -⟩ := hck _ HBX.out
          obtain ⟨d0, -, -, -⟩ := HCC.out _ (below_on O1.out.b HBX.out)
          have HT2 := hid (HTK.out j hjl)
          have HJ := hid hjl
          have HGJ := hid hgj
          have BDD : Hid (∀ n, Below w1.heap.size w1 (World.drewN wr n)) := fun n => below_drewN HBX.out n
          rw [← HBQ.out] at HT2
          clear hck HBX HCC NC HAS HINS HO1 HX2 HXS HKC HKL HCU EX LK HR O1 O1n HTK HBQ hj hgj
          generalize K[j].tk = kt at *
          clear hjl
          cases bq
          · have ge : (kt.toList == tk.toList) = decide (kt = tk) := tl_eq _ _
            cases hkt : decide (kt = tk)
            · rw [hkt] at ge HT2
              clear hkt
              go_wp2
              go_quiet (fail)
              have BF := hid (BDD.out nq)
              clear BDD k0 d0
              go_wp2
              go_roundg (K.length - (j + 1))
              case measure => have := HJ.out; have := HGJ.out; omega
              case rel => exact ⟨j + 1, false, HJ.out, Nat.le_refl _, rfl, by first | rw [hwj] | rfl | simp, HT2.out.symm, BF⟩
            · rw [hkt] at ge HT2
              clear hkt
              go_wp2
              go_quiet (fail)
              have BF := hid (BDD.out nq)
              clear BDD k0 d0
              go_wp2
              go_roundg (K.length - (j + 1))
              case measure => have := HJ.out; have := HGJ.out; omega
              case rel => exact ⟨j + 1, true, HJ.out, Nat.le_refl _, rfl, by first | rw [hwj] | rfl | simp, HT2.out.symm, BF⟩
          · have HT3 : Hid (true = hasH (K.take (j + 1)) tk) := by show _ = _; rw [HT2.out]; rfl
            clear HT2
            go_wp2
            go_quiet (fail)
            have BF := hid (BDD.out nq)
            clear BDD k0 d0
            go_wp2
            go_roundg (K.length - (j + 1))
            case measure => have := HJ.out; have := HGJ.out; omega
            case rel => exact ⟨j + 1, true, HJ.out, Nat.le_refl _, rfl, by first | rw [hwj] | rfl | simp, HT3, BF⟩
        · have c1 : decide ((j : Int) < (K.length : Int)) = false := decide_eq_false (by omega)
          have c2 : decide (j < K.length) = false := decide_eq_false hjl
          have hjK : K.take j = K := List.take_of_length_le (by omega)
          have HB2 : Hid (bq = hasH T tk) := by show _ = _; rw [HBQ.out, hjK]; exact HAS.out
          have O2 := hid (O1.out.next HBX.out)
          have O2n := hid (O1n.out.next HBX.out)
          clear hjK HBQ HAS HBX O1 O1n HTK hjl hj hgj
          go_upto_if 61 with fail
          go_cut [5, 6] from 21 to 202 (fun s5 s6 wx => ∃ (T2 K2 : List Hd) (adt2 : Option Addr) (cpt2 : Nat) (adk2 : Option Addr) (cpk2 : Nat), s5 = .slice adt2 T2.length cpt2 ∧ s6 = .slice adk2 K2.length cpk2 ∧ Hid (RelK T2 K2) ∧ Hid (OS w (.slice adt2 T2.length cpt2) T2 (.slice adk2 K2.length cpk2) K2 wx))
          case first =>
            as_aux_lemma =>
              clear HCU EX LK
              rcases NC.out with ⟨e0, e1, e2, e3, e4⟩ | e0 | ⟨e0, e1⟩ | ⟨e0, e1, e2⟩
              · have hb : bq = false := by rw [HB2.out]; exact e2
                subst hb e0
                have HNL : Hid (RelK NL (K ++ [(⟨tk, su, ou, at_⟩ : Hd)])) := by rw [e4]; exact HINS.out e1 e2 e3
                have hk64 : decide (64 ≤ (K.length : Int)) = false := decide_eq_false (by have := HKL.out; omega)
                have hk64n : decide (64 ≤ K.length) = false := decide_eq_false (by have := HKL.out; omega)
                obtain ⟨d0, d1, d2, d3⟩ := HCC.out _ O2.out.b
                have OA := hid (O2n.out.next ((Below.refl _ _).alloc (Nat.le_refl _) (.cells #[.string tk, .string su, .string ou, .int .i64 at_] 31)))
                have HGX : Hid (GSrc (wr.alloc (.cells #[.string tk, .string su, .string ou, .int .i64 at_] 31)) (.slice (some ⟨wr.heap.size, 0, none⟩) 1 1) 1 XS) := by rw [HXS.out]; exact gsrc_block (heap_alloc_new _ _)
                have HSZ : Hid (w.heap.size ≤ (wr.alloc (.cells #[.string tk, .string su, .string ou, .int .i64 at_] 31)).heap.size) := OA.out.b.size
                have HB3 : Hid (K.length + 1 ≤ 70368744177) := by have := HKL.out; show _ ≤ _; omega
                have HB4 : Hid ((K.length + 1) * 56 ≤ 140737488355328) := by have := HKL.out; show _ ≤ _; omega
                clear NC HB2 HINS e1 e2 e3 e4 HCC HXS HR O2 O2n HKL
                have OK2 := hid OA.out.k
                unfold OwnH at OK2
                generalize hqk : hqC K = PA at *
                go_wp2_with (at_builtin; refine wpl_gapp_at rfl _ _ elH rfl w.heap.size (.slice adk K.length cpk) (.slice (some ⟨wr.heap.size, 0, none⟩) 1 1) PA XS K.length 1 (K.length + 1) rfl rfl rfl OK2.out HSZ.out HGX.out HX2.out HO1.out HB3.out HB4.out ?_; intro ad' cap' w' hr' hk' hl')
                have OF : Hid (OS w (.slice ad1 NL.length cap1) NL (.slice ad' (K ++ [(⟨tk, su, ou, at_⟩ : Hd)]).length cap') (K ++ [(⟨tk, su, ou, at_⟩ : Hd)]) w') := by
                  refine OA.out.appK ?_ hk' (by rw [HKC.out.2]; exact hl')
                  unfold OwnH
                  rw [HKC.out.1, HKC.out.2]
                  exact hr'
                have HKC2 := hid HKC.out.2
                clear hr' hk' hl' OA HGX HSZ OK2 d0 d1 d2 d3 HKC hqk
                go_wp2_with fail
                go_meet
                exact ⟨NL, K ++ [(⟨tk, su, ou, at_⟩ : Hd)], ad1, cap1, ad', cap', rfl, by rw [HKC2.out], HNL, OF⟩
              · subst e0
                clear NC HB2 HINS HCC HXS O2n HKL HKC HO1 HX2
                cases bq
                · go_wp2_with fail
                  go_meet
                  exact ⟨T, K, adt, cpt, adk, cpk, rfl, rfl, HR, O2⟩
                · go_wp2_with fail
                  go_meet
                  exact ⟨T, K, adt, cpt, adk, cpk, rfl, rfl, HR, O2⟩
              · have hb : bq = true := by rw [HB2.out]; exact e1
                subst hb e0
                clear NC HB2 HINS HCC HXS O2n HKL HKC HO1 HX2 e1
                go_wp2_with fail
                go_meet
                exact ⟨T, K, adt, cpt, adk, cpk, rfl, rfl, HR, O2⟩
              · have hb : bq = false := by rw [HB2.out]; exact e1
                subst hb e0
                have hk64 : decide ((K.length : Int) < 64) = false := decide_eq_false (by have := HKL.out; omega)
                have hk64n : decide (K.length < 64) = false := decide_eq_false (by have := HKL.out; omega)
                clear NC HB2 HINS HCC HXS O2n HKL HKC HO1 HX2 e1 e2
                go_wp2_with fail
                go_meet
                exact ⟨T, K, adt, cpt, adk, cpk, rfl, rfl, HR, O2⟩
          case rest =>
          obtain ⟨T2, K2, adt2, cpt2, adk2, cpk2, rfl, rfl, HR2, HO2⟩ := hcut
          clear NC HB2 HINS HCC HXS O2 O2n HKL HKC HO1 HX2 HR c1 c2
          go_upto_region 21 with fail
          go_cut [112] from 21 to 202 (fun s112 wx => ∃ UB : Bool, s112 = .bool UB ∧ wx = wc ∧ Hid (UB = true → ∃ hi : i < us.length, 0 < us[i]))
          case first =>
            as_aux_lemma =>
              by_cases hiu : i < us.length
              · obtain ⟨bu, ou2, rfl, hcu⟩ := HCU.out i hiu
                have cu := hcu _ HO2.out.b
                have e1 : (i : Int) < (us.length : Int) := by omega
                have HPOS : Hid (∀ UB : Bool, decide (0 < us[i]) = UB → UB = true → ∃ hi : i < us.length, 0 < us[i]) := fun UB h1 h2 => ⟨hiu, by rw [h2] at h1; exact of_decide_eq_true h1⟩
                clear hcu HCU EX LK HO2 HR2
                generalize us[i] = U at *
                cases hU : decide (0 < U)
                · have HP2 := hid (HPOS.out _ hU)
                  clear HPOS
                  go_wp2_with fail
                  go_meet
                  exact ⟨false, rfl, rfl, HP2⟩
                · have HP2 := hid (HPOS.out _ hU)
                  clear HPOS
                  go_wp2_with fail
                  go_meet
                  exact ⟨true, rfl, rfl, by first | exact HP2 | exact fun _ => HP2.out trivial⟩
              · have e1 : decide ((i : Int) < (us.length : Int)) = false := decide_eq_false (by omega)
                have e2 : decide (i < us.length) = false := decide_eq_false hiu
                clear HCU EX LK HO2 HR2
                go_wp2_with fail
                go_meet
                exact ⟨false, rfl, rfl, fun h => by cases h⟩
          case rest =>
          obtain ⟨UB, rfl, rfl, HUB⟩ := hcut
          go_upto_if 112 with fail
          go_cut [5, 6] from 21 to 202 (fun s5 s6 wx => ∃ (T2 K2 : List Hd) (adt2 : Option Addr) (cpt2 : Nat) (adk2 : Option Addr) (cpk2 : Nat), s5 = .slice adt2 T2.length cpt2 ∧ s6 = .slice adk2 K2.length cpk2 ∧ Hid (RelK T2 K2) ∧ Hid (OS w (.slice adt2 T2.length cpt2) T2 (.slice adk2 K2.length cpk2) K2 wx))
          case first =>
            as_aux_lemma =>
              cases UB
              · clear HCU EX LK HUB
                go_wp2_with fail
                go_meet
                exact ⟨T2, K2, adt2, cpt2, adk2, cpk2, rfl, rfl, HR2, HO2⟩
              · obtain ⟨hiu, hpos⟩ := HUB.out rfl
                obtain ⟨bu, ou2, rfl, hcu⟩ := HCU.out i hiu
                have HCQ := hid hcu
                have cu := hcu _ HO2.out.b
                have e1 : (i : Int) < (us.length : Int) := by omega
                have E1 := hid (EX.out _ _ T2 us[i] HO2.out.t.hd)
                have HEL : Hid (expL T2 us[i] = stayH us[i] T2) := by show _ = _; unfold expL; rw [if_pos HR2.out.1]
                have HRS := hid (HR2.out.stay us[i])
                have HIN : Hid (∀ (k : Nat) (hk : k < K2.length), decide (K2[k].at_ ≤ us[i]) = false → stayH us[i] (K2.take (k + 1)) = stayH us[i] (K2.take k) ++ [K2[k]]) := fun k hk h => stayH_in _ K2 k hk h
                have HOUT : Hid (∀ (k : Nat) (hk : k < K2.length), decide (K2[k].at_ ≤ us[i]) = true → stayH us[i] (K2.take (k + 1)) = stayH us[i] (K2.take k)) := fun k hk h => stayH_out _ K2 k hk h
                have HSL : Hid (∀ k, (stayH us[i] (K2.take k)).length ≤ 64) := fun k => by
                  have h1 := stayH_len us[i] (K2.take k)
                  have h2 := HR2.out.len
                  have h3 := HR2.out.le
                  rw [List.length_take] at h1
                  omega
                have HK2 : Hid (K2.length ≤ 64) := by have := HR2.out.len; have := HR2.out.le; show _ ≤ _; omega
                clear hcu HCU EX LK HUB hpos HR2
                generalize us[i] = U at *
                clear hiu
                generalize expN T2 U = EN at *
                rw [HEL.out] at E1
                generalize stayH U T2 = ST at *
                clear HEL
                go_wp2_with fail
                refine E1.out.mono ?_
                rintro e w3 ⟨ad3, cap3, rfl, o3, b3⟩
                have O3 := hid (HO2.out.newT o3 b3)
                have RS0 : Hid (w3.ownsRow w3.heap.size 31 4 (.slice none 0 0) (stayH U (K2.take 0)).length (hqC (stayH U (K2.take 0)))) := ⟨rfl, .inl ⟨rfl, rfl⟩⟩
                clear o3 b3 E1 HO2 cu
                go_wp2
                go_loopg [12, 13] K2.length (fun gj s12 s13 wx => ∃ (j : Nat) (adr : Option Addr) (cpr : Nat), j ≤ K2.length ∧ K2.length - j ≤ gj ∧ s12 = .slice adr (stayH U (K2.take j)).length cpr ∧ s13 = .int .i64 (j : Int) ∧ Hid (wx.ownsRow w3.heap.size 31 4 (.slice adr (stayH U (K2.take j)).length cpr) (stayH U (K2.take j)).length (hqC (stayH U (K2.take j)))) ∧ Hid (Below w3.heap.size w3 wx))
                case atStart => exact ⟨0, none, 0, Nat.zero_le _, by omega, rfl, rfl, RS0, Below.refl _ _⟩
                case round =>
                  as_aux_lemma =>
                    clear RS0
                    obtain ⟨j, adr, cpr, hj, hgj, rfl, rfl, HRW, HBX⟩ := hrel
                    by_cases hjl : j < K2.length
                    · have c1 : (j : Int) < (K2.length : Int) := by omega
                      have c2 : (0 : Int) ≤ (j : Int) := by omega
                      have hj64 : (j : Int) < 65 := by have := HK2.out; omega
                      have hwj : wrap64 ((j : Int) + 1) = ((j + 1 : Nat) : Int) := by rw [IntWalk.wrap64_in _ (by omega)]; omega
                      obtain ⟨bk, ok, rfl, hck⟩ := own_cells O3.out.k j hjl
                      have HCK := hid hck
                      obtain ⟨k0, k1, k2, k3⟩ := hck _ HBX.out
                      have cu := HCQ.out _ (below_on O3.out.b HBX.out)
                      have HJ := hid hjl
                      have HGJ := hid hgj
                      have HI1 := hid (HIN.out j hjl)
                      have HO2x := hid (HOUT.out j hjl)
                      have HFk := hid (HSL.out j)
                      have HQ1 : Hid (hqC (stayH U (K2.take j) ++ [K2[j]]) = hqC (stayH U (K2.take j)) ++ hdC K2[j] ∧ (stayH U (K2.take j) ++ [K2[j]]).length = (stayH U (K2.take j)).length + 1) := ⟨by rw [hqC_app, hqC_one], by simp⟩
                      have HZ1 := hid (hdC_one K2[j])
                      have HZ2 : Hid ((hdC K2[j]).length = 1 * 4) := rfl
                      have HZ3 : Hid (hdC K2[j] = [.string K2[j].tk, .string K2[j].su, .string K2[j].ou, .int .i64 K2[j].at_]) := rfl
                      have BDD : Hid (∀ n, Below w3.heap.size w3 (World.drewN wr n)) := fun n => below_drewN HBX.out n
                      have RDD : Hid (∀ n, (World.drewN wr n).ownsRow w3.heap.size 31 4 (.slice adr (stayH U (K2.take j)).length cpr) (stayH U (K2.take j)).length (hqC (stayH U (K2.take j)))) := fun n => own_drewN HRW.out n
                      clear hck HBX HRW HIN HOUT HSL HK2 hj hgj O3 HRS HCQ
                      generalize K2[j] = z at *
                      generalize hdC z = ZS at *
                      clear hjl
                      obtain ⟨zt, zs, zo, za⟩ := z
                      simp only at *
                      by_cases hle : za ≤ U
                      · have g5 : decide (U < za) = false := decide_eq_false (by omega)
                        have e5 := HO2x.out (decide_eq_true hle)
                        have HE5 := hid e5
                        have RD2 : Hid (∀ n, (World.drewN wr n).ownsRow w3.heap.size 31 4 (.slice adr (stayH U (K2.take (j + 1))).length cpr) (stayH U (K2.take (j + 1))).length (hqC (stayH U (K2.take (j + 1))))) := by rw [e5]; exact RDD.out
                        clear RDD HI1 HO2x HFk HQ1 HZ1 HZ2 HZ3 hle e5 HCK
                        go_wp2
                        go_quiet (fail)
                        have BF := hid (BDD.out nq)
                        have RF := hid (RD2.out nq)
                        clear BDD RD2 k0 k1 k2 k3 cu
                        go_wp2
                        go_roundg (K2.length - (j + 1))
                        case measure => have := HJ.out; have := HGJ.out; omega
                        case rel => exact ⟨j + 1, adr, cpr, HJ.out, Nat.le_refl _, by rw [HE5.out], by first | rw [hwj] | rfl | simp, RF, BF⟩
                      · have g5 : decide (U < za) = true := decide_eq_true (by omega)
                        have e5 := HI1.out (decide_eq_false hle)
                        have HE1 : Hid ((stayH U (K2.take (j + 1))).length = (stayH U (K2.take j)).length + 1) := by show _ = _; rw [e5]; exact HQ1.out.2
                        have HE2 : Hid (hqC (stayH U (K2.take (j + 1))) = hqC (stayH U (K2.take j)) ++ ZS) := by show _ = _; rw [e5]; exact HQ1.out.1
                        have HB3 : Hid ((stayH U (K2.take j)).length + 1 ≤ 4611686018427387904) := by have := HFk.out; show _ ≤ _; omega
                        have HB4 : Hid (((stayH U (K2.take j)).length + 1) * 56 ≤ 140737488355328) := by have := HFk.out; show _ ≤ _; omega
                        clear HI1 HO2x HFk HQ1 hle e5
                        go_wp2
                        go_quiet (fail)
                        have BF := hid (BDD.out nq)
                        have RF := hid (RDD.out nq)
                        obtain ⟨m0, m1, m2, m3⟩ := HCK.out _ BF.out
                        clear BDD RDD k0 k1 k2 k3 cu HCK
                        generalize World.drewN wr nq = wd at *
                        clear nq
                        have HGA : Hid ((wd.alloc (.cells #[.string zt, .string zs, .string zo, .int .i64 za] 31)).ownsRow w3.heap.size 31 4 (.slice adr (stayH U (K2.take j)).length cpr) (stayH U (K2.take j)).length (hqC (stayH U (K2.take j)))) := (keep_alloc (fun _ => False) _ _).ownsRow RF.out (fun _ _ h => h)
                        have HGX : Hid (GSrc (wd.alloc (.cells #[.string zt, .string zs, .string zo, .int .i64 za] 31)) (.slice (some ⟨wd.heap.size, 0, none⟩) 1 1) 1 ZS) := by rw [HZ3.out]; exact gsrc_block (heap_alloc_new _ _)
                        have HSZ : Hid (w3.heap.size ≤ (wd.alloc (.cells #[.string zt, .string zs, .string zo, .int .i64 za] 31)).heap.size) := Nat.le_trans BF.out.size (keep_alloc (fun _ => False) _ _).size
                        have FIN : Hid (∀ ad' cap' w', w'.ownsRow w3.heap.size 31 4 (.slice ad' ((stayH U (K2.take j)).length + 1) cap') ((stayH U (K2.take j)).length + 1) (hqC (stayH U (K2.take j)) ++ ZS) → Keep (fun g => (Value.slice adr (stayH U (K2.take j)).length cpr).ownBlock = some g) (wd.alloc (.cells #[.string zt, .string zs, .string zo, .int .i64 za] 31)) w' → Hid (w'.ownsRow w3.heap.size 31 4 (.slice ad' (stayH U (K2.take (j + 1))).length cap') (stayH U (K2.take (j + 1))).length (hqC (stayH U (K2.take (j + 1))))) ∧ Hid (Below w3.heap.size w3 w')) := fun ad' cap' w' hr hk' => by
                          refine ⟨?_, (below_al BF.out _).trans (keep_below hk' (fun g hg e => by have := ownsRow_ge RF.out e; omega) HSZ.out)⟩
                          show World.ownsRow _ _ _ _ _ _ _
                          rw [HE1.out, HE2.out]; exact hr
                        clear BF RF HZ3 HE2
                        generalize hqC (stayH U (K2.take j)) = PA at *
                        generalize (stayH U (K2.take j)).length = n0 at *
                        go_wp2_with (at_builtin; refine wpl_gappL rfl _ _ elH rfl w3.heap.size (.slice adr n0 cpr) (.slice (some ⟨wd.heap.size, 0, none⟩) 1 1) PA ZS n0 1 (n0 + 1) rfl rfl rfl HGA.out HSZ.out HGX.out HZ2.out HZ1.out HB3.out HB4.out ?_; intro ad' cap' w' hr' hk')
                        obtain ⟨F1, F2⟩ := FIN.out _ _ _ hr' hk'
                        clear hr' hk' FIN HGA HGX HSZ m0 m1 m2 m3
                        go_wp2
                        go_roundg (K2.length - (j + 1))
                        case measure => have := HJ.out; have := HGJ.out; omega
                        case rel => exact ⟨j + 1, ad', cap', HJ.out, Nat.le_refl _, by rw [HE1.out], by first | rw [hwj] | rfl | simp, F1, F2⟩
                    · have c1 : decide ((j : Int) < (K2.length : Int)) = false := decide_eq_false (by omega)
                      have c2 : decide (j < K2.length) = false := decide_eq_false hjl
                      have hjK : K2.take j = K2 := List.take_of_length_le (by omega)
                      rw [hjK] at HRW ⊢
                      have O4 : Hid (OS w (.slice ad3 ST.length cap3) ST (.slice adr (stayH U K2).length cpr) (stayH U K2) wr) := O3.out.newK HRW.out HBX.out
                      clear hjK HRW HBX O3 HIN HOUT HSL HK2 HCQ hjl hj hgj
                      go_wp2_with fail
                      go_meet
                      exact ⟨ST, stayH U K2, ad3, cap3, adr, cpr, rfl, rfl, HRS, O4⟩
          case rest =>
          obtain ⟨T4, K4, adt4, cpt4, adk4, cpk4, rfl, rfl, HR4, HO4⟩ := hcut
          have hl4 : ((T4.length : Int) != (K4.length : Int)) = false := by rw [HR4.out.len]; simp
          have hl5 : (T4.length == K4.length) = true := by rw [HR4.out.len]; simp
          have HL4 : Hid (K4.length ≤ 64) := by have := HR4.out.len; have := HR4.out.le; show _ ≤ _; omega
          have HLK : Hid (∀ (j : Nat) (hj : j < K4.length), lookN T4 K4[j].tk K4[j].su = 1 ∧ lookS T4 K4[j].tk K4[j].su = K4[j].ou ∧ lookN T4 K4[j].tk (K4[j].su ++ ⟨#[48]⟩) = 2 ∧ K4[j].su.size = 64) := fun j hj => HR4.out.look (List.getElem_mem hj)
          have HRX := hid HR4.out
          clear HUB HR2 HO2 HR4
          go_wp2
          clear hl4 hl5
          go_loopg [14] K4.length (fun gj s14 wx => ∃ (j : Nat), j ≤ K4.length ∧ K4.length - j ≤ gj ∧ s14 = .int .i64 (j : Int) ∧ Hid (OS w (.slice adt4 T4.length cpt4) T4 (.slice adk4 K4.length cpk4) K4 wx))
          case atStart => exact ⟨0, Nat.zero_le _, by omega, rfl, HO4⟩
          case round =>
            as_aux_lemma =>
              clear HO4
              obtain ⟨j, hj, hgj, rfl, HO5⟩ := hrel
              by_cases hjl : j < K4.length
              · have c1 : (j : Int) < (K4.length : Int) := by omega
                have c2 : (0 : Int) ≤ (j : Int) := by omega
                have hj64 : (j : Int) < 65 := by have := HL4.out; omega
                have hwj : wrap64 ((j : Int) + 1) = ((j + 1 : Nat) : Int) := by rw [IntWalk.wrap64_in _ (by omega)]; omega
                obtain ⟨l1, l2, l3, l4⟩ := HLK.out j hjl
                have OC : Hid (∃ bk ok, adk4 = some ⟨bk, ok, none⟩ ∧ ∀ W, OS w (.slice adt4 T4.length cpt4) T4 (.slice adk4 K4.length cpk4) K4 W → W.cell? ⟨bk, ok + j * 4, none⟩ = some (.string K4[j].tk) ∧ W.cell? ⟨bk, ok + j * 4 + 1, none⟩ = some (.string K4[j].su) ∧ W.cell? ⟨bk, ok + j * 4 + 2, none⟩ = some (.string K4[j].ou)) := by
                  obtain ⟨bk, ok, e, hck⟩ := own_cells HO5.out.k j hjl
                  refine ⟨bk, ok, e, fun W hW => ?_⟩
                  obtain ⟨bk2, ok2, e2, hck2⟩ := own_cells hW.k j hjl
                  rw [e] at e2
                  injection e2 with e2
                  injection e2 with e3 e4
                  subst e3 e4
                  obtain ⟨k0, k1, k2, k3⟩ := hck2 W (Below.refl _ _)
                  exact ⟨k0, k1, k2⟩
                obtain ⟨bk, ok, rfl, oc⟩ := OC.out
                have OCC := hid oc
                have LK1 : Hid (∀ W, OS w (.slice adt4 T4.length cpt4) T4 (.slice (some ⟨bk, ok, none⟩) K4.length cpk4) K4 W → Calls Try.prog 8 #[.slice adt4 T4.length cpt4, .string K4[j].tk, .string K4[j].su] W fun e w' => e = .returned (.tuple #[.int .i64 1, .string K4[j].ou]) ∧ (w'.cell? ⟨bk, ok + j * 4, none⟩ = some (.string K4[j].tk) ∧ w'.cell? ⟨bk, ok + j * 4 + 1, none⟩ = some (.string K4[j].su) ∧ w'.cell? ⟨bk, ok + j * 4 + 2, none⟩ = some (.string K4[j].ou)) ∧ Hid (OS w (.slice adt4 T4.length cpt4) T4 (.slice (some ⟨bk, ok, none⟩) K4.length cpk4) K4 w')) := fun W hW => by
                  have := LK.out W (.slice adt4 T4.length cpt4) T4 K4[j].tk K4[j].su hW.t.hd
                  rw [l1, l2] at this
                  exact this.mono fun e w' ⟨he, hb⟩ => ⟨he, oc _ (hW.next hb), hW.next hb⟩
                have LK2 : Hid (∀ W, OS w (.slice adt4 T4.length cpt4) T4 (.slice (some ⟨bk, ok, none⟩) K4.length cpk4) K4 W → Calls Try.prog 8 #[.slice adt4 T4.length cpt4, .string K4[j].tk, .string (K4[j].su ++ ⟨#[48]⟩)] W fun e w' => ∃ sx, e = .returned (.tuple #[.int .i64 2, .string sx]) ∧ (w'.cell? ⟨bk, ok + j * 4, none⟩ = some (.string K4[j].tk) ∧ w'.cell? ⟨bk, ok + j * 4 + 1, none⟩ = some (.string K4[j].su) ∧ w'.cell? ⟨bk, ok + j * 4 + 2, none⟩ = some (.string K4[j].ou)) ∧ Hid (OS w (.slice adt4 T4.length cpt4) T4 (.slice (some ⟨bk, ok, none⟩) K4.length cpk4) K4 w')) := fun W hW => by
                  have := LK.out W (.slice adt4 T4.length cpt4) T4 K4[j].tk (K4[j].su ++ ⟨#[48]⟩) hW.t.hd
                  rw [l3] at this
                  exact this.mono fun e w' ⟨he, hb⟩ => ⟨_, he, oc _ (hW.next hb), hW.next hb⟩
                have qa : ∀ W : World, (Op.stringOp .add K4[j].su ⟨#[48]⟩).run Try.prog W = .ok (.string (K4[j].su ++ ⟨#[48]⟩)) W := fun W => run_string_add_sum W _ _ (by rw [l4]; decide)
                have HJ := hid hjl
                have HGJ := hid hgj
                clear LK HLK HL4 OC l1 l2 l3 l4 oc hj hgj
                generalize K4[j] = z at *
                obtain ⟨zt, zs, zo, za⟩ := z
                simp only at *
                clear hjl
                generalize zs ++ ⟨#[48]⟩ = zs0 at *
                have ge : (zo.toList == zo.toList) = true := by simp
                obtain ⟨k0, k1, k2⟩ := OCC.out _ HO5.out
                have HO5d : Hid (OS w (.slice adt4 T4.length cpt4) T4 (.slice (some ⟨bk, ok, none⟩) K4.length cpk4) K4 (World.drew wr)) := HO5.out.next (Below.refl _ _).drew
                go_wp2
                refine wp_region_held_drew (S := (fun w' => w'.cell? ⟨bk, ok + j * 4, none⟩ = some (.string zt) ∧ w'.cell? ⟨bk, ok + j * 4 + 1, none⟩ = some (.string zs) ∧ w'.cell? ⟨bk, ok + j * 4 + 2, none⟩ = some (.string zo))) (by kernel_rfl) ⟨k0, k1, k2⟩ (fun hHeld => ?_)
                refine wpAnyH_take (i := 0) (v := ?vv1) rfl (by kernel_rfl) (by kernel_rfl) (by kernel_rfl) (fun _ _ _ h => h) (Or.inl ⟨by rfl, ?hy1⟩) (by assumption) ?rest1
                case hy1 => (intro w hSw; (try dsimp only at hSw); go_simp; first | done | with_reducible rfl)
                try simp only [Act.put, List.getElem_toArray, List.getElem_cons_succ, List.getElem_cons_zero, List.setIfInBounds_toArray, List.set_cons_zero, List.set_cons_succ]
                refine wpAnyH_take (i := 1) (v := ?vv2) rfl (by kernel_rfl) (by kernel_rfl) (by kernel_rfl) (fun _ _ _ h => h) (Or.inl ⟨by rfl, ?hy2⟩) (by assumption) ?rest2
                case hy2 => (intro w hSw; (try dsimp only at hSw); go_simp; first | done | with_reducible rfl)
                try simp only [Act.put, List.getElem_toArray, List.getElem_cons_succ, List.getElem_cons_zero, List.setIfInBounds_toArray, List.set_cons_zero, List.set_cons_succ]
                refine wpAnyH_take (i := 2) (v := ?vv3) rfl (by kernel_rfl) (by kernel_rfl) (by kernel_rfl) (fun _ _ _ h => h) (Or.inl ⟨by rfl, ?hy3⟩) (by assumption) ?rest3
                case hy3 => (intro w hSw; (try dsimp only at hSw); go_simp; first | done | with_reducible rfl)
                try simp only [Act.put, List.getElem_toArray, List.getElem_cons_succ, List.getElem_cons_zero, List.setIfInBounds_toArray, List.set_cons_zero, List.set_cons_succ]
                refine wpAnyH_take (i := 3) (v := ?vv4) rfl (by kernel_rfl) (by kernel_rfl) (by kernel_rfl) (fun _ _ _ h => h) (Or.inl ⟨by rfl, ?hy4⟩) (by assumption) ?rest4
                case hy4 => (intro w hSw; (try dsimp only at hSw); go_simp; first | done | with_reducible rfl)
                try simp only [Act.put, List.getElem_toArray, List.getElem_cons_succ, List.getElem_cons_zero, List.setIfInBounds_toArray, List.set_cons_zero, List.set_cons_succ]
                refine wpAnyH_take (i := 4) (v := ?vv5) rfl (by kernel_rfl) (by kernel_rfl) (by kernel_rfl) (fun _ _ _ h => h) (Or.inl ⟨by rfl, ?hy5⟩) (by assumption) ?rest5
                case hy5 => (intro w hSw; (try dsimp only at hSw); go_simp; first | done | with_reducible rfl)
                try simp only [Act.put, List.getElem_toArray, List.getElem_cons_succ, List.getElem_cons_zero, List.setIfInBounds_toArray, List.set_cons_zero, List.set_cons_succ]
                refine wpAnyH_take (i := 5) (v := ?vv6) rfl (by kernel_rfl) (by kernel_rfl) (by kernel_rfl) (fun _ _ _ h => h) (Or.inl ⟨by rfl, ?hy6⟩) (by assumption) ?rest6
                case hy6 => (intro w hSw; (try dsimp only at hSw); go_simp; first | done | with_reducible rfl)
                try simp only [Act.put, List.getElem_toArray, List.getElem_cons_succ, List.getElem_cons_zero, List.setIfInBounds_toArray, List.set_cons_zero, List.set_cons_succ]
                refine wpAnyH_take (i := 6) (v := ?vv7) rfl (by kernel_rfl) (by kernel_rfl) (by kernel_rfl) (fun _ _ _ h => h) (Or.inl ⟨by rfl, ?hy7⟩) (by assumption) ?rest7
                case hy7 => (intro w hSw; (try dsimp only at hSw); go_simp; first | done | with_reducible rfl)
                try simp only [Act.put, List.getElem_toArray, List.getElem_cons_succ, List.getElem_cons_zero, List.setIfInBounds_toArray, List.set_cons_zero, List.set_cons_succ]
                refine wpAnyH_take (i := 7) (v := ?vv8) rfl (by kernel_rfl) (by kernel_rfl) (by kernel_rfl) (fun _ _ _ h => h) (Or.inl ⟨by rfl, ?hy8⟩) (by assumption) ?rest8
                case hy8 => (intro w hSw; (try dsimp only at hSw); go_simp; first | done | with_reducible rfl)
                try simp only [Act.put, List.getElem_toArray, List.getElem_cons_succ, List.getElem_cons_zero, List.setIfInBounds_toArray, List.set_cons_zero, List.set_cons_succ]
                refine wpAnyH_take (i := 8) (v := ?vv9) rfl (by kernel_rfl) (by kernel_rfl) (by kernel_rfl) (fun _ _ _ h => h) (Or.inl ⟨by rfl, ?hy9⟩) (by assumption) ?rest9
                case hy9 => (intro w hSw; (try dsimp only at hSw); go_simp; first | done | with_reducible rfl)
                try simp only [Act.put, List.getElem_toArray, List.getElem_cons_succ, List.getElem_cons_zero, List.setIfInBounds_toArray, List.set_cons_zero, List.set_cons_succ]
                refine wpAnyH_take (i := 9) (v := ?vv10) rfl (by kernel_rfl) (by kernel_rfl) (by kernel_rfl) (fun _ _ _ h => h) (Or.inl ⟨by rfl, ?hy10⟩) (by assumption) ?rest10
                case hy10 => (intro w hSw; (try dsimp only at hSw); go_simp; first | done | with_reducible rfl)
                try simp only [Act.put, List.getElem_toArray, List.getElem_cons_succ, List.getElem_cons_zero, List.setIfInBounds_toArray, List.set_cons_zero, List.set_cons_succ]
                refine wpAnyH_take (i := 10) (v := ?vv11) rfl (by kernel_rfl) (by kernel_rfl) (by kernel_rfl) (fun _ _ _ h => h) (Or.inl ⟨by rfl, ?hy11⟩) (by assumption) ?rest11
                case hy11 => (intro w hSw; (try dsimp only at hSw); go_simp; first | done | with_reducible rfl)
                try simp only [Act.put, List.getElem_toArray, List.getElem_cons_succ, List.getElem_cons_zero, List.setIfInBounds_toArray, List.set_cons_zero, List.set_cons_succ]
                refine wpAnyH_ready (rs := [11]) (by kernel_rfl) (by simp) ?_
                refine AllReadyH.cons rfl (fun K hK => ?_) AllReadyH.nil
                go_simp
                refine (LK1.out _ HO5d.out).mono ?_
                rintro e wl ⟨rfl, ZC1, O6⟩
                go_wp2_with fail
                refine hK.out _ _ ZC1 (fun hHeld => ?_)
                clear hK K
                try simp only [Act.put, List.getElem_toArray, List.getElem_cons_succ, List.getElem_cons_zero, List.setIfInBounds_toArray, List.set_cons_zero, List.set_cons_succ]
                refine wpAnyH_take (i := 12) (v := ?vv12) rfl (by kernel_rfl) (by kernel_rfl) (by kernel_rfl) (fun _ _ _ h => h) (Or.inl ⟨by rfl, ?hy12⟩) (by assumption) ?rest12
                case hy12 => (intro w hSw; (try dsimp only at hSw); go_simp; first | done | with_reducible rfl)
                try simp only [Act.put, List.getElem_toArray, List.getElem_cons_succ, List.getElem_cons_zero, List.setIfInBounds_toArray, List.set_cons_zero, List.set_cons_succ]
                refine wpAnyH_take (i := 13) (v := ?vv13) rfl (by kernel_rfl) (by kernel_rfl) (by kernel_rfl) (fun _ _ _ h => h) (Or.inl ⟨by rfl, ?hy13⟩) (by assumption) ?rest13
                case hy13 => (intro w hSw; (try dsimp only at hSw); go_simp; first | done | with_reducible rfl)
                try simp only [Act.put, List.getElem_toArray, List.getElem_cons_succ, List.getElem_cons_zero, List.setIfInBounds_toArray, List.set_cons_zero, List.set_cons_succ]
                refine wpAnyH_take (i := 14) (v := ?vv14) rfl (by kernel_rfl) (by kernel_rfl) (by kernel_rfl) (fun _ _ _ h => h) (Or.inl ⟨by rfl, ?hy14⟩) (by assumption) ?rest14
                case hy14 => (intro w hSw; (try dsimp only at hSw); go_simp; first | done | with_reducible rfl)
                try simp only [Act.put, List.getElem_toArray, List.getElem_cons_succ, List.getElem_cons_zero, List.setIfInBounds_toArray, List.set_cons_zero, List.set_cons_succ]
                refine wpAnyH_take (i := 15) (v := ?vv15) rfl (by kernel_rfl) (by kernel_rfl) (by kernel_rfl) (fun _ _ _ h => h) (Or.inl ⟨by rfl, ?hy15⟩) (by assumption) ?rest15
                case hy15 => (intro w hSw; (try dsimp only at hSw); go_simp; first | done | with_reducible rfl)
                try simp only [Act.put, List.getElem_toArray, List.getElem_cons_succ, List.getElem_cons_zero, List.setIfInBounds_toArray, List.set_cons_zero, List.set_cons_succ]
                refine wpAnyH_take (i := 16) (v := ?vv16) rfl (by kernel_rfl) (by kernel_rfl) (by kernel_rfl) (fun _ _ _ h => h) (Or.inl ⟨by rfl, ?hy16⟩) (by assumption) ?rest16
                case hy16 => (intro w hSw; (try dsimp only at hSw); go_simp; first | done | with_reducible rfl)
                try simp only [Act.put, List.getElem_toArray, List.getElem_cons_succ, List.getElem_cons_zero, List.setIfInBounds_toArray, List.set_cons_zero, List.set_cons_succ]
                refine wpAnyH_done (by kernel_rfl) ?_ _
                have O6d := hid (O6.out.next (Below.refl _ _).drew)
                obtain ⟨m0, m1, m2⟩ := ZC1
                clear hHeld HO5d HO5 LK1 k0 k1 k2
                go_wp2
                refine wp_region_held_drew (S := (fun w' => w'.cell? ⟨bk, ok + j * 4, none⟩ = some (.string zt) ∧ w'.cell? ⟨bk, ok + j * 4 + 1, none⟩ = some (.string zs) ∧ w'.cell? ⟨bk, ok + j * 4 + 2, none⟩ = some (.string zo))) (by kernel_rfl) ⟨m0, m1, m2⟩ (fun hHeld => ?_)
                refine wpAnyH_take (i := 0) (v := ?vv17) rfl (by kernel_rfl) (by kernel_rfl) (by kernel_rfl) (fun _ _ _ h => h) (Or.inl ⟨by rfl, ?hy17⟩) (by assumption) ?rest17
                case hy17 => (intro w hSw; (try dsimp only at hSw); go_simp; first | done | with_reducible rfl)
                try simp only [Act.put, List.getElem_toArray, List.getElem_cons_succ, List.getElem_cons_zero, List.setIfInBounds_toArray, List.set_cons_zero, List.set_cons_succ]
                refine wpAnyH_take (i := 1) (v := ?vv18) rfl (by kernel_rfl) (by kernel_rfl) (by kernel_rfl) (fun _ _ _ h => h) (Or.inl ⟨by rfl, ?hy18⟩) (by assumption) ?rest18
                case hy18 => (intro w hSw; (try dsimp only at hSw); go_simp; first | done | with_reducible rfl)
                try simp only [Act.put, List.getElem_toArray, List.getElem_cons_succ, List.getElem_cons_zero, List.setIfInBounds_toArray, List.set_cons_zero, List.set_cons_succ]
                refine wpAnyH_take (i := 2) (v := ?vv19) rfl (by kernel_rfl) (by kernel_rfl) (by kernel_rfl) (fun _ _ _ h => h) (Or.inl ⟨by rfl, ?hy19⟩) (by assumption) ?rest19
                case hy19 => (intro w hSw; (try dsimp only at hSw); go_simp; first | done | with_reducible rfl)
                try simp only [Act.put, List.getElem_toArray, List.getElem_cons_succ, List.getElem_cons_zero, List.setIfInBounds_toArray, List.set_cons_zero, List.set_cons_succ]
                refine wpAnyH_take (i := 3) (v := ?vv20) rfl (by kernel_rfl) (by kernel_rfl) (by kernel_rfl) (fun _ _ _ h => h) (Or.inl ⟨by rfl, ?hy20⟩) (by assumption) ?rest20
                case hy20 => (intro w hSw; (try dsimp only at hSw); go_simp; first | done | with_reducible rfl)
                try simp only [Act.put, List.getElem_toArray, List.getElem_cons_succ, List.getElem_cons_zero, List.setIfInBounds_toArray, List.set_cons_zero, List.set_cons_succ]
                refine wpAnyH_take (i := 4) (v := ?vv21) rfl (by kernel_rfl) (by kernel_rfl) (by kernel_rfl) (fun _ _ _ h => h) (Or.inl ⟨by rfl, ?hy21⟩) (by assumption) ?rest21
                case hy21 => (intro w hSw; (try dsimp only at hSw); go_simp; first | done | with_reducible rfl)
                try simp only [Act.put, List.getElem_toArray, List.getElem_cons_succ, List.getElem_cons_zero, List.setIfInBounds_toArray, List.set_cons_zero, List.set_cons_succ]
                refine wpAnyH_take (i := 5) (v := ?vv22) rfl (by kernel_rfl) (by kernel_rfl) (by kernel_rfl) (fun _ _ _ h => h) (Or.inl ⟨by rfl, ?hy22⟩) (by assumption) ?rest22
                case hy22 => (intro w hSw; (try dsimp only at hSw); go_simp; first | done | with_reducible rfl)
                try simp only [Act.put, List.getElem_toArray, List.getElem_cons_succ, List.getElem_cons_zero, List.setIfInBounds_toArray, List.set_cons_zero, List.set_cons_succ]
                refine wpAnyH_take (i := 6) (v := ?vv23) rfl (by kernel_rfl) (by kernel_rfl) (by kernel_rfl) (fun _ _ _ h => h) (Or.inl ⟨by rfl, ?hy23⟩) (by assumption) ?rest23
                case hy23 => (intro w hSw; (try dsimp only at hSw); go_simp; first | done | with_reducible rfl)
                try simp only [Act.put, List.getElem_toArray, List.getElem_cons_succ, List.getElem_cons_zero, List.setIfInBounds_toArray, List.set_cons_zero, List.set_cons_succ]
                refine wpAnyH_take (i := 7) (v := ?vv24) rfl (by kernel_rfl) (by kernel_rfl) (by kernel_rfl) (fun _ _ _ h => h) (Or.inl ⟨by rfl, ?hy24⟩) (by assumption) ?rest24
                case hy24 => (intro w hSw; (try dsimp only at hSw); go_simp; first | done | with_reducible rfl)
                try simp only [Act.put, List.getElem_toArray, List.getElem_cons_succ, List.getElem_cons_zero, List.setIfInBounds_toArray, List.set_cons_zero, List.set_cons_succ]
                refine wpAnyH_take (i := 8) (v := ?vv25) rfl (by kernel_rfl) (by kernel_rfl) (by kernel_rfl) (fun _ _ _ h => h) (Or.inl ⟨by rfl, ?hy25⟩) (by assumption) ?rest25
                case hy25 => (intro w hSw; (try dsimp only at hSw); go_simp; first | done | with_reducible rfl)
                try simp only [Act.put, List.getElem_toArray, List.getElem_cons_succ, List.getElem_cons_zero, List.setIfInBounds_toArray, List.set_cons_zero, List.set_cons_succ]
                refine wpAnyH_take (i := 9) (v := ?vv26) rfl (by kernel_rfl) (by kernel_rfl) (by kernel_rfl) (fun _ _ _ h => h) (Or.inl ⟨by rfl, ?hy26⟩) (by assumption) ?rest26
                case hy26 => (intro w hSw; (try dsimp only at hSw); go_simp; first | done | with_reducible rfl)
                try simp only [Act.put, List.getElem_toArray, List.getElem_cons_succ, List.getElem_cons_zero, List.setIfInBounds_toArray, List.set_cons_zero, List.set_cons_succ]
                refine wpAnyH_take (i := 10) (v := ?vv27) rfl (by kernel_rfl) (by kernel_rfl) (by kernel_rfl) (fun _ _ _ h => h) (Or.inl ⟨by rfl, ?hy27⟩) (by assumption) ?rest27
                case hy27 => (intro w hSw; (try dsimp only at hSw); go_simp; first | done | with_reducible rfl)
                try simp only [Act.put, List.getElem_toArray, List.getElem_cons_succ, List.getElem_cons_zero, List.setIfInBounds_toArray, List.set_cons_zero, List.set_cons_succ]
                refine wpAnyH_take (i := 11) (v := ?vv28) rfl (by kernel_rfl) (by kernel_rfl) (by kernel_rfl) (fun _ _ _ h => h) (Or.inl ⟨by rfl, ?hy28⟩) (by assumption) ?rest28
                case hy28 => (intro w hSw; (try dsimp only at hSw); go_simp; first | done | with_reducible rfl)
                try simp only [Act.put, List.getElem_toArray, List.getElem_cons_succ, List.getElem_cons_zero, List.setIfInBounds_toArray, List.set_cons_zero, List.set_cons_succ]
                refine wpAnyH_ready (rs := [12]) (by kernel_rfl) (by simp) ?_
                refine AllReadyH.cons rfl (fun K hK => ?_) AllReadyH.nil
                go_simp
                refine (LK2.out _ O6d.out).mono ?_
                rintro e wm ⟨sx, rfl, ZC2, O7⟩
                go_wp2_with fail
                refine hK.out _ _ ZC2 (fun hHeld => ?_)
                clear hK K
                try simp only [Act.put, List.getElem_toArray, List.getElem_cons_succ, List.getElem_cons_zero, List.setIfInBounds_toArray, List.set_cons_zero, List.set_cons_succ]
                refine wpAnyH_take (i := 13) (v := ?vv29) rfl (by kernel_rfl) (by kernel_rfl) (by kernel_rfl) (fun _ _ _ h => h) (Or.inl ⟨by rfl, ?hy29⟩) (by assumption) ?rest29
                case hy29 => (intro w hSw; (try dsimp only at hSw); go_simp; first | done | with_reducible rfl)
                try simp only [Act.put, List.getElem_toArray, List.getElem_cons_succ, List.getElem_cons_zero, List.setIfInBounds_toArray, List.set_cons_zero, List.set_cons_succ]
                refine wpAnyH_take (i := 14) (v := ?vv30) rfl (by kernel_rfl) (by kernel_rfl) (by kernel_rfl) (fun _ _ _ h => h) (Or.inl ⟨by rfl, ?hy30⟩) (by assumption) ?rest30
                case hy30 => (intro w hSw; (try dsimp only at hSw); go_simp; first | done | with_reducible rfl)
                try simp only [Act.put, List.getElem_toArray, List.getElem_cons_succ, List.getElem_cons_zero, List.setIfInBounds_toArray, List.set_cons_zero, List.set_cons_succ]
                refine wpAnyH_take (i := 15) (v := ?vv31) rfl (by kernel_rfl) (by kernel_rfl) (by kernel_rfl) (fun _ _ _ h => h) (Or.inl ⟨by rfl, ?hy31⟩) (by assumption) ?rest31
                case hy31 => (intro w hSw; (try dsimp only at hSw); go_simp; first | done | with_reducible rfl)
                try simp only [Act.put, List.getElem_toArray, List.getElem_cons_succ, List.getElem_cons_zero, List.setIfInBounds_toArray, List.set_cons_zero, List.set_cons_succ]
                refine wpAnyH_take (i := 16) (v := ?vv32) rfl (by kernel_rfl) (by kernel_rfl) (by kernel_rfl) (fun _ _ _ h => h) (Or.inl ⟨by rfl, ?hy32⟩) (by assumption) ?rest32
                case hy32 => (intro w hSw; (try dsimp only at hSw); go_simp; first | done | with_reducible rfl)
                try simp only [Act.put, List.getElem_toArray, List.getElem_cons_succ, List.getElem_cons_zero, List.setIfInBounds_toArray, List.set_cons_zero, List.set_cons_succ]
                refine wpAnyH_take (i := 17) (v := ?vv33) rfl (by kernel_rfl) (by kernel_rfl) (by kernel_rfl) (fun _ _ _ h => h) (Or.inl ⟨by rfl, ?hy33⟩) (by assumption) ?rest33
                case hy33 => (intro w hSw; (try dsimp only at hSw); go_simp; first | done | with_reducible rfl)
                try simp only [Act.put, List.getElem_toArray, List.getElem_cons_succ, List.getElem_cons_zero, List.setIfInBounds_toArray, List.set_cons_zero, List.set_cons_succ]
                refine wpAnyH_done (by kernel_rfl) ?_ _
                obtain ⟨k0, k1, k2⟩ := ZC2
                clear hHeld O6d O6 LK2 m0 m1 m2 qa OCC
                go_wp2
                go_roundg (K4.length - (j + 1))
                case measure => have := HJ.out; have := HGJ.out; omega
                case rel => exact ⟨j + 1, HJ.out, Nat.le_refl _, by first | rw [hwj] | rfl | simp, O7⟩
              · have c1 : decide ((j : Int) < (K4.length : Int)) = false := decide_eq_false (by omega)
                have c2 : decide (j < K4.length) = false := decide_eq_false hjl
                clear LK HLK HL4 hjl hj hgj
                go_wp2
                go_roundg (q.length - (i + 1))
                case measure => have := HLT.out; have := HG.out; omega
                case rel => exact ⟨i + 1, T4, K4, adt4, cpt4, adk4, cpk4, HLT.out, Nat.le_refl _, rfl, rfl, by first | rw [hwi] | rfl | simp, HRX, HO5⟩
end Go.Proofs.Ytojiahdbgdgdcaa
