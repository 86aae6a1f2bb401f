/- Joined: What New of a node calls: areEntries, and what is set apart in memory. A message: its numbers, and whether it may be: the program's walks. A message's text: the program's walk. -/
import Derived.Test.YtlkidnfgodficaaGreatRnM
import Derived.Test.YtlkidnfgodficaaGreatGApR
import Derived.Test.YtlkidnfgodficaaGreatJoined05
import Derived.Deep.LoopGhost
import Derived.Test.YtlkidnfgodficaaGreatJoined09
import Derived.Test.YtlkidnfgodficaaGreatJoined01
namespace Go.Proofs.YtlkidnfgodficaaGreat
open Go.RowKit Go.Maps
set_option linter.unusedVariables false
set_option linter.unusedSimpArgs false

theorem mesOk_drop {hi a : Int} {es : List En} {k : Nat} (hk : k < es.length) : mesOk a hi (es.drop k) = (meOk a hi es[k] && mesOk es[k].tm hi (es.drop (k + 1))) := by
  rw [List.drop_eq_getElem_cons hk]; rfl
set_option maxRecDepth 100000 in
set_option maxHeartbeats 4000000 in
theorem areEnt_any (v : Value) (es : List En) (lo hi : Int) (w : World) (hv : EntI w v es) (hl : es.length ≤ 17592186044416) : Calls Tryz.prog 50 #[v, .int .i64 lo, .int .i64 hi] w fun e w' => e = .returned (.bool (mesOk lo hi es)) ∧ Below w.heap.size w w' := by
  obtain ⟨ad, cap, rfl, hc⟩ := hv.form
  have HC := hid hc
  have HL := hid hl
  obtain ⟨R, hR⟩ : ∃ R, R = mesOk lo hi es := ⟨_, rfl⟩
  rw [← hR]
  have HR0 : Hid (R = mesOk lo hi (es.drop 0)) := by show _ = _; rw [hR]; rfl
  clear hc hv hl hR
  go_enter Tryz.func50, Tryz.ntmps50
  go_wp2
  go_loopg [1, 11] es.length (fun gk a i wr => ∃ (k : Nat) (a0 : Int), k ≤ es.length ∧ gk = es.length - k ∧ a = .int .i64 a0 ∧ i = .int .i64 (k : Int) ∧ Hid (R = mesOk a0 hi (es.drop k)) ∧ Hid (Below w.heap.size w wr))
  case atStart => exact ⟨0, lo, Nat.zero_le _, rfl, rfl, rfl, HR0, Below.refl _ _⟩
  case round =>
    clear HR0
    obtain ⟨k, a0, hk, hgk, rfl, rfl, HR, HB⟩ := hrel
    by_cases hlt : k < es.length
    · have hlb := HL.out
      have hk1 : (k : Int) < (es.length : Int) := by omega
      have hk0 : (0 : Int) ≤ (k : Int) := by omega
      have hwk : wrap64 ((k : Int) + 1) = ((k + 1 : Nat) : Int) := by rw [IntWalk.wrap64_in _ (by omega)]; omega
      obtain ⟨b, off, rfl, hb, c0, c1, c2⟩ := HC.out k hlt
      have d0 := (HB.out.cell (p := ⟨b, off + k * 3, none⟩) hb).trans c0
      have d1 := (HB.out.cell (p := ⟨b, off + k * 3 + 1, none⟩) hb).trans c1
      have d2 := (HB.out.cell (p := ⟨b, off + k * 3 + 2, none⟩) hb).trans c2
      have HRD : Hid (R = (meOk a0 hi es[k] && mesOk es[k].tm hi (es.drop (k + 1)))) := HR.out.trans (mesOk_drop hlt)
      have HME : Hid (meOk a0 hi es[k] = (decide (a0 ≤ es[k].tm) && (decide (es[k].tm ≤ hi) && (decide (0 ≤ es[k].kd) && (decide (es[k].kd ≤ 255) && decide (es[k].da.size ≤ 65536)))))) := rfl
      have HLT := hid hlt
      generalize es[k] = x at *
      obtain ⟨tm, kd, da⟩ := x
      simp only at *
      have HAL : Hid (Below w.heap.size w (wr.alloc (.cells #[.int .i64 tm, .int .i64 kd, .string da] 51))) := below_al HB.out _
      have y0 := (srow wr [.int .i64 tm, .int .i64 kd, .string da] 51).cellAt (o := 0) rfl
      have y1 := (srow wr [.int .i64 tm, .int .i64 kd, .string da] 51).cellAt (o := 1) rfl
      have y2 := (srow wr [.int .i64 tm, .int .i64 kd, .string da] 51).cellAt (o := 2) rfl
      have HGK := hid hgk
      generalize meOk a0 hi ⟨tm, kd, da⟩ = M at *
      clear HR HB c0 c1 c2 hb hlb hlt hk hgk HC
      by_cases h0 : tm < a0
      case pos =>
        have t0 : decide (tm < a0) = true := decide_eq_true h0
        have hM : M = false := by rw [HME.out, decide_eq_false (show ¬ a0 ≤ tm by omega)]; rfl
        have hr : R = false := by rw [HRD.out, hM]; rfl
        subst hr
        clear HRD HME hM h0
        go_wp2
        go_ret
        exact ⟨rfl, HAL.out⟩
      case neg =>
      have t0 : decide (tm < a0) = false := decide_eq_false h0
      by_cases h1 : tm > hi
      case pos =>
        have t1 : decide (tm > hi) = true := decide_eq_true h1
        have hM : M = false := by rw [HME.out, decide_eq_true (show a0 ≤ tm by omega), decide_eq_false (show ¬ tm ≤ hi by omega)]; simp
        have hr : R = false := by rw [HRD.out, hM]; rfl
        subst hr
        clear HRD HME hM h0 h1
        go_wp2
        go_ret
        exact ⟨rfl, HAL.out⟩
      case neg =>
      have t1 : decide (tm > hi) = false := decide_eq_false h1
      by_cases h2 : kd < 0
      case pos =>
        have t2 : decide (kd < 0) = true := decide_eq_true h2
        have hM : M = false := by rw [HME.out, decide_eq_true (show a0 ≤ tm by omega), decide_eq_true (show tm ≤ hi by omega), decide_eq_false (show ¬ 0 ≤ kd by omega)]; simp
        have hr : R = false := by rw [HRD.out, hM]; rfl
        subst hr
        clear HRD HME hM h0 h1 h2
        go_wp2
        go_ret
        exact ⟨rfl, HAL.out⟩
      case neg =>
      have t2 : decide (kd < 0) = false := decide_eq_false h2
      by_cases h3 : kd > 255
      case pos =>
        have t3 : decide (kd > 255) = true := decide_eq_true h3
        have hM : M = false := by rw [HME.out, decide_eq_true (show a0 ≤ tm by omega), decide_eq_true (show tm ≤ hi by omega), decide_eq_true (show 0 ≤ kd by omega), decide_eq_false (show ¬ kd ≤ 255 by omega)]; simp
        have hr : R = false := by rw [HRD.out, hM]; rfl
        subst hr
        clear HRD HME hM h0 h1 h2 h3
        go_wp2
        go_ret
        exact ⟨rfl, HAL.out⟩
      case neg =>
      have t3 : decide (kd > 255) = false := decide_eq_false h3
      by_cases h4 : (da.size : Int) > 65536
      case pos =>
        have t4 : decide ((da.size : Int) > 65536) = true := decide_eq_true h4
        have hM : M = false := by rw [HME.out, decide_eq_true (show a0 ≤ tm by omega), decide_eq_true (show tm ≤ hi by omega), decide_eq_true (show 0 ≤ kd by omega), decide_eq_true (show kd ≤ 255 by omega), decide_eq_false (show ¬ da.size ≤ 65536 by omega)]; simp
        have hr : R = false := by rw [HRD.out, hM]; rfl
        subst hr
        clear HRD HME hM h0 h1 h2 h3 h4
        go_wp2
        go_ret
        exact ⟨rfl, HAL.out⟩
      case neg =>
      have t4 : decide ((da.size : Int) > 65536) = false := decide_eq_false h4
      have hM : M = true := by rw [HME.out, decide_eq_true (show a0 ≤ tm by omega), decide_eq_true (show tm ≤ hi by omega), decide_eq_true (show 0 ≤ kd by omega), decide_eq_true (show kd ≤ 255 by omega), decide_eq_true (show da.size ≤ 65536 by omega)]; rfl
      have HR2 : Hid (R = mesOk tm hi (es.drop (k + 1))) := by show _ = _; rw [HRD.out, hM]; rfl
      have HM5 : Hid (es.length - (k + 1) < es.length - k) := by have := HLT.out; show _ < _; omega
      clear HRD HME hM HL h0 h1 h2 h3 h4
      go_wp2
      go_roundg (es.length - (k + 1))
      case measure => rw [HGK.out]; exact HM5.out
      case rel => exact ⟨k + 1, tm, HLT.out, rfl, rfl, by first | rw [hwk] | rfl | simp, HR2, HAL⟩
    · have hk9 : k = es.length := by omega
      have hdl : decide ((k : Int) < (es.length : Int)) = false := decide_eq_false (by omega)
      have hdl2 : decide (k < es.length) = false := decide_eq_false (by omega)
      have hr : R = true := by rw [HR.out, hk9, List.drop_length]; rfl
      subst hr
      clear HR HL HC hlt hk hk9 hgk
      go_wp2
      go_ret
      exact ⟨rfl, HB.out⟩
set_option maxRecDepth 100000 in
set_option maxHeartbeats 1000000 in
theorem centry_any (x : En) (w : World) (h : x.da.size ≤ 140737488355328) : Calls Tryz.prog 98 #[.agg #[.int .i64 x.tm, .int .i64 x.kd, .string x.da]] w fun e w' => e = .returned (.agg #[.int .i64 x.tm, .int .i64 x.kd, .string x.da]) ∧ Below w.heap.size w w' := by
  obtain ⟨tm, kd, da⟩ := x
  simp only at *
  have R0 : Hid (RowIs ((w.alloc (.cells #[.int .i64 tm, .int .i64 kd, .string da] 51)).alloc (.cells #[.int .i64 0, .int .i64 0, .string ⟨#[]⟩] 51)) w.heap.size [.int .i64 tm, .int .i64 kd, .string da] 51) := row_old (srow w [.int .i64 tm, .int .i64 kd, .string da] 51) _
  have R1 : Hid (RowIs ((w.alloc (.cells #[.int .i64 tm, .int .i64 kd, .string da] 51)).alloc (.cells #[.int .i64 0, .int .i64 0, .string ⟨#[]⟩] 51)) (w.heap.size + 1) [.int .i64 0, .int .i64 0, .string ⟨#[]⟩] 51) := by
    have := srow (w.alloc (.cells #[.int .i64 tm, .int .i64 kd, .string da] 51)) [.int .i64 0, .int .i64 0, .string ⟨#[]⟩] 51
    show RowIs _ _ _ _
    simpa using this
  have B0 : Hid (Below w.heap.size w ((w.alloc (.cells #[.int .i64 tm, .int .i64 kd, .string da] 51)).alloc (.cells #[.int .i64 0, .int .i64 0, .string ⟨#[]⟩] 51))) := below_al (below_al (Below.refl _ _) _) _
  have CL := hid (clone_any da ((w.alloc (.cells #[.int .i64 tm, .int .i64 kd, .string da] 51)).alloc (.cells #[.int .i64 0, .int .i64 0, .string ⟨#[]⟩] 51)) (by omega))
  clear h
  go_enter Tryz.func98, Tryz.ntmps98
  go_wp2_with fail
  generalize (w.alloc (.cells #[.int .i64 tm, .int .i64 kd, .string da] 51)).alloc (.cells #[.int .i64 0, .int .i64 0, .string ⟨#[]⟩] 51) = W0 at *
  refine CL.out.mono ?_
  rintro e w1 ⟨rfl, b1⟩
  have Q0 := hid (R0.out.keep (b1.keep (fun _ => False)) (fun h => h))
  have Q1 := hid (R1.out.keep (b1.keep (fun _ => False)) (fun h => h))
  have B1 := hid (below_on B0.out b1)
  clear R0 R1 B0 CL b1
  have c0 := Q0.out.cellAt (o := 0) rfl
  have c1 := Q0.out.cellAt (o := 1) rfl
  have c2 := Q0.out.cellAt (o := 2) rfl
  have g2 : w1.frozen? ⟨w.heap.size, 2, none⟩ = false := Q0.out.frozen
  have d0 := Q1.out.cellAt (o := 0) rfl
  have d1 := Q1.out.cellAt (o := 1) rfl
  have d2 := Q1.out.cellAt (o := 2) rfl
  have f0 : w1.frozen? ⟨w.heap.size + 1, 0, none⟩ = false := Q1.out.frozen
  have f1 : w1.frozen? ⟨w.heap.size + 1, 1, none⟩ = false := Q1.out.frozen
  have f2 : w1.frozen? ⟨w.heap.size + 1, 2, none⟩ = false := Q1.out.frozen
  have k1 := keep_setCell w1 w.heap.size 2 (.string da)
  have P1 := Q1.out.keep k1 (by omega)
  have FR := hid (((P1.set 0 (.int .i64 tm)).set 1 (.int .i64 kd)).set 2 (.string da))
  have BF := hid ((B1.out.trans (keep_below k1 (fun j hj e => by omega) B1.out.size)).trans (keep_below (((keep_setCell (w1.setCell ⟨w.heap.size, 2, none⟩ (.string da)) (w.heap.size + 1) 0 (.int .i64 tm)).trans (keep_setCell _ _ 1 (.int .i64 kd))).trans (keep_setCell _ _ 2 (.string da))) (fun j hj e => by omega) (B1.out.trans (keep_below k1 (fun j hj e => by omega) B1.out.size)).size))
  clear Q0 Q1 B1 k1 P1
  go_wp2
  exact bodyPost_ret (v := .agg #[.int .i64 tm, .int .i64 kd, .string da]) (results_cell_row (p := 2) rfl _ _ (w.heap.size + 1) 51 #[.int .i64 tm, .int .i64 kd, .string da] (0, 0) _ rfl FR.out Tryz.underlying51 rfl (by kernel_rfl)) rfl ⟨rfl, BF.out⟩
set_option maxRecDepth 100000 in
set_option maxHeartbeats 4000000 in
theorem centries_any (v : Value) (es : List En) (w : World) (hv : EntI w v es) (hl : es.length ≤ 4398046511104) (hd : ∀ x ∈ es, x.da.size ≤ 140737488355328) : Calls Tryz.prog 53 #[v] w fun e w' => ∃ v', e = .returned v' ∧ OwnE w' w.heap.size v' es ∧ Below w.heap.size w w' := by
  obtain ⟨ad, cap, rfl, hc⟩ := hv.form
  have HC := hid hc
  have HL := hid hl
  have CE : Hid (∀ k (hk : k < es.length) W, Below w.heap.size w W → Calls Tryz.prog 98 #[.agg #[.int .i64 es[k].tm, .int .i64 es[k].kd, .string es[k].da]] W fun e w' => e = .returned (.agg #[.int .i64 es[k].tm, .int .i64 es[k].kd, .string es[k].da]) ∧ Below W.heap.size W w') := fun k hk W _ => centry_any es[k] W (hd _ (List.getElem_mem hk))
  clear hc hv hl hd
  go_enter Tryz.func53, Tryz.ntmps53
  go_wp2
  go_loopg [3, 8] es.length (fun gk o i wr => ∃ (k : Nat) (ad2 : Option Addr) (cap2 : Nat), k ≤ es.length ∧ gk = es.length - k ∧ o = .slice ad2 k cap2 ∧ i = .int .i64 (k : Int) ∧ Hid (wr.ownsRow w.heap.size 51 3 (.slice ad2 k cap2) k (ensC (es.take k))) ∧ Hid (Below w.heap.size w wr))
  case atStart => exact ⟨0, none, 0, Nat.zero_le _, rfl, rfl, rfl, ⟨rfl, .inl ⟨rfl, rfl⟩⟩, Below.refl _ _⟩
  case round =>
    obtain ⟨k, ad2, cap2, hk, hgk, rfl, rfl, HO, HB⟩ := hrel
    by_cases hlt : k < es.length
    · have hlb := HL.out
      have hk1 : (k : Int) < (es.length : Int) := by omega
      have hk0 : (0 : Int) ≤ (k : Int) := by omega
      have hwk : wrap64 ((k : Int) + 1) = ((k + 1 : Nat) : Int) := by rw [IntWalk.wrap64_in _ (by omega)]; omega
      obtain ⟨b, off, rfl, hb, c0, c1, c2⟩ := HC.out k hlt
      have d0 := (HB.out.cell (p := ⟨b, off + k * 3, none⟩) hb).trans c0
      have d1 := (HB.out.cell (p := ⟨b, off + k * 3 + 1, none⟩) hb).trans c1
      have d2 := (HB.out.cell (p := ⟨b, off + k * 3 + 2, none⟩) hb).trans c2
      have CE1 := hid (fun W hW => CE.out k hlt W hW)
      have HT : Hid (ensC (es.take (k + 1)) = ensC (es.take k) ++ enC es[k]) := by show _ = _; rw [List.take_succ_eq_append_getElem hlt, ensC_snoc]
      have HLT := hid hlt
      have HGK := hid hgk
      generalize es[k] = x at *
      obtain ⟨tm, kd, da⟩ := x
      simp only at *
      have HAL : Hid (Below w.heap.size w (wr.alloc (.cells #[.int .i64 tm, .int .i64 kd, .string da] 51))) := below_al HB.out _
      have HO2 : Hid ((wr.alloc (.cells #[.int .i64 tm, .int .i64 kd, .string da] 51)).ownsRow w.heap.size 51 3 (.slice ad2 k cap2) k (ensC (es.take k))) := (keep_alloc (fun _ => False) _ _).ownsRow HO.out (fun _ _ h => h)
      have y0 := (srow wr [.int .i64 tm, .int .i64 kd, .string da] 51).cellAt (o := 0) rfl
      have y1 := (srow wr [.int .i64 tm, .int .i64 kd, .string da] 51).cellAt (o := 1) rfl
      have y2 := (srow wr [.int .i64 tm, .int .i64 kd, .string da] 51).cellAt (o := 2) rfl
      have CE2 := hid (CE1.out _ HAL.out)
      have HB1 : Hid (k + 1 ≤ 4611686018427387904) := by show _ ≤ _; omega
      have HB2 : Hid ((k + 1) * 32 ≤ 140737488355328) := by show _ ≤ _; omega
      have HO1 := hid (enC_cell1 ⟨tm, kd, da⟩)
      have HX2 : Hid ((enC ⟨tm, kd, da⟩).length = 1 * 3) := rfl
      have HM5 : Hid (es.length - (k + 1) < es.length - k) := by have := HLT.out; show _ < _; omega
      clear HB HO c0 c1 c2 hb hlb hlt hk hgk CE CE1
      generalize hPA : ensC (es.take k) = PA at *
      clear hPA
      go_wp2_with fail
      refine CE2.out.mono ?_
      rintro e w2 ⟨rfl, b2⟩
      have H2 := hid (below_on HAL.out b2)
      have H3 := hid ((b2.keep (fun _ => False)).ownsRow HO2.out (fun _ _ h => h))
      have HGX : Hid (GSrc (w2.alloc (.cells #[.int .i64 tm, .int .i64 kd, .string da] 51)) (.slice (some ⟨w2.heap.size, 0, none⟩) 1 1) 1 (enC ⟨tm, kd, da⟩)) := gsrc_block (heap_alloc_new _ _)
      have HGA : Hid ((w2.alloc (.cells #[.int .i64 tm, .int .i64 kd, .string da] 51)).ownsRow w.heap.size 51 3 (.slice ad2 k cap2) k PA) := (keep_alloc (fun _ => False) _ _).ownsRow H3.out (fun _ _ h => h)
      have HSZ : Hid (w.heap.size ≤ (w2.alloc (.cells #[.int .i64 tm, .int .i64 kd, .string da] 51)).heap.size) := by have := (below_al H2.out (.cells #[.int .i64 tm, .int .i64 kd, .string da] 51)).size; exact this
      have HBL := hid (below_al H2.out (.cells #[.int .i64 tm, .int .i64 kd, .string da] 51))
      clear CE2 b2 HAL HO2 H2 H3 y0 y1 y2 d0 d1 d2
      generalize hXS : enC ⟨tm, kd, da⟩ = XS at *
      clear hXS
      go_wp2_with (at_builtin; refine wpl_gappL rfl _ _ elEn rfl w.heap.size (.slice ad2 k cap2) (.slice (some ⟨w2.heap.size, 0, none⟩) 1 1) PA XS k 1 (k + 1) rfl rfl rfl HGA.out HSZ.out HGX.out HX2.out HO1.out HB1.out HB2.out ?_; intro ad' cap' w' hr' hk')
      have F1 : Hid (w'.ownsRow w.heap.size 51 3 (.slice ad' (k + 1) cap') (k + 1) (ensC (es.take (k + 1)))) := by rw [HT.out]; exact hr'
      have F2 := hid (HBL.out.trans (keep_below hk' (fun j hj e => by have := ownsRow_ge HGA.out e; omega) HSZ.out))
      clear hr' hk' HGA HGX HSZ HBL HT
      go_wp2
      go_roundg (es.length - (k + 1))
      case measure => rw [HGK.out]; exact HM5.out
      case rel => exact ⟨k + 1, _, _, HLT.out, rfl, rfl, by first | rw [hwk] | rfl | simp, F1, F2⟩
    · have hk9 : k = es.length := by omega
      have hdl : decide ((k : Int) < (es.length : Int)) = false := decide_eq_false (by omega)
      have hdl2 : decide (k < es.length) = false := decide_eq_false (by omega)
      subst hk9
      have HF : Hid (OwnE wr w.heap.size (.slice ad2 es.length cap2) es) := by have := HO.out; rw [List.take_length] at this; exact this
      clear HO HL HC hlt hk hgk CE
      go_wp2
      go_ret
      exact ⟨_, rfl, HF.out, HB.out⟩
set_option maxRecDepth 100000 in
set_option maxHeartbeats 1000000 in
theorem iclone_own (v : Value) (l : List Int) (w : World) (hv : IntsI w v l) (hl : l.length ≤ 17592186044416) : Calls Tryz.prog 101 #[v] w fun e w' => ∃ v', e = .returned v' ∧ OwnI w' w.heap.size v' l ∧ Below w.heap.size w w' := by
  obtain ⟨ad, cap, rfl, hc⟩ := hv.form
  have HV := hid hv
  have he := eql_isl_nil w ad l.length cap
  cases ad with
  | none =>
    have hn : l = [] := by
      cases l with
      | nil => rfl
      | cons x r => obtain ⟨b, off, h, _⟩ := hc 0 (by simp); cases h
    subst hn
    clear hc hv
    simp only [List.length_nil] at he ⊢
    go_enter Tryz.func101, Tryz.ntmps101
    go_wp2
    go_ret
    exact ⟨_, rfl, ownI_nil _ _, Below.refl _ _⟩
  | some a =>
    have HGA : Hid ((w.alloc (.cells #[] 3)).heap[w.heap.size]? = some (.cells #[] 3 (0, 0))) := heap_alloc_new _ _
    have HBA : Hid (Below w.heap.size w (w.alloc (.cells #[] 3))) := below_al (Below.refl _ _) _
    have HIA := hid (hv.next HBA.out)
    have HL8 : Hid (l.length * 8 ≤ 140737488355328) := by show _ ≤ _; omega
    have HLE : Hid (w.heap.size ≤ w.heap.size) := Nat.le_refl _
    clear hc hv hl
    go_enter Tryz.func101, Tryz.ntmps101
    go_wp2_with (at_builtin; refine wpl_iall rfl _ _ rfl w.heap.size w.heap.size l.length _ l rfl rfl rfl HGA.out HLE.out HIA.out HL8.out ?_; intro ad' cap' w4 ho' hk')
    have HO := hid ho'
    have HB : Hid (Below w.heap.size w w4) := HBA.out.trans hk'
    clear ho' hk' HGA HBA HIA he
    go_wp2
    go_ret
    exact ⟨_, rfl, HO.out, HB.out⟩
set_option maxRecDepth 100000 in
set_option maxHeartbeats 4000000 in
theorem cshot_any (v : Value) (s : Sh) (w : World) (hv : IntsI w v s.ms) (hl : s.ms.length ≤ 17592186044416) (hd : s.da.size ≤ 140737488355328) : Calls Tryz.prog 52 #[shV v s] w fun e w' => ∃ v', e = .returned (shV v' s) ∧ OwnI w' w.heap.size v' s.ms ∧ Below w.heap.size w w' := by
  obtain ⟨ix, tm, ms, da⟩ := s
  simp only [shV] at *
  obtain ⟨W0, hW0⟩ : ∃ W0, W0 = (w.alloc (.cells #[.int .i64 ix, .int .i64 tm, v, .string da] 49)).alloc (.cells #[.int .i64 0, .int .i64 0, .slice none 0 0, .string ⟨#[]⟩] 49) := ⟨_, rfl⟩
  have hs0 : w.heap.size ≤ W0.heap.size := by rw [hW0]; simp; omega
  have R0 : RowIs W0 w.heap.size [.int .i64 ix, .int .i64 tm, v, .string da] 49 := by rw [hW0]; exact row_old (srow w [.int .i64 ix, .int .i64 tm, v, .string da] 49) _
  have R1 : RowIs W0 (w.heap.size + 1) [.int .i64 0, .int .i64 0, .slice none 0 0, .string ⟨#[]⟩] 49 := by
    have := srow (w.alloc (.cells #[.int .i64 ix, .int .i64 tm, v, .string da] 49)) [.int .i64 0, .int .i64 0, .slice none 0 0, .string ⟨#[]⟩] 49
    rw [World.size_alloc] at this
    rw [hW0]; exact this
  have BW : Below w.heap.size w W0 := by rw [hW0]; exact below_al (below_al (Below.refl _ _) _) _
  have HV : IntsI W0 v ms := by rw [hW0]; exact (hv.next (below_al (Below.refl _ _) _)).next (below_al (Below.refl _ _) _)
  have CI : Hid (∀ W, Keep (fun _ => False) W0 W → Calls Tryz.prog 101 #[v] W fun e w' => ∃ v', e = .returned v' ∧ OwnI w' W0.heap.size v' ms ∧ Below W.heap.size W w') := fun W k => (iclone_own v ms W (IntsI.next HV ⟨k.os, k.tape, k.output, k.size, fun j hj => k.block j hj (fun h => h)⟩) hl).mono fun e w' ⟨v', he, ho, hb⟩ => ⟨v', he, ownsRow_base ho k.size, hb⟩
  have CL : Hid (∀ W, Calls Tryz.prog 62 #[.string da] W fun e w' => e = .returned (.string da) ∧ Below W.heap.size W w') := fun W => clone_any da W hd
  have H0 := hid R0
  have H1 := hid R1
  have HBW := hid BW
  have K0 : Hid (Keep (fun _ => False) W0 W0.drew) := keep_drew _ _
  have HS0 : Hid (w.heap.size + 2 = W0.heap.size) := by show _ = _; rw [hW0]; simp
  have y2 : W0.drew.cell? ⟨w.heap.size, 2, none⟩ = some v := R0.cellAt (o := 2) rfl
  have y3 : W0.drew.cell? ⟨w.heap.size, 3, none⟩ = some (.string da) := R0.cellAt (o := 3) rfl
  clear R0 R1 BW HV hv hl hd hs0
  go_enter Tryz.func52, Tryz.ntmps52
  go_wp2_with fail
  rw [← hW0]
  clear hW0
  refine wp_region_held_drew (S := fun W => W.cell? ⟨w.heap.size, 3, none⟩ = some (.string da)) (by kernel_rfl) y3 (fun hHeld => ?_)
  generalize W0.drew = V0 at *
  refine wpAnyH_take (i := 0) (v := ?vv1) rfl (by kernel_rfl) (by kernel_rfl) (by kernel_rfl) (fun _ _ _ h => h) (Or.inl ⟨by rfl, ?hy1⟩) (by assumption) ?rest1
  case hy1 => (intro w hSw; (try dsimp only at hSw); go_simp; first | done | with_reducible rfl)
  try simp only [Act.put, List.getElem_toArray, List.getElem_cons_succ, List.getElem_cons_zero, List.setIfInBounds_toArray, List.set_cons_zero, List.set_cons_succ]
  refine wpAnyH_take (i := 3) (v := ?vv2) rfl (by kernel_rfl) (by kernel_rfl) (by kernel_rfl) (fun _ _ _ h => h) (Or.inl ⟨by rfl, ?hy2⟩) (by assumption) ?rest2
  case hy2 => (intro w hSw; (try dsimp only at hSw); go_simp; first | done | with_reducible rfl)
  try simp only [Act.put, List.getElem_toArray, List.getElem_cons_succ, List.getElem_cons_zero, List.setIfInBounds_toArray, List.set_cons_zero, List.set_cons_succ]
  refine wpAnyH_take (i := 4) (v := ?vv3) rfl (by kernel_rfl) (by kernel_rfl) (by kernel_rfl) (fun _ _ _ h => h) (Or.inl ⟨by rfl, ?hy3⟩) (by assumption) ?rest3
  case hy3 => (intro w hSw; (try dsimp only at hSw); go_simp; first | done | with_reducible rfl)
  try simp only [Act.put, List.getElem_toArray, List.getElem_cons_succ, List.getElem_cons_zero, List.setIfInBounds_toArray, List.set_cons_zero, List.set_cons_succ]
  refine wpAnyH_ready (rs := [1]) (by kernel_rfl) (by simp) ?_
  refine AllReadyH.cons rfl (fun K hK => ?_) AllReadyH.nil
  go_simp
  refine hK.out _ _ y3 (fun hHeld => ?_)
  clear hK K
  try simp only [Act.put, List.getElem_toArray, List.getElem_cons_succ, List.getElem_cons_zero, List.setIfInBounds_toArray, List.set_cons_zero, List.set_cons_succ]
  refine wpAnyH_ready (rs := [2]) (by kernel_rfl) (by simp) ?_
  refine AllReadyH.cons rfl (fun K hK => ?_) AllReadyH.nil
  go_simp
  refine (CI.out _ K0.out).mono ?_
  rintro q1 w1 ⟨v1, rfl, ho1, hb1⟩
  obtain ⟨ad1, cp1, hv1⟩ := ho1.form
  subst hv1
  have K1 := hid (K0.out.trans (hb1.keep (fun _ => False)))
  have O1 := hid ho1
  have y3 := (H0.out.keep K1.out (fun h => h)).cellAt (o := 3) rfl
  have CL1 := hid (CL.out w1)
  clear CI K0 ho1 hb1 y2 CL hHeld
  go_wp2_with fail
  refine hK.out _ _ y3 (fun hHeld => ?_)
  clear hK K
  try simp only [Act.put, List.getElem_toArray, List.getElem_cons_succ, List.getElem_cons_zero, List.setIfInBounds_toArray, List.set_cons_zero, List.set_cons_succ]
  refine wpAnyH_take (i := 6) (v := ?vv4) rfl (by kernel_rfl) (by kernel_rfl) (by kernel_rfl) (fun _ _ _ h => h) (Or.inl ⟨by rfl, ?hy4⟩) (by assumption) ?rest4
  case hy4 => (intro w hSw; (try dsimp only at hSw); go_simp; first | done | with_reducible rfl)
  try simp only [Act.put, List.getElem_toArray, List.getElem_cons_succ, List.getElem_cons_zero, List.setIfInBounds_toArray, List.set_cons_zero, List.set_cons_succ]
  refine wpAnyH_ready (rs := [5]) (by kernel_rfl) (by simp) ?_
  refine AllReadyH.cons rfl (fun K hK => ?_) AllReadyH.nil
  go_simp
  refine CL1.out.mono ?_
  rintro q2 w2 ⟨rfl, hb2⟩
  have K2 := hid (K1.out.trans (hb2.keep (fun _ => False)))
  have O2 : Hid (OwnI w2 W0.heap.size (.slice ad1 ms.length cp1) ms) := O1.out.next hb2
  have R0 := hid (H0.out.keep K2.out (fun h => h))
  have R1 := hid (H1.out.keep K2.out (fun h => h))
  clear CL1 K1 O1 hb2 H0 H1
  have y3 := R0.out.cellAt (o := 3) rfl
  have g2 : w2.frozen? ⟨w.heap.size, 2, none⟩ = false := R0.out.frozen
  have g3 : w2.frozen? ⟨w.heap.size, 3, none⟩ = false := R0.out.frozen
  have c2 := R0.out.cellAt (o := 2) rfl
  go_wp2_with fail
  refine hK.out _ _ y3 (fun hHeld => ?_)
  clear hK K
  try simp only [Act.put, List.getElem_toArray, List.getElem_cons_succ, List.getElem_cons_zero, List.setIfInBounds_toArray, List.set_cons_zero, List.set_cons_succ]
  have A1 := hid (R0.out.set 2 (.slice ad1 ms.length cp1))
  have A2 := hid (A1.out.set 3 (.string da))
  have ZA : Hid ((w2.setCell ⟨w.heap.size, 2, none⟩ (.slice ad1 ms.length cp1)).cell? ⟨w.heap.size, 3, none⟩ = some (.string da)) := A1.out.cellAt (o := 3) rfl
  have ZB : Hid (((w2.setCell ⟨w.heap.size, 2, none⟩ (.slice ad1 ms.length cp1)).setCell ⟨w.heap.size, 3, none⟩ (.string da)).cell? ⟨w.heap.size, 3, none⟩ = some (.string da)) := A2.out.cellAt (o := 3) rfl
  have KS := hid ((keep_setCell w2 w.heap.size 2 (.slice ad1 ms.length cp1)).trans (keep_setCell _ _ 3 (.string da)))
  refine wpAnyH_ready (rs := [7]) (by kernel_rfl) (by simp) ?_
  refine AllReadyH.cons rfl (fun K hK => ?_) AllReadyH.nil
  go_simp
  refine hK.out _ _ ZA.out (fun hHeld => ?_)
  clear hK K
  try simp only [Act.put, List.getElem_toArray, List.getElem_cons_succ, List.getElem_cons_zero, List.setIfInBounds_toArray, List.set_cons_zero, List.set_cons_succ]
  refine wpAnyH_take (i := 8) (v := ?vv5) rfl (by kernel_rfl) (by kernel_rfl) (by kernel_rfl) (fun _ _ _ h => h) (Or.inl ⟨by rfl, ?hy5⟩) (by assumption) ?rest5
  case hy5 => (intro w hSw; (try dsimp only at hSw); go_simp; first | done | with_reducible rfl)
  try simp only [Act.put, List.getElem_toArray, List.getElem_cons_succ, List.getElem_cons_zero, List.setIfInBounds_toArray, List.set_cons_zero, List.set_cons_succ]
  refine wpAnyH_ready (rs := [9]) (by kernel_rfl) (by simp) ?_
  refine AllReadyH.cons rfl (fun K hK => ?_) AllReadyH.nil
  go_simp
  refine hK.out _ _ ZB.out (fun hHeld => ?_)
  clear hK K
  try simp only [Act.put, List.getElem_toArray, List.getElem_cons_succ, List.getElem_cons_zero, List.setIfInBounds_toArray, List.set_cons_zero, List.set_cons_succ]
  refine wpAnyH_done (by kernel_rfl) ?_ _
  have y0 := A2.out.cellAt (o := 0) rfl
  have y1 := A2.out.cellAt (o := 1) rfl
  have y2 := A2.out.cellAt (o := 2) rfl
  have y3 := A2.out.cellAt (o := 3) rfl
  have R3 := hid (R1.out.keep KS.out (by omega))
  have BF : Hid (Below w.heap.size w ((w2.setCell ⟨w.heap.size, 2, none⟩ (.slice ad1 ms.length cp1)).setCell ⟨w.heap.size, 3, none⟩ (.string da))) := HBW.out.trans (((K2.out.mono (fun _ _ h => h.elim) : Keep (· = w.heap.size) W0 w2).trans KS.out) |> fun k => keep_below k (fun j hj e => by omega) (by have := HS0.out; omega))
  have OF : Hid (OwnI ((w2.setCell ⟨w.heap.size, 2, none⟩ (.slice ad1 ms.length cp1)).setCell ⟨w.heap.size, 3, none⟩ (.string da)) W0.heap.size (.slice ad1 ms.length cp1) ms) := KS.out.ownsRow O2.out (fun g hg e => by have := ownsRow_ge O2.out hg; have := HS0.out; omega)
  have HS1 : Hid (w.heap.size + 1 < W0.heap.size) := by have := HS0.out; show _ < _; omega
  clear A1 A2 ZA ZB KS R0 R1 K2 O2 hHeld g2 g3 c2
  generalize (w2.setCell ⟨w.heap.size, 2, none⟩ (.slice ad1 ms.length cp1)).setCell ⟨w.heap.size, 3, none⟩ (.string da) = w4 at *
  have f0 : w4.frozen? ⟨w.heap.size + 1, 0, none⟩ = false := R3.out.frozen
  have f1 : w4.frozen? ⟨w.heap.size + 1, 1, none⟩ = false := R3.out.frozen
  have f2 : w4.frozen? ⟨w.heap.size + 1, 2, none⟩ = false := R3.out.frozen
  have f3 : w4.frozen? ⟨w.heap.size + 1, 3, none⟩ = false := R3.out.frozen
  have d0 := R3.out.cellAt (o := 0) rfl
  have d1 := R3.out.cellAt (o := 1) rfl
  have d2 := R3.out.cellAt (o := 2) rfl
  have d3 := R3.out.cellAt (o := 3) rfl
  have FR := hid ((((R3.out.set 0 (.int .i64 ix)).set 1 (.int .i64 tm)).set 2 (.slice ad1 ms.length cp1)).set 3 (.string da))
  have K4 := hid ((((keep_setCell w4 (w.heap.size + 1) 0 (.int .i64 ix)).trans (keep_setCell _ _ 1 (.int .i64 tm))).trans (keep_setCell _ _ 2 (.slice ad1 ms.length cp1))).trans (keep_setCell _ _ 3 (.string da)))
  have OG := hid (K4.out.ownsRow OF.out (fun g hg e => by have := ownsRow_ge OF.out hg; have := HS1.out; omega))
  have BG := hid (BF.out.trans (keep_below K4.out (fun j hj e => by omega) BF.out.size))
  clear R3 K4 OF BF
  go_wp2
  exact bodyPost_ret (v := .agg #[.int .i64 ix, .int .i64 tm, .slice ad1 ms.length cp1, .string da]) (results_cell_row (p := 2) rfl _ _ (w.heap.size + 1) 49 #[.int .i64 ix, .int .i64 tm, .slice ad1 ms.length cp1, .string da] (0, 0) _ rfl FR.out Tryz.underlying49 rfl (by kernel_rfl)) rfl ⟨_, rfl, ownsRow_base OG.out (by have := HS1.out; omega), BG.out⟩
set_option maxRecDepth 100000 in
theorem ngather_any (w : World) : Calls Tryz.prog 54 #[] w fun e w' => e = .returned (.pointer (some ⟨w.heap.size, 0, none⟩)) ∧ Below w.heap.size w w' := by
  have B0 := hid (below_al (Below.refl w.heap.size w) (.cells #[.bool false, .int .i64 0, .int .i64 0, .slice none 0 0] 144))
  go_enter Tryz.func54, Tryz.ntmps54
  go_wp2
  go_ret
  exact ⟨rfl, B0.out⟩
end Go.Proofs.YtlkidnfgodficaaGreat
namespace Go.Proofs.YtlkidnfgodficaaGreat
open Go.RowKit Go.Maps
set_option linter.unusedVariables false
set_option linter.unusedSimpArgs false

def nmA (m : Ms) : Array Value := #[.int .i64 m.kd, .int .i64 m.fr, .int .i64 m.to_, .int .i64 m.tm, .int .i64 m.ix, .int .i64 m.lt, .int .i64 m.cm, .int .i64 m.rd, .int .i64 m.at_]
def msC (v : Value) (m : Ms) : List Value := [.int .i64 m.kd, .int .i64 m.fr, .int .i64 m.to_, .int .i64 m.tm, .int .i64 m.ix, .int .i64 m.lt, .int .i64 m.cm, .int .i64 m.rd, .int .i64 m.at_, .bool m.ys, v, .string m.da]
theorem ix9_0 (m : Ms) (w : World) : (Instr.index 70 (.agg (nmA m)) (.int .i64 ((0 : Nat) : Int))).run Tryz.prog w = .ok (.int .i64 m.kd) w := by kernel_rfl
theorem ix9_1 (m : Ms) (w : World) : (Instr.index 70 (.agg (nmA m)) (.int .i64 ((1 : Nat) : Int))).run Tryz.prog w = .ok (.int .i64 m.fr) w := by kernel_rfl
theorem ix9_2 (m : Ms) (w : World) : (Instr.index 70 (.agg (nmA m)) (.int .i64 ((2 : Nat) : Int))).run Tryz.prog w = .ok (.int .i64 m.to_) w := by kernel_rfl
theorem ix9_3 (m : Ms) (w : World) : (Instr.index 70 (.agg (nmA m)) (.int .i64 ((3 : Nat) : Int))).run Tryz.prog w = .ok (.int .i64 m.tm) w := by kernel_rfl
theorem ix9_4 (m : Ms) (w : World) : (Instr.index 70 (.agg (nmA m)) (.int .i64 ((4 : Nat) : Int))).run Tryz.prog w = .ok (.int .i64 m.ix) w := by kernel_rfl
theorem ix9_5 (m : Ms) (w : World) : (Instr.index 70 (.agg (nmA m)) (.int .i64 ((5 : Nat) : Int))).run Tryz.prog w = .ok (.int .i64 m.lt) w := by kernel_rfl
theorem ix9_6 (m : Ms) (w : World) : (Instr.index 70 (.agg (nmA m)) (.int .i64 ((6 : Nat) : Int))).run Tryz.prog w = .ok (.int .i64 m.cm) w := by kernel_rfl
theorem ix9_7 (m : Ms) (w : World) : (Instr.index 70 (.agg (nmA m)) (.int .i64 ((7 : Nat) : Int))).run Tryz.prog w = .ok (.int .i64 m.rd) w := by kernel_rfl
theorem ix9_8 (m : Ms) (w : World) : (Instr.index 70 (.agg (nmA m)) (.int .i64 ((8 : Nat) : Int))).run Tryz.prog w = .ok (.int .i64 m.at_) w := by kernel_rfl
theorem ix9 (m : Ms) (k : Nat) (h : k < 9) (w : World) : (Instr.index 70 (.agg (nmA m)) (.int .i64 (k : Int))).run Tryz.prog w = .ok (.int .i64 (m.nm.getD k 0)) w := by
  match k, h with
  | 0, _ => exact ix9_0 m w
  | 1, _ => exact ix9_1 m w
  | 2, _ => exact ix9_2 m w
  | 3, _ => exact ix9_3 m w
  | 4, _ => exact ix9_4 m w
  | 5, _ => exact ix9_5 m w
  | 6, _ => exact ix9_6 m w
  | 7, _ => exact ix9_7 m w
  | 8, _ => exact ix9_8 m w
theorem nm_len (m : Ms) : m.nm.length = 9 := rfl
theorem nm_at (m : Ms) (k : Nat) (h : k < 9) : m.nm.getD k 0 ∈ m.nm := by
  rw [List.getD_eq_getElem?_getD, List.getElem?_eq_getElem (by rw [nm_len]; exact h)]
  exact List.getElem_mem _
section
variable {m : Ms}
theorem mo_kd0 (h : m.kd < 1) : msOk m = false := by unfold msOk; rw [decide_eq_false (show ¬ 1 ≤ m.kd by omega)]; simp
theorem mo_kd1 (h : m.kd > 6) : msOk m = false := by unfold msOk; rw [decide_eq_false (show ¬ m.kd ≤ 6 by omega)]; simp
theorem mo_fr (h : ndOk m.fr = false) : msOk m = false := by unfold msOk; rw [h]; simp
theorem mo_to (h : ndOk m.to_ = false) : msOk m = false := by unfold msOk; rw [h]; simp
theorem mo_eq (h : m.fr = m.to_) : msOk m = false := by unfold msOk; rw [decide_eq_true h]; simp
theorem mo_nm (k : Nat) (hk : k < 9) (h : tmB (m.nm.getD k 0) = false) : msOk m = false := by
  have h1 : m.nm.all tmB = false := by
    rw [List.all_eq_false]
    exact ⟨_, nm_at m k hk, by rw [h]; simp⟩
  unfold msOk; rw [h1]; simp
theorem mo_lt (h : m.lt > m.tm) : msOk m = false := by unfold msOk; rw [decide_eq_false (show ¬ m.lt ≤ m.tm by omega)]; simp
theorem mo_es (h : (m.es.length : Int) > 16) : msOk m = false := by unfold msOk; rw [decide_eq_false (show ¬ m.es.length ≤ 16 by omega)]; simp
theorem mo_da (h : (m.da.size : Int) > 4096) : msOk m = false := by unfold msOk; rw [decide_eq_false (show ¬ m.da.size ≤ 4096 by omega)]; simp
theorem mo_ok (h0 : 1 ≤ m.kd) (h1 : m.kd ≤ 6) (h2 : ndOk m.fr = true) (h3 : ndOk m.to_ = true) (h4 : m.fr ≠ m.to_) (h5 : ∀ k, k < 9 → tmB (m.nm.getD k 0) = true) (h6 : m.lt ≤ m.tm) (h7 : (m.es.length : Int) ≤ 16) (h8 : (m.da.size : Int) ≤ 4096) : msOk m = mesOk m.lt m.tm m.es := by
  have ha : m.nm.all tmB = true := by
    rw [List.all_eq_true]
    intro x hx
    obtain ⟨k, hk, rfl⟩ := List.mem_iff_getElem.1 hx
    have := h5 k (by rw [nm_len] at hk; exact hk)
    rw [List.getD_eq_getElem?_getD, List.getElem?_eq_getElem hk] at this
    exact this
  unfold msOk
  rw [decide_eq_true h0, decide_eq_true h1, h2, h3, decide_eq_false h4, ha, decide_eq_true h6, decide_eq_true (show m.es.length ≤ 16 by omega), decide_eq_true (show m.da.size ≤ 4096 by omega)]
  simp
end
theorem tmB_neg {x : Int} (h : x < 0) : tmB x = false := by unfold tmB; rw [decide_eq_false (show ¬ 0 ≤ x by omega)]; rfl
theorem tmB_big {x : Int} (h : x > 1099511627776) : tmB x = false := by unfold tmB; rw [decide_eq_false (show ¬ x ≤ 1099511627776 by omega)]; simp
theorem tmB_ok {x : Int} (h : ¬ x < 0) (h1 : ¬ x > 1099511627776) : tmB x = true := by unfold tmB; rw [decide_eq_true (show 0 ≤ x by omega), decide_eq_true (show x ≤ 1099511627776 by omega)]; rfl
set_option maxRecDepth 100000 in
set_option maxHeartbeats 2000000 in
theorem rnumbers_any (ad : Option Addr) (n cap : Nat) (m : Ms) (w : World) : Calls Tryz.prog 31 #[msV (.slice ad n cap) m] w fun e w' => e = .returned (.agg (nmA m)) ∧ Below w.heap.size w w' := by
  have R9 : Hid (RowIs ((w.alloc (.cells #[.int .i64 m.kd, .int .i64 m.fr, .int .i64 m.to_, .int .i64 m.tm, .int .i64 m.ix, .int .i64 m.lt, .int .i64 m.cm, .int .i64 m.rd, .int .i64 m.at_, .bool m.ys, .slice ad n cap, .string m.da] 24)).alloc (.cells #[.int .i64 m.kd, .int .i64 m.fr, .int .i64 m.to_, .int .i64 m.tm, .int .i64 m.ix, .int .i64 m.lt, .int .i64 m.cm, .int .i64 m.rd, .int .i64 m.at_] 70)) (w.heap.size + 1) (nmA m).toList 70) := by
    have := srow (w.alloc (.cells #[.int .i64 m.kd, .int .i64 m.fr, .int .i64 m.to_, .int .i64 m.tm, .int .i64 m.ix, .int .i64 m.lt, .int .i64 m.cm, .int .i64 m.rd, .int .i64 m.at_, .bool m.ys, .slice ad n cap, .string m.da] 24)) [.int .i64 m.kd, .int .i64 m.fr, .int .i64 m.to_, .int .i64 m.tm, .int .i64 m.ix, .int .i64 m.lt, .int .i64 m.cm, .int .i64 m.rd, .int .i64 m.at_] 70
    rwa [World.size_alloc] at this
  have B9 : Hid (Below w.heap.size w ((w.alloc (.cells #[.int .i64 m.kd, .int .i64 m.fr, .int .i64 m.to_, .int .i64 m.tm, .int .i64 m.ix, .int .i64 m.lt, .int .i64 m.cm, .int .i64 m.rd, .int .i64 m.at_, .bool m.ys, .slice ad n cap, .string m.da] 24)).alloc (.cells #[.int .i64 m.kd, .int .i64 m.fr, .int .i64 m.to_, .int .i64 m.tm, .int .i64 m.ix, .int .i64 m.lt, .int .i64 m.cm, .int .i64 m.rd, .int .i64 m.at_] 70))) := below_al (below_al (Below.refl _ _) _) _
  have Q0 : Hid (RowIs ((w.alloc (.cells #[.int .i64 m.kd, .int .i64 m.fr, .int .i64 m.to_, .int .i64 m.tm, .int .i64 m.ix, .int .i64 m.lt, .int .i64 m.cm, .int .i64 m.rd, .int .i64 m.at_, .bool m.ys, .slice ad n cap, .string m.da] 24)).alloc (.cells #[.int .i64 0, .int .i64 0, .int .i64 0, .int .i64 0, .int .i64 0, .int .i64 0, .int .i64 0, .int .i64 0, .int .i64 0] 70)) w.heap.size [.int .i64 m.kd, .int .i64 m.fr, .int .i64 m.to_, .int .i64 m.tm, .int .i64 m.ix, .int .i64 m.lt, .int .i64 m.cm, .int .i64 m.rd, .int .i64 m.at_, .bool m.ys, .slice ad n cap, .string m.da] 24) := row_old (srow w _ _) _
  have y0 := Q0.out.cellAt (o := 0) rfl
  have y1 := Q0.out.cellAt (o := 1) rfl
  have y2 := Q0.out.cellAt (o := 2) rfl
  have y3 := Q0.out.cellAt (o := 3) rfl
  have y4 := Q0.out.cellAt (o := 4) rfl
  have y5 := Q0.out.cellAt (o := 5) rfl
  have y6 := Q0.out.cellAt (o := 6) rfl
  have y7 := Q0.out.cellAt (o := 7) rfl
  have y8 := Q0.out.cellAt (o := 8) rfl
  have y9 := Q0.out.cellAt (o := 9) rfl
  have y10 := Q0.out.cellAt (o := 10) rfl
  have y11 := Q0.out.cellAt (o := 11) rfl
  unfold msV
  go_enter Tryz.func31, Tryz.ntmps31
  go_wp2
  exact bodyPost_ret (v := .agg (nmA m)) (results_cell_row (p := 2) rfl _ _ (w.heap.size + 1) 70 (nmA m) (0, 0) _ rfl R9.out Tryz.underlying70 rfl (by kernel_rfl)) rfl ⟨rfl, B9.out⟩
set_option maxRecDepth 100000 in
set_option maxHeartbeats 4000000 in
theorem mcheck_any (v : Value) (m : Ms) (w : World) (hv : EntI w v m.es) (hl : m.es.length ≤ 17592186044416) : Calls Tryz.prog 12 #[msV v m] w fun e w' => e = .returned (.bool (msOk m)) ∧ Below w.heap.size w w' := by
  obtain ⟨ad, cap, rfl, -⟩ := hv.form
  obtain ⟨R, hR⟩ : ∃ R, R = msOk m := ⟨_, rfl⟩
  rw [← hR]
  have HR := hid hR
  have R0 : Hid (RowIs (w.alloc (.cells #[.int .i64 m.kd, .int .i64 m.fr, .int .i64 m.to_, .int .i64 m.tm, .int .i64 m.ix, .int .i64 m.lt, .int .i64 m.cm, .int .i64 m.rd, .int .i64 m.at_, .bool m.ys, .slice ad m.es.length cap, .string m.da] 24)) w.heap.size [.int .i64 m.kd, .int .i64 m.fr, .int .i64 m.to_, .int .i64 m.tm, .int .i64 m.ix, .int .i64 m.lt, .int .i64 m.cm, .int .i64 m.rd, .int .i64 m.at_, .bool m.ys, .slice ad m.es.length cap, .string m.da] 24) := srow w _ _
  have B0 : Hid (Below w.heap.size w (w.alloc (.cells #[.int .i64 m.kd, .int .i64 m.fr, .int .i64 m.to_, .int .i64 m.tm, .int .i64 m.ix, .int .i64 m.lt, .int .i64 m.cm, .int .i64 m.rd, .int .i64 m.at_, .bool m.ys, .slice ad m.es.length cap, .string m.da] 24))) := below_al (Below.refl _ _) _
  have NF : Hid (∀ W, Calls Tryz.prog 49 #[.int .i64 m.fr] W fun e w' => e = .returned (.bool (ndOk m.fr)) ∧ w' = W) := fun W => nodeIs_any _ W
  have NT : Hid (∀ W, Calls Tryz.prog 49 #[.int .i64 m.to_] W fun e w' => e = .returned (.bool (ndOk m.to_)) ∧ w' = W) := fun W => nodeIs_any _ W
  have NU := hid (fun W => rnumbers_any ad m.es.length cap m W)
  have AE : Hid (∀ W, Below w.heap.size w W → Calls Tryz.prog 50 #[.slice ad m.es.length cap, .int .i64 m.lt, .int .i64 m.tm] W fun e w' => e = .returned (.bool (mesOk m.lt m.tm m.es)) ∧ Below W.heap.size W w') := fun W b => areEnt_any _ m.es m.lt m.tm W (hv.next b) hl
  have y0 := R0.out.cellAt (o := 0) rfl
  have y1 := R0.out.cellAt (o := 1) rfl
  have y2 := R0.out.cellAt (o := 2) rfl
  have y3 := R0.out.cellAt (o := 3) rfl
  have y4 := R0.out.cellAt (o := 4) rfl
  have y5 := R0.out.cellAt (o := 5) rfl
  have y6 := R0.out.cellAt (o := 6) rfl
  have y7 := R0.out.cellAt (o := 7) rfl
  have y8 := R0.out.cellAt (o := 8) rfl
  have y9 := R0.out.cellAt (o := 9) rfl
  have y10 := R0.out.cellAt (o := 10) rfl
  have y11 := R0.out.cellAt (o := 11) rfl
  clear hv hl hR
  unfold msV at NU ⊢
  by_cases k0 : m.kd < 1
  case pos =>
    have t0 : decide (m.kd < 1) = true := decide_eq_true k0
    have hr : R = false := by rw [HR.out]; exact mo_kd0 k0
    subst hr
    clear HR k0 NF NT NU AE
    go_enter Tryz.func12, Tryz.ntmps12
    go_wp2
    go_ret
    exact ⟨rfl, B0.out⟩
  case neg =>
  have t0 : decide (m.kd < 1) = false := decide_eq_false k0
  by_cases k1 : m.kd > 6
  case pos =>
    have t1 : decide (m.kd > 6) = true := decide_eq_true k1
    have hr : R = false := by rw [HR.out]; exact mo_kd1 k1
    subst hr
    clear HR k0 k1 NF NT NU AE
    go_enter Tryz.func12, Tryz.ntmps12
    go_wp2
    go_ret
    exact ⟨rfl, B0.out⟩
  case neg =>
  have t1 : decide (m.kd > 6) = false := decide_eq_false k1
  have HK : Hid (1 ≤ m.kd ∧ m.kd ≤ 6) := ⟨by omega, by omega⟩
  clear k0 k1
  go_enter Tryz.func12, Tryz.ntmps12
  go_wp2_with fail
  refine (NF.out _).mono ?_
  rintro e w1 ⟨rfl, rfl⟩
  clear NF
  cases hf : ndOk m.fr
  case false =>
    have hr : R = false := by rw [HR.out]; exact mo_fr hf
    subst hr
    clear HR NT NU AE HK hf
    go_wp2
    go_ret
    exact ⟨rfl, B0.out⟩
  case true =>
  have HF := hid hf
  clear hf
  go_wp2_with fail
  refine (NT.out _).mono ?_
  rintro e w1 ⟨rfl, rfl⟩
  clear NT
  cases ht : ndOk m.to_
  case false =>
    have hr : R = false := by rw [HR.out]; exact mo_to ht
    subst hr
    clear HR NU AE HK ht HF
    go_wp2
    go_ret
    exact ⟨rfl, B0.out⟩
  case true =>
  have HT := hid ht
  clear ht
  by_cases k2 : m.fr = m.to_
  case pos =>
    have t2 : decide (m.fr = m.to_) = true := decide_eq_true k2
    have t2b : (m.fr == m.to_) = true := beq_iff_eq.2 k2
    have hr : R = false := by rw [HR.out]; exact mo_eq k2
    subst hr
    clear HR NU AE HK HT HF k2
    go_wp2
    go_ret
    exact ⟨rfl, B0.out⟩
  case neg =>
  have t2 : decide (m.fr = m.to_) = false := decide_eq_false k2
  have t2b : (m.fr == m.to_) = false := beq_eq_false_iff_ne.2 k2
  have HE := hid k2
  clear k2
  go_wp2_with fail
  refine (NU.out _).mono ?_
  rintro e w1 ⟨rfl, b1⟩
  have B1 := hid (below_on B0.out b1)
  have R1 := hid (R0.out.keep (b1.keep (fun _ => False)) (fun h => h))
  have IX : Hid (∀ (k : Nat), k < 9 → ∀ W, (Instr.index 70 (.agg (nmA m)) (.int .i64 (k : Int))).run Tryz.prog W = .ok (.int .i64 (m.nm.getD k 0)) W) := fun k h W => ix9 m k h W
  clear NU b1 B0 R0 y0 y1 y2 y3 y4 y5 y6 y7 y8 y9 y10 y11 t0 t1 t2 t2b
  generalize nmA m = A9 at *
  go_wp2
  go_loopw [32] (fun i wr => ∃ (k : Nat), k ≤ 9 ∧ i = .int .i64 (k : Int) ∧ wr = w1 ∧ Hid (∀ j, j < k → tmB (m.nm.getD j 0) = true)) (fun i _ => 9 - (intOf i).toNat)
  case atStart => exact ⟨0, by omega, rfl, rfl, fun j hj => by omega⟩
  case round =>
    obtain ⟨k, hk, rfl, rfl, HJ⟩ := hrel
    by_cases hlt : k < 9
    · have r0 : (0 : Int) ≤ (k : Int) := by omega
      have r1 : (k : Int) < 9 := by omega
      have ix := IX.out k hlt
      have HLT := hid hlt
      generalize hx : m.nm.getD k 0 = x at *
      have HX := hid hx
      clear hx IX AE
      by_cases k3 : x < 0
      case pos =>
        have t3 : decide (x < 0) = true := decide_eq_true k3
        have hr : R = false := by rw [HR.out]; exact mo_nm k HLT.out (by rw [HX.out]; exact tmB_neg k3)
        subst hr
        clear HR HK HT HF HE HJ HX k3 hlt hk
        go_wp2
        go_ret
        exact ⟨rfl, B1.out⟩
      case neg =>
      have t3 : decide (x < 0) = false := decide_eq_false k3
      by_cases k4 : x > 1099511627776
      case pos =>
        have t4 : decide (x > 1099511627776) = true := decide_eq_true k4
        have hr : R = false := by rw [HR.out]; exact mo_nm k HLT.out (by rw [HX.out]; exact tmB_big k4)
        subst hr
        clear HR HK HT HF HE HJ HX k3 k4 hlt hk
        go_wp2
        go_ret
        exact ⟨rfl, B1.out⟩
      case neg =>
      have t4 : decide (x > 1099511627776) = false := decide_eq_false k4
      have HJ2 : Hid (∀ j, j < k + 1 → tmB (m.nm.getD j 0) = true) := fun j hj => by
        by_cases e : j = k
        · subst e; rw [HX.out]; exact tmB_ok k3 k4
        · exact HJ.out j (by omega)
      clear HR HK HT HF HE HJ HX k3 k4 R1 B1
      go_wp2
      exact ⟨⟨k + 1, by omega, by go_num, by first | rfl | trivial, HJ2⟩, by simp [intOf]; omega⟩
    · have hk9 : k = 9 := by omega
      subst hk9
      clear IX hk hlt
      have y3 := R1.out.cellAt (o := 3) rfl
      have y5 := R1.out.cellAt (o := 5) rfl
      have y10 := R1.out.cellAt (o := 10) rfl
      have y11 := R1.out.cellAt (o := 11) rfl
      by_cases k5 : m.lt > m.tm
      case pos =>
        have t5 : decide (m.lt > m.tm) = true := decide_eq_true k5
        have hr : R = false := by rw [HR.out]; exact mo_lt k5
        subst hr
        clear HR HK HT HF HE HJ AE k5
        go_wp2
        go_ret
        exact ⟨rfl, B1.out⟩
      case neg =>
      have t5 : decide (m.lt > m.tm) = false := decide_eq_false k5
      by_cases k6 : (m.es.length : Int) > 16
      case pos =>
        have t6 : decide ((m.es.length : Int) > 16) = true := decide_eq_true k6
        have hr : R = false := by rw [HR.out]; exact mo_es k6
        subst hr
        clear HR HK HT HF HE HJ AE k5
        go_wp2
        go_ret
        exact ⟨rfl, B1.out⟩
      case neg =>
      have t6 : decide ((m.es.length : Int) > 16) = false := decide_eq_false k6
      by_cases k7 : (m.da.size : Int) > 4096
      case pos =>
        have t7 : decide ((m.da.size : Int) > 4096) = true := decide_eq_true k7
        have hr : R = false := by rw [HR.out]; exact mo_da k7
        subst hr
        clear HR HK HT HF HE HJ AE k5 k6
        go_wp2
        go_ret
        exact ⟨rfl, B1.out⟩
      case neg =>
      have t7 : decide ((m.da.size : Int) > 4096) = false := decide_eq_false k7
      have hr : R = mesOk m.lt m.tm m.es := by rw [HR.out]; exact mo_ok HK.out.1 HK.out.2 HF.out HT.out HE.out HJ.out (by omega) (by omega) (by omega)
      have AE2 := hid (AE.out _ B1.out)
      rw [← hr] at AE2
      clear HR HK HT HF HE HJ AE k5 k6 k7 hr
      go_wp2_with fail
      refine AE2.out.mono ?_
      rintro e w2 ⟨rfl, b2⟩
      have B2 := hid (below_on B1.out b2)
      clear AE2 b2 B1 R1 y3 y5 y10 y11
      go_wp2
      go_ret
      exact ⟨rfl, B2.out⟩
end Go.Proofs.YtlkidnfgodficaaGreat
namespace Go.Proofs.YtlkidnfgodficaaGreat
open Go.RowKit Go.Maps
set_option linter.unusedVariables false
set_option linter.unusedSimpArgs false

set_option maxRecDepth 100000 in
theorem mnumber_any (n : Int) (w : World) (h0 : 0 ≤ n) (h1 : n ≤ 9223372036854775807) : Calls Tryz.prog 32 #[.int .i64 n] w fun e w' => e = .returned (.string ⟨(put n.toNat).toArray⟩) ∧ Below w.heap.size w w' := by
  obtain ⟨k, rfl⟩ : ∃ k : Nat, n = (k : Int) := ⟨n.toNat, by omega⟩
  rw [Int.toNat_natCast]
  have C := hid (number_any k w (by omega))
  have hw : IntKind.u64.wrap (k : Int) = (k : Int) := by rw [IntKind.wrap_u64]; omega
  clear h0 h1
  go_enter Tryz.func32, Tryz.ntmps32
  go_wp2_with fail
  refine C.out.mono ?_
  rintro e w1 ⟨rfl, h1⟩
  have H1 := hid h1
  clear h1 C
  go_wp2
  go_ret
  exact ⟨rfl, H1.out⟩
set_option maxRecDepth 100000 in
theorem mflag_any (b : Bool) (w : World) : Calls Tryz.prog 33 #[.bool b] w fun e w' => e = .returned (.string ⟨(ysB b).toArray⟩) ∧ Below w.heap.size w w' := by
  cases b
  · have C : Hid (Calls Tryz.prog 32 #[.int .i64 0] w fun e w' => e = .returned (.string ⟨(ysB false).toArray⟩) ∧ Below w.heap.size w w') := mnumber_any 0 w (by omega) (by omega)
    generalize ysB false = Y at *
    go_enter Tryz.func33, Tryz.ntmps33
    go_wp2_with fail
    refine C.out.mono ?_
    rintro e w1 ⟨rfl, h1⟩
    have H1 := hid h1
    clear h1 C
    go_wp2
    go_ret
    exact ⟨rfl, H1.out⟩
  · have C : Hid (Calls Tryz.prog 32 #[.int .i64 1] w fun e w' => e = .returned (.string ⟨(ysB true).toArray⟩) ∧ Below w.heap.size w w') := mnumber_any 1 w (by omega) (by omega)
    generalize ysB true = Y at *
    go_enter Tryz.func33, Tryz.ntmps33
    go_wp2_with fail
    refine C.out.mono ?_
    rintro e w1 ⟨rfl, h1⟩
    have H1 := hid h1
    clear h1 C
    go_wp2
    go_ret
    exact ⟨rfl, H1.out⟩
theorem ysB_len (b : Bool) : (ysB b).length ≤ 10 := (put_len _).2
theorem mesB_take (l : List En) (k : Nat) (hk : k < l.length) : mesB (l.take (k + 1)) = mesB (l.take k) ++ meB l[k] := by
  unfold mesB; rw [List.take_succ_eq_append_getElem hk, List.flatMap_append, List.flatMap_cons, List.flatMap_nil, List.append_nil]
theorem meB_len (x : En) : (meB x).length ≤ 30 + x.da.size := by
  have h1 := (put_len x.tm.toNat).2
  have h2 := (put_len x.kd.toNat).2
  have h3 := (put_len x.da.size).2
  unfold meB
  rw [List.length_append, List.length_append, ptx_len]
  omega
theorem mesB_len (l : List En) (h : ∀ x ∈ l, x.da.size ≤ 65536) : (mesB l).length ≤ 65566 * l.length := by
  induction l with
  | nil => simp [mesB]
  | cons x r ih =>
    have h1 := ih (fun y hy => h y (List.mem_cons_of_mem _ hy))
    have h2 := meB_len x
    have h3 := h x (by simp)
    have : (mesB (x :: r)).length = (meB x).length + (mesB r).length := by simp [mesB]
    rw [this, List.length_cons]
    omega
theorem msB_nm (m : Ms) (k : Nat) (hk : k < 9) : msB (m.nm.take (k + 1)) = msB (m.nm.take k) ++ put (m.nm.getD k 0).toNat := by
  rw [msB_take m.nm k hk, List.getD_eq_getElem?_getD, List.getElem?_eq_getElem hk]
  rfl
set_option maxRecDepth 100000 in
set_option maxHeartbeats 1000000 in
theorem mencode_bad (v : Value) (m : Ms) (w : World) (hv : EntI w v m.es) (hl : m.es.length ≤ 17592186044416) (hc : msOk m = false) : Calls Tryz.prog 6 #[msV v m] w fun e w' => e = .returned (.tuple #[.string ⟨#[]⟩, .int .i64 1]) ∧ Below w.heap.size w w' := by
  obtain ⟨ad, cap, rfl, -⟩ := hv.form
  have CK : Hid (∀ W, Below w.heap.size w W → Calls Tryz.prog 12 #[msV (.slice ad m.es.length cap) m] W fun e w' => e = .returned (.bool false) ∧ Below W.heap.size W w') := fun W b => by rw [← hc]; exact mcheck_any _ m W (hv.next b) hl
  have R0 : Hid (RowIs (w.alloc (.cells #[.int .i64 m.kd, .int .i64 m.fr, .int .i64 m.to_, .int .i64 m.tm, .int .i64 m.ix, .int .i64 m.lt, .int .i64 m.cm, .int .i64 m.rd, .int .i64 m.at_, .bool m.ys, .slice ad m.es.length cap, .string m.da] 24)) w.heap.size [.int .i64 m.kd, .int .i64 m.fr, .int .i64 m.to_, .int .i64 m.tm, .int .i64 m.ix, .int .i64 m.lt, .int .i64 m.cm, .int .i64 m.rd, .int .i64 m.at_, .bool m.ys, .slice ad m.es.length cap, .string m.da] 24) := srow w _ _
  have B0 : Hid (Below w.heap.size w (w.alloc (.cells #[.int .i64 m.kd, .int .i64 m.fr, .int .i64 m.to_, .int .i64 m.tm, .int .i64 m.ix, .int .i64 m.lt, .int .i64 m.cm, .int .i64 m.rd, .int .i64 m.at_, .bool m.ys, .slice ad m.es.length cap, .string m.da] 24))) := below_al (Below.refl _ _) _
  have y0 := R0.out.cellAt (o := 0) rfl
  have y1 := R0.out.cellAt (o := 1) rfl
  have y2 := R0.out.cellAt (o := 2) rfl
  have y3 := R0.out.cellAt (o := 3) rfl
  have y4 := R0.out.cellAt (o := 4) rfl
  have y5 := R0.out.cellAt (o := 5) rfl
  have y6 := R0.out.cellAt (o := 6) rfl
  have y7 := R0.out.cellAt (o := 7) rfl
  have y8 := R0.out.cellAt (o := 8) rfl
  have y9 := R0.out.cellAt (o := 9) rfl
  have y10 := R0.out.cellAt (o := 10) rfl
  have y11 := R0.out.cellAt (o := 11) rfl
  unfold msV at *
  clear hv hl hc
  go_enter Tryz.func6, Tryz.ntmps6
  go_wp2_with fail
  refine (CK.out _ B0.out).mono ?_
  rintro e w1 ⟨rfl, b1⟩
  have B1 := hid (below_on B0.out b1)
  clear CK b1 B0 R0 y0 y1 y2 y3 y4 y5 y6 y7 y8 y9 y10 y11
  go_wp2
  go_ret2
  exact ⟨rfl, B1.out⟩
set_option maxRecDepth 100000 in
set_option maxHeartbeats 4000000 in
theorem mencode_ok (v : Value) (m : Ms) (w : World) (hv : EntI w v m.es) (hc : msOk m = true) : Calls Tryz.prog 6 #[msV v m] w fun e w' => e = .returned (.tuple #[.string ⟨(mgB m).toArray⟩, .int .i64 0]) ∧ Below w.heap.size w w' := by
  have hn := msOk_in hc
  have hes := hn.es
  have hda := hn.da
  obtain ⟨ad, cap, rfl, hcl⟩ := hv.form
  have CK : Hid (∀ W, Below w.heap.size w W → Calls Tryz.prog 12 #[msV (.slice ad m.es.length cap) m] W fun e w' => e = .returned (.bool true) ∧ Below W.heap.size W w') := fun W b => by rw [← hc]; exact mcheck_any _ m W (hv.next b) (by omega)
  have NU := hid (fun W => rnumbers_any ad m.es.length cap m W)
  have NN : Hid (∀ (k : Nat) W, k < 9 → Calls Tryz.prog 32 #[.int .i64 (m.nm.getD k 0)] W fun e w' => e = .returned (.string ⟨(put (m.nm.getD k 0).toNat).toArray⟩) ∧ Below W.heap.size W w') := fun k W hk => by
    have := hn.nm _ (nm_at m k hk)
    exact mnumber_any _ W this.1 (by omega)
  have FG := hid (fun W => mflag_any m.ys W)
  have NL : Hid (∀ W, Calls Tryz.prog 32 #[.int .i64 (m.es.length : Int)] W fun e w' => e = .returned (.string ⟨(put m.es.length).toArray⟩) ∧ Below W.heap.size W w') := fun W => by have := mnumber_any (m.es.length : Int) W (by omega) (by omega); rwa [Int.toNat_natCast] at this
  have TX := hid (fun W => text_any m.da W (Nat.le_trans hda (by decide)))
  have EN : Hid (∀ k (hk : k < m.es.length), (∀ W, Calls Tryz.prog 32 #[.int .i64 (m.es[k]).tm] W fun e w' => e = .returned (.string ⟨(put (m.es[k]).tm.toNat).toArray⟩) ∧ Below W.heap.size W w') ∧ (∀ W, Calls Tryz.prog 32 #[.int .i64 (m.es[k]).kd] W fun e w' => e = .returned (.string ⟨(put (m.es[k]).kd.toNat).toArray⟩) ∧ Below W.heap.size W w') ∧ (∀ W, Calls Tryz.prog 34 #[.string (m.es[k]).da] W fun e w' => e = .returned (.string ⟨(ptx (m.es[k]).da).toArray⟩) ∧ Below W.heap.size W w') ∧ (m.es[k]).da.size ≤ 65536) := fun k hk => by
    have h := hn.en _ (List.getElem_mem hk)
    have h1 := h.t0
    have h2 := h.t1
    have h3 := h.k0
    have h4 := h.k1
    exact ⟨fun W => mnumber_any _ W h1 (by omega), fun W => mnumber_any _ W h3 (by omega), fun W => text_any _ W (Nat.le_trans h.z (by decide)), h.z⟩
  have HML : Hid (∀ k, (mesB (m.es.take k)).length ≤ 1049056) := fun k => by
    have h1 := mesB_len (m.es.take k) (fun x hx => (hn.en x (List.mem_of_mem_take hx)).z)
    have h2 : (m.es.take k).length ≤ 16 := Nat.le_trans (List.length_take_le' k m.es) hes
    show _ ≤ _
    omega
  have HMT : Hid (∀ k (hk : k < m.es.length), mesB (m.es.take (k + 1)) = mesB (m.es.take k) ++ meB m.es[k]) := fun k hk => mesB_take m.es k hk
  have HNT : Hid (∀ k, k < 9 → msB (m.nm.take (k + 1)) = msB (m.nm.take k) ++ put (m.nm.getD k 0).toNat) := fun k hk => msB_nm m k hk
  have HNL : Hid (∀ k, (msB (m.nm.take k)).length ≤ 90) := fun k => by
    have h1 := msB_len (m.nm.take k)
    have h2 : (m.nm.take k).length ≤ 9 := Nat.le_trans (List.length_take_le' k m.nm) (by rw [nm_len]; omega)
    show _ ≤ _
    omega
  have HMG : Hid (mgB m = (msB m.nm ++ (ysB m.ys ++ put m.es.length)) ++ mesB m.es ++ ptx m.da) := by show _ = _; unfold mgB; simp only [List.append_assoc]
  have HDL : Hid ((ptx m.da).length ≤ 4110) := by have := (put_len m.da.size).2; show _ ≤ _; rw [ptx_len]; omega
  have HC := hid hcl
  have R0 : Hid (RowIs (w.alloc (.cells #[.int .i64 m.kd, .int .i64 m.fr, .int .i64 m.to_, .int .i64 m.tm, .int .i64 m.ix, .int .i64 m.lt, .int .i64 m.cm, .int .i64 m.rd, .int .i64 m.at_, .bool m.ys, .slice ad m.es.length cap, .string m.da] 24)) w.heap.size [.int .i64 m.kd, .int .i64 m.fr, .int .i64 m.to_, .int .i64 m.tm, .int .i64 m.ix, .int .i64 m.lt, .int .i64 m.cm, .int .i64 m.rd, .int .i64 m.at_, .bool m.ys, .slice ad m.es.length cap, .string m.da] 24) := srow w _ _
  have B0 : Hid (Below w.heap.size w (w.alloc (.cells #[.int .i64 m.kd, .int .i64 m.fr, .int .i64 m.to_, .int .i64 m.tm, .int .i64 m.ix, .int .i64 m.lt, .int .i64 m.cm, .int .i64 m.rd, .int .i64 m.at_, .bool m.ys, .slice ad m.es.length cap, .string m.da] 24))) := below_al (Below.refl _ _) _
  have y0 := R0.out.cellAt (o := 0) rfl
  have y1 := R0.out.cellAt (o := 1) rfl
  have y2 := R0.out.cellAt (o := 2) rfl
  have y3 := R0.out.cellAt (o := 3) rfl
  have y4 := R0.out.cellAt (o := 4) rfl
  have y5 := R0.out.cellAt (o := 5) rfl
  have y6 := R0.out.cellAt (o := 6) rfl
  have y7 := R0.out.cellAt (o := 7) rfl
  have y8 := R0.out.cellAt (o := 8) rfl
  have y9 := R0.out.cellAt (o := 9) rfl
  have y10 := R0.out.cellAt (o := 10) rfl
  have y11 := R0.out.cellAt (o := 11) rfl
  have HES := hid hes
  unfold msV at *
  clear hv hc hn hes hda hcl
  generalize mgB m = G at *
  go_enter Tryz.func6, Tryz.ntmps6
  go_wp2_with fail
  refine (CK.out _ B0.out).mono ?_
  rintro e w1 ⟨rfl, b1⟩
  have B1 := hid (below_on B0.out b1)
  have R1 := hid (R0.out.keep (b1.keep (fun _ => False)) (fun h => h))
  clear CK b1 B0 R0 y0 y1 y2 y3 y4 y5 y6 y7 y8 y9 y10 y11
  have y0 := R1.out.cellAt (o := 0) rfl
  have y1 := R1.out.cellAt (o := 1) rfl
  have y2 := R1.out.cellAt (o := 2) rfl
  have y3 := R1.out.cellAt (o := 3) rfl
  have y4 := R1.out.cellAt (o := 4) rfl
  have y5 := R1.out.cellAt (o := 5) rfl
  have y6 := R1.out.cellAt (o := 6) rfl
  have y7 := R1.out.cellAt (o := 7) rfl
  have y8 := R1.out.cellAt (o := 8) rfl
  have y9 := R1.out.cellAt (o := 9) rfl
  have y10 := R1.out.cellAt (o := 10) rfl
  have y11 := R1.out.cellAt (o := 11) rfl
  go_wp2_with fail
  refine (NU.out _).mono ?_
  rintro e w2 ⟨rfl, b2⟩
  have B2 := hid (below_on B1.out b2)
  have R2 := hid (R1.out.keep (b2.keep (fun _ => False)) (fun h => h))
  have IX : Hid (∀ (k : Nat), k < 9 → ∀ W, (Instr.index 70 (.agg (nmA m)) (.int .i64 (k : Int))).run Tryz.prog W = .ok (.int .i64 (m.nm.getD k 0)) W) := fun k h W => ix9 m k h W
  clear NU b2 B1 R1 y0 y1 y2 y3 y4 y5 y6 y7 y8 y9 y10 y11
  generalize nmA m = A9 at *
  go_wp2
  go_loopw [4, 14] (fun t i wr => ∃ (k : Nat) (A : List UInt8), k ≤ 9 ∧ t = .string ⟨A.toArray⟩ ∧ i = .int .i64 (k : Int) ∧ Hid (A = msB (m.nm.take k)) ∧ Hid (RowIs wr w.heap.size [.int .i64 m.kd, .int .i64 m.fr, .int .i64 m.to_, .int .i64 m.tm, .int .i64 m.ix, .int .i64 m.lt, .int .i64 m.cm, .int .i64 m.rd, .int .i64 m.at_, .bool m.ys, .slice ad m.es.length cap, .string m.da] 24) ∧ Hid (Below w.heap.size w wr)) (fun _ i _ => 9 - (intOf i).toNat)
  case atStart => exact ⟨0, [], by omega, rfl, rfl, rfl, R2, B2⟩
  case round =>
    clear R2 B2
    obtain ⟨k, A, hk, rfl, rfl, HA, HR, HB⟩ := hrel
    by_cases hlt : k < 9
    · have r0 : (0 : Int) ≤ (k : Int) := by omega
      have r1 : (k : Int) < 9 := by omega
      have ix := IX.out k hlt
      have N1 := hid (fun W => NN.out k W hlt)
      have HA2 : Hid (A ++ put (m.nm.getD k 0).toNat = msB (m.nm.take (k + 1))) := by show _ = _; rw [HNT.out k hlt, HA.out]
      have hal : A.length ≤ 90 := by rw [HA.out]; exact HNL.out k
      have hpl := (put_len (m.nm.getD k 0).toNat).2
      generalize m.nm.getD k 0 = x at *
      have AM := fun W => add_ls A (put x.toNat) W (by omega)
      clear NN NL FG TX EN HML HMT HNT HNL HMG HDL HC HES IX hal hpl HA hk
      go_wp2_with fail
      refine (N1.out _).mono ?_
      rintro e w3 ⟨rfl, b3⟩
      have B3 := hid (below_on HB.out b3)
      have R3 := hid (HR.out.keep (b3.keep (fun _ => False)) (fun h => h))
      clear N1 b3 HB HR
      go_wp2
      exact ⟨⟨k + 1, _, by omega, rfl, by go_num, HA2, R3, B3⟩, by simp [intOf]; omega⟩
    · have hk9 : k = 9 := by omega
      subst hk9
      rw [show m.nm.take 9 = m.nm from List.take_of_length_le (by rw [nm_len]; omega)] at HA
      have hal : A.length ≤ 90 := by rw [HA.out]; have := HNL.out 9; rwa [show m.nm.take 9 = m.nm from List.take_of_length_le (by rw [nm_len]; omega)] at this
      have hyl := ysB_len m.ys
      have hll := (put_len m.es.length).2
      have A1 := fun W => add_ls (ysB m.ys) (put m.es.length) W (by omega)
      have A2 := fun W => add_ls A (ysB m.ys ++ put m.es.length) W (by rw [List.length_append]; omega)
      have HY : Hid ((A ++ (ysB m.ys ++ put m.es.length)).length ≤ 110) := by show _ ≤ _; rw [List.length_append, List.length_append]; omega
      have HMG2 : Hid (G = (A ++ (ysB m.ys ++ put m.es.length)) ++ mesB m.es ++ ptx m.da) := by show _ = _; rw [HMG.out, HA.out]
      clear IX NN HNT HNL HMG HA hal hyl hll hk hlt
      have y9 := HR.out.cellAt (o := 9) rfl
      have y10 := HR.out.cellAt (o := 10) rfl
      have CS : Hid (∀ W, RowIs W w.heap.size [.int .i64 m.kd, .int .i64 m.fr, .int .i64 m.to_, .int .i64 m.tm, .int .i64 m.ix, .int .i64 m.lt, .int .i64 m.cm, .int .i64 m.rd, .int .i64 m.at_, .bool m.ys, .slice ad m.es.length cap, .string m.da] 24 → W.cell? ⟨w.heap.size, 9, none⟩ = some (.bool m.ys) ∧ W.cell? ⟨w.heap.size, 10, none⟩ = some (.slice ad m.es.length cap)) := fun W h => ⟨h.cellAt rfl, h.cellAt rfl⟩
      go_wp2
      have B3 := hid HB.out.drew
      have R3 : Hid (RowIs wr.drew w.heap.size [.int .i64 m.kd, .int .i64 m.fr, .int .i64 m.to_, .int .i64 m.tm, .int .i64 m.ix, .int .i64 m.lt, .int .i64 m.cm, .int .i64 m.rd, .int .i64 m.at_, .bool m.ys, .slice ad m.es.length cap, .string m.da] 24) := HR.out
      clear HB HR
      refine wp_region_held_drew (S := fun W => W.cell? ⟨w.heap.size, 9, none⟩ = some (.bool m.ys) ∧ W.cell? ⟨w.heap.size, 10, none⟩ = some (.slice ad m.es.length cap)) (by kernel_rfl) ⟨y9, y10⟩ (fun hHeld => ?_)
      generalize wr.drew = V at *
      refine wpAnyH_take (i := 0) (v := ?vv1) rfl (by kernel_rfl) (by kernel_rfl) (by kernel_rfl) (fun _ _ _ h => h) (Or.inl ⟨by rfl, ?hy1⟩) (by assumption) ?rest1
      case hy1 => (intro w hSw; (try dsimp only at hSw); go_simp; first | done | with_reducible rfl)
      try simp only [Act.put, List.getElem_toArray, List.getElem_cons_succ, List.getElem_cons_zero, List.setIfInBounds_toArray, List.set_cons_zero, List.set_cons_succ]
      refine wpAnyH_take (i := 1) (v := ?vv2) rfl (by kernel_rfl) (by kernel_rfl) (by kernel_rfl) (fun _ _ _ h => h) (Or.inl ⟨by rfl, ?hy2⟩) (by assumption) ?rest2
      case hy2 => (intro w hSw; (try dsimp only at hSw); go_simp; first | done | with_reducible rfl)
      try simp only [Act.put, List.getElem_toArray, List.getElem_cons_succ, List.getElem_cons_zero, List.setIfInBounds_toArray, List.set_cons_zero, List.set_cons_succ]
      refine wpAnyH_take (i := 2) (v := ?vv3) rfl (by kernel_rfl) (by kernel_rfl) (by kernel_rfl) (fun _ _ _ h => h) (Or.inl ⟨by rfl, ?hy3⟩) (by assumption) ?rest3
      case hy3 => (intro w hSw; (try dsimp only at hSw); go_simp; first | done | with_reducible rfl)
      try simp only [Act.put, List.getElem_toArray, List.getElem_cons_succ, List.getElem_cons_zero, List.setIfInBounds_toArray, List.set_cons_zero, List.set_cons_succ]
      refine wpAnyH_take (i := 4) (v := ?vv4) rfl (by kernel_rfl) (by kernel_rfl) (by kernel_rfl) (fun _ _ _ h => h) (Or.inl ⟨by rfl, ?hy4⟩) (by assumption) ?rest4
      case hy4 => (intro w hSw; (try dsimp only at hSw); go_simp; first | done | with_reducible rfl)
      try simp only [Act.put, List.getElem_toArray, List.getElem_cons_succ, List.getElem_cons_zero, List.setIfInBounds_toArray, List.set_cons_zero, List.set_cons_succ]
      refine wpAnyH_take (i := 5) (v := ?vv5) rfl (by kernel_rfl) (by kernel_rfl) (by kernel_rfl) (fun _ _ _ h => h) (Or.inl ⟨by rfl, ?hy5⟩) (by assumption) ?rest5
      case hy5 => (intro w hSw; (try dsimp only at hSw); go_simp; first | done | with_reducible rfl)
      try simp only [Act.put, List.getElem_toArray, List.getElem_cons_succ, List.getElem_cons_zero, List.setIfInBounds_toArray, List.set_cons_zero, List.set_cons_succ]
      refine wpAnyH_take (i := 6) (v := ?vv6) rfl (by kernel_rfl) (by kernel_rfl) (by kernel_rfl) (fun _ _ _ h => h) (Or.inl ⟨by rfl, ?hy6⟩) (by assumption) ?rest6
      case hy6 => (intro w hSw; (try dsimp only at hSw); go_simp; first | done | with_reducible rfl)
      try simp only [Act.put, List.getElem_toArray, List.getElem_cons_succ, List.getElem_cons_zero, List.setIfInBounds_toArray, List.set_cons_zero, List.set_cons_succ]
      refine wpAnyH_ready (rs := [3]) (by kernel_rfl) (by simp) ?_
      refine AllReadyH.cons rfl (fun K hK => ?_) AllReadyH.nil
      go_simp
      refine (FG.out _).mono ?_
      rintro e w4 ⟨rfl, b4⟩
      have B4 := hid (below_on B3.out b4)
      have R4 := hid (R3.out.keep (b4.keep (fun _ => False)) (fun h => h))
      clear b4 FG B3 R3 hHeld y9 y10
      go_wp2_with fail
      refine hK.out _ _ (CS.out _ R4.out) (fun hHeld => ?_)
      clear hK K
      try simp only [Act.put, List.getElem_toArray, List.getElem_cons_succ, List.getElem_cons_zero, List.setIfInBounds_toArray, List.set_cons_zero, List.set_cons_succ]
      refine wpAnyH_ready (rs := [7]) (by kernel_rfl) (by simp) ?_
      refine AllReadyH.cons rfl (fun K hK => ?_) AllReadyH.nil
      go_simp
      refine (NL.out _).mono ?_
      rintro e w5 ⟨rfl, b5⟩
      have B5 := hid (below_on B4.out b5)
      have R5 := hid (R4.out.keep (b5.keep (fun _ => False)) (fun h => h))
      clear b5 NL B4 R4 hHeld
      go_wp2_with fail
      refine hK.out _ _ (CS.out _ R5.out) (fun hHeld => ?_)
      clear hK K
      try simp only [Act.put, List.getElem_toArray, List.getElem_cons_succ, List.getElem_cons_zero, List.setIfInBounds_toArray, List.set_cons_zero, List.set_cons_succ]
      refine wpAnyH_take (i := 8) (v := ?vv7) rfl (by kernel_rfl) (by kernel_rfl) (by kernel_rfl) (fun _ _ _ h => h) (Or.inl ⟨by rfl, ?hy7⟩) (by assumption) ?rest7
      case hy7 => (intro w hSw; (try dsimp only at hSw); go_simp; first | done | with_reducible rfl)
      try simp only [Act.put, List.getElem_toArray, List.getElem_cons_succ, List.getElem_cons_zero, List.setIfInBounds_toArray, List.set_cons_zero, List.set_cons_succ]
      refine wpAnyH_take (i := 9) (v := ?vv8) rfl (by kernel_rfl) (by kernel_rfl) (by kernel_rfl) (fun _ _ _ h => h) (Or.inl ⟨by rfl, ?hy8⟩) (by assumption) ?rest8
      case hy8 => (intro w hSw; (try dsimp only at hSw); go_simp; first | done | with_reducible rfl)
      try simp only [Act.put, List.getElem_toArray, List.getElem_cons_succ, List.getElem_cons_zero, List.setIfInBounds_toArray, List.set_cons_zero, List.set_cons_succ]
      refine wpAnyH_take (i := 10) (v := ?vv9) rfl (by kernel_rfl) (by kernel_rfl) (by kernel_rfl) (fun _ _ _ h => h) (Or.inl ⟨by rfl, ?hy9⟩) (by assumption) ?rest9
      case hy9 => (intro w hSw; (try dsimp only at hSw); go_simp; first | done | with_reducible rfl)
      try simp only [Act.put, List.getElem_toArray, List.getElem_cons_succ, List.getElem_cons_zero, List.setIfInBounds_toArray, List.set_cons_zero, List.set_cons_succ]
      refine wpAnyH_done (by kernel_rfl) ?_ _
      clear hHeld CS A1 A2
      have y9 := R5.out.cellAt (o := 9) rfl
      have y10 := R5.out.cellAt (o := 10) rfl
      generalize A ++ (ysB m.ys ++ put m.es.length) = A0 at *
      go_wp2
      go_loopw [4, 35] (fun t i wr => ∃ (k : Nat) (A : List UInt8), k ≤ m.es.length ∧ t = .string ⟨A.toArray⟩ ∧ i = .int .i64 (k : Int) ∧ Hid (A = A0 ++ mesB (m.es.take k)) ∧ Hid (RowIs wr w.heap.size [.int .i64 m.kd, .int .i64 m.fr, .int .i64 m.to_, .int .i64 m.tm, .int .i64 m.ix, .int .i64 m.lt, .int .i64 m.cm, .int .i64 m.rd, .int .i64 m.at_, .bool m.ys, .slice ad m.es.length cap, .string m.da] 24) ∧ Hid (Below w.heap.size w wr)) (fun _ i _ => m.es.length - (intOf i).toNat)
      case atStart => exact ⟨0, A0, by omega, rfl, rfl, by show _ = _; simp [mesB], R5, B5⟩
      case round =>
        clear R5 B5 y9 y10
        obtain ⟨k, A, hk, rfl, rfl, HA, HR, HB⟩ := hrel
        by_cases hlt : k < m.es.length
        · have hk1 : (k : Int) < (m.es.length : Int) := by omega
          have hk0 : (0 : Int) ≤ (k : Int) := by omega
          have hwk : wrap64 ((k : Int) + 1) = ((k + 1 : Nat) : Int) := by have := HES.out; rw [IntWalk.wrap64_in _ (by omega)]; omega
          obtain ⟨b, off, hadr, hb, c0, c1, c2⟩ := HC.out k hlt
          have d0 := (HB.out.cell (p := ⟨b, off + k * 3, none⟩) hb).trans c0
          have d1 := (HB.out.cell (p := ⟨b, off + k * 3 + 1, none⟩) hb).trans c1
          have d2 := (HB.out.cell (p := ⟨b, off + k * 3 + 2, none⟩) hb).trans c2
          obtain ⟨E1, E2, E3, ez⟩ := EN.out k hlt
          have HE1 := hid E1
          have HE2 := hid E2
          have HE3 := hid E3
          have hal : A.length ≤ 1049166 := by have h1 := HML.out k; have h2 := HY.out; rw [HA.out, List.length_append]; omega
          have HA2 : Hid (A ++ meB m.es[k] = A0 ++ mesB (m.es.take (k + 1))) := by show _ = _; rw [HMT.out k hlt, HA.out, List.append_assoc]
          have HLT := hid hlt
          clear c0 c1 c2 hb E1 E2 E3 EN HML HMT HMG2 HY HA HC TX HDL hk
          generalize hx : m.es[k] = x at *
          obtain ⟨tm, kd, da⟩ := x
          simp only at *
          have hl1 := (put_len tm.toNat).2
          have hl2 := (put_len kd.toNat).2
          have hl3 : (ptx da).length ≤ 65546 := by have := (put_len da.size).2; rw [ptx_len]; omega
          have A1 := fun W => add_ls (put tm.toNat) (put kd.toNat) W (by omega)
          have A2 := fun W => add_ls (put tm.toNat ++ put kd.toNat) (ptx da) W (by rw [List.length_append]; omega)
          have A3 := fun W => add_ls A (put tm.toNat ++ put kd.toNat ++ ptx da) W (by rw [List.length_append, List.length_append]; omega)
          generalize hXR : (⟨(A ++ (put tm.toNat ++ put kd.toNat ++ ptx da)).toArray⟩ : ByteArray) = XR at *
          generalize hX123 : (⟨(put tm.toNat ++ put kd.toNat ++ ptx da).toArray⟩ : ByteArray) = X123 at *
          generalize hX12 : (⟨(put tm.toNat ++ put kd.toNat).toArray⟩ : ByteArray) = X12 at *
          generalize hX1 : (⟨(put tm.toNat).toArray⟩ : ByteArray) = X1 at *
          generalize hX2 : (⟨(put kd.toNat).toArray⟩ : ByteArray) = X2 at *
          generalize hX3 : (⟨(ptx da).toArray⟩ : ByteArray) = X3 at *
          have HXR := hid hXR
          clear hXR hX123 hX12 hX1 hX2 hX3
          have HA3 : Hid (A ++ (put tm.toNat ++ put kd.toNat ++ ptx da) = A0 ++ mesB (m.es.take (k + 1))) := by have := HA2.out; unfold meB at this; simp only at this; show _ = _; rw [← this, List.append_assoc]
          have HB6 : Hid (Below w.heap.size w (wr.alloc (.cells #[.int .i64 tm, .int .i64 kd, .string da] 51))) := below_al HB.out _
          have HR6 := hid (row_old HR.out (.cells #[.int .i64 tm, .int .i64 kd, .string da] 51))
          have HQ6 : Hid (RowIs (wr.alloc (.cells #[.int .i64 tm, .int .i64 kd, .string da] 51)) wr.heap.size [.int .i64 tm, .int .i64 kd, .string da] 51) := srow wr _ _
          have z0 := HQ6.out.cellAt (o := 0) rfl
          have z1 := HQ6.out.cellAt (o := 1) rfl
          have z2 := HQ6.out.cellAt (o := 2) rfl
          have CE : Hid (∀ W, RowIs W wr.heap.size [.int .i64 tm, .int .i64 kd, .string da] 51 → W.cell? ⟨wr.heap.size, 0, none⟩ = some (.int .i64 tm) ∧ W.cell? ⟨wr.heap.size, 1, none⟩ = some (.int .i64 kd) ∧ W.cell? ⟨wr.heap.size, 2, none⟩ = some (.string da)) := fun W h => ⟨h.cellAt rfl, h.cellAt rfl, h.cellAt rfl⟩
          subst hadr
          clear HB HR HA2 hal hl1 hl2 hl3 ez hx hlt
          go_wp2
          have B6 := hid HB6.out.drew
          have R6 : Hid (RowIs (wr.alloc (.cells #[.int .i64 tm, .int .i64 kd, .string da] 51)).drew w.heap.size [.int .i64 m.kd, .int .i64 m.fr, .int .i64 m.to_, .int .i64 m.tm, .int .i64 m.ix, .int .i64 m.lt, .int .i64 m.cm, .int .i64 m.rd, .int .i64 m.at_, .bool m.ys, .slice (some ⟨b, off, none⟩) m.es.length cap, .string m.da] 24) := HR6.out
          have Q6 : Hid (RowIs (wr.alloc (.cells #[.int .i64 tm, .int .i64 kd, .string da] 51)).drew wr.heap.size [.int .i64 tm, .int .i64 kd, .string da] 51) := HQ6.out
          clear HB6 HR6 HQ6
          refine wp_region_held_drew (S := fun W => W.cell? ⟨wr.heap.size, 0, none⟩ = some (.int .i64 tm) ∧ W.cell? ⟨wr.heap.size, 1, none⟩ = some (.int .i64 kd) ∧ W.cell? ⟨wr.heap.size, 2, none⟩ = some (.string da)) (by kernel_rfl) ⟨z0, z1, z2⟩ (fun hHeld => ?_)
          generalize (wr.alloc (.cells #[.int .i64 tm, .int .i64 kd, .string da] 51)).drew = V at *
          refine wpAnyH_take (i := 0) (v := ?vv10) rfl (by kernel_rfl) (by kernel_rfl) (by kernel_rfl) (fun _ _ _ h => h) (Or.inl ⟨by rfl, ?hy10⟩) (by assumption) ?rest10
          case hy10 => (intro w hSw; (try dsimp only at hSw); go_simp; first | done | with_reducible rfl)
          try simp only [Act.put, List.getElem_toArray, List.getElem_cons_succ, List.getElem_cons_zero, List.setIfInBounds_toArray, List.set_cons_zero, List.set_cons_succ]
          refine wpAnyH_take (i := 1) (v := ?vv11) rfl (by kernel_rfl) (by kernel_rfl) (by kernel_rfl) (fun _ _ _ h => h) (Or.inl ⟨by rfl, ?hy11⟩) (by assumption) ?rest11
          case hy11 => (intro w hSw; (try dsimp only at hSw); go_simp; first | done | with_reducible rfl)
          try simp only [Act.put, List.getElem_toArray, List.getElem_cons_succ, List.getElem_cons_zero, List.setIfInBounds_toArray, List.set_cons_zero, List.set_cons_succ]
          refine wpAnyH_take (i := 2) (v := ?vv12) rfl (by kernel_rfl) (by kernel_rfl) (by kernel_rfl) (fun _ _ _ h => h) (Or.inl ⟨by rfl, ?hy12⟩) (by assumption) ?rest12
          case hy12 => (intro w hSw; (try dsimp only at hSw); go_simp; first | done | with_reducible rfl)
          try simp only [Act.put, List.getElem_toArray, List.getElem_cons_succ, List.getElem_cons_zero, List.setIfInBounds_toArray, List.set_cons_zero, List.set_cons_succ]
          refine wpAnyH_take (i := 4) (v := ?vv13) rfl (by kernel_rfl) (by kernel_rfl) (by kernel_rfl) (fun _ _ _ h => h) (Or.inl ⟨by rfl, ?hy13⟩) (by assumption) ?rest13
          case hy13 => (intro w hSw; (try dsimp only at hSw); go_simp; first | done | with_reducible rfl)
          try simp only [Act.put, List.getElem_toArray, List.getElem_cons_succ, List.getElem_cons_zero, List.setIfInBounds_toArray, List.set_cons_zero, List.set_cons_succ]
          refine wpAnyH_take (i := 5) (v := ?vv14) rfl (by kernel_rfl) (by kernel_rfl) (by kernel_rfl) (fun _ _ _ h => h) (Or.inl ⟨by rfl, ?hy14⟩) (by assumption) ?rest14
          case hy14 => (intro w hSw; (try dsimp only at hSw); go_simp; first | done | with_reducible rfl)
          try simp only [Act.put, List.getElem_toArray, List.getElem_cons_succ, List.getElem_cons_zero, List.setIfInBounds_toArray, List.set_cons_zero, List.set_cons_succ]
          refine wpAnyH_take (i := 8) (v := ?vv15) rfl (by kernel_rfl) (by kernel_rfl) (by kernel_rfl) (fun _ _ _ h => h) (Or.inl ⟨by rfl, ?hy15⟩) (by assumption) ?rest15
          case hy15 => (intro w hSw; (try dsimp only at hSw); go_simp; first | done | with_reducible rfl)
          try simp only [Act.put, List.getElem_toArray, List.getElem_cons_succ, List.getElem_cons_zero, List.setIfInBounds_toArray, List.set_cons_zero, List.set_cons_succ]
          refine wpAnyH_take (i := 9) (v := ?vv16) rfl (by kernel_rfl) (by kernel_rfl) (by kernel_rfl) (fun _ _ _ h => h) (Or.inl ⟨by rfl, ?hy16⟩) (by assumption) ?rest16
          case hy16 => (intro w hSw; (try dsimp only at hSw); go_simp; first | done | with_reducible rfl)
          try simp only [Act.put, List.getElem_toArray, List.getElem_cons_succ, List.getElem_cons_zero, List.setIfInBounds_toArray, List.set_cons_zero, List.set_cons_succ]
          refine wpAnyH_ready (rs := [3]) (by kernel_rfl) (by simp) ?_
          refine AllReadyH.cons rfl (fun K hK => ?_) AllReadyH.nil
          go_simp
          refine (HE1.out _).mono ?_
          rintro e u7 ⟨rfl, b7⟩
          have B7 := hid (below_on B6.out b7)
          have R7 := hid (R6.out.keep (b7.keep (fun _ => False)) (fun h => h))
          have Q7 := hid (Q6.out.keep (b7.keep (fun _ => False)) (fun h => h))
          clear b7 HE1 B6 R6 Q6 hHeld
          go_wp2_with fail
          refine hK.out _ _ (CE.out _ Q7.out) (fun hHeld => ?_)
          clear hK K
          try simp only [Act.put, List.getElem_toArray, List.getElem_cons_succ, List.getElem_cons_zero, List.setIfInBounds_toArray, List.set_cons_zero, List.set_cons_succ]
          refine wpAnyH_ready (rs := [6]) (by kernel_rfl) (by simp) ?_
          refine AllReadyH.cons rfl (fun K hK => ?_) AllReadyH.nil
          go_simp
          refine (HE2.out _).mono ?_
          rintro e u77 ⟨rfl, b77⟩
          have B77 := hid (below_on B7.out b77)
          have R77 := hid (R7.out.keep (b77.keep (fun _ => False)) (fun h => h))
          have Q77 := hid (Q7.out.keep (b77.keep (fun _ => False)) (fun h => h))
          clear b77 HE2 B7 R7 Q7 hHeld
          go_wp2_with fail
          refine hK.out _ _ (CE.out _ Q77.out) (fun hHeld => ?_)
          clear hK K
          try simp only [Act.put, List.getElem_toArray, List.getElem_cons_succ, List.getElem_cons_zero, List.setIfInBounds_toArray, List.set_cons_zero, List.set_cons_succ]
          refine wpAnyH_take (i := 7) (v := ?vv17) rfl (by kernel_rfl) (by kernel_rfl) (by kernel_rfl) (fun _ _ _ h => h) (Or.inl ⟨by rfl, ?hy17⟩) (by assumption) ?rest17
          case hy17 => (intro w hSw; (try dsimp only at hSw); go_simp; first | done | with_reducible rfl)
          try simp only [Act.put, List.getElem_toArray, List.getElem_cons_succ, List.getElem_cons_zero, List.setIfInBounds_toArray, List.set_cons_zero, List.set_cons_succ]
          refine wpAnyH_ready (rs := [10]) (by kernel_rfl) (by simp) ?_
          refine AllReadyH.cons rfl (fun K hK => ?_) AllReadyH.nil
          go_simp
          refine (HE3.out _).mono ?_
          rintro e u8 ⟨rfl, b8⟩
          have B8 := hid (below_on B77.out b8)
          have R8 := hid (R77.out.keep (b8.keep (fun _ => False)) (fun h => h))
          have Q8 := hid (Q77.out.keep (b8.keep (fun _ => False)) (fun h => h))
          clear b8 HE3 B77 R77 Q77 hHeld
          go_wp2_with fail
          refine hK.out _ _ (CE.out _ Q8.out) (fun hHeld => ?_)
          clear hK K
          try simp only [Act.put, List.getElem_toArray, List.getElem_cons_succ, List.getElem_cons_zero, List.setIfInBounds_toArray, List.set_cons_zero, List.set_cons_succ]
          refine wpAnyH_take (i := 11) (v := ?vv18) rfl (by kernel_rfl) (by kernel_rfl) (by kernel_rfl) (fun _ _ _ h => h) (Or.inl ⟨by rfl, ?hy18⟩) (by assumption) ?rest18
          case hy18 => (intro w hSw; (try dsimp only at hSw); go_simp; first | done | with_reducible rfl)
          try simp only [Act.put, List.getElem_toArray, List.getElem_cons_succ, List.getElem_cons_zero, List.setIfInBounds_toArray, List.set_cons_zero, List.set_cons_succ]
          refine wpAnyH_take (i := 12) (v := ?vv19) rfl (by kernel_rfl) (by kernel_rfl) (by kernel_rfl) (fun _ _ _ h => h) (Or.inl ⟨by rfl, ?hy19⟩) (by assumption) ?rest19
          case hy19 => (intro w hSw; (try dsimp only at hSw); go_simp; first | done | with_reducible rfl)
          try simp only [Act.put, List.getElem_toArray, List.getElem_cons_succ, List.getElem_cons_zero, List.setIfInBounds_toArray, List.set_cons_zero, List.set_cons_succ]
          refine wpAnyH_take (i := 13) (v := ?vv20) rfl (by kernel_rfl) (by kernel_rfl) (by kernel_rfl) (fun _ _ _ h => h) (Or.inl ⟨by rfl, ?hy20⟩) (by assumption) ?rest20
          case hy20 => (intro w hSw; (try dsimp only at hSw); go_simp; first | done | with_reducible rfl)
          try simp only [Act.put, List.getElem_toArray, List.getElem_cons_succ, List.getElem_cons_zero, List.setIfInBounds_toArray, List.set_cons_zero, List.set_cons_succ]
          refine wpAnyH_done (by kernel_rfl) ?_ _
          clear hHeld CE A1 A2 A3 d0 d1 d2 z0 z1 z2
          go_wp2
          exact ⟨⟨k + 1, _, HLT.out, by rw [← HXR.out], by first | rw [hwk] | rfl | simp, HA3, R8, B8⟩, by (try rw [hwk]); have := HLT.out; simp [intOf]; omega⟩
        · have hk9 : k = m.es.length := by omega
          have hdl : decide ((k : Int) < (m.es.length : Int)) = false := decide_eq_false (by omega)
          have hdl2 : decide (k < m.es.length) = false := decide_eq_false (by omega)
          have hal : A.length ≤ 1049166 := by have h1 := HML.out k; have h2 := HY.out; rw [HA.out, List.length_append]; omega
          have hdn := HDL.out
          have AM := fun W => add_ls A (ptx m.da) W (by omega)
          have HG : Hid (G = A ++ ptx m.da) := by show _ = _; rw [HMG2.out, HA.out, hk9, List.take_length]
          have y11 := HR.out.cellAt (o := 11) rfl
          clear EN HML HMT HMG2 HY HA HC HDL hk hlt hk9 hal hdn HES
          go_wp2_with fail
          refine (TX.out _).mono ?_
          rintro e w9 ⟨rfl, b9⟩
          have B9 := hid (below_on HB.out b9)
          clear TX b9 HB HR y11
          go_wp2
          go_ret2
          rw [HG.out]
          exact ⟨rfl, B9.out⟩
theorem mencode_any (v : Value) (m : Ms) (w : World) (hv : EntI w v m.es) (hl : m.es.length ≤ 17592186044416) : Calls Tryz.prog 6 #[msV v m] w fun e w' => e = .returned (.tuple #[.string (mgS m), .int .i64 (mgE m)]) ∧ Below w.heap.size w w' := by
  unfold mgS mgE
  cases h : msOk m
  · rw [if_neg (by simp), if_neg (by simp)]; exact mencode_bad v m w hv hl h
  · rw [if_pos rfl, if_pos rfl]; exact mencode_ok v m w hv h
end Go.Proofs.YtlkidnfgodficaaGreat
