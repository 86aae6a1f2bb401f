/- Joined: What New of a node calls: areEntries, and what is set apart in memory. Small calls on a node. A node whose fields are written: to wait, to follow, to rise, to vote. A node: to follow, to rise, to vote; who is a member; whether an entry is there and of a term. A node: whether those of whom a closure says so are a majority. A node: to meet another node; whether an index is of a term; whether it is chosen. A node: whether it is chosen; an entry laid behind its log. A node that commits what a majority has. A node that is the only member: what it tells others (nothing); it is chosen by itself; it leads. -/
import Derived.Test.YtnldjcoajliciaaGreatRnM
import Derived.Test.YtnldjcoajliciaaGreatGApR
import Derived.Test.YtnldjcoajliciaaGreatJoined05
import Derived.Deep.LoopGhost
import Derived.Test.YtnldjcoajliciaaGreatJoined11
import Derived.BigQuiet
import Derived.Test.YtnldjcoajliciaaGreatJoined04
import Derived.Test.YtnldjcoajliciaaGreatJoined12
namespace Go.Proofs.YtnldjcoajliciaaGreat
open Go.RowKit Go.Maps
set_option linter.unusedVariables false
set_option linter.unusedSimpArgs false

theorem mesOk_drop {hi a : Int} {es : List En} {k : Nat} (hk : k < es.length) : mesOk a hi (es.drop k) = (meOk a hi es[k] && mesOk es[k].tm hi (es.drop (k + 1))) := by
  rw [List.drop_eq_getElem_cons hk]; rfl
set_option maxRecDepth 100000 in
set_option maxHeartbeats 4000000 in
theorem areEnt_any (v : Value) (es : List En) (lo hi : Int) (w : World) (hv : EntI w v es) (hl : es.length ≤ 17592186044416) : Calls Tryz.prog 18 #[v, .int .i64 lo, .int .i64 hi] w fun e w' => e = .returned (.bool (mesOk lo hi es)) ∧ Below w.heap.size w w' := by
  obtain ⟨ad, cap, rfl, hc⟩ := hv.form
  have HC := hid hc
  have HL := hid hl
  obtain ⟨R, hR⟩ : ∃ R, R = mesOk lo hi es := ⟨_, rfl⟩
  rw [← hR]
  have HR0 : Hid (R = mesOk lo hi (es.drop 0)) := by show _ = _; rw [hR]; rfl
  clear hc hv hl hR
  go_enter Tryz.func18, Tryz.ntmps18
  go_wp2
  go_loopg [1, 11] es.length (fun gk a i wr => ∃ (k : Nat) (a0 : Int), k ≤ es.length ∧ gk = es.length - k ∧ a = .int .i64 a0 ∧ i = .int .i64 (k : Int) ∧ Hid (R = mesOk a0 hi (es.drop k)) ∧ Hid (Below w.heap.size w wr))
  case atStart => exact ⟨0, lo, Nat.zero_le _, rfl, rfl, rfl, HR0, Below.refl _ _⟩
  case round =>
    clear HR0
    obtain ⟨k, a0, hk, hgk, rfl, rfl, HR, HB⟩ := hrel
    by_cases hlt : k < es.length
    · have hlb := HL.out
      have hk1 : (k : Int) < (es.length : Int) := by omega
      have hk0 : (0 : Int) ≤ (k : Int) := by omega
      have hwk : wrap64 ((k : Int) + 1) = ((k + 1 : Nat) : Int) := by rw [IntWalk.wrap64_in _ (by omega)]; omega
      obtain ⟨b, off, rfl, hb, c0, c1, c2⟩ := HC.out k hlt
      have d0 := (HB.out.cell (p := ⟨b, off + k * 3, none⟩) hb).trans c0
      have d1 := (HB.out.cell (p := ⟨b, off + k * 3 + 1, none⟩) hb).trans c1
      have d2 := (HB.out.cell (p := ⟨b, off + k * 3 + 2, none⟩) hb).trans c2
      have HRD : Hid (R = (meOk a0 hi es[k] && mesOk es[k].tm hi (es.drop (k + 1)))) := HR.out.trans (mesOk_drop hlt)
      have HME : Hid (meOk a0 hi es[k] = (decide (a0 ≤ es[k].tm) && (decide (es[k].tm ≤ hi) && (decide (0 ≤ es[k].kd) && (decide (es[k].kd ≤ 255) && decide (es[k].da.size ≤ 65536)))))) := rfl
      have HLT := hid hlt
      generalize es[k] = x at *
      obtain ⟨tm, kd, da⟩ := x
      simp only at *
      have HAL : Hid (Below w.heap.size w (wr.alloc (.cells #[.int .i64 tm, .int .i64 kd, .string da] 52))) := below_al HB.out _
      have y0 := (srow wr [.int .i64 tm, .int .i64 kd, .string da] 52).cellAt (o := 0) rfl
      have y1 := (srow wr [.int .i64 tm, .int .i64 kd, .string da] 52).cellAt (o := 1) rfl
      have y2 := (srow wr [.int .i64 tm, .int .i64 kd, .string da] 52).cellAt (o := 2) rfl
      have HGK := hid hgk
      generalize meOk a0 hi ⟨tm, kd, da⟩ = M at *
      clear HR HB c0 c1 c2 hb hlb hlt hk hgk HC
      by_cases h0 : tm < a0
      case pos =>
        have t0 : decide (tm < a0) = true := decide_eq_true h0
        have hM : M = false := by rw [HME.out, decide_eq_false (show ¬ a0 ≤ tm by omega)]; rfl
        have hr : R = false := by rw [HRD.out, hM]; rfl
        subst hr
        clear HRD HME hM h0
        go_wp2
        go_ret
        exact ⟨rfl, HAL.out⟩
      case neg =>
      have t0 : decide (tm < a0) = false := decide_eq_false h0
      by_cases h1 : tm > hi
      case pos =>
        have t1 : decide (tm > hi) = true := decide_eq_true h1
        have hM : M = false := by rw [HME.out, decide_eq_true (show a0 ≤ tm by omega), decide_eq_false (show ¬ tm ≤ hi by omega)]; simp
        have hr : R = false := by rw [HRD.out, hM]; rfl
        subst hr
        clear HRD HME hM h0 h1
        go_wp2
        go_ret
        exact ⟨rfl, HAL.out⟩
      case neg =>
      have t1 : decide (tm > hi) = false := decide_eq_false h1
      by_cases h2 : kd < 0
      case pos =>
        have t2 : decide (kd < 0) = true := decide_eq_true h2
        have hM : M = false := by rw [HME.out, decide_eq_true (show a0 ≤ tm by omega), decide_eq_true (show tm ≤ hi by omega), decide_eq_false (show ¬ 0 ≤ kd by omega)]; simp
        have hr : R = false := by rw [HRD.out, hM]; rfl
        subst hr
        clear HRD HME hM h0 h1 h2
        go_wp2
        go_ret
        exact ⟨rfl, HAL.out⟩
      case neg =>
      have t2 : decide (kd < 0) = false := decide_eq_false h2
      by_cases h3 : kd > 255
      case pos =>
        have t3 : decide (kd > 255) = true := decide_eq_true h3
        have hM : M = false := by rw [HME.out, decide_eq_true (show a0 ≤ tm by omega), decide_eq_true (show tm ≤ hi by omega), decide_eq_true (show 0 ≤ kd by omega), decide_eq_false (show ¬ kd ≤ 255 by omega)]; simp
        have hr : R = false := by rw [HRD.out, hM]; rfl
        subst hr
        clear HRD HME hM h0 h1 h2 h3
        go_wp2
        go_ret
        exact ⟨rfl, HAL.out⟩
      case neg =>
      have t3 : decide (kd > 255) = false := decide_eq_false h3
      by_cases h4 : (da.size : Int) > 65536
      case pos =>
        have t4 : decide ((da.size : Int) > 65536) = true := decide_eq_true h4
        have hM : M = false := by rw [HME.out, decide_eq_true (show a0 ≤ tm by omega), decide_eq_true (show tm ≤ hi by omega), decide_eq_true (show 0 ≤ kd by omega), decide_eq_true (show kd ≤ 255 by omega), decide_eq_false (show ¬ da.size ≤ 65536 by omega)]; simp
        have hr : R = false := by rw [HRD.out, hM]; rfl
        subst hr
        clear HRD HME hM h0 h1 h2 h3 h4
        go_wp2
        go_ret
        exact ⟨rfl, HAL.out⟩
      case neg =>
      have t4 : decide ((da.size : Int) > 65536) = false := decide_eq_false h4
      have hM : M = true := by rw [HME.out, decide_eq_true (show a0 ≤ tm by omega), decide_eq_true (show tm ≤ hi by omega), decide_eq_true (show 0 ≤ kd by omega), decide_eq_true (show kd ≤ 255 by omega), decide_eq_true (show da.size ≤ 65536 by omega)]; rfl
      have HR2 : Hid (R = mesOk tm hi (es.drop (k + 1))) := by show _ = _; rw [HRD.out, hM]; rfl
      have HM5 : Hid (es.length - (k + 1) < es.length - k) := by have := HLT.out; show _ < _; omega
      clear HRD HME hM HL h0 h1 h2 h3 h4
      go_wp2
      go_roundg (es.length - (k + 1))
      case measure => rw [HGK.out]; exact HM5.out
      case rel => exact ⟨k + 1, tm, HLT.out, rfl, rfl, by first | rw [hwk] | rfl | simp, HR2, HAL⟩
    · have hk9 : k = es.length := by omega
      have hdl : decide ((k : Int) < (es.length : Int)) = false := decide_eq_false (by omega)
      have hdl2 : decide (k < es.length) = false := decide_eq_false (by omega)
      have hr : R = true := by rw [HR.out, hk9, List.drop_length]; rfl
      subst hr
      clear HR HL HC hlt hk hk9 hgk
      go_wp2
      go_ret
      exact ⟨rfl, HB.out⟩
set_option maxRecDepth 100000 in
set_option maxHeartbeats 1000000 in
theorem centry_any (x : En) (w : World) (h : x.da.size ≤ 140737488355328) : Calls Tryz.prog 41 #[.agg #[.int .i64 x.tm, .int .i64 x.kd, .string x.da]] w fun e w' => e = .returned (.agg #[.int .i64 x.tm, .int .i64 x.kd, .string x.da]) ∧ Below w.heap.size w w' := by
  obtain ⟨tm, kd, da⟩ := x
  simp only at *
  have R0 : Hid (RowIs ((w.alloc (.cells #[.int .i64 tm, .int .i64 kd, .string da] 52)).alloc (.cells #[.int .i64 0, .int .i64 0, .string ⟨#[]⟩] 52)) w.heap.size [.int .i64 tm, .int .i64 kd, .string da] 52) := row_old (srow w [.int .i64 tm, .int .i64 kd, .string da] 52) _
  have R1 : Hid (RowIs ((w.alloc (.cells #[.int .i64 tm, .int .i64 kd, .string da] 52)).alloc (.cells #[.int .i64 0, .int .i64 0, .string ⟨#[]⟩] 52)) (w.heap.size + 1) [.int .i64 0, .int .i64 0, .string ⟨#[]⟩] 52) := by
    have := srow (w.alloc (.cells #[.int .i64 tm, .int .i64 kd, .string da] 52)) [.int .i64 0, .int .i64 0, .string ⟨#[]⟩] 52
    show RowIs _ _ _ _
    simpa using this
  have B0 : Hid (Below w.heap.size w ((w.alloc (.cells #[.int .i64 tm, .int .i64 kd, .string da] 52)).alloc (.cells #[.int .i64 0, .int .i64 0, .string ⟨#[]⟩] 52))) := below_al (below_al (Below.refl _ _) _) _
  have CL := hid (clone_any da ((w.alloc (.cells #[.int .i64 tm, .int .i64 kd, .string da] 52)).alloc (.cells #[.int .i64 0, .int .i64 0, .string ⟨#[]⟩] 52)) (by omega))
  clear h
  go_enter Tryz.func41, Tryz.ntmps41
  go_wp2_with fail
  generalize (w.alloc (.cells #[.int .i64 tm, .int .i64 kd, .string da] 52)).alloc (.cells #[.int .i64 0, .int .i64 0, .string ⟨#[]⟩] 52) = W0 at *
  refine CL.out.mono ?_
  rintro e w1 ⟨rfl, b1⟩
  have Q0 := hid (R0.out.keep (b1.keep (fun _ => False)) (fun h => h))
  have Q1 := hid (R1.out.keep (b1.keep (fun _ => False)) (fun h => h))
  have B1 := hid (below_on B0.out b1)
  clear R0 R1 B0 CL b1
  have c0 := Q0.out.cellAt (o := 0) rfl
  have c1 := Q0.out.cellAt (o := 1) rfl
  have c2 := Q0.out.cellAt (o := 2) rfl
  have g2 : w1.frozen? ⟨w.heap.size, 2, none⟩ = false := Q0.out.frozen
  have d0 := Q1.out.cellAt (o := 0) rfl
  have d1 := Q1.out.cellAt (o := 1) rfl
  have d2 := Q1.out.cellAt (o := 2) rfl
  have f0 : w1.frozen? ⟨w.heap.size + 1, 0, none⟩ = false := Q1.out.frozen
  have f1 : w1.frozen? ⟨w.heap.size + 1, 1, none⟩ = false := Q1.out.frozen
  have f2 : w1.frozen? ⟨w.heap.size + 1, 2, none⟩ = false := Q1.out.frozen
  have k1 := keep_setCell w1 w.heap.size 2 (.string da)
  have P1 := Q1.out.keep k1 (by omega)
  have FR := hid (((P1.set 0 (.int .i64 tm)).set 1 (.int .i64 kd)).set 2 (.string da))
  have BF := hid ((B1.out.trans (keep_below k1 (fun j hj e => by omega) B1.out.size)).trans (keep_below (((keep_setCell (w1.setCell ⟨w.heap.size, 2, none⟩ (.string da)) (w.heap.size + 1) 0 (.int .i64 tm)).trans (keep_setCell _ _ 1 (.int .i64 kd))).trans (keep_setCell _ _ 2 (.string da))) (fun j hj e => by omega) (B1.out.trans (keep_below k1 (fun j hj e => by omega) B1.out.size)).size))
  clear Q0 Q1 B1 k1 P1
  go_wp2
  exact bodyPost_ret (v := .agg #[.int .i64 tm, .int .i64 kd, .string da]) (results_cell_row (p := 2) rfl _ _ (w.heap.size + 1) 52 #[.int .i64 tm, .int .i64 kd, .string da] (0, 0) _ rfl FR.out Tryz.underlying52 rfl (by kernel_rfl)) rfl ⟨rfl, BF.out⟩
set_option maxRecDepth 100000 in
set_option maxHeartbeats 4000000 in
theorem centries_any (v : Value) (es : List En) (w : World) (hv : EntI w v es) (hl : es.length ≤ 4398046511104) (hd : ∀ x ∈ es, x.da.size ≤ 140737488355328) : Calls Tryz.prog 20 #[v] w fun e w' => ∃ v', e = .returned v' ∧ OwnE w' w.heap.size v' es ∧ Below w.heap.size w w' := by
  obtain ⟨ad, cap, rfl, hc⟩ := hv.form
  have HC := hid hc
  have HL := hid hl
  have CE : Hid (∀ k (hk : k < es.length) W, Below w.heap.size w W → Calls Tryz.prog 41 #[.agg #[.int .i64 es[k].tm, .int .i64 es[k].kd, .string es[k].da]] W fun e w' => e = .returned (.agg #[.int .i64 es[k].tm, .int .i64 es[k].kd, .string es[k].da]) ∧ Below W.heap.size W w') := fun k hk W _ => centry_any es[k] W (hd _ (List.getElem_mem hk))
  clear hc hv hl hd
  go_enter Tryz.func20, Tryz.ntmps20
  go_wp2
  go_loopg [3, 8] es.length (fun gk o i wr => ∃ (k : Nat) (ad2 : Option Addr) (cap2 : Nat), k ≤ es.length ∧ gk = es.length - k ∧ o = .slice ad2 k cap2 ∧ i = .int .i64 (k : Int) ∧ Hid (wr.ownsRow w.heap.size 52 3 (.slice ad2 k cap2) k (ensC (es.take k))) ∧ Hid (Below w.heap.size w wr))
  case atStart => exact ⟨0, none, 0, Nat.zero_le _, rfl, rfl, rfl, ⟨rfl, .inl ⟨rfl, rfl⟩⟩, Below.refl _ _⟩
  case round =>
    obtain ⟨k, ad2, cap2, hk, hgk, rfl, rfl, HO, HB⟩ := hrel
    by_cases hlt : k < es.length
    · have hlb := HL.out
      have hk1 : (k : Int) < (es.length : Int) := by omega
      have hk0 : (0 : Int) ≤ (k : Int) := by omega
      have hwk : wrap64 ((k : Int) + 1) = ((k + 1 : Nat) : Int) := by rw [IntWalk.wrap64_in _ (by omega)]; omega
      obtain ⟨b, off, rfl, hb, c0, c1, c2⟩ := HC.out k hlt
      have d0 := (HB.out.cell (p := ⟨b, off + k * 3, none⟩) hb).trans c0
      have d1 := (HB.out.cell (p := ⟨b, off + k * 3 + 1, none⟩) hb).trans c1
      have d2 := (HB.out.cell (p := ⟨b, off + k * 3 + 2, none⟩) hb).trans c2
      have CE1 := hid (fun W hW => CE.out k hlt W hW)
      have HT : Hid (ensC (es.take (k + 1)) = ensC (es.take k) ++ enC es[k]) := by show _ = _; rw [List.take_succ_eq_append_getElem hlt, ensC_snoc]
      have HLT := hid hlt
      have HGK := hid hgk
      generalize es[k] = x at *
      obtain ⟨tm, kd, da⟩ := x
      simp only at *
      have HAL : Hid (Below w.heap.size w (wr.alloc (.cells #[.int .i64 tm, .int .i64 kd, .string da] 52))) := below_al HB.out _
      have HO2 : Hid ((wr.alloc (.cells #[.int .i64 tm, .int .i64 kd, .string da] 52)).ownsRow w.heap.size 52 3 (.slice ad2 k cap2) k (ensC (es.take k))) := (keep_alloc (fun _ => False) _ _).ownsRow HO.out (fun _ _ h => h)
      have y0 := (srow wr [.int .i64 tm, .int .i64 kd, .string da] 52).cellAt (o := 0) rfl
      have y1 := (srow wr [.int .i64 tm, .int .i64 kd, .string da] 52).cellAt (o := 1) rfl
      have y2 := (srow wr [.int .i64 tm, .int .i64 kd, .string da] 52).cellAt (o := 2) rfl
      have CE2 := hid (CE1.out _ HAL.out)
      have HB1 : Hid (k + 1 ≤ 4611686018427387904) := by show _ ≤ _; omega
      have HB2 : Hid ((k + 1) * 32 ≤ 140737488355328) := by show _ ≤ _; omega
      have HO1 := hid (enC_cell1 ⟨tm, kd, da⟩)
      have HX2 : Hid ((enC ⟨tm, kd, da⟩).length = 1 * 3) := rfl
      have HM5 : Hid (es.length - (k + 1) < es.length - k) := by have := HLT.out; show _ < _; omega
      clear HB HO c0 c1 c2 hb hlb hlt hk hgk CE CE1
      generalize hPA : ensC (es.take k) = PA at *
      clear hPA
      go_wp2_with fail
      refine CE2.out.mono ?_
      rintro e w2 ⟨rfl, b2⟩
      have H2 := hid (below_on HAL.out b2)
      have H3 := hid ((b2.keep (fun _ => False)).ownsRow HO2.out (fun _ _ h => h))
      have HGX : Hid (GSrc (w2.alloc (.cells #[.int .i64 tm, .int .i64 kd, .string da] 52)) (.slice (some ⟨w2.heap.size, 0, none⟩) 1 1) 1 (enC ⟨tm, kd, da⟩)) := gsrc_block (heap_alloc_new _ _)
      have HGA : Hid ((w2.alloc (.cells #[.int .i64 tm, .int .i64 kd, .string da] 52)).ownsRow w.heap.size 52 3 (.slice ad2 k cap2) k PA) := (keep_alloc (fun _ => False) _ _).ownsRow H3.out (fun _ _ h => h)
      have HSZ : Hid (w.heap.size ≤ (w2.alloc (.cells #[.int .i64 tm, .int .i64 kd, .string da] 52)).heap.size) := by have := (below_al H2.out (.cells #[.int .i64 tm, .int .i64 kd, .string da] 52)).size; exact this
      have HBL := hid (below_al H2.out (.cells #[.int .i64 tm, .int .i64 kd, .string da] 52))
      clear CE2 b2 HAL HO2 H2 H3 y0 y1 y2 d0 d1 d2
      generalize hXS : enC ⟨tm, kd, da⟩ = XS at *
      clear hXS
      go_wp2_with (at_builtin; refine wpl_gappL rfl _ _ elEn rfl w.heap.size (.slice ad2 k cap2) (.slice (some ⟨w2.heap.size, 0, none⟩) 1 1) PA XS k 1 (k + 1) rfl rfl rfl HGA.out HSZ.out HGX.out HX2.out HO1.out HB1.out HB2.out ?_; intro ad' cap' w' hr' hk')
      have F1 : Hid (w'.ownsRow w.heap.size 52 3 (.slice ad' (k + 1) cap') (k + 1) (ensC (es.take (k + 1)))) := by rw [HT.out]; exact hr'
      have F2 := hid (HBL.out.trans (keep_below hk' (fun j hj e => by have := ownsRow_ge HGA.out e; omega) HSZ.out))
      clear hr' hk' HGA HGX HSZ HBL HT
      go_wp2
      go_roundg (es.length - (k + 1))
      case measure => rw [HGK.out]; exact HM5.out
      case rel => exact ⟨k + 1, _, _, HLT.out, rfl, rfl, by first | rw [hwk] | rfl | simp, F1, F2⟩
    · have hk9 : k = es.length := by omega
      have hdl : decide ((k : Int) < (es.length : Int)) = false := decide_eq_false (by omega)
      have hdl2 : decide (k < es.length) = false := decide_eq_false (by omega)
      subst hk9
      have HF : Hid (OwnE wr w.heap.size (.slice ad2 es.length cap2) es) := by have := HO.out; rw [List.take_length] at this; exact this
      clear HO HL HC hlt hk hgk CE
      go_wp2
      go_ret
      exact ⟨_, rfl, HF.out, HB.out⟩
set_option maxRecDepth 100000 in
set_option maxHeartbeats 1000000 in
theorem iclone_own (v : Value) (l : List Int) (w : World) (hv : IntsI w v l) (hl : l.length ≤ 17592186044416) : Calls Tryz.prog 45 #[v] w fun e w' => ∃ v', e = .returned v' ∧ OwnI w' w.heap.size v' l ∧ Below w.heap.size w w' := by
  obtain ⟨ad, cap, rfl, hc⟩ := hv.form
  have HV := hid hv
  have he := eql_isl_nil w ad l.length cap
  cases ad with
  | none =>
    have hn : l = [] := by
      cases l with
      | nil => rfl
      | cons x r => obtain ⟨b, off, h, _⟩ := hc 0 (by simp); cases h
    subst hn
    clear hc hv
    simp only [List.length_nil] at he ⊢
    go_enter Tryz.func45, Tryz.ntmps45
    go_wp2
    go_ret
    exact ⟨_, rfl, ownI_nil _ _, Below.refl _ _⟩
  | some a =>
    have HGA : Hid ((w.alloc (.cells #[] 3)).heap[w.heap.size]? = some (.cells #[] 3 (0, 0))) := heap_alloc_new _ _
    have HBA : Hid (Below w.heap.size w (w.alloc (.cells #[] 3))) := below_al (Below.refl _ _) _
    have HIA := hid (hv.next HBA.out)
    have HL8 : Hid (l.length * 8 ≤ 140737488355328) := by show _ ≤ _; omega
    have HLE : Hid (w.heap.size ≤ w.heap.size) := Nat.le_refl _
    clear hc hv hl
    go_enter Tryz.func45, Tryz.ntmps45
    go_wp2_with (at_builtin; refine wpl_iall rfl _ _ rfl w.heap.size w.heap.size l.length _ l rfl rfl rfl HGA.out HLE.out HIA.out HL8.out ?_; intro ad' cap' w4 ho' hk')
    have HO := hid ho'
    have HB : Hid (Below w.heap.size w w4) := HBA.out.trans hk'
    clear ho' hk' HGA HBA HIA he
    go_wp2
    go_ret
    exact ⟨_, rfl, HO.out, HB.out⟩
set_option maxRecDepth 100000 in
set_option maxHeartbeats 4000000 in
theorem cshot_any (v : Value) (s : Sh) (w : World) (hv : IntsI w v s.ms) (hl : s.ms.length ≤ 17592186044416) (hd : s.da.size ≤ 140737488355328) : Calls Tryz.prog 19 #[shV v s] w fun e w' => ∃ v', e = .returned (shV v' s) ∧ OwnI w' w.heap.size v' s.ms ∧ Below w.heap.size w w' := by
  obtain ⟨ix, tm, ms, da⟩ := s
  simp only [shV] at *
  obtain ⟨W0, hW0⟩ : ∃ W0, W0 = (w.alloc (.cells #[.int .i64 ix, .int .i64 tm, v, .string da] 28)).alloc (.cells #[.int .i64 0, .int .i64 0, .slice none 0 0, .string ⟨#[]⟩] 28) := ⟨_, rfl⟩
  have hs0 : w.heap.size ≤ W0.heap.size := by rw [hW0]; simp; omega
  have R0 : RowIs W0 w.heap.size [.int .i64 ix, .int .i64 tm, v, .string da] 28 := by rw [hW0]; exact row_old (srow w [.int .i64 ix, .int .i64 tm, v, .string da] 28) _
  have R1 : RowIs W0 (w.heap.size + 1) [.int .i64 0, .int .i64 0, .slice none 0 0, .string ⟨#[]⟩] 28 := by
    have := srow (w.alloc (.cells #[.int .i64 ix, .int .i64 tm, v, .string da] 28)) [.int .i64 0, .int .i64 0, .slice none 0 0, .string ⟨#[]⟩] 28
    rw [World.size_alloc] at this
    rw [hW0]; exact this
  have BW : Below w.heap.size w W0 := by rw [hW0]; exact below_al (below_al (Below.refl _ _) _) _
  have HV : IntsI W0 v ms := by rw [hW0]; exact (hv.next (below_al (Below.refl _ _) _)).next (below_al (Below.refl _ _) _)
  have CI : Hid (∀ W, Keep (fun _ => False) W0 W → Calls Tryz.prog 45 #[v] W fun e w' => ∃ v', e = .returned v' ∧ OwnI w' W0.heap.size v' ms ∧ Below W.heap.size W w') := fun W k => (iclone_own v ms W (IntsI.next HV ⟨k.os, k.tape, k.output, k.size, fun j hj => k.block j hj (fun h => h)⟩) hl).mono fun e w' ⟨v', he, ho, hb⟩ => ⟨v', he, ownsRow_base ho k.size, hb⟩
  have CL : Hid (∀ W, Calls Tryz.prog 38 #[.string da] W fun e w' => e = .returned (.string da) ∧ Below W.heap.size W w') := fun W => clone_any da W hd
  have H0 := hid R0
  have H1 := hid R1
  have HBW := hid BW
  have K0 : Hid (Keep (fun _ => False) W0 W0.drew) := keep_drew _ _
  have HS0 : Hid (w.heap.size + 2 = W0.heap.size) := by show _ = _; rw [hW0]; simp
  have y2 : W0.drew.cell? ⟨w.heap.size, 2, none⟩ = some v := R0.cellAt (o := 2) rfl
  have y3 : W0.drew.cell? ⟨w.heap.size, 3, none⟩ = some (.string da) := R0.cellAt (o := 3) rfl
  clear R0 R1 BW HV hv hl hd hs0
  go_enter Tryz.func19, Tryz.ntmps19
  go_wp2_with fail
  rw [← hW0]
  clear hW0
  refine wp_region_held_drew (S := fun W => W.cell? ⟨w.heap.size, 3, none⟩ = some (.string da)) (by kernel_rfl) y3 (fun hHeld => ?_)
  generalize W0.drew = V0 at *
  refine wpAnyH_take (i := 0) (v := ?vv1) rfl (by kernel_rfl) (by kernel_rfl) (by kernel_rfl) (fun _ _ _ h => h) (Or.inl ⟨by rfl, ?hy1⟩) (by assumption) ?rest1
  case hy1 => (intro w hSw; (try dsimp only at hSw); go_simp; first | done | with_reducible rfl)
  try simp only [Act.put, List.getElem_toArray, List.getElem_cons_succ, List.getElem_cons_zero, List.setIfInBounds_toArray, List.set_cons_zero, List.set_cons_succ]
  refine wpAnyH_take (i := 3) (v := ?vv2) rfl (by kernel_rfl) (by kernel_rfl) (by kernel_rfl) (fun _ _ _ h => h) (Or.inl ⟨by rfl, ?hy2⟩) (by assumption) ?rest2
  case hy2 => (intro w hSw; (try dsimp only at hSw); go_simp; first | done | with_reducible rfl)
  try simp only [Act.put, List.getElem_toArray, List.getElem_cons_succ, List.getElem_cons_zero, List.setIfInBounds_toArray, List.set_cons_zero, List.set_cons_succ]
  refine wpAnyH_take (i := 4) (v := ?vv3) rfl (by kernel_rfl) (by kernel_rfl) (by kernel_rfl) (fun _ _ _ h => h) (Or.inl ⟨by rfl, ?hy3⟩) (by assumption) ?rest3
  case hy3 => (intro w hSw; (try dsimp only at hSw); go_simp; first | done | with_reducible rfl)
  try simp only [Act.put, List.getElem_toArray, List.getElem_cons_succ, List.getElem_cons_zero, List.setIfInBounds_toArray, List.set_cons_zero, List.set_cons_succ]
  refine wpAnyH_ready (rs := [1]) (by kernel_rfl) (by simp) ?_
  refine AllReadyH.cons rfl (fun K hK => ?_) AllReadyH.nil
  go_simp
  refine hK.out _ _ y3 (fun hHeld => ?_)
  clear hK K
  try simp only [Act.put, List.getElem_toArray, List.getElem_cons_succ, List.getElem_cons_zero, List.setIfInBounds_toArray, List.set_cons_zero, List.set_cons_succ]
  refine wpAnyH_ready (rs := [2]) (by kernel_rfl) (by simp) ?_
  refine AllReadyH.cons rfl (fun K hK => ?_) AllReadyH.nil
  go_simp
  refine (CI.out _ K0.out).mono ?_
  rintro q1 w1 ⟨v1, rfl, ho1, hb1⟩
  obtain ⟨ad1, cp1, hv1⟩ := ho1.form
  subst hv1
  have K1 := hid (K0.out.trans (hb1.keep (fun _ => False)))
  have O1 := hid ho1
  have y3 := (H0.out.keep K1.out (fun h => h)).cellAt (o := 3) rfl
  have CL1 := hid (CL.out w1)
  clear CI K0 ho1 hb1 y2 CL hHeld
  go_wp2_with fail
  refine hK.out _ _ y3 (fun hHeld => ?_)
  clear hK K
  try simp only [Act.put, List.getElem_toArray, List.getElem_cons_succ, List.getElem_cons_zero, List.setIfInBounds_toArray, List.set_cons_zero, List.set_cons_succ]
  refine wpAnyH_take (i := 6) (v := ?vv4) rfl (by kernel_rfl) (by kernel_rfl) (by kernel_rfl) (fun _ _ _ h => h) (Or.inl ⟨by rfl, ?hy4⟩) (by assumption) ?rest4
  case hy4 => (intro w hSw; (try dsimp only at hSw); go_simp; first | done | with_reducible rfl)
  try simp only [Act.put, List.getElem_toArray, List.getElem_cons_succ, List.getElem_cons_zero, List.setIfInBounds_toArray, List.set_cons_zero, List.set_cons_succ]
  refine wpAnyH_ready (rs := [5]) (by kernel_rfl) (by simp) ?_
  refine AllReadyH.cons rfl (fun K hK => ?_) AllReadyH.nil
  go_simp
  refine CL1.out.mono ?_
  rintro q2 w2 ⟨rfl, hb2⟩
  have K2 := hid (K1.out.trans (hb2.keep (fun _ => False)))
  have O2 : Hid (OwnI w2 W0.heap.size (.slice ad1 ms.length cp1) ms) := O1.out.next hb2
  have R0 := hid (H0.out.keep K2.out (fun h => h))
  have R1 := hid (H1.out.keep K2.out (fun h => h))
  clear CL1 K1 O1 hb2 H0 H1
  have y3 := R0.out.cellAt (o := 3) rfl
  have g2 : w2.frozen? ⟨w.heap.size, 2, none⟩ = false := R0.out.frozen
  have g3 : w2.frozen? ⟨w.heap.size, 3, none⟩ = false := R0.out.frozen
  have c2 := R0.out.cellAt (o := 2) rfl
  go_wp2_with fail
  refine hK.out _ _ y3 (fun hHeld => ?_)
  clear hK K
  try simp only [Act.put, List.getElem_toArray, List.getElem_cons_succ, List.getElem_cons_zero, List.setIfInBounds_toArray, List.set_cons_zero, List.set_cons_succ]
  have A1 := hid (R0.out.set 2 (.slice ad1 ms.length cp1))
  have A2 := hid (A1.out.set 3 (.string da))
  have ZA : Hid ((w2.setCell ⟨w.heap.size, 2, none⟩ (.slice ad1 ms.length cp1)).cell? ⟨w.heap.size, 3, none⟩ = some (.string da)) := A1.out.cellAt (o := 3) rfl
  have ZB : Hid (((w2.setCell ⟨w.heap.size, 2, none⟩ (.slice ad1 ms.length cp1)).setCell ⟨w.heap.size, 3, none⟩ (.string da)).cell? ⟨w.heap.size, 3, none⟩ = some (.string da)) := A2.out.cellAt (o := 3) rfl
  have KS := hid ((keep_setCell w2 w.heap.size 2 (.slice ad1 ms.length cp1)).trans (keep_setCell _ _ 3 (.string da)))
  refine wpAnyH_ready (rs := [7]) (by kernel_rfl) (by simp) ?_
  refine AllReadyH.cons rfl (fun K hK => ?_) AllReadyH.nil
  go_simp
  refine hK.out _ _ ZA.out (fun hHeld => ?_)
  clear hK K
  try simp only [Act.put, List.getElem_toArray, List.getElem_cons_succ, List.getElem_cons_zero, List.setIfInBounds_toArray, List.set_cons_zero, List.set_cons_succ]
  refine wpAnyH_take (i := 8) (v := ?vv5) rfl (by kernel_rfl) (by kernel_rfl) (by kernel_rfl) (fun _ _ _ h => h) (Or.inl ⟨by rfl, ?hy5⟩) (by assumption) ?rest5
  case hy5 => (intro w hSw; (try dsimp only at hSw); go_simp; first | done | with_reducible rfl)
  try simp only [Act.put, List.getElem_toArray, List.getElem_cons_succ, List.getElem_cons_zero, List.setIfInBounds_toArray, List.set_cons_zero, List.set_cons_succ]
  refine wpAnyH_ready (rs := [9]) (by kernel_rfl) (by simp) ?_
  refine AllReadyH.cons rfl (fun K hK => ?_) AllReadyH.nil
  go_simp
  refine hK.out _ _ ZB.out (fun hHeld => ?_)
  clear hK K
  try simp only [Act.put, List.getElem_toArray, List.getElem_cons_succ, List.getElem_cons_zero, List.setIfInBounds_toArray, List.set_cons_zero, List.set_cons_succ]
  refine wpAnyH_done (by kernel_rfl) ?_ _
  have y0 := A2.out.cellAt (o := 0) rfl
  have y1 := A2.out.cellAt (o := 1) rfl
  have y2 := A2.out.cellAt (o := 2) rfl
  have y3 := A2.out.cellAt (o := 3) rfl
  have R3 := hid (R1.out.keep KS.out (by omega))
  have BF : Hid (Below w.heap.size w ((w2.setCell ⟨w.heap.size, 2, none⟩ (.slice ad1 ms.length cp1)).setCell ⟨w.heap.size, 3, none⟩ (.string da))) := HBW.out.trans (((K2.out.mono (fun _ _ h => h.elim) : Keep (· = w.heap.size) W0 w2).trans KS.out) |> fun k => keep_below k (fun j hj e => by omega) (by have := HS0.out; omega))
  have OF : Hid (OwnI ((w2.setCell ⟨w.heap.size, 2, none⟩ (.slice ad1 ms.length cp1)).setCell ⟨w.heap.size, 3, none⟩ (.string da)) W0.heap.size (.slice ad1 ms.length cp1) ms) := KS.out.ownsRow O2.out (fun g hg e => by have := ownsRow_ge O2.out hg; have := HS0.out; omega)
  have HS1 : Hid (w.heap.size + 1 < W0.heap.size) := by have := HS0.out; show _ < _; omega
  clear A1 A2 ZA ZB KS R0 R1 K2 O2 hHeld g2 g3 c2
  generalize (w2.setCell ⟨w.heap.size, 2, none⟩ (.slice ad1 ms.length cp1)).setCell ⟨w.heap.size, 3, none⟩ (.string da) = w4 at *
  have f0 : w4.frozen? ⟨w.heap.size + 1, 0, none⟩ = false := R3.out.frozen
  have f1 : w4.frozen? ⟨w.heap.size + 1, 1, none⟩ = false := R3.out.frozen
  have f2 : w4.frozen? ⟨w.heap.size + 1, 2, none⟩ = false := R3.out.frozen
  have f3 : w4.frozen? ⟨w.heap.size + 1, 3, none⟩ = false := R3.out.frozen
  have d0 := R3.out.cellAt (o := 0) rfl
  have d1 := R3.out.cellAt (o := 1) rfl
  have d2 := R3.out.cellAt (o := 2) rfl
  have d3 := R3.out.cellAt (o := 3) rfl
  have FR := hid ((((R3.out.set 0 (.int .i64 ix)).set 1 (.int .i64 tm)).set 2 (.slice ad1 ms.length cp1)).set 3 (.string da))
  have K4 := hid ((((keep_setCell w4 (w.heap.size + 1) 0 (.int .i64 ix)).trans (keep_setCell _ _ 1 (.int .i64 tm))).trans (keep_setCell _ _ 2 (.slice ad1 ms.length cp1))).trans (keep_setCell _ _ 3 (.string da)))
  have OG := hid (K4.out.ownsRow OF.out (fun g hg e => by have := ownsRow_ge OF.out hg; have := HS1.out; omega))
  have BG := hid (BF.out.trans (keep_below K4.out (fun j hj e => by omega) BF.out.size))
  clear R3 K4 OF BF
  go_wp2
  exact bodyPost_ret (v := .agg #[.int .i64 ix, .int .i64 tm, .slice ad1 ms.length cp1, .string da]) (results_cell_row (p := 2) rfl _ _ (w.heap.size + 1) 28 #[.int .i64 ix, .int .i64 tm, .slice ad1 ms.length cp1, .string da] (0, 0) _ rfl FR.out Tryz.underlying28 rfl (by kernel_rfl)) rfl ⟨_, rfl, ownsRow_base OG.out (by have := HS1.out; omega), BG.out⟩
set_option maxRecDepth 100000 in
theorem ngather_any (w : World) : Calls Tryz.prog 21 #[] w fun e w' => e = .returned (.pointer (some ⟨w.heap.size, 0, none⟩)) ∧ Below w.heap.size w w' := by
  have B0 := hid (below_al (Below.refl w.heap.size w) (.cells #[.bool false, .int .i64 0, .int .i64 0, .slice none 0 0] 85))
  go_enter Tryz.func21, Tryz.ntmps21
  go_wp2
  go_ret
  exact ⟨rfl, B0.out⟩
end Go.Proofs.YtnldjcoajliciaaGreat
namespace Go.Proofs.YtnldjcoajliciaaGreat
open Go.RowKit Go.Maps
set_option linter.unusedVariables false
set_option linter.unusedSimpArgs false

theorem NdI.bmf {w : World} {B nb : Nat} {n : Nd} {ms : List Int} {es : List En} (h : NdI w B nb n ms es) : ∃ ad cap, w.cell? ⟨nb, 5, none⟩ = some (.slice ad ms.length cap) ∧ n.bm = .slice ad ms.length cap := by
  obtain ⟨ad, cap, e⟩ := h.mi.form
  exact ⟨ad, cap, by rw [← e]; exact h.bx.cellAt (o := 5) rfl, e⟩
theorem NdI.lgf {w : World} {B nb : Nat} {n : Nd} {ms : List Int} {es : List En} (h : NdI w B nb n ms es) : ∃ ad cap, w.cell? ⟨nb, 7, none⟩ = some (.slice ad es.length cap) ∧ n.lg = .slice ad es.length cap := by
  obtain ⟨ad, cap, e⟩ := h.lo.form
  exact ⟨ad, cap, by rw [← e]; exact h.bx.cellAt (o := 7) rfl, e⟩
section
variable {w : World} {B nb : Nat} {n : Nd} {ms : List Int} {es : List En}
set_option maxRecDepth 100000 in
set_option maxHeartbeats 1000000 in
theorem nisNone_any (h : NdI w B nb n ms es) (hne : ms ≠ []) : Calls Tryz.prog 24 #[.pointer (some ⟨nb, 0, none⟩)] w fun e w' => e = .returned (.bool false) ∧ w' = w := by
  obtain ⟨ad, cap, c5, -⟩ := h.bmf
  have h0 : decide ((ms.length : Int) = 0) = false := decide_eq_false (by have := List.length_pos_iff.2 hne; omega)
  have h1 : decide (ms.length = 0) = false := decide_eq_false (by have := List.length_pos_iff.2 hne; omega)
  have h2 : (ms.length == 0) = false := by simp [hne]
  have h3 : ((ms.length : Int) == 0) = false := by simp [hne]
  have HF := hid (List.length_pos_iff.2 hne)
  generalize ms.length = N at *
  clear h hne
  go_enter Tryz.func24, Tryz.ntmps24
  go_wp2
  go_ret
  exact ⟨by first | rfl | simp, rfl⟩
set_option maxRecDepth 100000 in
set_option maxHeartbeats 1000000 in
theorem nplace_any (h : NdI w B nb n ms es) (i k : Int) (hk : i - n.bi = k) (h0 : -4611686018427387904 ≤ k) (h1 : k ≤ 4611686018427387904) : Calls Tryz.prog 42 #[.pointer (some ⟨nb, 0, none⟩), .int .i64 i] w fun e w' => e = .returned (.int .i64 k) ∧ w' = w := by
  have c3 := h.bx.cellAt (o := 3) rfl
  have hw : wrap64 (i - n.bi) = k := by rw [hk]; exact IntWalk.wrap64_in _ (by omega)
  have hw2 : wrap64 k = k := IntWalk.wrap64_in _ (by omega)
  generalize n.bi = b at *
  clear h h0 h1
  go_enter Tryz.func42, Tryz.ntmps42
  go_wp2
  go_ret
  exact ⟨by first | rw [hw] | (simp; omega), rfl⟩
/-- the term of the last entry, or of the base -/
def ltT (bt : Int) (es : List En) : Int := match es.getLast? with
  | none => bt
  | some x => x.tm
set_option maxRecDepth 100000 in
set_option maxHeartbeats 1000000 in
theorem ntermAt_base (h : NdI w B nb n ms es) : Calls Tryz.prog 72 #[.pointer (some ⟨nb, 0, none⟩), .int .i64 n.bi] w fun e w' => e = .returned (.tuple #[.int .i64 n.bt, .bool true]) ∧ Below w.heap.size w w' := by
  have c3 := h.bx.cellAt (o := 3) rfl
  have c4 := h.bx.cellAt (o := 4) rfl
  generalize n.bi = b at *
  generalize n.bt = t at *
  have h2 : decide (b = b) = true := decide_eq_true rfl
  clear h
  go_enter Tryz.func72, Tryz.ntmps72
  go_wp2
  go_ret2
  exact ⟨rfl, Below.refl _ _⟩
set_option maxRecDepth 100000 in
set_option maxHeartbeats 2000000 in
theorem ntermAt_in (h : NdI w B nb n ms es) (k : Nat) (hk : k < es.length) (hl : es.length ≤ 17592186044416) (hb0 : 0 ≤ n.bi) (hb1 : n.bi ≤ 1099511627776) : Calls Tryz.prog 72 #[.pointer (some ⟨nb, 0, none⟩), .int .i64 (n.bi + k + 1)] w fun e w' => e = .returned (.tuple #[.int .i64 (es[k]).tm, .bool true]) ∧ Below w.heap.size w w' := by
  have c3 := h.bx.cellAt (o := 3) rfl
  obtain ⟨ad, cap, c7, e7⟩ := h.lgf
  have PL : Hid (∀ W, Below w.heap.size w W → Calls Tryz.prog 42 #[.pointer (some ⟨nb, 0, none⟩), .int .i64 (n.bi + k + 1)] W fun e w' => e = .returned (.int .i64 ((k + 1 : Nat) : Int)) ∧ w' = W) := fun W hW => nplace_any (h.next hW) _ _ (by omega) (by omega) (by omega)
  have hv := h.lo.ents
  rw [e7] at hv
  obtain ⟨ad', cap', e8, hc⟩ := hv.form
  cases e8
  obtain ⟨b, off, hb, hbl, d0, -, -⟩ := hc k hk
  subst hb
  have c3' : w.cell? ⟨nb, 3, none⟩ = some (.int .i64 n.bi) := c3
  have h1 : decide (n.bi + (k : Int) + 1 = n.bi) = false := decide_eq_false (by omega)
  have h1b : (n.bi + (k : Int) + 1 == n.bi) = false := by rw [beq_eq_false_iff_ne]; omega
  have h2 : decide (n.bi + (k : Int) + 1 < n.bi) = false := decide_eq_false (by omega)
  have h3 : decide (((k + 1 : Nat) : Int) > (es.length : Int)) = false := decide_eq_false (by omega)
  have h3' : decide (((k : Int) + 1) > (es.length : Int)) = false := decide_eq_false (by omega)
  have h3n : decide (es.length < k + 1) = false := decide_eq_false (by omega)
  have q0 : wrap64 (((k + 1 : Nat) : Int) - 1) = (k : Int) := by rw [IntWalk.wrap64_in _ (by omega)]; omega
  have q0' : ((k + 1 : Nat) : Int) - 1 = (k : Int) := by omega
  have q1 : IntKind.i64.wrap (k : Int) = (k : Int) := by rw [IntKind.wrap_i64]; omega
  have q2 : wrap64 (k : Int) = (k : Int) := IntWalk.wrap64_in _ (by omega)
  have r0 : (0 : Int) ≤ (k : Int) := by omega
  have r1 : (k : Int) < (es.length : Int) := by omega
  have HB : Hid (∀ q, Below w.heap.size w (w.drewN q)) := fun q => below_drewN (Below.refl _ _) _
  generalize (es[k]).tm = t at *
  generalize n.bi + (k : Int) + 1 = i at *
  clear h hc hv c3 e7 hl hb0 hb1 hk
  generalize n.bi = bi at *
  generalize es.length = N at *
  generalize hk1 : k + 1 = k1 at *
  clear hk1
  go_enter Tryz.func72, Tryz.ntmps72
  go_wp2
  go_quiet (first | (go_at_call 42; exact Calls.quiet_of_same (PL.out _ (by first | exact Below.refl _ _ | exact (Below.refl _ _).drew | exact below_drewN (Below.refl _ _) _ | exact below_drewN (below_drewN (Below.refl _ _) _) _))))
  have B1 := hid (HB.out nq)
  have e7 : (w.drewN nq).cell? ⟨nb, 7, none⟩ = some (.slice (some ⟨b, off, none⟩) N cap) := c7
  have e0 : (w.drewN nq).cell? ⟨b, off + k * 3, none⟩ = some (.int .i64 t) := d0
  have PL2 : Hid (∀ q, Calls Tryz.prog 42 #[.pointer (some ⟨nb, 0, none⟩), .int .i64 i] ((w.drewN nq).drewN q) fun e w' => e = .returned (.int .i64 (k1 : Int)) ∧ w' = (w.drewN nq).drewN q) := fun q => PL.out _ (below_drewN B1.out q)
  clear c7 d0 c3' HB PL h1 h1b h2 h3 h3' h3n
  generalize w.drewN nq = W2 at *
  go_wp2
  go_quiet (first | (go_at_call 42; exact Calls.quiet_of_same (PL2.out _)))
  go_wp2
  go_ret2
  exact ⟨rfl, below_drewN B1.out _⟩
theorem ltT_snoc (bt : Int) (es : List En) (x : En) : ltT bt (es ++ [x]) = x.tm := by simp [ltT]
set_option maxRecDepth 100000 in
set_option maxHeartbeats 2000000 in
theorem nlast_any (h : NdI w B nb n ms es) (hne : ms ≠ []) (hl : es.length ≤ 17592186044416) (hb0 : 0 ≤ n.bi) (hb1 : n.bi ≤ 1099511627776) : Calls Tryz.prog 40 #[.pointer (some ⟨nb, 0, none⟩)] w fun e w' => e = .returned (.tuple #[.int .i64 (n.bi + es.length), .int .i64 (ltT n.bt es)]) ∧ Below w.heap.size w w' := by
  have N := hid (nisNone_any h hne)
  have TA : Hid (∀ W, Below w.heap.size w W → Calls Tryz.prog 72 #[.pointer (some ⟨nb, 0, none⟩), .int .i64 (n.bi + es.length)] W fun e w' => e = .returned (.tuple #[.int .i64 (ltT n.bt es), .bool true]) ∧ Below W.heap.size W w') := fun W hW => by
    have hW' := h.next hW
    rcases List.eq_nil_or_concat es with rfl | ⟨l, x, rfl⟩
    · have := ntermAt_base hW'
      simpa [ltT] using this
    · rw [List.concat_eq_append] at *
      have := ntermAt_in hW' l.length (by simp) hl hb0 hb1
      rw [ltT_snoc]
      simp only [List.length_append, List.length_cons, List.length_nil, Nat.zero_add] at this ⊢
      rw [show ((l ++ [x])[l.length]'(by simp)) = x by simp] at this
      rw [show n.bi + ((l.length + 1 : Nat) : Int) = n.bi + (l.length : Int) + 1 by omega]
      exact this
  have c3 := h.bx.cellAt (o := 3) rfl
  obtain ⟨ad, cap, c7, -⟩ := h.lgf
  have c3' : w.cell? ⟨nb, 3, none⟩ = some (.int .i64 n.bi) := c3
  have q1 : wrap64 (n.bi + (es.length : Int)) = n.bi + (es.length : Int) := IntWalk.wrap64_in _ (by omega)
  have q2 : IntKind.i64.wrap (n.bi + (es.length : Int)) = n.bi + (es.length : Int) := by rw [IntKind.wrap_i64]; omega
  have HB : Hid (∀ q, Below w.heap.size w (w.drewN q)) := fun q => below_drewN (Below.refl _ _) _
  generalize ltT n.bt es = lt at *
  obtain ⟨s, hs⟩ : ∃ s, n.bi + (es.length : Int) = s := ⟨_, rfl⟩
  rw [hs] at q1 q2 TA ⊢
  clear h hne hl hb0 hb1 c3
  generalize n.bi = bi at *
  generalize es.length = M at *
  go_enter Tryz.func40, Tryz.ntmps40
  go_wp2_with fail
  refine N.out.mono ?_
  rintro e w1 ⟨rfl, rfl⟩
  clear N
  go_wp2
  go_quiet (fail)
  clear q1 q2 c3' c7
  go_wp2_with fail
  refine (TA.out _ (HB.out _)).mono ?_
  rintro e w2 ⟨rfl, b2⟩
  have B2 := hid (below_on (HB.out _) b2)
  clear TA HB b2
  go_wp2
  go_ret2
  exact ⟨by first | rfl | (simp; omega), B2.out⟩
/-- the configuration that a node's log says last -/
def mbL (ms : List Int) (es : List En) : List Int := (latF ⟨ms, 0⟩ 0 es).l
set_option maxRecDepth 100000 in
set_option maxHeartbeats 2000000 in
theorem nmembers_any (h : NdI w B nb n ms es) (hne : ms ≠ []) (hm : ms.length ≤ 17592186044416) (hl : es.length ≤ 17592186044416) (hd : ∀ x ∈ es, x.da.size ≤ 140737488355328) : Calls Tryz.prog 76 #[.pointer (some ⟨nb, 0, none⟩)] w fun e w' => ∃ v', e = .returned v' ∧ IntsI w' v' (mbL ms es) ∧ Below w.heap.size w w' := by
  have N := hid (nisNone_any h hne)
  obtain ⟨ad, cap, c5, e5⟩ := h.bmf
  obtain ⟨ad2, cap2, c7, e7⟩ := h.lgf
  have LA : Hid (∀ q, Calls Tryz.prog 83 #[.slice ad ms.length cap, .slice ad2 es.length cap2] (w.drewN q) fun e w' => ∃ v', e = .returned (.tuple #[v', .int .i64 ((latF ⟨ms, 0⟩ 0 es).p : Nat)]) ∧ IntsI w' v' (mbL ms es) ∧ Below w.heap.size w w') := fun q => by
    have h1 := h.keep (keep_drewN w q) (fun _ _ h => h)
    have hi := h1.mi.ints
    have ho := h1.lo.ents
    rw [e5] at hi
    rw [e7] at ho
    exact (clatest_any _ _ ms es (w.drewN q) hi ho hm hl hd).mono fun e w' ⟨v', he, hi, hb⟩ => ⟨v', he, hi, below_on (below_drewN (Below.refl _ _) _) hb⟩
  have CC : Hid (∀ W, Below w.heap.size w W → W.cell? ⟨nb, 5, none⟩ = some (.slice ad ms.length cap) ∧ W.cell? ⟨nb, 7, none⟩ = some (.slice ad2 es.length cap2)) := fun W hW => ⟨(hW.cell h.lt).trans c5, (hW.cell h.lt).trans c7⟩
  clear h hne hm hl hd e5 e7
  generalize mbL ms es = R at *
  generalize (latF ⟨ms, 0⟩ 0 es).p = P at *
  generalize ms.length = M at *
  generalize es.length = E at *
  go_enter Tryz.func76, Tryz.ntmps76
  go_wp2_with fail
  refine N.out.mono ?_
  rintro e w1 ⟨rfl, rfl⟩
  clear N
  go_wp2
  refine wp_region_held_drew (S := fun W => W.cell? ⟨nb, 5, none⟩ = some (.slice ad M cap) ∧ W.cell? ⟨nb, 7, none⟩ = some (.slice ad2 E cap2)) (by kernel_rfl) ⟨c5, c7⟩ (fun hHeld => ?_)
  refine wpAnyH_take (i := 0) (v := ?vv1) rfl (by kernel_rfl) (by kernel_rfl) (by kernel_rfl) (fun _ _ _ h => h) (Or.inl ⟨by rfl, ?hy1⟩) (by assumption) ?rest1
  case hy1 => (intro w hSw; (try dsimp only at hSw); go_simp; first | done | with_reducible rfl)
  try simp only [Act.put, List.getElem_toArray, List.getElem_cons_succ, List.getElem_cons_zero, List.setIfInBounds_toArray, List.set_cons_zero, List.set_cons_succ]
  refine wpAnyH_take (i := 1) (v := ?vv2) rfl (by kernel_rfl) (by kernel_rfl) (by kernel_rfl) (fun _ _ _ h => h) (Or.inl ⟨by rfl, ?hy2⟩) (by assumption) ?rest2
  case hy2 => (intro w hSw; (try dsimp only at hSw); go_simp; first | done | with_reducible rfl)
  try simp only [Act.put, List.getElem_toArray, List.getElem_cons_succ, List.getElem_cons_zero, List.setIfInBounds_toArray, List.set_cons_zero, List.set_cons_succ]
  refine wpAnyH_take (i := 2) (v := ?vv3) rfl (by kernel_rfl) (by kernel_rfl) (by kernel_rfl) (fun _ _ _ h => h) (Or.inl ⟨by rfl, ?hy3⟩) (by assumption) ?rest3
  case hy3 => (intro w hSw; (try dsimp only at hSw); go_simp; first | done | with_reducible rfl)
  try simp only [Act.put, List.getElem_toArray, List.getElem_cons_succ, List.getElem_cons_zero, List.setIfInBounds_toArray, List.set_cons_zero, List.set_cons_succ]
  refine wpAnyH_take (i := 3) (v := ?vv4) rfl (by kernel_rfl) (by kernel_rfl) (by kernel_rfl) (fun _ _ _ h => h) (Or.inl ⟨by rfl, ?hy4⟩) (by assumption) ?rest4
  case hy4 => (intro w hSw; (try dsimp only at hSw); go_simp; first | done | with_reducible rfl)
  try simp only [Act.put, List.getElem_toArray, List.getElem_cons_succ, List.getElem_cons_zero, List.setIfInBounds_toArray, List.set_cons_zero, List.set_cons_succ]
  refine wpAnyH_take (i := 4) (v := ?vv5) rfl (by kernel_rfl) (by kernel_rfl) (by kernel_rfl) (fun _ _ _ h => h) (Or.inl ⟨by rfl, ?hy5⟩) (by assumption) ?rest5
  case hy5 => (intro w hSw; (try dsimp only at hSw); go_simp; first | done | with_reducible rfl)
  try simp only [Act.put, List.getElem_toArray, List.getElem_cons_succ, List.getElem_cons_zero, List.setIfInBounds_toArray, List.set_cons_zero, List.set_cons_succ]
  refine wpAnyH_take (i := 5) (v := ?vv6) rfl (by kernel_rfl) (by kernel_rfl) (by kernel_rfl) (fun _ _ _ h => h) (Or.inl ⟨by rfl, ?hy6⟩) (by assumption) ?rest6
  case hy6 => (intro w hSw; (try dsimp only at hSw); go_simp; first | done | with_reducible rfl)
  try simp only [Act.put, List.getElem_toArray, List.getElem_cons_succ, List.getElem_cons_zero, List.setIfInBounds_toArray, List.set_cons_zero, List.set_cons_succ]
  refine wpAnyH_take (i := 6) (v := ?vv7) rfl (by kernel_rfl) (by kernel_rfl) (by kernel_rfl) (fun _ _ _ h => h) (Or.inl ⟨by rfl, ?hy7⟩) (by assumption) ?rest7
  case hy7 => (intro w hSw; (try dsimp only at hSw); go_simp; first | done | with_reducible rfl)
  try simp only [Act.put, List.getElem_toArray, List.getElem_cons_succ, List.getElem_cons_zero, List.setIfInBounds_toArray, List.set_cons_zero, List.set_cons_succ]
  refine wpAnyH_take (i := 7) (v := ?vv8) rfl (by kernel_rfl) (by kernel_rfl) (by kernel_rfl) (fun _ _ _ h => h) (Or.inl ⟨by rfl, ?hy8⟩) (by assumption) ?rest8
  case hy8 => (intro w hSw; (try dsimp only at hSw); go_simp; first | done | with_reducible rfl)
  try simp only [Act.put, List.getElem_toArray, List.getElem_cons_succ, List.getElem_cons_zero, List.setIfInBounds_toArray, List.set_cons_zero, List.set_cons_succ]
  refine wpAnyH_take (i := 8) (v := ?vv9) rfl (by kernel_rfl) (by kernel_rfl) (by kernel_rfl) (fun _ _ _ h => h) (Or.inl ⟨by rfl, ?hy9⟩) (by assumption) ?rest9
  case hy9 => (intro w hSw; (try dsimp only at hSw); go_simp; first | done | with_reducible rfl)
  try simp only [Act.put, List.getElem_toArray, List.getElem_cons_succ, List.getElem_cons_zero, List.setIfInBounds_toArray, List.set_cons_zero, List.set_cons_succ]
  refine wpAnyH_ready (rs := [9]) (by kernel_rfl) (by simp) ?_
  refine AllReadyH.cons rfl (fun K hK => ?_) AllReadyH.nil
  go_simp
  refine (LA.out 1).mono ?_
  rintro q1 w2 ⟨v', rfl, hi, hb⟩
  have HI := hid hi
  have HBB := hid hb
  clear LA hi hb hHeld
  go_wp2_with fail
  refine hK.out _ _ (CC.out _ HBB.out) (fun hHeld => ?_)
  clear hK K
  try simp only [Act.put, List.getElem_toArray, List.getElem_cons_succ, List.getElem_cons_zero, List.setIfInBounds_toArray, List.set_cons_zero, List.set_cons_succ]
  refine wpAnyH_take (i := 10) (v := ?vv10) rfl (by kernel_rfl) (by kernel_rfl) (by kernel_rfl) (fun _ _ _ h => h) (Or.inl ⟨by rfl, ?hy10⟩) (by assumption) ?rest10
  case hy10 => (intro w hSw; (try dsimp only at hSw); go_simp; first | done | with_reducible rfl)
  try simp only [Act.put, List.getElem_toArray, List.getElem_cons_succ, List.getElem_cons_zero, List.setIfInBounds_toArray, List.set_cons_zero, List.set_cons_succ]
  refine wpAnyH_take (i := 11) (v := ?vv11) rfl (by kernel_rfl) (by kernel_rfl) (by kernel_rfl) (fun _ _ _ h => h) (Or.inl ⟨by rfl, ?hy11⟩) (by assumption) ?rest11
  case hy11 => (intro w hSw; (try dsimp only at hSw); go_simp; first | done | with_reducible rfl)
  try simp only [Act.put, List.getElem_toArray, List.getElem_cons_succ, List.getElem_cons_zero, List.setIfInBounds_toArray, List.set_cons_zero, List.set_cons_succ]
  refine wpAnyH_take (i := 12) (v := ?vv12) rfl (by kernel_rfl) (by kernel_rfl) (by kernel_rfl) (fun _ _ _ h => h) (Or.inl ⟨by rfl, ?hy12⟩) (by assumption) ?rest12
  case hy12 => (intro w hSw; (try dsimp only at hSw); go_simp; first | done | with_reducible rfl)
  try simp only [Act.put, List.getElem_toArray, List.getElem_cons_succ, List.getElem_cons_zero, List.setIfInBounds_toArray, List.set_cons_zero, List.set_cons_succ]
  refine wpAnyH_take (i := 13) (v := ?vv13) rfl (by kernel_rfl) (by kernel_rfl) (by kernel_rfl) (fun _ _ _ h => h) (Or.inl ⟨by rfl, ?hy13⟩) (by assumption) ?rest13
  case hy13 => (intro w hSw; (try dsimp only at hSw); go_simp; first | done | with_reducible rfl)
  try simp only [Act.put, List.getElem_toArray, List.getElem_cons_succ, List.getElem_cons_zero, List.setIfInBounds_toArray, List.set_cons_zero, List.set_cons_succ]
  refine wpAnyH_take (i := 14) (v := ?vv14) rfl (by kernel_rfl) (by kernel_rfl) (by kernel_rfl) (fun _ _ _ h => h) (Or.inl ⟨by rfl, ?hy14⟩) (by assumption) ?rest14
  case hy14 => (intro w hSw; (try dsimp only at hSw); go_simp; first | done | with_reducible rfl)
  try simp only [Act.put, List.getElem_toArray, List.getElem_cons_succ, List.getElem_cons_zero, List.setIfInBounds_toArray, List.set_cons_zero, List.set_cons_succ]
  refine wpAnyH_done (by kernel_rfl) ?_ _
  clear hHeld
  go_wp2
  go_ret
  exact ⟨_, rfl, HI.out, HBB.out⟩
end
end Go.Proofs.YtnldjcoajliciaaGreat
namespace Go.Proofs.YtnldjcoajliciaaGreat
open Go.RowKit Go.Maps
set_option linter.unusedVariables false
set_option linter.unusedSimpArgs false

/-- the blocks of a node -/
def NdB (nb : Nat) (n : Nd) (j : Nat) : Prop := j = nb ∨ n.bm.ownBlock = some j ∨ n.lg.ownBlock = some j
/-- a node behind some calls on it -/
structure NdG (w : World) (B nb : Nat) (n : Nd) (w' : World) (n' : Nd) (ms : List Int) (es : List En) : Prop where
  nd : NdI w' B nb n' ms es
  kp : Keep (NdB nb n) w w'
  nx : ∀ j, NdB nb n' j → NdB nb n j ∨ w.heap.size ≤ j
section
variable {w w1 w2 : World} {B nb : Nat} {n n1 n2 : Nd} {ms ms1 ms2 : List Int} {es es1 es2 : List En}
theorem NdG.refl (h : NdI w B nb n ms es) : NdG w B nb n w n ms es := ⟨h, Keep.refl _ _, fun j h => .inl h⟩
theorem NdG.trans (h : NdG w B nb n w1 n1 ms1 es1) (k : NdG w1 B nb n1 w2 n2 ms2 es2) : NdG w B nb n w2 n2 ms2 es2 :=
  ⟨k.nd, h.kp.then (T := NdB nb n1) k.kp (fun j hj hT => (h.nx j hT).resolve_right (by omega)), fun j hj => by
    rcases k.nx j hj with h1 | h1
    · exact h.nx j h1
    · exact .inr (Nat.le_trans h.kp.size h1)⟩
theorem NdG.next (h : NdG w B nb n w1 n1 ms es) (b : Below w1.heap.size w1 w2) : NdG w B nb n w2 n1 ms es :=
  ⟨h.nd.next b, h.kp.then (T := fun _ => False) (b.keep _) (fun _ _ h => h.elim), h.nx⟩
theorem NdG.drewN (h : NdG w B nb n w1 n1 ms es) (q : Nat) : NdG w B nb n (w1.drewN q) n1 ms es := h.next (below_drewN (Below.refl _ _) q)
theorem NdG.drew (h : NdG w B nb n w1 n1 ms es) : NdG w B nb n w1.drew n1 ms es := h.next (Below.refl _ _).drew
theorem NdI.bel (h : NdI w B nb n ms es) (k : NdG w B nb n w1 n1 ms1 es1) {C : Nat} (hC : C ≤ B) : Below C w w1 :=
  keep_below k.kp (fun j hj e => by
    have h1 := h.ge
    rcases e with e | e | e
    · omega
    · have := ownsRow_ge h.mi e; omega
    · have := ownsRow_ge h.lo e; omega) (Nat.le_trans hC (Nat.le_trans h.ge (Nat.le_of_lt h.lt)))
theorem NdI.put (h : NdI w B nb n ms es) (o : Nat) (v : Value) (hc : n.c.set o v = n1.c) (h1 : n1.bm = n.bm) (h2 : n1.lg = n.lg) : NdG w B nb n (w.setCell ⟨nb, o, none⟩ v) n1 ms es :=
  ⟨h.set o v hc h1 h2, (keep_setCell w nb o v).mono (fun j _ e => .inl e), fun j hj => by
    rcases hj with e | e | e
    · exact .inl (.inl e)
    · rw [h1] at e; exact .inl (.inr (.inl e))
    · rw [h2] at e; exact .inl (.inr (.inr e))⟩
end
theorem Nd.c_vs (n : Nd) (j : Nat) (v : Value) (hj : j < n.vs.length) : n.c.set (21 + j) v = { n with vs := n.vs.set j v }.c := by
  unfold Nd.c
  rw [List.set_append_right _ _ (by simp), List.set_append_left _ _ (by simp; omega)]
  simp
theorem Nd.c_rn (n : Nd) (x : Int) (h : n.vs.length = 7) : n.c.set 28 (.int .i64 x) = { n with rn := x }.c := by
  unfold Nd.c
  rw [List.set_append_right _ _ (by simp), List.set_append_right _ _ (by simp; omega)]
  simp [h]
theorem Nd.c_be (n : Nd) (x : Int) (h : n.vs.length = 7) : n.c.set 29 (.int .i64 x) = { n with be := x }.c := by
  unfold Nd.c
  rw [List.set_append_right _ _ (by simp), List.set_append_right _ _ (by simp; omega)]
  simp [h]
theorem Nd.c_ps (n : Nd) (j : Nat) (v : Value) (h : n.vs.length = 7) : n.c.set (30 + j) v = { n with ps := n.ps.set j v }.c := by
  unfold Nd.c
  rw [List.set_append_right _ _ (by simp; omega), List.set_append_right _ _ (by simp; omega), List.set_append_right _ _ (by simp; omega)]
  simp [h]
  congr 1
  omega
theorem Nd.g_vs (n : Nd) (j : Nat) (hj : j < n.vs.length) : n.c[21 + j]? = some n.vs[j] := by
  unfold Nd.c
  rw [List.getElem?_append_right (by simp), List.getElem?_append_left (by simp; omega)]
  simp
theorem Nd.g_rn (n : Nd) (h : n.vs.length = 7) : n.c[28]? = some (.int .i64 n.rn) := by
  unfold Nd.c
  rw [List.getElem?_append_right (by simp), List.getElem?_append_right (by simp; omega)]
  simp [h]
theorem Nd.g_be (n : Nd) (h : n.vs.length = 7) : n.c[29]? = some (.int .i64 n.be) := by
  unfold Nd.c
  rw [List.getElem?_append_right (by simp), List.getElem?_append_right (by simp; omega)]
  simp [h]
theorem Nd.g_ps (n : Nd) (j : Nat) (h : n.vs.length = 7) (hj : j < n.ps.length) : n.c[30 + j]? = some n.ps[j] := by
  unfold Nd.c
  rw [List.getElem?_append_right (by simp; omega), List.getElem?_append_right (by simp; omega), List.getElem?_append_right (by simp; omega)]
  simp only [List.length_cons, List.length_nil, h]
  rw [show 30 + j - (0 + 1 + 1 + 1 + 1 + 1 + 1 + 1 + 1 + 1 + 1 + 1 + 1 + 1 + 1 + 1 + 1 + 1 + 1 + 1 + 1 + 1) - 7 - (0 + 1 + 1) = j by omega, List.getElem?_eq_getElem hj]
/-- for how long a draw lets a node wait -/
def wtD (d : Int) : Int := 10 + (d.tmod 11 + 11).tmod 11
theorem wtD_ar (d : Int) : wrap64 (d.tmod 11) = d.tmod 11 ∧ wrap64 (d.tmod 11 + 11) = d.tmod 11 + 11 ∧ wrap64 ((d.tmod 11 + 11).tmod 11) = (d.tmod 11 + 11).tmod 11 ∧ wrap64 (10 + (d.tmod 11 + 11).tmod 11) = 10 + (d.tmod 11 + 11).tmod 11 := by
  have h1 : d.tmod 11 < 11 := Int.tmod_lt_of_pos d (by omega)
  have h2 : -11 < d.tmod 11 := by
    have := Int.tmod_lt_of_pos (-d) (b := 11) (by omega)
    rw [Int.neg_tmod] at this
    omega
  have h3 : (d.tmod 11 + 11).tmod 11 < 11 := Int.tmod_lt_of_pos _ (by omega)
  have h4 : 0 ≤ (d.tmod 11 + 11).tmod 11 := Int.tmod_nonneg _ (by omega)
  refine ⟨?_, ?_, ?_, ?_⟩ <;> exact IntWalk.wrap64_in _ (by omega)
section
variable {w : World} {B nb : Nat} {n : Nd} {ms : List Int} {es : List En}
set_option maxRecDepth 100000 in
set_option maxHeartbeats 1000000 in
theorem nwait_any (h : NdI w B nb n ms es) : Calls Tryz.prog 22 #[.pointer (some ⟨nb, 0, none⟩)] w fun e w' => e = .returned (.tuple #[]) ∧ NdG w B nb n w' { n with wd := 0, wt := wtD n.dr } ms es := by
  have c8 := h.bx.cellAt (o := 11) rfl
  have c9 := h.bx.cellAt (o := 12) rfl
  have c10 := h.bx.cellAt (o := 13) rfl
  have f9 := h.bx.frozen (o := 12)
  have f10 := h.bx.frozen (o := 13)
  obtain ⟨q1, q2, q3, q4⟩ := wtD_ar n.dr
  have FIN : Hid (NdG w B nb n ((w.setCell ⟨nb, 13, none⟩ (.int .i64 0)).setCell ⟨nb, 12, none⟩ (.int .i64 (10 + (n.dr.tmod 11 + 11).tmod 11))) { n with wd := 0, wt := wtD n.dr } ms es) := by
    have k1 := h.put (n1 := { n with wd := 0 }) 13 (.int .i64 0) rfl rfl rfl
    have k2 := k1.nd.put (n1 := { n with wd := 0, wt := wtD n.dr }) 12 (.int .i64 (wtD n.dr)) rfl rfl rfl
    exact k1.trans k2
  clear h
  go_enter Tryz.func22, Tryz.ntmps22
  go_wp2
  go_end0
  exact ⟨rfl, FIN.out⟩
end
end Go.Proofs.YtnldjcoajliciaaGreat
namespace Go.Proofs.YtnldjcoajliciaaGreat
open Go.RowKit Go.Maps
set_option linter.unusedVariables false
set_option linter.unusedSimpArgs false

def ndWa (n : Nd) : Nd := { n with wd := 0, wt := wtD n.dr }
def ndFo (n : Nd) (x : Int) : Nd := if n.rl = 0 then { n with rl := 0, ld := x } else { n with wd := 0, wt := wtD n.dr, rl := 0, ld := x }
def ndRi (n : Nd) (t : Int) : Nd := ndFo { n with tm := t, vt := -1 } (-1)
def ndVo (n : Nd) (x : Int) : Nd := ndWa { n with vt := x }
section
variable {w : World} {B nb : Nat} {n : Nd} {ms : List Int} {es : List En}
theorem nfollow_end (h : NdI w B nb n ms es) (x : Int) : NdG w B nb n ((w.setCell ⟨nb, 9, none⟩ (.int .i64 0)).setCell ⟨nb, 10, none⟩ (.int .i64 x)) { n with rl := 0, ld := x } ms es :=
  have k1 := h.put (n1 := { n with rl := 0 }) 9 (.int .i64 0) rfl rfl rfl
  k1.trans (k1.nd.put (n1 := { n with rl := 0, ld := x }) 10 (.int .i64 x) rfl rfl rfl)
set_option maxRecDepth 100000 in
set_option maxHeartbeats 1000000 in
theorem nfollow_any (h : NdI w B nb n ms es) (x : Int) : Calls Tryz.prog 46 #[.pointer (some ⟨nb, 0, none⟩), .int .i64 x] w fun e w' => e = .returned (.tuple #[]) ∧ NdG w B nb n w' (ndFo n x) ms es := by
  unfold ndFo
  have c9 := h.bx.cellAt (o := 9) rfl
  by_cases hr : n.rl = 0
  · rw [if_pos hr]
    have c10 := h.bx.cellAt (o := 10) rfl
    have f9 := h.bx.frozen (o := 9)
    have f10 := h.bx.frozen (o := 10)
    have FIN := hid (nfollow_end h x)
    have hb : (n.rl != 0) = false := by simp [hr]
    have hd : decide (n.rl = 0) = true := decide_eq_true hr
    generalize n.rl = r at *
    clear h hr
    go_enter Tryz.func46, Tryz.ntmps46
    go_wp2
    go_end0
    exact ⟨rfl, FIN.out⟩
  · rw [if_neg hr]
    have WA := hid (nwait_any h)
    have FIN : Hid (∀ W, NdG w B nb n W { n with wd := 0, wt := wtD n.dr } ms es → W.cell? ⟨nb, 9, none⟩ = some (.int .i64 n.rl) ∧ W.cell? ⟨nb, 10, none⟩ = some (.int .i64 n.ld) ∧ W.frozen? ⟨nb, 9, none⟩ = false ∧ W.frozen? ⟨nb, 10, none⟩ = false ∧ Hid (NdG w B nb n ((W.setCell ⟨nb, 9, none⟩ (.int .i64 0)).setCell ⟨nb, 10, none⟩ (.int .i64 x)) { n with wd := 0, wt := wtD n.dr, rl := 0, ld := x } ms es)) := fun W g => ⟨g.nd.bx.cellAt rfl, g.nd.bx.cellAt rfl, g.nd.bx.frozen, g.nd.bx.frozen, g.trans (nfollow_end g.nd x)⟩
    have hb : (n.rl != 0) = true := by simp [hr]
    have hd : decide (n.rl = 0) = false := decide_eq_false hr
    generalize hrr : n.rl = r at *
    clear h hr hrr
    go_enter Tryz.func46, Tryz.ntmps46
    go_wp2_with fail
    refine WA.out.mono ?_
    rintro e w1 ⟨rfl, g1⟩
    obtain ⟨d9, d10, f9, f10, F2⟩ := FIN.out w1 g1
    clear WA g1 FIN c9
    go_wp2
    go_end0
    exact ⟨rfl, F2.out⟩
set_option maxRecDepth 100000 in
set_option maxHeartbeats 1000000 in
theorem nrise_any (h : NdI w B nb n ms es) (t : Int) : Calls Tryz.prog 25 #[.pointer (some ⟨nb, 0, none⟩), .int .i64 t] w fun e w' => e = .returned (.tuple #[]) ∧ NdG w B nb n w' (ndRi n t) ms es := by
  have c1 := h.bx.cellAt (o := 1) rfl
  have c2 := h.bx.cellAt (o := 2) rfl
  have f1 := h.bx.frozen (o := 1)
  have f2 := h.bx.frozen (o := 2)
  have k1 := h.put (n1 := { n with tm := t }) 1 (.int .i64 t) rfl rfl rfl
  have k2 := k1.trans (k1.nd.put (n1 := { n with tm := t, vt := -1 }) 2 (.int .i64 (-1)) rfl rfl rfl)
  have FO : Hid (Calls Tryz.prog 46 #[.pointer (some ⟨nb, 0, none⟩), .int .i64 (-1)] ((w.setCell ⟨nb, 1, none⟩ (.int .i64 t)).setCell ⟨nb, 2, none⟩ (.int .i64 (-1))) fun e w' => e = .returned (.tuple #[]) ∧ NdG w B nb n w' (ndRi n t) ms es) := (nfollow_any k2.nd (-1)).mono fun e w' ⟨he, g⟩ => ⟨he, k2.trans g⟩
  clear h k1 k2
  go_enter Tryz.func25, Tryz.ntmps25
  go_wp2_with fail
  refine FO.out.mono ?_
  rintro e w1 ⟨rfl, g1⟩
  have G1 := hid g1
  clear FO g1 c1 c2 f1 f2
  go_wp2
  go_end0
  exact ⟨rfl, G1.out⟩
set_option maxRecDepth 100000 in
set_option maxHeartbeats 1000000 in
theorem nvote_any (h : NdI w B nb n ms es) (x : Int) : Calls Tryz.prog 49 #[.pointer (some ⟨nb, 0, none⟩), .int .i64 x] w fun e w' => e = .returned (.tuple #[]) ∧ NdG w B nb n w' (ndVo n x) ms es := by
  have c2 := h.bx.cellAt (o := 2) rfl
  have f2 := h.bx.frozen (o := 2)
  have k1 := h.put (n1 := { n with vt := x }) 2 (.int .i64 x) rfl rfl rfl
  have FO : Hid (Calls Tryz.prog 22 #[.pointer (some ⟨nb, 0, none⟩)] (w.setCell ⟨nb, 2, none⟩ (.int .i64 x)) fun e w' => e = .returned (.tuple #[]) ∧ NdG w B nb n w' (ndVo n x) ms es) := (nwait_any k1.nd).mono fun e w' ⟨he, g⟩ => ⟨he, k1.trans g⟩
  clear h k1
  go_enter Tryz.func49, Tryz.ntmps49
  go_wp2_with fail
  refine FO.out.mono ?_
  rintro e w1 ⟨rfl, g1⟩
  have G1 := hid g1
  clear FO g1 c2 f2
  go_wp2
  go_end0
  exact ⟨rfl, G1.out⟩
set_option maxRecDepth 100000 in
set_option maxHeartbeats 1000000 in
theorem nisMember_any (h : NdI w B nb n ms es) (hne : ms ≠ []) (hm : ms.length ≤ 17592186044416) (hl : es.length ≤ 17592186044416) (hd : ∀ x ∈ es, x.da.size ≤ 140737488355328) (hq : (mbL ms es).length ≤ 9223372036854775807) (x : Int) : Calls Tryz.prog 68 #[.pointer (some ⟨nb, 0, none⟩), .int .i64 x] w fun e w' => e = .returned (.bool (hasI x (mbL ms es))) ∧ Below w.heap.size w w' := by
  have ME := hid (nmembers_any h hne hm hl hd)
  have HA : Hid (∀ v W, IntsI W v (mbL ms es) → Calls Tryz.prog 82 #[v, .int .i64 x] W fun e w' => e = .returned (.bool (hasI x (mbL ms es))) ∧ w' = W) := fun v W hv => chas_any v _ x W hv hq
  clear h hne hm hl hd hq
  generalize hasI x (mbL ms es) = R at *
  go_enter Tryz.func68, Tryz.ntmps68
  go_wp2_with fail
  refine ME.out.mono ?_
  rintro e w1 ⟨v', rfl, hi, b1⟩
  have HA1 := hid (HA.out v' w1 hi)
  have B1 := hid b1
  clear ME hi b1 HA
  go_wp2_with fail
  refine HA1.out.mono ?_
  rintro e w2 ⟨rfl, rfl⟩
  clear HA1
  go_wp2
  go_ret
  exact ⟨rfl, B1.out⟩
end
end Go.Proofs.YtnldjcoajliciaaGreat
namespace Go.Proofs.YtnldjcoajliciaaGreat
open Go.RowKit Go.Maps
set_option linter.unusedVariables false
set_option linter.unusedSimpArgs false

theorem nodes_at (f : Int → Bool) (k : Nat) (hk : k < 7) : ((nodesF 7 0).drop k).filter f = (if f (k : Int) = true then [(k : Int)] else []) ++ ((nodesF 7 0).drop (k + 1)).filter f := by
  rw [nds_at k hk, List.filter_cons]
  split <;> rfl
theorem nodes_len (f : Int → Bool) : ((nodesF 7 0).filter f).length ≤ 7 := List.length_filter_le ..
section
variable {w : World} {B nb : Nat} {n : Nd} {ms : List Int} {es : List En}
set_option maxRecDepth 100000 in
set_option maxHeartbeats 4000000 in
theorem nenough_chosen (h : NdI w B nb n ms es) (hne : ms ≠ []) (hm : ms.length ≤ 17592186044416) (hl : es.length ≤ 17592186044416) (hd : ∀ x ∈ es, x.da.size ≤ 140737488355328) (hq : (mbL ms es).length ≤ 4611686018427387904) (b : Nat) (f : Int → Bool)
    (hcl : ∀ (k : Nat) W, k < 7 → Below w.heap.size w W → Calls Tryz.prog 73 #[.int .i64 (k : Int), .pointer (some ⟨b, 0, none⟩)] W fun e w' => e = .returned (.bool (f (k : Int))) ∧ Below W.heap.size W w') :
    Calls Tryz.prog 64 #[.pointer (some ⟨nb, 0, none⟩), .func (.func 73) #[] #[.pointer (some ⟨b, 0, none⟩)]] w fun e w' => e = .returned (.bool (engC (mbL ms es) ((nodesF 7 0).filter f))) ∧ Below w.heap.size w w' := by
  have ME : Hid (∀ W, Below w.heap.size w W → Calls Tryz.prog 76 #[.pointer (some ⟨nb, 0, none⟩)] W fun e w' => ∃ ad cap, e = .returned (.slice ad (mbL ms es).length cap) ∧ IntsI w' (.slice ad (mbL ms es).length cap) (mbL ms es) ∧ Below W.heap.size W w') := fun W b => (nmembers_any (h.next b) hne hm hl hd).mono fun e w' ⟨v, he, hi, hb⟩ => by
    obtain ⟨ad, cap, rfl, -⟩ := hi.form
    exact ⟨ad, cap, he, hi, hb⟩
  have EN : Hid (∀ v v2 o W, IntsI W v (mbL ms es) → IntsI W v2 o → o.length ≤ 7 → Calls Tryz.prog 79 #[v, v2] W fun e w' => e = .returned (.bool (engC (mbL ms es) o)) ∧ w' = W) := fun v v2 o W h1 h2 h3 => cenough_any v v2 _ o W h1 h2 hq (by omega)
  have CL := hid hcl
  have HR : Hid (∃ R, R = (nodesF 7 0).filter f) := ⟨_, rfl⟩
  obtain ⟨R, HR0⟩ := HR.out
  have HRL : Hid (R.length ≤ 7) := by show _ ≤ _; rw [HR0]; exact nodes_len f
  clear HR
  have HR : Hid (R = ((nodesF 7 0).drop 0).filter f) := HR0
  clear HR0
  rw [show (nodesF 7 0).filter f = R from HR.out.symm]
  clear hcl h hne hm hl hd hq
  generalize mbL ms es = M at *
  go_enter Tryz.func64, Tryz.ntmps64
  go_wp2
  go_loopw [5, 7] (fun t i wr => ∃ (k : Nat) (acc : List Int) (ad : Option Addr) (cap : Nat), k ≤ 7 ∧ t = .slice ad acc.length cap ∧ i = .int .i64 (k : Int) ∧ Hid (acc.length ≤ k) ∧ Hid (OwnI wr w.heap.size (.slice ad acc.length cap) acc) ∧ Hid (Below w.heap.size w wr) ∧ Hid (R = acc ++ ((nodesF 7 0).drop k).filter f)) (fun _ i _ => 7 - (intOf i).toNat)
  case atStart => exact ⟨0, [], none, 0, by omega, rfl, rfl, Nat.le_refl _, ownI_nil _ _, Below.refl _ _, by rw [List.nil_append]; exact HR⟩
  case round =>
    clear HR
    obtain ⟨k, acc, ad, cap, hk, rfl, rfl, HA, HO, HB, HR⟩ := hrel
    by_cases hlt : k < 7
    · have hk7 : (k : Int) < 7 := by omega
      have HRA := hid (nodes_at f k hlt)
      have CK := hid (fun W hW => CL.out k W hlt hW)
      have HA2 : Hid (acc.length + 1 ≤ k + 1) := by have := HA.out; show _ ≤ _; omega
      have HA3 : Hid (acc.length + 1 ≤ 70368744177) := by have := HA.out; show _ ≤ _; omega
      have HA4 : Hid (acc.length ≤ k + 1) := by have := HA.out; show _ ≤ _; omega
      have CK2 := hid (CK.out wr HB.out)
      clear CK CL ME EN HRL
      cases hq : f (k : Int)
      · rw [hq] at CK2
        have HR2 : Hid (R = acc ++ ((nodesF 7 0).drop (k + 1)).filter f) := by show _ = _; rw [HR.out, HRA.out, hq]; rfl
        clear HR HRA HA HA2 HA3 hq
        go_wp2_with fail
        refine CK2.out.mono ?_
        rintro e w2 ⟨rfl, b2⟩
        have HO2 := hid (HO.out.next b2)
        have HB2 := hid (below_on HB.out b2)
        clear b2 HO HB CK2
        go_wp2
        exact ⟨⟨k + 1, acc, ad, cap, by omega, rfl, by go_num, HA4, HO2, HB2, HR2⟩, by simp [intOf]; omega⟩
      · rw [hq] at CK2
        have HR2 : Hid (R = (acc ++ [(k : Int)]) ++ ((nodesF 7 0).drop (k + 1)).filter f) := by show _ = _; rw [HR.out, HRA.out, hq, if_pos rfl, List.append_assoc]
        clear HR HRA HA HA4 hq
        go_wp2_with fail
        refine CK2.out.mono ?_
        rintro e w2 ⟨rfl, b2⟩
        have HNX : Hid (RowIs (w2.alloc (.cells #[.int .i64 (k : Int)] 3)) w2.heap.size [.int .i64 (k : Int)] 3) := srow w2 [.int .i64 (k : Int)] 3
        have HON : Hid (OwnI (w2.alloc (.cells #[.int .i64 (k : Int)] 3)) w.heap.size (.slice ad acc.length cap) acc) := own_new (HO.out.next b2) _
        have HBN : Hid (Below w.heap.size w (w2.alloc (.cells #[.int .i64 (k : Int)] 3))) := below_al (below_on HB.out b2) _
        clear b2 HO HB CK2
        go_wp2_with (at_builtin; refine wpl_iapp rfl _ _ rfl w.heap.size w2.heap.size acc.length (.slice ad acc.length cap) acc (k : Int) rfl rfl rfl HON.out HBN.out.size HNX.out HA3.out ?_; intro ad' cap' w' ho' hk')
        have HO' := hid ho'
        have HB' : Hid (Below w.heap.size w w') := HBN.out.trans hk'
        clear ho' hk' HON HBN HNX
        go_wp2
        exact ⟨⟨k + 1, acc ++ [(k : Int)], ad', cap', by omega, by simp, by go_num, hid (by simpa using HA2.out), hid (by simpa using HO'.out), HB', HR2⟩, by simp [intOf]; omega⟩
    · have hk9 : k = 7 := by omega
      subst hk9
      have HR2 : Hid (acc = R) := by show _ = _; rw [HR.out]; simp [nodesF]
      have hr2 := HR2.out
      subst hr2
      have ME2 := hid (ME.out wr HB.out)
      clear HR HR2 HA CL ME hlt hk
      go_wp2_with fail
      refine ME2.out.mono ?_
      rintro e w2 ⟨ad2, cap2, rfl, hi, b2⟩
      have EN2 := hid (EN.out _ (.slice ad acc.length cap) acc w2 hi (HO.out.next b2).ints HRL.out)
      have HB2 := hid (below_on HB.out b2)
      clear hi b2 ME2 EN HO HB
      go_wp2_with fail
      refine EN2.out.mono ?_
      rintro e w3 ⟨rfl, rfl⟩
      clear EN2
      go_wp2
      go_ret
      exact ⟨rfl, HB2.out⟩
end
end Go.Proofs.YtnldjcoajliciaaGreat
namespace Go.Proofs.YtnldjcoajliciaaGreat
open Go.RowKit Go.Maps
set_option linter.unusedVariables false
set_option linter.unusedSimpArgs false

set_option maxRecDepth 100000 in
set_option maxHeartbeats 1000000 in
theorem nisSame_of {w : World} {nb : Nat} (i t t' : Int) (is : Bool) (TA : Calls Tryz.prog 72 #[.pointer (some ⟨nb, 0, none⟩), .int .i64 i] w fun e w' => e = .returned (.tuple #[.int .i64 t', .bool is]) ∧ Below w.heap.size w w') :
    Calls Tryz.prog 55 #[.pointer (some ⟨nb, 0, none⟩), .int .i64 i, .int .i64 t] w fun e w' => e = .returned (.bool (is && decide (t' = t))) ∧ Below w.heap.size w w' := by
  have TAH := hid TA
  clear TA
  cases is
  · go_enter Tryz.func55, Tryz.ntmps55
    go_wp2_with fail
    refine TAH.out.mono ?_
    rintro e w1 ⟨rfl, b1⟩
    have B1 := hid b1
    clear TAH b1
    go_wp2
    go_ret
    exact ⟨rfl, B1.out⟩
  · go_enter Tryz.func55, Tryz.ntmps55
    go_wp2_with fail
    refine TAH.out.mono ?_
    rintro e w1 ⟨rfl, b1⟩
    have B1 := hid b1
    clear TAH b1
    go_wp2
    go_ret
    exact ⟨by first | rfl | simp | (by_cases h : t' = t <;> simp [h]), B1.out⟩
/-- what a leader knows of a node that it meets -/
def psM (ps : List Value) (k : Nat) (x : Int) : List Value := ((((ps.set (5 * k) (.int .i64 x)).set (5 * k + 1) (.int .i64 0)).set (5 * k + 2) (.int .i64 0)).set (5 * k + 3) (.int .i64 (-1))).set (5 * k + 4) (.int .i64 0)
theorem psM_len (ps : List Value) (k : Nat) (x : Int) : (psM ps k x).length = ps.length := by simp [psM]
section
variable {w : World} {B nb : Nat} {n : Nd} {ms : List Int} {es : List En}
theorem nmeet_end (h : NdI w B nb n ms es) (k : Nat) (x : Int) (h7 : n.vs.length = 7) : NdG w B nb n (((((w.setCell ⟨nb, 30 + k * 5, none⟩ (.int .i64 x)).setCell ⟨nb, 30 + k * 5 + 1, none⟩ (.int .i64 0)).setCell ⟨nb, 30 + k * 5 + 2, none⟩ (.int .i64 0)).setCell ⟨nb, 30 + k * 5 + 3, none⟩ (.int .i64 (-1))).setCell ⟨nb, 30 + k * 5 + 4, none⟩ (.int .i64 0)) { n with ps := psM n.ps k x } ms es := by
  have s : ∀ {W : World} {m : Nd} (g : NdI W B nb m ms es) (_ : m.vs.length = 7) (j : Nat) (v : Value), NdG W B nb m (W.setCell ⟨nb, 30 + j, none⟩ v) { m with ps := m.ps.set j v } ms es := fun g h j v => g.put (30 + j) v (Nd.c_ps _ j v h) rfl rfl
  have k1 := s h h7 (5 * k) (.int .i64 x)
  have k2 := k1.trans (s k1.nd h7 (5 * k + 1) (.int .i64 0))
  have k3 := k2.trans (s k2.nd h7 (5 * k + 2) (.int .i64 0))
  have k4 := k3.trans (s k3.nd h7 (5 * k + 3) (.int .i64 (-1)))
  have k5 := k4.trans (s k4.nd h7 (5 * k + 4) (.int .i64 0))
  rw [show 30 + k * 5 = 30 + 5 * k by omega]
  exact k5
set_option maxRecDepth 100000 in
set_option maxHeartbeats 1000000 in
theorem nmeet_any (h : NdI w B nb n ms es) (hne : ms ≠ []) (hl : es.length ≤ 17592186044416) (hb0 : 0 ≤ n.bi) (hb1 : n.bi ≤ 1099511627776) (h7 : n.vs.length = 7) (h35 : n.ps.length = 35) (k : Nat) (hk : k < 7) :
    Calls Tryz.prog 74 #[.pointer (some ⟨nb, 0, none⟩), .int .i64 (k : Int)] w fun e w' => e = .returned (.tuple #[]) ∧ NdG w B nb n w' { n with ps := psM n.ps k (n.bi + es.length + 1) } ms es := by
  have LA := hid (nlast_any h hne hl hb0 hb1)
  have hw : wrap64 (n.bi + (es.length : Int) + 1) = n.bi + (es.length : Int) + 1 := IntWalk.wrap64_in _ (by omega)
  have FIN : Hid (∀ W, Below w.heap.size w W → (∃ u0 u1 u2 u3 u4, W.cell? ⟨nb, 30 + k * 5, none⟩ = some u0 ∧ W.cell? ⟨nb, 30 + k * 5 + 1, none⟩ = some u1 ∧ W.cell? ⟨nb, 30 + k * 5 + 2, none⟩ = some u2 ∧ W.cell? ⟨nb, 30 + k * 5 + 3, none⟩ = some u3 ∧ W.cell? ⟨nb, 30 + k * 5 + 4, none⟩ = some u4) ∧ (∀ o, W.frozen? ⟨nb, o, none⟩ = false) ∧ Hid (NdG w B nb n (((((W.setCell ⟨nb, 30 + k * 5, none⟩ (.int .i64 (n.bi + (es.length : Int) + 1))).setCell ⟨nb, 30 + k * 5 + 1, none⟩ (.int .i64 0)).setCell ⟨nb, 30 + k * 5 + 2, none⟩ (.int .i64 0)).setCell ⟨nb, 30 + k * 5 + 3, none⟩ (.int .i64 (-1))).setCell ⟨nb, 30 + k * 5 + 4, none⟩ (.int .i64 0)) { n with ps := psM n.ps k (n.bi + es.length + 1) } ms es)) := fun W hW => by
    have hb := (NdG.refl h).next hW
    have g : ∀ j (hj : j < 35), W.cell? ⟨nb, 30 + j, none⟩ = some (n.ps[j]'(by omega)) := fun j hj => hb.nd.bx.cellAt (Nd.g_ps n j h7 (by omega))
    refine ⟨⟨_, _, _, _, _, g (k * 5) (by omega), by rw [Nat.add_assoc]; exact g (k * 5 + 1) (by omega), by rw [Nat.add_assoc]; exact g (k * 5 + 2) (by omega), by rw [Nat.add_assoc]; exact g (k * 5 + 3) (by omega), by rw [Nat.add_assoc]; exact g (k * 5 + 4) (by omega)⟩, fun o => hb.nd.bx.frozen, hb.trans (nmeet_end hb.nd k _ h7)⟩
  have r0 : (0 : Int) ≤ (k : Int) := by omega
  have r1 : (k : Int) < 7 := by omega
  generalize ltT n.bt es = lt at *
  generalize n.bi + (es.length : Int) = s at *
  generalize { n with ps := psM n.ps k (s + 1) } = n2 at *
  clear h hne hl hb0 hb1 h7 h35 hk
  go_enter Tryz.func74, Tryz.ntmps74
  go_wp2_with fail
  refine LA.out.mono ?_
  rintro e w1 ⟨rfl, b1⟩
  obtain ⟨⟨u0, u1, u2, u3, u4, c0, c1, c2, c3, c4⟩, ff, F2⟩ := FIN.out w1 b1
  have f0 := ff (30 + k * 5)
  have f1 := ff (30 + k * 5 + 1)
  have f2 := ff (30 + k * 5 + 2)
  have f3 := ff (30 + k * 5 + 3)
  have f4 := ff (30 + k * 5 + 4)
  clear LA FIN b1 ff
  go_wp2
  go_end0
  exact ⟨rfl, F2.out⟩
end
end Go.Proofs.YtnldjcoajliciaaGreat
namespace Go.Proofs.YtnldjcoajliciaaGreat
open Go.RowKit Go.Maps
set_option linter.unusedVariables false
set_option linter.unusedSimpArgs false

section
variable {w w1 : World} {B nb : Nat} {n : Nd} {ms : List Int} {es : List En}
theorem NdI.app (h : NdI w B nb n ms es) (x : En) {v' : Value} (ho : w1.ownsRow B 52 3 v' (es.length + 1) (ensC es ++ enC x)) (hk : Keep (fun k => n.lg.ownBlock = some k) w w1) (hl : LocG w n.lg v') : NdG w B nb n (w1.setCell ⟨nb, 7, none⟩ v') { n with lg := v' } ms (es ++ [x]) := by
  have rB := h.bx.keep hk (h.nm.2 nb · rfl)
  have kS := keep_setCell w1 nb 7 v'
  have hlo := h.lo
  unfold OwnE at hlo
  have hmi := hk.ownsRow h.mi (fun g hg e => rows_apart2 h.mi hlo (by decide) hg e)
  have h2 : OwnE w1 B v' (es ++ [x]) := by
    unfold OwnE
    rw [ensC_snoc, List.length_append]
    exact ho
  refine ⟨⟨rB.set 7 v', h.ge, kS.ownsRow hmi (fun g hg e => own_ne_row hmi rB (by decide) (e ▸ hg)), kS.ownsRow h2 (fun g hg e => own_ne_row h2 rB (by decide) (e ▸ hg))⟩, ?_, ?_⟩
  · exact (hk.mono (fun j _ e => .inr (.inr e))).then (T := (· = nb)) kS (fun j _ e => .inl e)
  · intro j hj
    rcases hj with e | e | e
    · exact .inl (.inl e)
    · exact .inl (.inr (.inl e))
    · rcases hl with h1 | ⟨g, h1, h2⟩
      · exact .inl (.inr (.inr (by rw [← h1]; exact e)))
      · have e2 : v'.ownBlock = some j := e
        rw [h1] at e2
        injection e2 with e2
        exact .inr (by omega)
theorem lay_ar (bi : Int) (es : List En) (x : En) (t : Int) : Ending.returned (.tuple #[.int .i64 (bi + (((es ++ [x]).length : Nat) : Int)), .int .i64 t]) = Ending.returned (.tuple #[.int .i64 (bi + (es.length : Int) + 1), .int .i64 t]) := by
  have hlen : bi + (((es ++ [x]).length : Nat) : Int) = bi + (es.length : Int) + 1 := by simp; omega
  rw [hlen]
set_option maxRecDepth 100000 in
set_option maxHeartbeats 4000000 in
theorem nlay_of (h : NdI w B nb n ms es) (hne : ms ≠ []) (hl : es.length ≤ 1000000) (hb0 : 0 ≤ n.bi) (hb1 : n.bi ≤ 1099511627776) (kd : Int) (da : ByteArray) (cm : Int) (n2 : Value → Nd)
    (hA : ∀ W lg', NdG w B nb n W { n with lg := lg' } ms (es ++ [⟨n.tm, kd, da⟩]) → Calls Tryz.prog 60 #[.pointer (some ⟨nb, 0, none⟩)] W fun e w' => (∃ b, e = .returned (.bool b)) ∧ NdG w B nb n w' { n with lg := lg', cm := cm } ms (es ++ [⟨n.tm, kd, da⟩]))
    (hT : ∀ W lg', NdG w B nb n W { n with lg := lg', cm := cm } ms (es ++ [⟨n.tm, kd, da⟩]) → Calls Tryz.prog 61 #[.pointer (some ⟨nb, 0, none⟩)] W fun e w' => e = .returned (.slice none 0 0) ∧ NdG w B nb n w' (n2 lg') ms (es ++ [⟨n.tm, kd, da⟩])) :
    Calls Tryz.prog 37 #[.pointer (some ⟨nb, 0, none⟩), .int .i64 kd, .string da] w fun e w' => e = .returned (.tuple #[.int .i64 (n.bi + es.length + 1), .slice none 0 0]) ∧ ∃ lg', NdG w B nb n w' (n2 lg') ms (es ++ [⟨n.tm, kd, da⟩]) := by
  have HA := hid hA
  have HT := hid hT
  have LA : Hid (∀ W lg', NdG w B nb n W { n with lg := lg' } ms (es ++ [⟨n.tm, kd, da⟩]) → Calls Tryz.prog 40 #[.pointer (some ⟨nb, 0, none⟩)] W fun e w' => (∃ t, e = .returned (.tuple #[.int .i64 (n.bi + es.length + 1), .int .i64 t])) ∧ NdG w B nb n w' { n with lg := lg' } ms (es ++ [⟨n.tm, kd, da⟩])) := fun W lg' g =>
    (nlast_any g.nd hne (by simp; omega) hb0 hb1).mono fun e w' ⟨he, hb⟩ => ⟨⟨_, he.trans (lay_ar n.bi es ⟨n.tm, kd, da⟩ _)⟩, g.next hb⟩
  obtain ⟨ad, cap, c7, e7⟩ := h.lgf
  have c1 := h.bx.cellAt (o := 1) rfl
  have c1' : w.cell? ⟨nb, 1, none⟩ = some (.int .i64 n.tm) := c1
  have HV : Hid (NdG w B nb n w.drew n ms es) := (NdG.refl h).drew
  have HC1 : Hid (∀ u ∈ enC ⟨n.tm, kd, da⟩, u.oneCell' = true) := enC_cell1 _
  have HL1 : Hid (es.length + 1 ≤ 70368744177) := by show _ ≤ _; omega
  have HL2 : Hid ((es.length + 1) * 32 ≤ 140737488355328) := by show _ ≤ _; omega
  have HE7 := hid e7
  clear h hne hl hb0 hb1 c1 e7 hA hT
  generalize hs : n.bi + (es.length : Int) + 1 = s at *
  clear hs
  go_enter Tryz.func37, Tryz.ntmps37
  go_wp2
  refine wp_region_held_drew (S := fun W => W.cell? ⟨nb, 1, none⟩ = some (.int .i64 n.tm)) (by kernel_rfl) c1' (fun hHeld => ?_)
  generalize w.drew = V at *
  have c7 : V.cell? ⟨nb, 7, none⟩ = some (.slice ad es.length cap) := by rw [← HE7.out]; exact HV.out.nd.bx.cellAt rfl
  have Z0 : V.cell? ⟨nb, 1, none⟩ = some (.int .i64 n.tm) := HV.out.nd.bx.cellAt rfl
  have G1 := hid (HV.out.next (below_al (Below.refl _ _) (.cells #[.int .i64 n.tm, .int .i64 kd, .string da] 52)))
  have Z1 : (V.alloc (.cells #[.int .i64 n.tm, .int .i64 kd, .string da] 52)).cell? ⟨nb, 1, none⟩ = some (.int .i64 n.tm) := G1.out.nd.bx.cellAt rfl
  have d7 : (V.alloc (.cells #[.int .i64 n.tm, .int .i64 kd, .string da] 52)).cell? ⟨nb, 7, none⟩ = some (.slice ad es.length cap) := by rw [← HE7.out]; exact G1.out.nd.bx.cellAt rfl
  have OG : Hid ((V.alloc (.cells #[.int .i64 n.tm, .int .i64 kd, .string da] 52)).ownsRow B 52 3 (.slice ad es.length cap) es.length (ensC es)) := by have := G1.out.nd.lo; unfold OwnE at this; rw [HE7.out] at this; exact this
  have HBZ : Hid (B ≤ (V.alloc (.cells #[.int .i64 n.tm, .int .i64 kd, .string da] 52)).heap.size) := Nat.le_trans G1.out.nd.ge (Nat.le_of_lt G1.out.nd.lt)
  have GX : Hid (GSrc (V.alloc (.cells #[.int .i64 n.tm, .int .i64 kd, .string da] 52)) (.slice (some ⟨V.heap.size, 0, none⟩) 1 1) 1 (enC ⟨n.tm, kd, da⟩)) := gsrc_block (heap_alloc_new _ _)
  have FIN : Hid (∀ v' w1, w1.ownsRow B 52 3 v' (es.length + 1) (ensC es ++ enC ⟨n.tm, kd, da⟩) → Keep (fun k => (Value.slice ad es.length cap).ownBlock = some k) (V.alloc (.cells #[.int .i64 n.tm, .int .i64 kd, .string da] 52)) w1 → LocG (V.alloc (.cells #[.int .i64 n.tm, .int .i64 kd, .string da] 52)) (Value.slice ad es.length cap) v' → w1.cell? ⟨nb, 1, none⟩ = some (.int .i64 n.tm) ∧ (w1.frozen? ⟨nb, 7, none⟩ = false ∧ w1.cell? ⟨nb, 7, none⟩ = some (.slice ad es.length cap)) ∧ (w1.setCell ⟨nb, 7, none⟩ v').cell? ⟨nb, 1, none⟩ = some (.int .i64 n.tm) ∧ Hid (NdG w B nb n (w1.setCell ⟨nb, 7, none⟩ v') { n with lg := v' } ms (es ++ [⟨n.tm, kd, da⟩]))) := fun v' w1 ho hk hl => by
    rw [← HE7.out] at hk hl
    have g := G1.out.nd.app _ ho hk hl
    have rB := G1.out.nd.bx.keep hk (G1.out.nd.nm.2 nb · rfl)
    exact ⟨rB.cellAt rfl, ⟨rB.frozen, by rw [← HE7.out]; exact rB.cellAt rfl⟩, g.nd.bx.cellAt rfl, G1.out.trans g⟩
  clear HV
  refine wpAnyH_take (i := 0) (v := ?vv1) rfl (by kernel_rfl) (by kernel_rfl) (by kernel_rfl) (fun _ _ _ h => h) (Or.inl ⟨by rfl, ?hy1⟩) (by assumption) ?rest1
  case hy1 => (intro w hSw; (try dsimp only at hSw); go_simp; first | done | with_reducible rfl)
  try simp only [Act.put, List.getElem_toArray, List.getElem_cons_succ, List.getElem_cons_zero, List.setIfInBounds_toArray, List.set_cons_zero, List.set_cons_succ]
  refine wpAnyH_take (i := 1) (v := ?vv2) rfl (by kernel_rfl) (by kernel_rfl) (by kernel_rfl) (fun _ _ _ h => h) (Or.inl ⟨by rfl, ?hy2⟩) (by assumption) ?rest2
  case hy2 => (intro w hSw; (try dsimp only at hSw); go_simp; first | done | with_reducible rfl)
  try simp only [Act.put, List.getElem_toArray, List.getElem_cons_succ, List.getElem_cons_zero, List.setIfInBounds_toArray, List.set_cons_zero, List.set_cons_succ]
  refine wpAnyH_take (i := 2) (v := ?vv3) rfl (by kernel_rfl) (by kernel_rfl) (by kernel_rfl) (fun _ _ _ h => h) (Or.inl ⟨by rfl, ?hy3⟩) (by assumption) ?rest3
  case hy3 => (intro w hSw; (try dsimp only at hSw); go_simp; first | done | with_reducible rfl)
  try simp only [Act.put, List.getElem_toArray, List.getElem_cons_succ, List.getElem_cons_zero, List.setIfInBounds_toArray, List.set_cons_zero, List.set_cons_succ]
  refine wpAnyH_take (i := 3) (v := ?vv4) rfl (by kernel_rfl) (by kernel_rfl) (by kernel_rfl) (fun _ _ _ h => h) (Or.inl ⟨by rfl, ?hy4⟩) (by assumption) ?rest4
  case hy4 => (intro w hSw; (try dsimp only at hSw); go_simp; first | done | with_reducible rfl)
  try simp only [Act.put, List.getElem_toArray, List.getElem_cons_succ, List.getElem_cons_zero, List.setIfInBounds_toArray, List.set_cons_zero, List.set_cons_succ]
  refine wpAnyH_take (i := 5) (v := ?vv5) rfl (by kernel_rfl) (by kernel_rfl) (by kernel_rfl) (fun _ _ _ h => h) (Or.inl ⟨by rfl, ?hy5⟩) (by assumption) ?rest5
  case hy5 => (intro w hSw; (try dsimp only at hSw); go_simp; first | done | with_reducible rfl)
  try simp only [Act.put, List.getElem_toArray, List.getElem_cons_succ, List.getElem_cons_zero, List.setIfInBounds_toArray, List.set_cons_zero, List.set_cons_succ]
  refine wpAnyH_take (i := 6) (v := ?vv6) rfl (by kernel_rfl) (by kernel_rfl) (by kernel_rfl) (fun _ _ _ h => h) (Or.inl ⟨by rfl, ?hy6⟩) (by assumption) ?rest6
  case hy6 => (intro w hSw; (try dsimp only at hSw); go_simp; first | done | with_reducible rfl)
  try simp only [Act.put, List.getElem_toArray, List.getElem_cons_succ, List.getElem_cons_zero, List.setIfInBounds_toArray, List.set_cons_zero, List.set_cons_succ]
  refine wpAnyH_take (i := 7) (v := ?vv7) rfl (by kernel_rfl) (by kernel_rfl) (by kernel_rfl) (fun _ _ _ h => h) (Or.inl ⟨by rfl, ?hy7⟩) (by assumption) ?rest7
  case hy7 => (intro w hSw; (try dsimp only at hSw); go_simp; first | done | with_reducible rfl)
  try simp only [Act.put, List.getElem_toArray, List.getElem_cons_succ, List.getElem_cons_zero, List.setIfInBounds_toArray, List.set_cons_zero, List.set_cons_succ]
  refine wpAnyH_take (i := 8) (v := ?vv8) rfl (by kernel_rfl) (by kernel_rfl) (by kernel_rfl) (fun _ _ _ h => h) (Or.inl ⟨by rfl, ?hy8⟩) (by assumption) ?rest8
  case hy8 => (intro w hSw; (try dsimp only at hSw); go_simp; first | done | with_reducible rfl)
  try simp only [Act.put, List.getElem_toArray, List.getElem_cons_succ, List.getElem_cons_zero, List.setIfInBounds_toArray, List.set_cons_zero, List.set_cons_succ]
  refine wpAnyH_take (i := 9) (v := ?vv9) rfl (by kernel_rfl) (by kernel_rfl) (by kernel_rfl) (fun _ _ _ h => h) (Or.inl ⟨by rfl, ?hy9⟩) (by assumption) ?rest9
  case hy9 => (intro w hSw; (try dsimp only at hSw); go_simp; first | done | with_reducible rfl)
  try simp only [Act.put, List.getElem_toArray, List.getElem_cons_succ, List.getElem_cons_zero, List.setIfInBounds_toArray, List.set_cons_zero, List.set_cons_succ]
  refine wpAnyH_take (i := 10) (v := ?vv10) rfl (by kernel_rfl) (by kernel_rfl) (by kernel_rfl) (fun _ _ _ h => h) (Or.inl ⟨by rfl, ?hy10⟩) (by assumption) ?rest10
  case hy10 => (intro w hSw; (try dsimp only at hSw); go_simp; first | done | with_reducible rfl)
  try simp only [Act.put, List.getElem_toArray, List.getElem_cons_succ, List.getElem_cons_zero, List.setIfInBounds_toArray, List.set_cons_zero, List.set_cons_succ]
  refine wpAnyH_take (i := 11) (v := ?vv11) rfl (by kernel_rfl) (by kernel_rfl) (by kernel_rfl) (fun _ _ _ h => h) (Or.inl ⟨by rfl, ?hy11⟩) (by assumption) ?rest11
  case hy11 => (intro w hSw; (try dsimp only at hSw); go_simp; first | done | with_reducible rfl)
  try simp only [Act.put, List.getElem_toArray, List.getElem_cons_succ, List.getElem_cons_zero, List.setIfInBounds_toArray, List.set_cons_zero, List.set_cons_succ]
  refine wpAnyH_ready (rs := [4, 12]) (by kernel_rfl) (by simp) ?_
  refine AllReadyH.cons rfl (fun K hK => ?_) (AllReadyH.cons rfl (fun K hK => ?_) AllReadyH.nil)
  · go_simp
    refine hK.out _ _ Z0 (fun hHeld => ?_)
    clear hK K
    try simp only [Act.put, List.getElem_toArray, List.getElem_cons_succ, List.getElem_cons_zero, List.setIfInBounds_toArray, List.set_cons_zero, List.set_cons_succ]
    refine wpAnyH_ready (rs := [12]) (by kernel_rfl) (by simp) ?_
    refine AllReadyH.cons rfl (fun K hK => ?_) AllReadyH.nil
    go_simp
    refine hK.out _ _ Z1 (fun hHeld => ?_)
    clear hK K
    try simp only [Act.put, List.getElem_toArray, List.getElem_cons_succ, List.getElem_cons_zero, List.setIfInBounds_toArray, List.set_cons_zero, List.set_cons_succ]
    refine wpAnyH_ready (rs := [13]) (by kernel_rfl) (by simp) ?_
    refine AllReadyH.cons rfl (fun K hK => ?_) AllReadyH.nil
    refine step_gapp_at (w0 := (V.alloc (.cells #[.int .i64 n.tm, .int .i64 kd, .string da] 52))) (by rfl) _ _ elEn (by rfl) B (.slice ad es.length cap) (.slice (some ⟨V.heap.size, 0, none⟩) 1 1) (ensC es) (enC ⟨n.tm, kd, da⟩) es.length 1 (es.length + 1) rfl (Keep.refl _ _) (by rfl) (by rfl) OG.out HBZ.out GX.out rfl HC1.out HL1.out HL2.out ?_
    intro ad' cap' w1 ho1 hk1 hl1
    obtain ⟨Z2, ⟨f2, y2⟩, Z3, G9⟩ := FIN.out _ _ ho1 hk1 hl1
    clear ho1 hk1 hl1 FIN OG GX HBZ G1 Z1 d7 c7
    refine hK.out _ _ Z2 (fun hHeld => ?_)
    clear hK K
    try simp only [Act.put, List.getElem_toArray, List.getElem_cons_succ, List.getElem_cons_zero, List.setIfInBounds_toArray, List.set_cons_zero, List.set_cons_succ]
    refine wpAnyH_take (i := 14) (v := ?vv12) rfl (by kernel_rfl) (by kernel_rfl) (by kernel_rfl) (fun _ _ _ h => h) (Or.inl ⟨by rfl, ?hy12⟩) (by assumption) ?rest12
    case hy12 => (intro w hSw; (try dsimp only at hSw); go_simp; first | done | with_reducible rfl)
    try simp only [Act.put, List.getElem_toArray, List.getElem_cons_succ, List.getElem_cons_zero, List.setIfInBounds_toArray, List.set_cons_zero, List.set_cons_succ]
    refine wpAnyH_take (i := 15) (v := ?vv13) rfl (by kernel_rfl) (by kernel_rfl) (by kernel_rfl) (fun _ _ _ h => h) (Or.inl ⟨by rfl, ?hy13⟩) (by assumption) ?rest13
    case hy13 => (intro w hSw; (try dsimp only at hSw); go_simp; first | done | with_reducible rfl)
    try simp only [Act.put, List.getElem_toArray, List.getElem_cons_succ, List.getElem_cons_zero, List.setIfInBounds_toArray, List.set_cons_zero, List.set_cons_succ]
    refine wpAnyH_ready (rs := [16]) (by kernel_rfl) (by simp) ?_
    refine AllReadyH.cons rfl (fun K hK => ?_) AllReadyH.nil
    go_simp
    refine hK.out _ _ Z3 (fun hHeld => ?_)
    clear hK K
    try simp only [Act.put, List.getElem_toArray, List.getElem_cons_succ, List.getElem_cons_zero, List.setIfInBounds_toArray, List.set_cons_zero, List.set_cons_succ]
    refine wpAnyH_done (by kernel_rfl) ?_ _
    clear hHeld c1'
    have LA2 := hid (LA.out _ _ G9.out)
    clear LA f2 y2 Z3 Z2
    go_wp2_with fail
    refine LA2.out.mono ?_
    rintro e w2 ⟨⟨lt, rfl⟩, g2⟩
    have HA2 := hid (HA.out _ _ g2)
    clear LA2 g2 HA G9
    go_wp2_with fail
    refine HA2.out.mono ?_
    rintro e w3 ⟨⟨bb, rfl⟩, g3⟩
    have HT2 := hid (HT.out _ _ g3)
    clear HA2 g3 HT
    go_wp2_with fail
    refine HT2.out.mono ?_
    rintro e w4 ⟨rfl, g4⟩
    have G4 := hid g4
    clear HT2 g4
    go_wp2
    go_ret2
    exact ⟨rfl, _, G4.out⟩
  · go_simp
    refine hK.out _ _ Z1 (fun hHeld => ?_)
    clear hK K
    try simp only [Act.put, List.getElem_toArray, List.getElem_cons_succ, List.getElem_cons_zero, List.setIfInBounds_toArray, List.set_cons_zero, List.set_cons_succ]
    refine wpAnyH_ready (rs := [4]) (by kernel_rfl) (by simp) ?_
    refine AllReadyH.cons rfl (fun K hK => ?_) AllReadyH.nil
    go_simp
    refine hK.out _ _ Z1 (fun hHeld => ?_)
    clear hK K
    try simp only [Act.put, List.getElem_toArray, List.getElem_cons_succ, List.getElem_cons_zero, List.setIfInBounds_toArray, List.set_cons_zero, List.set_cons_succ]
    refine wpAnyH_ready (rs := [13]) (by kernel_rfl) (by simp) ?_
    refine AllReadyH.cons rfl (fun K hK => ?_) AllReadyH.nil
    refine step_gapp_at (w0 := (V.alloc (.cells #[.int .i64 n.tm, .int .i64 kd, .string da] 52))) (by rfl) _ _ elEn (by rfl) B (.slice ad es.length cap) (.slice (some ⟨V.heap.size, 0, none⟩) 1 1) (ensC es) (enC ⟨n.tm, kd, da⟩) es.length 1 (es.length + 1) rfl (Keep.refl _ _) (by rfl) (by rfl) OG.out HBZ.out GX.out rfl HC1.out HL1.out HL2.out ?_
    intro ad' cap' w1 ho1 hk1 hl1
    obtain ⟨Z2, ⟨f2, y2⟩, Z3, G9⟩ := FIN.out _ _ ho1 hk1 hl1
    clear ho1 hk1 hl1 FIN OG GX HBZ G1 Z1 d7 c7
    refine hK.out _ _ Z2 (fun hHeld => ?_)
    clear hK K
    try simp only [Act.put, List.getElem_toArray, List.getElem_cons_succ, List.getElem_cons_zero, List.setIfInBounds_toArray, List.set_cons_zero, List.set_cons_succ]
    refine wpAnyH_take (i := 14) (v := ?vv14) rfl (by kernel_rfl) (by kernel_rfl) (by kernel_rfl) (fun _ _ _ h => h) (Or.inl ⟨by rfl, ?hy14⟩) (by assumption) ?rest14
    case hy14 => (intro w hSw; (try dsimp only at hSw); go_simp; first | done | with_reducible rfl)
    try simp only [Act.put, List.getElem_toArray, List.getElem_cons_succ, List.getElem_cons_zero, List.setIfInBounds_toArray, List.set_cons_zero, List.set_cons_succ]
    refine wpAnyH_take (i := 15) (v := ?vv15) rfl (by kernel_rfl) (by kernel_rfl) (by kernel_rfl) (fun _ _ _ h => h) (Or.inl ⟨by rfl, ?hy15⟩) (by assumption) ?rest15
    case hy15 => (intro w hSw; (try dsimp only at hSw); go_simp; first | done | with_reducible rfl)
    try simp only [Act.put, List.getElem_toArray, List.getElem_cons_succ, List.getElem_cons_zero, List.setIfInBounds_toArray, List.set_cons_zero, List.set_cons_succ]
    refine wpAnyH_ready (rs := [16]) (by kernel_rfl) (by simp) ?_
    refine AllReadyH.cons rfl (fun K hK => ?_) AllReadyH.nil
    go_simp
    refine hK.out _ _ Z3 (fun hHeld => ?_)
    clear hK K
    try simp only [Act.put, List.getElem_toArray, List.getElem_cons_succ, List.getElem_cons_zero, List.setIfInBounds_toArray, List.set_cons_zero, List.set_cons_succ]
    refine wpAnyH_done (by kernel_rfl) ?_ _
    clear hHeld c1'
    have LA2 := hid (LA.out _ _ G9.out)
    clear LA f2 y2 Z3 Z2
    go_wp2_with fail
    refine LA2.out.mono ?_
    rintro e w2 ⟨⟨lt, rfl⟩, g2⟩
    have HA2 := hid (HA.out _ _ g2)
    clear LA2 g2 HA G9
    go_wp2_with fail
    refine HA2.out.mono ?_
    rintro e w3 ⟨⟨bb, rfl⟩, g3⟩
    have HT2 := hid (HT.out _ _ g3)
    clear HA2 g3 HT
    go_wp2_with fail
    refine HT2.out.mono ?_
    rintro e w4 ⟨rfl, g4⟩
    have G4 := hid g4
    clear HT2 g4
    go_wp2
    go_ret2
    exact ⟨rfl, _, G4.out⟩
end
end Go.Proofs.YtnldjcoajliciaaGreat
namespace Go.Proofs.YtnldjcoajliciaaGreat
open Go.RowKit Go.Maps
set_option linter.unusedVariables false
set_option linter.unusedSimpArgs false

/-- up to where the nodes' logs are the leader's, as it knows -/
def mtL (pL : List Int) : List Int := (List.range 7).map fun k => pL.getD (5 * k + 1) 0
def mtK (pL : List Int) (k : Nat) : List Int := (mtL pL).take k ++ List.replicate (7 - k) 0
theorem mtK_len (pL : List Int) (k : Nat) (hk : k ≤ 7) : (mtK pL k).length = 7 := by simp [mtK, mtL]; omega
theorem mtK_succ (pL : List Int) (k : Nat) (hk : k < 7) : (mtK pL k).set k (pL.getD (5 * k + 1) 0) = mtK pL (k + 1) := by
  match k, hk with
  | 0, _ => rfl
  | 1, _ => rfl
  | 2, _ => rfl
  | 3, _ => rfl
  | 4, _ => rfl
  | 5, _ => rfl
  | 6, _ => rfl
theorem mtK_last (pL : List Int) : mtK pL 7 = mtL pL := rfl
section
variable {w w1 : World} {B nb : Nat} {n : Nd} {ms : List Int} {es : List En}
set_option maxRecDepth 100000 in
set_option maxHeartbeats 4000000 in
theorem nadvance_up (h : NdI w B nb n ms es) (hne : ms ≠ []) (hm : ms.length ≤ 17592186044416) (hl : es.length ≤ 17592186044416) (hd : ∀ x ∈ es, x.da.size ≤ 140737488355328) (hb0 : 0 ≤ n.bi) (hb1 : n.bi ≤ 1099511627776) (hq : (mbL ms es).length ≤ 9223372036854775807) (h7 : n.vs.length = 7) (pL : List Int) (hp : n.ps = pL.map (Value.int .i64)) (h35 : pL.length = 35) (hme : n.me = 0)
    (r : Int) (hr : r = rchC (mbL ms es) ((mtL pL).set 0 (n.bi + es.length))) (hrc : n.cm < r)
    (hS : ∀ W, Below w.heap.size w W → Calls Tryz.prog 55 #[.pointer (some ⟨nb, 0, none⟩), .int .i64 r, .int .i64 n.tm] W fun e w' => e = .returned (.bool true) ∧ Below W.heap.size W w') :
    Calls Tryz.prog 60 #[.pointer (some ⟨nb, 0, none⟩)] w fun e w' => e = .returned (.bool true) ∧ NdG w B nb n w' { n with cm := r } ms es := by
  have SA := hid hS
  have LA : Hid (∀ W, Below w.heap.size w W → Calls Tryz.prog 40 #[.pointer (some ⟨nb, 0, none⟩)] W fun e w' => e = .returned (.tuple #[.int .i64 (n.bi + es.length), .int .i64 (ltT n.bt es)]) ∧ Below W.heap.size W w') := fun W b => nlast_any (h.next b) hne hl hb0 hb1
  have ME : Hid (∀ W, Below w.heap.size w W → Calls Tryz.prog 76 #[.pointer (some ⟨nb, 0, none⟩)] W fun e w' => ∃ v', e = .returned v' ∧ IntsI w' v' (mbL ms es) ∧ Below W.heap.size W w') := fun W b => nmembers_any (h.next b) hne hm hl hd
  have RE : Hid (∀ v' o W, IntsI W v' (mbL ms es) → RowIs W w.heap.size (isC o) 102 → o = (mtL pL).set 0 (n.bi + es.length) → Calls Tryz.prog 75 #[v', .slice (some ⟨w.heap.size, 0, none⟩) 7 7] W fun e w' => e = .returned (.int .i64 r) ∧ Below W.heap.size W w') := fun v' o W hv ho heq => by
    have hol : o.length = 7 := by rw [heq]; simp [mtL]
    have h2 := row_ints ho (cap := 7)
    rw [hol] at h2
    have := creached_any v' _ _ o W hv h2 hq
    rw [heq, ← hr] at this
    exact this
  have CS : Hid (∀ W, Below w.heap.size w W → W.cell? ⟨nb, 0, none⟩ = some (.int .i64 0) ∧ W.cell? ⟨nb, 1, none⟩ = some (.int .i64 n.tm) ∧ W.cell? ⟨nb, 8, none⟩ = some (.int .i64 n.cm) ∧ W.frozen? ⟨nb, 8, none⟩ = false) := fun W b => by
    have g := (h.next b).bx
    exact ⟨by rw [← hme]; exact g.cellAt rfl, g.cellAt rfl, g.cellAt rfl, g.frozen⟩
  have PS : Hid (∀ (k : Nat) W, k < 7 → Below w.heap.size w W → W.cell? ⟨nb, 30 + k * 5 + 1, none⟩ = some (.int .i64 (pL.getD (5 * k + 1) 0))) := fun k W hk b => by
    have g := (h.next b).bx
    have hj : 5 * k + 1 < n.ps.length := by rw [hp, List.length_map, h35]; omega
    have := g.cellAt (Nd.g_ps n (5 * k + 1) h7 hj)
    rw [show 30 + k * 5 + 1 = 30 + (5 * k + 1) by omega, this]
    congr 1
    simp only [hp, List.getElem_map]
    rw [List.getD_eq_getElem?_getD, List.getElem?_eq_getElem (by omega)]
    rfl
  have FIN : Hid (∀ W, Below w.heap.size w W → NdG w B nb n (W.setCell ⟨nb, 8, none⟩ (.int .i64 r)) { n with cm := r } ms es) := fun W b => by
    have g := (NdG.refl h).next b
    exact g.trans (g.nd.put (n1 := { n with cm := r }) 8 (.int .i64 r) rfl rfl rfl)
  have HLT := hid h.lt
  have hle : decide (r ≤ n.cm) = false := decide_eq_false (by omega)
  have R0 : Hid (RowIs (w.alloc (.cells #[.int .i64 0, .int .i64 0, .int .i64 0, .int .i64 0, .int .i64 0, .int .i64 0, .int .i64 0] 102)) w.heap.size (isC (mtK pL 0)) 102) := srow w (isC (mtK pL 0)) 102
  have B0 : Hid (Below w.heap.size w (w.alloc (.cells #[.int .i64 0, .int .i64 0, .int .i64 0, .int .i64 0, .int .i64 0, .int .i64 0, .int .i64 0] 102))) := below_al (Below.refl _ _) _
  clear h hne hm hl hd hb0 hb1 hq h7 hp h35 hme hr hrc hS
  generalize ltT n.bt es = lt at *
  generalize hsz : n.bi + (es.length : Int) = s at *
  generalize mbL ms es = M at *
  generalize { n with cm := r } = n2 at *
  generalize n.tm = tm at *
  generalize n.cm = cm at *
  clear hsz
  go_enter Tryz.func60, Tryz.ntmps60
  go_wp2
  go_loopw [6] (fun i wr => ∃ (k : Nat), k ≤ 7 ∧ i = .int .i64 (k : Int) ∧ Hid (RowIs wr w.heap.size (isC (mtK pL k)) 102) ∧ Hid (Below w.heap.size w wr)) (fun i _ => 7 - (intOf i).toNat)
  case atStart => exact ⟨0, by omega, rfl, R0, B0⟩
  case round =>
    clear R0 B0
    obtain ⟨k, hk, rfl, HR, HB⟩ := hrel
    by_cases hlt : k < 7
    · have r0 : (0 : Int) ≤ (k : Int) := by omega
      have r1 : (k : Int) < 7 := by omega
      have c1 := PS.out k wr hlt HB.out
      have hkl : k < (isC (mtK pL k)).length := by rw [isC_len, mtK_len pL k hk]; omega
      have v1 := HR.out.cellAt (o := k) (List.getElem?_eq_getElem hkl)
      have f1 := HR.out.frozen (o := k)
      have F2 : Hid (RowIs (wr.setCell ⟨w.heap.size, k, none⟩ (.int .i64 (pL.getD (5 * k + 1) 0))) w.heap.size (isC (mtK pL (k + 1))) 102) := by
        have := HR.out.set k (.int .i64 (pL.getD (5 * k + 1) 0))
        rw [isC_set, mtK_succ pL k hlt] at this
        exact this
      have F3 : Hid (Below w.heap.size w (wr.setCell ⟨w.heap.size, k, none⟩ (.int .i64 (pL.getD (5 * k + 1) 0)))) := HB.out.trans (keep_below (keep_setCell wr w.heap.size k _) (fun j hj e => by omega) HB.out.size)
      generalize pL.getD (5 * k + 1) 0 = y at *
      generalize (isC (mtK pL k))[k] = u at *
      have hnb : ¬ nb = w.heap.size := by have := HLT.out; omega
      have hnb2 : ¬ w.heap.size = nb := fun e => hnb e.symm
      clear PS CS FIN SA LA ME RE HR HB hkl
      go_wp2
      exact ⟨⟨k + 1, by omega, by go_num, F2, F3⟩, by simp [intOf]; omega⟩
    · have hk9 : k = 7 := by omega
      subst hk9
      clear PS hk hlt
      obtain ⟨x0, x1, x2, x3⟩ := CS.out wr HB.out
      go_wp2
      have HBV := hid HB.out.drew
      have HRV : Hid (RowIs wr.drew w.heap.size (isC (mtK pL 7)) 102) := HR.out
      clear x1 x2 x3 HB HR
      refine wp_region_held_drew (S := fun W => W.cell? ⟨nb, 0, none⟩ = some (.int .i64 0)) (by kernel_rfl) x0 (fun hHeld => ?_)
      generalize wr.drew = V at *
      refine wpAnyH_take (i := 0) (v := ?vv1) rfl (by kernel_rfl) (by kernel_rfl) (by kernel_rfl) (fun _ _ _ h => h) (Or.inl ⟨by rfl, ?hy1⟩) (by assumption) ?rest1
      case hy1 => (intro w hSw; (try dsimp only at hSw); go_simp; first | done | with_reducible rfl)
      try simp only [Act.put, List.getElem_toArray, List.getElem_cons_succ, List.getElem_cons_zero, List.setIfInBounds_toArray, List.set_cons_zero, List.set_cons_succ]
      refine wpAnyH_take (i := 1) (v := ?vv2) rfl (by kernel_rfl) (by kernel_rfl) (by kernel_rfl) (fun _ _ _ h => h) (Or.inl ⟨by rfl, ?hy2⟩) (by assumption) ?rest2
      case hy2 => (intro w hSw; (try dsimp only at hSw); go_simp; first | done | with_reducible rfl)
      try simp only [Act.put, List.getElem_toArray, List.getElem_cons_succ, List.getElem_cons_zero, List.setIfInBounds_toArray, List.set_cons_zero, List.set_cons_succ]
      refine wpAnyH_take (i := 2) (v := ?vv3) rfl (by kernel_rfl) (by kernel_rfl) (by kernel_rfl) (fun _ _ _ h => h) (Or.inl ⟨by rfl, ?hy3⟩) (by assumption) ?rest3
      case hy3 => (intro w hSw; (try dsimp only at hSw); go_simp; first | done | with_reducible rfl)
      try simp only [Act.put, List.getElem_toArray, List.getElem_cons_succ, List.getElem_cons_zero, List.setIfInBounds_toArray, List.set_cons_zero, List.set_cons_succ]
      refine wpAnyH_take (i := 3) (v := ?vv4) rfl (by kernel_rfl) (by kernel_rfl) (by kernel_rfl) (fun _ _ _ h => h) (Or.inl ⟨by rfl, ?hy4⟩) (by assumption) ?rest4
      case hy4 => (intro w hSw; (try dsimp only at hSw); go_simp; first | done | with_reducible rfl)
      try simp only [Act.put, List.getElem_toArray, List.getElem_cons_succ, List.getElem_cons_zero, List.setIfInBounds_toArray, List.set_cons_zero, List.set_cons_succ]
      refine wpAnyH_take (i := 4) (v := ?vv5) rfl (by kernel_rfl) (by kernel_rfl) (by kernel_rfl) (fun _ _ _ h => h) (Or.inl ⟨by rfl, ?hy5⟩) (by assumption) ?rest5
      case hy5 => (intro w hSw; (try dsimp only at hSw); go_simp; first | done | with_reducible rfl)
      try simp only [Act.put, List.getElem_toArray, List.getElem_cons_succ, List.getElem_cons_zero, List.setIfInBounds_toArray, List.set_cons_zero, List.set_cons_succ]
      refine wpAnyH_ready (rs := [5]) (by kernel_rfl) (by simp) ?_
      refine AllReadyH.cons rfl (fun K hK => ?_) AllReadyH.nil
      go_simp
      refine (LA.out _ HBV.out).mono ?_
      rintro e w3 ⟨rfl, b3⟩
      have B3 := hid (below_on HBV.out b3)
      have R3 := hid (HRV.out.keep (b3.keep (fun _ => False)) (fun h => h))
      have x3 := (CS.out w3 B3.out).1
      clear b3 hHeld HBV HRV
      go_wp2_with fail
      refine hK.out _ _ x3 (fun hHeld => ?_)
      clear hK K
      try simp only [Act.put, List.getElem_toArray, List.getElem_cons_succ, List.getElem_cons_zero, List.setIfInBounds_toArray, List.set_cons_zero, List.set_cons_succ]
      refine wpAnyH_take (i := 6) (v := ?vv6) rfl (by kernel_rfl) (by kernel_rfl) (by kernel_rfl) (fun _ _ _ h => h) (Or.inl ⟨by rfl, ?hy6⟩) (by assumption) ?rest6
      case hy6 => (intro w hSw; (try dsimp only at hSw); go_simp; first | done | with_reducible rfl)
      try simp only [Act.put, List.getElem_toArray, List.getElem_cons_succ, List.getElem_cons_zero, List.setIfInBounds_toArray, List.set_cons_zero, List.set_cons_succ]
      refine wpAnyH_take (i := 7) (v := ?vv7) rfl (by kernel_rfl) (by kernel_rfl) (by kernel_rfl) (fun _ _ _ h => h) (Or.inl ⟨by rfl, ?hy7⟩) (by assumption) ?rest7
      case hy7 => (intro w hSw; (try dsimp only at hSw); go_simp; first | done | with_reducible rfl)
      try simp only [Act.put, List.getElem_toArray, List.getElem_cons_succ, List.getElem_cons_zero, List.setIfInBounds_toArray, List.set_cons_zero, List.set_cons_succ]
      refine wpAnyH_take (i := 8) (v := ?vv8) rfl (by kernel_rfl) (by kernel_rfl) (by kernel_rfl) (fun _ _ _ h => h) (Or.inl ⟨by rfl, ?hy8⟩) (by assumption) ?rest8
      case hy8 => (intro w hSw; (try dsimp only at hSw); go_simp; first | done | with_reducible rfl)
      try simp only [Act.put, List.getElem_toArray, List.getElem_cons_succ, List.getElem_cons_zero, List.setIfInBounds_toArray, List.set_cons_zero, List.set_cons_succ]
      refine wpAnyH_take (i := 9) (v := ?vv9) rfl (by kernel_rfl) (by kernel_rfl) (by kernel_rfl) (fun _ _ _ h => h) (Or.inl ⟨by rfl, ?hy9⟩) (by assumption) ?rest9
      case hy9 => (intro w hSw; (try dsimp only at hSw); go_simp; first | done | with_reducible rfl)
      try simp only [Act.put, List.getElem_toArray, List.getElem_cons_succ, List.getElem_cons_zero, List.setIfInBounds_toArray, List.set_cons_zero, List.set_cons_succ]
      refine wpAnyH_ready (rs := [10]) (by kernel_rfl) (by simp) ?_
      refine AllReadyH.cons rfl (fun K hK => ?_) AllReadyH.nil
      have v0 := R3.out.cellAt (o := 0) (v := .int .i64 (pL.getD 1 0)) rfl
      have f0 := R3.out.frozen (o := 0)
      have R4 : Hid (RowIs (w3.setCell ⟨w.heap.size, 0, none⟩ (.int .i64 s)) w.heap.size (isC ((mtL pL).set 0 s)) 102) := by have := R3.out.set 0 (.int .i64 s); rw [isC_set, mtK_last] at this; exact this
      have B4 : Hid (Below w.heap.size w (w3.setCell ⟨w.heap.size, 0, none⟩ (.int .i64 s))) := B3.out.trans (keep_below (keep_setCell w3 w.heap.size 0 _) (fun j hj e => by omega) B3.out.size)
      have x4 := (CS.out _ B4.out).1
      have CS2 := CS
      go_simp
      refine hK.out _ _ x4 (fun hHeld => ?_)
      clear hK K
      try simp only [Act.put, List.getElem_toArray, List.getElem_cons_succ, List.getElem_cons_zero, List.setIfInBounds_toArray, List.set_cons_zero, List.set_cons_succ]
      refine wpAnyH_done (by kernel_rfl) ?_ _
      clear v0 f0 R3 B3 x3
      generalize w3.setCell ⟨w.heap.size, 0, none⟩ (.int .i64 s) = V4 at *
      clear hHeld CS LA
      go_wp2
      have HBV := hid B4.out.drew
      have HRV : Hid (RowIs V4.drew w.heap.size (isC ((mtL pL).set 0 s)) 102) := R4.out
      clear B4 R4 x4
      refine wp_region_held_drew (S := fun W => True) (by kernel_rfl) trivial (fun hHeld => ?_)
      generalize V4.drew = V5 at *
      refine wpAnyH_take (i := 0) (v := ?vv10) rfl (by kernel_rfl) (by kernel_rfl) (by kernel_rfl) (fun _ _ _ h => h) (Or.inl ⟨by rfl, ?hy10⟩) (by assumption) ?rest10
      case hy10 => (intro w hSw; (try dsimp only at hSw); go_simp; first | done | with_reducible rfl)
      try simp only [Act.put, List.getElem_toArray, List.getElem_cons_succ, List.getElem_cons_zero, List.setIfInBounds_toArray, List.set_cons_zero, List.set_cons_succ]
      refine wpAnyH_take (i := 2) (v := ?vv11) rfl (by kernel_rfl) (by kernel_rfl) (by kernel_rfl) (fun _ _ _ h => h) (Or.inl ⟨by rfl, ?hy11⟩) (by assumption) ?rest11
      case hy11 => (intro w hSw; (try dsimp only at hSw); go_simp; first | done | with_reducible rfl)
      try simp only [Act.put, List.getElem_toArray, List.getElem_cons_succ, List.getElem_cons_zero, List.setIfInBounds_toArray, List.set_cons_zero, List.set_cons_succ]
      refine wpAnyH_ready (rs := [1]) (by kernel_rfl) (by simp) ?_
      refine AllReadyH.cons rfl (fun K hK => ?_) AllReadyH.nil
      go_simp
      refine (ME.out _ HBV.out).mono ?_
      rintro e w5 ⟨v', rfl, hi, b5⟩
      have B5 := hid (below_on HBV.out b5)
      have RE5 := hid (RE.out v' _ w5 hi (HRV.out.keep (b5.keep (fun _ => False)) (fun h => h)) rfl)
      clear b5 hi hHeld HBV HRV
      go_wp2_with fail
      refine hK.out _ _ trivial (fun hHeld => ?_)
      clear hK K
      try simp only [Act.put, List.getElem_toArray, List.getElem_cons_succ, List.getElem_cons_zero, List.setIfInBounds_toArray, List.set_cons_zero, List.set_cons_succ]
      refine wpAnyH_ready (rs := [3]) (by kernel_rfl) (by simp) ?_
      refine AllReadyH.cons rfl (fun K hK => ?_) AllReadyH.nil
      go_simp
      refine RE5.out.mono ?_
      rintro e w6 ⟨rfl, b6⟩
      have B6 := hid (below_on B5.out b6)
      obtain ⟨z0, z1, z2, z3⟩ := CS2.out w6 B6.out
      clear b6 hHeld B5 RE5
      go_wp2_with fail
      refine hK.out _ _ trivial (fun hHeld => ?_)
      clear hK K
      try simp only [Act.put, List.getElem_toArray, List.getElem_cons_succ, List.getElem_cons_zero, List.setIfInBounds_toArray, List.set_cons_zero, List.set_cons_succ]
      refine wpAnyH_take (i := 4) (v := ?vv12) rfl (by kernel_rfl) (by kernel_rfl) (by kernel_rfl) (fun _ _ _ h => h) (Or.inl ⟨by rfl, ?hy12⟩) (by assumption) ?rest12
      case hy12 => (intro w hSw; (try dsimp only at hSw); go_simp; first | done | with_reducible rfl)
      try simp only [Act.put, List.getElem_toArray, List.getElem_cons_succ, List.getElem_cons_zero, List.setIfInBounds_toArray, List.set_cons_zero, List.set_cons_succ]
      refine wpAnyH_done (by kernel_rfl) ?_ _
      clear hHeld ME RE
      have SA2 := hid (SA.out _ B6.out)
      go_wp2_with fail
      refine SA2.out.mono ?_
      rintro e w7 ⟨rfl, b7⟩
      have B7 := hid (below_on B6.out b7)
      obtain ⟨y0, y1, y2, y3⟩ := CS2.out w7 B7.out
      have F7 := hid (FIN.out w7 B7.out)
      clear SA SA2 b7 FIN CS2
      go_wp2
      go_ret
      exact ⟨rfl, F7.out⟩
end
end Go.Proofs.YtnldjcoajliciaaGreat
namespace Go.Proofs.YtnldjcoajliciaaGreat
open Go.RowKit Go.Maps
set_option linter.unusedVariables false
set_option linter.unusedSimpArgs false

section
variable {w w1 : World} {B nb : Nat} {n : Nd} {ms : List Int} {es : List En}
set_option maxRecDepth 100000 in
set_option maxHeartbeats 2000000 in
theorem ntoOthers_alone (h : NdI w B nb n ms es) (hne : ms ≠ []) (hm : ms.length ≤ 17592186044416) (hl : es.length ≤ 17592186044416) (hd : ∀ x ∈ es, x.da.size ≤ 140737488355328) (hM : mbL ms es = [n.me]) (f : Value) :
    Calls Tryz.prog 66 #[.pointer (some ⟨nb, 0, none⟩), f] w fun e w' => e = .returned (.slice none 0 0) ∧ Below w.heap.size w w' := by
  have ME := hid (nmembers_any h hne hm hl hd)
  have CS : Hid (∀ W, Below w.heap.size w W → W.cell? ⟨nb, 0, none⟩ = some (.int .i64 n.me)) := fun W b => (h.next b).bx.cellAt rfl
  rw [hM] at ME
  clear h hne hm hl hd hM
  generalize n.me = me at *
  go_enter Tryz.func66, Tryz.ntmps66
  go_wp2_with fail
  refine ME.out.mono ?_
  rintro e w1 ⟨v', rfl, hi, b1⟩
  obtain ⟨ad, cap, rfl, hc⟩ := hi.form
  obtain ⟨b, off, rfl, hb, hc0⟩ := hc 0 (by simp)
  have x0 := CS.out w1 b1
  have y0 : w1.cell? ⟨b, off, none⟩ = some (.int .i64 me) := hc0
  have B1 := hid b1
  clear ME CS b1 hi hc hc0 hb
  go_wp2
  go_loopw [5, 11] (fun t i wr => t = .slice none 0 0 ∧ ((i = .int .i64 0) ∨ (i = .int .i64 1)) ∧ wr = w1) (fun _ i _ => 1 - (intOf i).toNat)
  case atStart => exact ⟨rfl, .inl rfl, rfl⟩
  case round =>
    obtain ⟨rfl, hi, rfl⟩ := hrel
    rcases hi with rfl | rfl
    · go_wp2
      exact ⟨⟨by first | rfl | trivial, .inr (by first | rfl | trivial), by first | rfl | trivial⟩, by simp [intOf]⟩
    · go_wp2
      go_ret
      exact ⟨rfl, B1.out⟩
set_option maxRecDepth 100000 in
set_option maxHeartbeats 2000000 in
theorem ntellAll_alone (h : NdI w B nb n ms es) (hne : ms ≠ []) (hm : ms.length ≤ 17592186044416) (hl : es.length ≤ 17592186044416) (hd : ∀ x ∈ es, x.da.size ≤ 140737488355328) (hM : mbL ms es = [n.me]) :
    Calls Tryz.prog 61 #[.pointer (some ⟨nb, 0, none⟩)] w fun e w' => e = .returned (.slice none 0 0) ∧ Below w.heap.size w w' := by
  have TO := hid (fun f => ntoOthers_alone h hne hm hl hd hM f)
  have IM : Hid (∀ W, Below w.heap.size w W → Calls Tryz.prog 68 #[.pointer (some ⟨nb, 0, none⟩), .int .i64 n.me] W fun e w' => e = .returned (.bool true) ∧ Below W.heap.size W w') := fun W b => (nisMember_any (h.next b) hne hm hl hd (by rw [hM]; simp) n.me).mono fun e w' ⟨he, hb⟩ => ⟨by rw [he, hM]; simp [hasI], hb⟩
  have CS : Hid (∀ W, Below w.heap.size w W → W.cell? ⟨nb, 0, none⟩ = some (.int .i64 n.me)) := fun W b => (h.next b).bx.cellAt rfl
  clear h hne hm hl hd hM
  generalize n.me = me at *
  go_enter Tryz.func61, Tryz.ntmps61
  go_wp2_with fail
  refine (TO.out _).mono ?_
  rintro e w1 ⟨rfl, b1⟩
  have x0 := CS.out w1 b1
  have IM2 := hid (IM.out w1 b1)
  have B1 := hid b1
  clear TO CS IM b1
  go_wp2_with fail
  refine IM2.out.mono ?_
  rintro e w2 ⟨rfl, b2⟩
  have B2 := hid (below_on B1.out b2)
  clear IM2 b2 B1 x0
  go_wp2
  go_ret
  exact ⟨rfl, B2.out⟩
theorem ensz_app {es : List En} {x : En} {k : Nat} (h : ∀ z ∈ es, z.da.size ≤ k) (hx : x.da.size ≤ k) : ∀ z ∈ es ++ [x], z.da.size ≤ k := fun z hz => by
  rcases List.mem_append.1 hz with hz | hz
  · exact h z hz
  · simp at hz; subst hz; exact hx
/-- an entry is laid at a node that is the only member, and committed -/
theorem nlay_alone (h : NdI w B nb n ms es) (hne : ms ≠ []) (hm : ms.length ≤ 17592186044416) (hl : es.length ≤ 1000000) (hd : ∀ x ∈ es, x.da.size ≤ 140737488355328) (hb0 : 0 ≤ n.bi) (hb1 : n.bi ≤ 1099511627776) (h7 : n.vs.length = 7) (pL : List Int) (hp : n.ps = pL.map (Value.int .i64)) (h35 : pL.length = 35) (hme : n.me = 0)
    (kd : Int) (da : ByteArray) (hda : da.size ≤ 140737488355328) (hM : mbL ms (es ++ [⟨n.tm, kd, da⟩]) = [0]) (hr : rchC [0] ((mtL pL).set 0 (n.bi + es.length + 1)) = n.bi + es.length + 1) (hc : n.cm < n.bi + es.length + 1) :
    Calls Tryz.prog 37 #[.pointer (some ⟨nb, 0, none⟩), .int .i64 kd, .string da] w fun e w' => e = .returned (.tuple #[.int .i64 (n.bi + es.length + 1), .slice none 0 0]) ∧ ∃ lg', NdG w B nb n w' { n with lg := lg', cm := n.bi + es.length + 1 } ms (es ++ [⟨n.tm, kd, da⟩]) := by
  have hlen : n.bi + (((es ++ [(⟨n.tm, kd, da⟩ : En)]).length : Nat) : Int) = n.bi + (es.length : Int) + 1 := by simp; omega
  refine nlay_of h hne hl hb0 hb1 kd da (n.bi + es.length + 1) (fun lg' => { n with lg := lg', cm := n.bi + es.length + 1 }) ?_ ?_
  · intro W lg' g
    have hA := nadvance_up g.nd hne hm (by simp; omega) (ensz_app hd hda) hb0 hb1 (by rw [hM]; decide) h7 pL hp h35 hme (n.bi + es.length + 1) (by rw [hM]; rw [hlen]; exact hr.symm) hc (fun W2 b => by
      have g2 : NdI W2 B nb { n with lg := lg' } ms (es ++ [(⟨n.tm, kd, da⟩ : En)]) := g.nd.next b
      have ht := ntermAt_in g2 es.length (by simp) (by simp; omega) hb0 hb1
      rw [show ((es ++ [(⟨n.tm, kd, da⟩ : En)])[es.length]'(by simp)) = (⟨n.tm, kd, da⟩ : En) by simp] at ht
      have hs := nisSame_of (n.bi + es.length + 1) n.tm n.tm true ht
      rw [decide_eq_true rfl] at hs
      exact hs)
    exact hA.mono fun e w' ⟨he, g3⟩ => ⟨⟨_, he⟩, g.trans g3⟩
  · intro W lg' g
    exact (ntellAll_alone g.nd hne hm (by simp; omega) (ensz_app hd hda) (by rw [hM]; exact congrArg (fun x => [x]) hme.symm)).mono fun e w' ⟨he, b⟩ => ⟨he, g.next b⟩
/-- what a leader knows of the first k nodes, that it met -/
def psF (ps : List Value) (x : Int) : Nat → List Value
  | 0 => ps
  | k + 1 => psM (psF ps x k) k x
theorem psF_len (ps : List Value) (x : Int) : ∀ k, (psF ps x k).length = ps.length
  | 0 => rfl
  | k + 1 => by rw [psF, psM_len, psF_len ps x k]
set_option maxRecDepth 100000 in
set_option maxHeartbeats 2000000 in
theorem nlead_of (h : NdI w B nb n ms es) (hne : ms ≠ []) (hl : es.length ≤ 1000000) (hb0 : 0 ≤ n.bi) (hb1 : n.bi ≤ 1099511627776) (h7 : n.vs.length = 7) (h35 : n.ps.length = 35) (at_ : Int) (n2 : Value → Nd) (es2 : List En)
    (hL : ∀ W, NdG w B nb n W { n with rl := 2, ld := n.me, rn := 0, be := 0, ps := psF n.ps (n.bi + es.length + 1) 7 } ms es → Calls Tryz.prog 37 #[.pointer (some ⟨nb, 0, none⟩), .int .i64 1, .string ⟨#[]⟩] W fun e w' => e = .returned (.tuple #[.int .i64 at_, .slice none 0 0]) ∧ ∃ lg', NdG w B nb n w' (n2 lg') ms es2) :
    Calls Tryz.prog 53 #[.pointer (some ⟨nb, 0, none⟩)] w fun e w' => e = .returned (.slice none 0 0) ∧ ∃ lg', NdG w B nb n w' (n2 lg') ms es2 := by
  have HL := hid hL
  have c0 := h.bx.cellAt (o := 0) rfl
  have c9 := h.bx.cellAt (o := 9) rfl
  have c10 := h.bx.cellAt (o := 10) rfl
  have c28 := h.bx.cellAt (Nd.g_rn n h7)
  have c29 := h.bx.cellAt (Nd.g_be n h7)
  have f9 := h.bx.frozen (o := 9)
  have f10 := h.bx.frozen (o := 10)
  have f28 := h.bx.frozen (o := 28)
  have f29 := h.bx.frozen (o := 29)
  have k1 := h.put (n1 := { n with rl := 2 }) 9 (.int .i64 2) rfl rfl rfl
  have k2 := k1.trans (k1.nd.put (n1 := { n with rl := 2, ld := n.me }) 10 (.int .i64 n.me) rfl rfl rfl)
  have k3 := k2.trans (k2.nd.put (n1 := { n with rl := 2, ld := n.me, rn := 0 }) 28 (.int .i64 0) (Nd.c_rn _ 0 h7) rfl rfl)
  have K4 : Hid (NdG w B nb n ((((w.setCell ⟨nb, 9, none⟩ (.int .i64 2)).setCell ⟨nb, 10, none⟩ (.int .i64 n.me)).setCell ⟨nb, 28, none⟩ (.int .i64 0)).setCell ⟨nb, 29, none⟩ (.int .i64 0)) { n with rl := 2, ld := n.me, rn := 0, be := 0, ps := psF n.ps (n.bi + es.length + 1) 0 } ms es) := k3.trans (k3.nd.put (n1 := { n with rl := 2, ld := n.me, rn := 0, be := 0 }) 29 (.int .i64 0) (Nd.c_be _ 0 h7) rfl rfl)
  have MT : Hid (∀ (k : Nat) W, k < 7 → NdG w B nb n W { n with rl := 2, ld := n.me, rn := 0, be := 0, ps := psF n.ps (n.bi + es.length + 1) k } ms es → Calls Tryz.prog 74 #[.pointer (some ⟨nb, 0, none⟩), .int .i64 (k : Int)] W fun e w' => e = .returned (.tuple #[]) ∧ NdG w B nb n w' { n with rl := 2, ld := n.me, rn := 0, be := 0, ps := psF n.ps (n.bi + es.length + 1) (k + 1) } ms es) := fun k W hk g => (nmeet_any g.nd hne (by omega) hb0 hb1 h7 ((psF_len _ _ _).trans h35) k hk).mono fun e w' ⟨he, g2⟩ => ⟨he, g.trans g2⟩
  clear h hne hl hb0 hb1 h7 h35 hL k1 k2 k3
  generalize hgz : (fun k => ({ n with rl := 2, ld := n.me, rn := 0, be := 0, ps := psF n.ps (n.bi + es.length + 1) k } : Nd)) = G at *
  have e0 : ∀ k, ({ n with rl := 2, ld := n.me, rn := 0, be := 0, ps := psF n.ps (n.bi + es.length + 1) k } : Nd) = G k := fun k => congrFun hgz k
  simp only [e0] at HL K4 MT
  clear e0 hgz
  generalize n.me = me at *
  go_enter Tryz.func53, Tryz.ntmps53
  go_wp2
  go_loopw [22] (fun i wr => ∃ (k : Nat), k ≤ 7 ∧ i = .int .i64 (k : Int) ∧ Hid (NdG w B nb n wr (G k) ms es)) (fun i _ => 7 - (intOf i).toNat)
  case atStart => exact ⟨0, by omega, rfl, K4⟩
  case round =>
    clear K4 c0 c9 c10 c28 c29 f9 f10 f28 f29
    obtain ⟨k, hk, rfl, HG⟩ := hrel
    by_cases hlt : k < 7
    · have r1 : (k : Int) < 7 := by omega
      have MT2 := hid (MT.out k wr hlt HG.out)
      clear MT HL HG
      go_wp2_with fail
      refine MT2.out.mono ?_
      rintro e w2 ⟨rfl, g2⟩
      have G2 := hid g2
      clear MT2 g2
      go_wp2
      exact ⟨⟨k + 1, by omega, by go_num, G2⟩, by simp [intOf]; omega⟩
    · have hk9 : k = 7 := by omega
      subst hk9
      have HL2 := hid (HL.out wr HG.out)
      clear MT HL HG hk hlt
      go_wp2_with fail
      refine HL2.out.mono ?_
      rintro e w2 ⟨rfl, g2⟩
      have G2 := hid g2
      clear HL2 g2
      go_wp2
      go_ret
      exact ⟨rfl, G2.out⟩
end
end Go.Proofs.YtnldjcoajliciaaGreat
