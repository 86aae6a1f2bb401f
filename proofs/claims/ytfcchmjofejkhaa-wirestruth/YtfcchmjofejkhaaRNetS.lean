/- The reference's net: Send. -/
import Derived.Test.YtfcchmjofejkhaaRNetB
namespace Go.Proofs.Ytfcchmjofejkhaa
open Go.RowKit Go.Maps
set_option linter.unusedVariables false
set_option linter.unusedSimpArgs false

/-- five cells are stored -/
theorem five {W : World} {g : Nat} {y0 y1 y2 y3 y4 v0 v1 v2 v3 v4 : Value} {t : TypeId} (h : RowIs W g [y0, y1, y2, y3, y4] t) : RowIs (((((W.setCell ⟨g, 0, none⟩ v0).setCell ⟨g, 1, none⟩ v1).setCell ⟨g, 2, none⟩ v2).setCell ⟨g, 3, none⟩ v3).setCell ⟨g, 4, none⟩ v4) g [v0, v1, v2, v3, v4] t ∧ Keep (· = g) W (((((W.setCell ⟨g, 0, none⟩ v0).setCell ⟨g, 1, none⟩ v1).setCell ⟨g, 2, none⟩ v2).setCell ⟨g, 3, none⟩ v3).setCell ⟨g, 4, none⟩ v4) :=
  ⟨((((h.set 0 v0).set 1 v1).set 2 v2).set 3 v3).set 4 v4, ((((keep_setCell W g 0 v0).trans (keep_setCell _ g 1 v1)).trans (keep_setCell _ g 2 v2)).trans (keep_setCell _ g 3 v3)).trans (keep_setCell _ g 4 v4)⟩
theorem row3 (w : World) (a b : Obj) (cs : List Value) (t : TypeId) : RowIs (((w.alloc a).alloc b).alloc (.cells cs.toArray t)) (w.heap.size + 1 + 1) cs t := by
  have e : ((w.alloc a).alloc b).heap.size = w.heap.size + 1 + 1 := by simp
  rw [← e]; exact heap_alloc_new _ _
theorem row2 (w : World) (a : Obj) (cs : List Value) (t : TypeId) : RowIs ((w.alloc a).alloc (.cells cs.toArray t)) (w.heap.size + 1) cs t := by
  have e : (w.alloc a).heap.size = w.heap.size + 1 := by simp
  rw [← e]; exact heap_alloc_new _ _
theorem row1 (w : World) (cs : List Value) (t : TypeId) : RowIs (w.alloc (.cells cs.toArray t)) w.heap.size cs t := heap_alloc_new _ _
def rsendD (m : RNet) (x : Pk) : RNet × Bool :=
  if two x.fr x.tt = true ∧ rcut m.cs x.fr x.tt = false ∧ m.L.length < 4096 then ({ m with L := m.L ++ [x], se := m.se + 1 }, true) else ({ m with se := m.se + 1, lo := m.lo + 1 }, false)
set_option maxRecDepth 100000 in
set_option maxHeartbeats 4000000 in
theorem rsend_any (lv cv : Value) (m : RNet) (x : Pk) (w : World) (h : RfIs w lv cv m) (hse : m.se < 1152921504606846976) (hlo : m.lo < 1152921504606846976) :
    Calls Try.prog 24 #[rmV lv cv m, pkV x] w fun e w' => ∃ lv', e = .returned (.tuple #[rmV lv' cv (rsendD m x).1, .bool (rsendD m x).2]) ∧ RfIs w' lv' cv (rsendD m x).1 ∧ Keep (fun _ => False) w w' := by
  have HSD : Hid (rsendD m x = if two x.fr x.tt = true ∧ rcut m.cs x.fr x.tt = false ∧ m.L.length < 4096 then ({ m with L := m.L ++ [x], se := m.se + 1 }, true) else ({ m with se := m.se + 1, lo := m.lo + 1 }, false)) := rfl
  have HT : Hid (two x.fr x.tt = (isN x.fr && isN x.tt && !decide (x.fr = x.tt))) := rfl
  have H := hid h
  have NA := hid (fun W => rnode_any x.fr W)
  have NB := hid (fun W => rnode_any x.tt W)
  have IC := hid (fun (m' : RNet) (hm : m'.L = m.L ∧ m'.cs = m.cs ∧ m'.se = m.se + 1 ∧ m'.ta = m.ta ∧ m'.lo = m.lo) W (hW : Keep (fun _ => False) w W) => risCut_any lv cv m' x.fr x.tt W ⟨by rw [hm.1]; exact hW.ownsRow h.l (fun _ _ h => h), by rw [hm.2.1]; exact hW.ownsRow h.c (fun _ _ h => h), by rw [hm.1]; exact h.ll, by rw [hm.2.1]; exact h.cl, by rw [hm.2.2.1]; omega, by rw [hm.2.2.2.1]; exact h.ta, by rw [hm.2.2.2.2]; exact h.lo⟩)
  have IC2 := hid (IC.out { m with se := m.se + 1 } ⟨rfl, rfl, rfl, rfl, rfl⟩)
  clear IC
  have hw1 : wrap64 ((m.se : Int) + 1) = (m.se : Int) + 1 := IntWalk.wrap64_in _ (by omega)
  have hw2 : wrap64 ((m.lo : Int) + 1) = (m.lo : Int) + 1 := IntWalk.wrap64_in _ (by omega)
  obtain ⟨ad1, c1, rfl⟩ := row_form h.l
  obtain ⟨ad2, c2, rfl⟩ := row_form h.c
  obtain ⟨fr, tt, s⟩ := x
  unfold rmV pkV at *
  simp only at *
  clear h
  have HCS : Hid (((m.se + 1 : Nat) : Int) = (m.se : Int) + 1) := by show _ = _; omega
  rw [HCS.out] at IC2
  generalize isN fr = xa at *
  generalize isN tt = xb at *
  generalize rcut m.cs fr tt = rc at *
  have RL : Hid (RfIs w (.slice ad1 m.L.length c1) (.slice ad2 m.cs.length c2) { m with se := m.se + 1, lo := m.lo + 1 }) := ⟨H.out.l, H.out.c, H.out.ll, H.out.cl, by show m.se + 1 ≤ _; omega, H.out.ta, by show m.lo + 1 ≤ _; omega⟩
  cases xa with
  | false =>
    have HR : Hid (rsendD m ⟨fr, tt, s⟩ = ({ m with se := m.se + 1, lo := m.lo + 1 }, false)) := by show _ = _; rw [HSD.out, if_neg (by rw [HT.out]; simp)]
    clear HSD HT IC2 NB H
    go_enter Try.func24, Try.ntmps24
    go_wp2_with fail
    refine (NA.out _).mono ?_
    rintro e w1 ⟨rfl, rfl⟩
    clear NA
    go_wp2
    refine bodyPost_ret (v := .tuple #[.agg #[.slice ad1 m.L.length c1, .slice ad2 m.cs.length c2, .int .i64 ((m.se : Int) + 1), .int .i64 m.ta, .int .i64 ((m.lo : Int) + 1)], .bool false]) (npk_cell_tmp (p := 4) (u := 5) rfl _ _ (w.heap.size + 1 + 1) _ _ rfl rfl (run_loadVar_row _ _ _ _ _ _ _ (row3 w _ _ [.slice ad1 m.L.length c1, .slice ad2 m.cs.length c2, .int .i64 ((m.se : Int) + 1), .int .i64 m.ta, .int .i64 ((m.lo : Int) + 1)] _) Try.underlying28 rfl (by kernel_rfl))) rfl ?_
    have kk : ∀ X Y Z, Keep (fun _ => False) w (((w.alloc X).alloc Y).alloc Z) := fun X Y Z => ((keep_alloc (fun _ => False) w _).trans (keep_alloc _ _ _)).trans (keep_alloc _ _ _)
    exact ⟨.slice ad1 m.L.length c1, by rw [HR.out]; rfl, by rw [HR.out]; exact RL.out.keep (kk _ _ _), kk _ _ _⟩
  | true =>
    cases xb with
    | false =>
      have HR : Hid (rsendD m ⟨fr, tt, s⟩ = ({ m with se := m.se + 1, lo := m.lo + 1 }, false)) := by show _ = _; rw [HSD.out, if_neg (by rw [HT.out]; simp)]
      clear HSD HT IC2 H
      go_enter Try.func24, Try.ntmps24
      go_wp2_with fail
      refine (NA.out _).mono ?_
      rintro e w1 ⟨rfl, rfl⟩
      clear NA
      go_wp2_with fail
      refine (NB.out _).mono ?_
      rintro e w1 ⟨rfl, rfl⟩
      clear NB
      go_wp2
      refine bodyPost_ret (v := .tuple #[.agg #[.slice ad1 m.L.length c1, .slice ad2 m.cs.length c2, .int .i64 ((m.se : Int) + 1), .int .i64 m.ta, .int .i64 ((m.lo : Int) + 1)], .bool false]) (npk_cell_tmp (p := 4) (u := 5) rfl _ _ (w.heap.size + 1 + 1) _ _ rfl rfl (run_loadVar_row _ _ _ _ _ _ _ (row3 w _ _ [.slice ad1 m.L.length c1, .slice ad2 m.cs.length c2, .int .i64 ((m.se : Int) + 1), .int .i64 m.ta, .int .i64 ((m.lo : Int) + 1)] _) Try.underlying28 rfl (by kernel_rfl))) rfl ?_
      have kk : ∀ X Y Z, Keep (fun _ => False) w (((w.alloc X).alloc Y).alloc Z) := fun X Y Z => ((keep_alloc (fun _ => False) w _).trans (keep_alloc _ _ _)).trans (keep_alloc _ _ _)
      exact ⟨.slice ad1 m.L.length c1, by rw [HR.out]; rfl, by rw [HR.out]; exact RL.out.keep (kk _ _ _), kk _ _ _⟩
    | true =>
      by_cases hft : fr = tt
      · have HR : Hid (rsendD m ⟨fr, tt, s⟩ = ({ m with se := m.se + 1, lo := m.lo + 1 }, false)) := by show _ = _; rw [HSD.out, if_neg (by rw [HT.out, hft]; simp)]
        have hfd : decide (fr = tt) = true := decide_eq_true hft
        have hfe : (fr == tt) = true := beq_iff_eq.2 hft
        clear HSD HT IC2 H hft
        go_enter Try.func24, Try.ntmps24
        go_wp2_with fail
        refine (NA.out _).mono ?_
        rintro e w1 ⟨rfl, rfl⟩
        clear NA
        go_wp2_with fail
        refine (NB.out _).mono ?_
        rintro e w1 ⟨rfl, rfl⟩
        clear NB
        go_wp2
        refine bodyPost_ret (v := .tuple #[.agg #[.slice ad1 m.L.length c1, .slice ad2 m.cs.length c2, .int .i64 ((m.se : Int) + 1), .int .i64 m.ta, .int .i64 ((m.lo : Int) + 1)], .bool false]) (npk_cell_tmp (p := 4) (u := 5) rfl _ _ (w.heap.size + 1 + 1) _ _ rfl rfl (run_loadVar_row _ _ _ _ _ _ _ (row3 w _ _ [.slice ad1 m.L.length c1, .slice ad2 m.cs.length c2, .int .i64 ((m.se : Int) + 1), .int .i64 m.ta, .int .i64 ((m.lo : Int) + 1)] _) Try.underlying28 rfl (by kernel_rfl))) rfl ?_
        have kk : ∀ X Y Z, Keep (fun _ => False) w (((w.alloc X).alloc Y).alloc Z) := fun X Y Z => ((keep_alloc (fun _ => False) w _).trans (keep_alloc _ _ _)).trans (keep_alloc _ _ _)
        exact ⟨.slice ad1 m.L.length c1, by rw [HR.out]; rfl, by rw [HR.out]; exact RL.out.keep (kk _ _ _), kk _ _ _⟩
      · have htw : two fr tt = true := by rw [HT.out]; simp [hft]
        have hfd : decide (fr = tt) = false := decide_eq_false hft
        have hfe : (fr == tt) = false := by simpa using hft
        clear HT hft
        have K0 : Hid (Keep (fun _ => False) w (((w.alloc (.cells #[.slice ad1 m.L.length c1, .slice ad2 m.cs.length c2, .int .i64 ((m.se : Int) + 1), .int .i64 m.ta, .int .i64 m.lo] 28)).alloc (.cells #[.int .i64 fr, .int .i64 tt, .string s] 58)).alloc (.cells #[.slice none 0 0, .slice none 0 0, .int .i64 0, .int .i64 0, .int .i64 0] 28))) := ((keep_alloc _ _ _).trans (keep_alloc _ _ _)).trans (keep_alloc _ _ _)
        have RA0 : RowIs (((w.alloc (.cells #[.slice ad1 m.L.length c1, .slice ad2 m.cs.length c2, .int .i64 ((m.se : Int) + 1), .int .i64 m.ta, .int .i64 m.lo] 28)).alloc (.cells #[.int .i64 fr, .int .i64 tt, .string s] 58)).alloc (.cells #[.slice none 0 0, .slice none 0 0, .int .i64 0, .int .i64 0, .int .i64 0] 28)) w.heap.size [.slice ad1 m.L.length c1, .slice ad2 m.cs.length c2, .int .i64 ((m.se : Int) + 1), .int .i64 m.ta, .int .i64 m.lo] 28 := ((row1 w _ _).keep (keep_alloc (fun _ => False) _ _) (fun h => h)).keep (keep_alloc (fun _ => False) _ _) (fun h => h)
        have RP0 : RowIs (((w.alloc (.cells #[.slice ad1 m.L.length c1, .slice ad2 m.cs.length c2, .int .i64 ((m.se : Int) + 1), .int .i64 m.ta, .int .i64 m.lo] 28)).alloc (.cells #[.int .i64 fr, .int .i64 tt, .string s] 58)).alloc (.cells #[.slice none 0 0, .slice none 0 0, .int .i64 0, .int .i64 0, .int .i64 0] 28)) (w.heap.size + 1) [.int .i64 fr, .int .i64 tt, .string s] 58 := (row2 w _ _ _).keep (keep_alloc (fun _ => False) _ _) (fun h => h)
        have RZ0 : RowIs (((w.alloc (.cells #[.slice ad1 m.L.length c1, .slice ad2 m.cs.length c2, .int .i64 ((m.se : Int) + 1), .int .i64 m.ta, .int .i64 m.lo] 28)).alloc (.cells #[.int .i64 fr, .int .i64 tt, .string s] 58)).alloc (.cells #[.slice none 0 0, .slice none 0 0, .int .i64 0, .int .i64 0, .int .i64 0] 28)) (w.heap.size + 1 + 1) [.slice none 0 0, .slice none 0 0, .int .i64 0, .int .i64 0, .int .i64 0] 28 := row3 w _ _ _ _
        have HA := hid RA0
        have HP := hid RP0
        have HZ := hid RZ0
        clear RA0 RP0 RZ0
        go_enter Try.func24, Try.ntmps24
        go_wp2_with fail
        refine (NA.out _).mono ?_
        rintro e w1 ⟨rfl, rfl⟩
        clear NA
        go_wp2_with fail
        refine (NB.out _).mono ?_
        rintro e w1 ⟨rfl, rfl⟩
        clear NB
        go_wp2_with fail
        refine (IC2.out _ K0.out).mono ?_
        rintro e w1 ⟨rfl, k1⟩
        have K1 := hid (K0.out.trans k1)
        replace HA := hid (HA.out.keep k1 (fun h => h))
        replace HP := hid (HP.out.keep k1 (fun h => h))
        replace HZ := hid (HZ.out.keep k1 (fun h => h))
        clear k1 K0 IC2
        have a0 := HA.out.cellAt (o := 0) rfl
        have a1 := HA.out.cellAt (o := 1) rfl
        have a2 := HA.out.cellAt (o := 2) rfl
        have a3 := HA.out.cellAt (o := 3) rfl
        have a4 := HA.out.cellAt (o := 4) rfl
        have f4 := HA.out.frozen (o := 4)
        have f0 := HA.out.frozen (o := 0)
        have p0 := HP.out.cellAt (o := 0) rfl
        have p1 := HP.out.cellAt (o := 1) rfl
        have p2 := HP.out.cellAt (o := 2) rfl
        have z0 := HZ.out.cellAt (o := 0) rfl
        have z1 := HZ.out.cellAt (o := 1) rfl
        have z2 := HZ.out.cellAt (o := 2) rfl
        have z3 := HZ.out.cellAt (o := 3) rfl
        have z4 := HZ.out.cellAt (o := 4) rfl
        have g0 := HZ.out.frozen (o := 0)
        have g1 := HZ.out.frozen (o := 1)
        have g2 := HZ.out.frozen (o := 2)
        have g3 := HZ.out.frozen (o := 3)
        have g4 := HZ.out.frozen (o := 4)
        cases rc with
        | true =>
          have HR : Hid (rsendD m ⟨fr, tt, s⟩ = ({ m with se := m.se + 1, lo := m.lo + 1 }, false)) := by show _ = _; rw [HSD.out, if_neg (by simp)]
          clear HSD
          have HF := hid (five (v0 := .slice ad1 m.L.length c1) (v1 := .slice ad2 m.cs.length c2) (v2 := .int .i64 ((m.se : Int) + 1)) (v3 := .int .i64 m.ta) (v4 := .int .i64 ((m.lo : Int) + 1)) (HZ.out.keep (keep_setCell w1 w.heap.size 4 (.int .i64 ((m.lo : Int) + 1))) (fun e => by omega)))
          go_wp2
          refine bodyPost_ret (v := .tuple #[.agg #[.slice ad1 m.L.length c1, .slice ad2 m.cs.length c2, .int .i64 ((m.se : Int) + 1), .int .i64 m.ta, .int .i64 ((m.lo : Int) + 1)], .bool false]) (npk_cell_tmp (p := 4) (u := 5) rfl _ _ (w.heap.size + 1 + 1) _ _ rfl rfl (run_loadVar_row _ _ _ _ _ _ _ HF.out.1 Try.underlying28 rfl (by kernel_rfl))) rfl ?_
          have kk : Keep (fun _ => False) w _ := (K1.out.then (keep_setCell _ _ _ _) (fun j hj e => by omega)).then HF.out.2 (fun j hj e => by omega)
          exact ⟨.slice ad1 m.L.length c1, by rw [HR.out]; rfl, by rw [HR.out]; exact RL.out.keep kk, kk⟩
        | false =>
          by_cases hl : m.L.length < 4096
          · have HR : Hid (rsendD m ⟨fr, tt, s⟩ = ({ m with L := m.L ++ [⟨fr, tt, s⟩], se := m.se + 1 }, true)) := by show _ = _; rw [HSD.out, if_pos ⟨htw, rfl, hl⟩]
            have hge : decide ((4096 : Int) ≤ (m.L.length : Int)) = false := decide_eq_false (by omega)
            have hge2 : ¬ ((4096 : Int) ≤ (m.L.length : Int)) := by omega
            clear HSD RL
            go_wp2
            clear hge hge2
            go_cut [52] from 46 to 53 (fun sv wx => ∃ ad4 cap4 w4, sv = .slice ad4 (m.L.length + 1) cap4 ∧ wx = w4.setCell ⟨w.heap.size, 0, none⟩ (.slice ad4 (m.L.length + 1) cap4) ∧ Hid (w4.ownsRow w1.heap.size 58 3 (.slice ad4 (m.L.length + 1) cap4) (m.L.length + 1) ([] ++ pks m.L ++ pks [⟨fr, tt, s⟩])) ∧ Hid (Keep (fun _ => False) w1 w4))
            case first =>
              have HOW := hid (K1.out.ownsRow H.out.l (fun _ _ h => h))
              have AP := hid (ap2 w1 (.slice ad1 m.L.length c1) m.L ⟨fr, tt, s⟩ HOW.out)
              have CL : Hid (∀ W, Keep (fun _ => False) w1 W → (W.cell? ⟨w.heap.size, 0, none⟩ = some (.slice ad1 m.L.length c1) ∧ W.frozen? ⟨w.heap.size, 0, none⟩ = false) ∧ W.cell? ⟨w.heap.size + 1, 0, none⟩ = some (.int .i64 fr) ∧ W.cell? ⟨w.heap.size + 1, 1, none⟩ = some (.int .i64 tt) ∧ W.cell? ⟨w.heap.size + 1, 2, none⟩ = some (.string s)) := fun W hW => ⟨⟨(HA.out.keep hW (fun h => h)).cellAt rfl, (HA.out.keep hW (fun h => h)).frozen⟩, (HP.out.keep hW (fun h => h)).cellAt rfl, (HP.out.keep hW (fun h => h)).cellAt rfl, (HP.out.keep hW (fun h => h)).cellAt rfl⟩
              obtain ⟨⟨u00, v00⟩, u01, u02, u03⟩ := CL.out (w1.alloc (Obj.cells #[] 58)) (keep_alloc _ _ _)
              obtain ⟨⟨u10, v10⟩, u11, u12, u13⟩ := CL.out (w1.alloc (Obj.cells #[.int .i64 fr, .int .i64 tt, .string s] 58)) (keep_alloc _ _ _)
              obtain ⟨⟨u20, v20⟩, u21, u22, u23⟩ := CL.out ((w1.alloc (Obj.cells #[] 58)).alloc (Obj.cells #[.int .i64 fr, .int .i64 tt, .string s] 58)) ((keep_alloc _ _ _).trans (keep_alloc _ _ _))
              obtain ⟨⟨u30, v30⟩, u31, u32, u33⟩ := CL.out ((w1.alloc (Obj.cells #[.int .i64 fr, .int .i64 tt, .string s] 58)).alloc (Obj.cells #[] 58)) ((keep_alloc _ _ _).trans (keep_alloc _ _ _))
              have HZ0 : Hid (0 + m.L.length = m.L.length) := Nat.zero_add _
              have LL : Hid ((pks m.L).length = m.L.length * 3) := pks_len _
              have OL := hid (pks_one m.L)
              have OX := hid (pks_one [⟨fr, tt, s⟩])
              have B1 : Hid (m.L.length ≤ 70368744177) := by show _ ≤ _; omega
              have B2 : Hid (m.L.length * 32 ≤ 140737488355328) := by show _ ≤ _; omega
              have B3 : Hid (m.L.length + 1 ≤ 70368744177) := by show _ ≤ _; omega
              have B4 : Hid ((m.L.length + 1) * 32 ≤ 140737488355328) := by show _ ≤ _; omega
              go_region_law (first | (refine step_gapp (w0 := w1.alloc (Obj.cells #[] 58)) (by rfl) _ _ ElRPk (by rfl) w1.heap.size (.slice (some ⟨w1.heap.size, 0, none⟩) 0 0) (.slice ad1 m.L.length c1) [] (pks m.L) 0 m.L.length m.L.length HZ0.out (by first | exact keep_drew _ _ | exact Keep.refl _ _) (by rfl) (by rfl) AP.out.oA AP.out.sA AP.out.gA LL.out OL.out B1.out B2.out ?_; intro ad3 cap3 w2 hr2 hk2; obtain ⟨k2, k2x, s2, o2, gs2⟩ := AP.out.fA ad3 cap3 w2 hr2 hk2; obtain ⟨⟨n0, n0f⟩, n1, n2, n3⟩ := CL.out w2 k2; obtain ⟨⟨m0, m0f⟩, m1, m2, m3⟩ := CL.out (w2.alloc (Obj.cells #[.int .i64 fr, .int .i64 tt, .string s] 58)) k2x) | (refine step_gapp (w0 := (w1.alloc (Obj.cells #[] 58)).alloc (Obj.cells #[.int .i64 fr, .int .i64 tt, .string s] 58)) (by rfl) _ _ ElRPk (by rfl) w1.heap.size (.slice (some ⟨w1.heap.size, 0, none⟩) 0 0) (.slice ad1 m.L.length c1) [] (pks m.L) 0 m.L.length m.L.length HZ0.out (by first | exact keep_drew _ _ | exact Keep.refl _ _) (by rfl) (by rfl) AP.out.oB AP.out.sB AP.out.gB LL.out OL.out B1.out B2.out ?_; intro ad3 cap3 w2 hr2 hk2; obtain ⟨kb, sb, gsb⟩ := AP.out.fB ad3 cap3 w2 hr2 hk2; obtain ⟨⟨n0, n0f⟩, n1, n2, n3⟩ := CL.out w2 kb) | (refine step_gapp (w0 := (w1.alloc (Obj.cells #[.int .i64 fr, .int .i64 tt, .string s] 58)).alloc (Obj.cells #[] 58)) (by rfl) _ _ ElRPk (by rfl) w1.heap.size (.slice (some ⟨w1.heap.size + 1, 0, none⟩) 0 0) (.slice ad1 m.L.length c1) [] (pks m.L) 0 m.L.length m.L.length HZ0.out (by first | exact keep_drew _ _ | exact Keep.refl _ _) (by rfl) (by rfl) AP.out.oC AP.out.sC AP.out.gC LL.out OL.out B1.out B2.out ?_; intro ad3 cap3 w2 hr2 hk2; obtain ⟨kc, sc, gsc⟩ := AP.out.fC ad3 cap3 w2 hr2 hk2; obtain ⟨⟨n0, n0f⟩, n1, n2, n3⟩ := CL.out w2 kc) | (refine step_gapp (w0 := w2.alloc (Obj.cells #[.int .i64 fr, .int .i64 tt, .string s] 58)) (by rfl) _ _ ElRPk (by rfl) w1.heap.size (.slice ad3 m.L.length cap3) (.slice (some ⟨w2.heap.size, 0, none⟩) 1 1) ([] ++ pks m.L) (pks [⟨fr, tt, s⟩]) m.L.length 1 (m.L.length + 1) (by rfl) (Keep.refl _ _) (by rfl) (by rfl) o2 s2 gs2 (by rfl) OX.out B3.out B4.out ?_; intro ad4 cap4 w4 hr4 hk4; have HE : Hid (Keep (fun _ => False) w1 w4) := (k2x).then hk4 (fun j hj e => by have := ownsRow_ge o2 e; omega); obtain ⟨⟨q0, q0f⟩, q1, q2, q3⟩ := CL.out w4 HE.out) | (refine step_gapp (w0 := w2) (by rfl) _ _ ElRPk (by rfl) w1.heap.size (.slice ad3 m.L.length cap3) (.slice (some ⟨w1.heap.size + 1, 0, none⟩) 1 1) ([] ++ pks m.L) (pks [⟨fr, tt, s⟩]) m.L.length 1 (m.L.length + 1) (by rfl) (Keep.refl _ _) (by rfl) (by rfl) hr2 sb gsb (by rfl) OX.out B3.out B4.out ?_; intro ad4 cap4 w4 hr4 hk4; have HE : Hid (Keep (fun _ => False) w1 w4) := (kb).then hk4 (fun j hj e => by have := ownsRow_ge hr2 e; omega); obtain ⟨⟨q0, q0f⟩, q1, q2, q3⟩ := CL.out w4 HE.out) | (refine step_gapp (w0 := w2) (by rfl) _ _ ElRPk (by rfl) w1.heap.size (.slice ad3 m.L.length cap3) (.slice (some ⟨w1.heap.size, 0, none⟩) 1 1) ([] ++ pks m.L) (pks [⟨fr, tt, s⟩]) m.L.length 1 (m.L.length + 1) (by rfl) (Keep.refl _ _) (by rfl) (by rfl) hr2 sc gsc (by rfl) OX.out B3.out B4.out ?_; intro ad4 cap4 w4 hr4 hk4; have HE : Hid (Keep (fun _ => False) w1 w4) := (kc).then hk4 (fun j hj e => by have := ownsRow_ge hr2 e; omega); obtain ⟨⟨q0, q0f⟩, q1, q2, q3⟩ := CL.out w4 HE.out))
              all_goals (go_wp2_with fail; go_meet; exact ⟨_, _, _, rfl, rfl, hr4, HE⟩)
            case rest =>
              obtain ⟨ad4, cap4, w4, rfl, rfl, HO4, HE⟩ := hcut
              have rA := (HA.out.keep HE.out (fun h => h)).set 0 (.slice ad4 (m.L.length + 1) cap4)
              have rZ := (HZ.out.keep HE.out (fun h => h)).keep (keep_setCell w4 w.heap.size 0 (.slice ad4 (m.L.length + 1) cap4)) (fun e => by omega)
              have hsz := HA.out.lt
              have HO5 : Hid ((w4.setCell ⟨w.heap.size, 0, none⟩ (.slice ad4 (m.L.length + 1) cap4)).ownsRow w1.heap.size 58 3 (.slice ad4 (m.L.length + 1) cap4) (m.L.length + 1) ([] ++ pks m.L ++ pks [⟨fr, tt, s⟩])) := (keep_setCell _ _ _ _).ownsRow HO4.out (fun g e e2 => by have := ownsRow_ge HO4.out e; omega)
              have K5 : Hid (Keep (fun _ => False) w (w4.setCell ⟨w.heap.size, 0, none⟩ (.slice ad4 (m.L.length + 1) cap4))) := (K1.out.trans HE.out).then (keep_setCell _ _ _ _) (fun j hj e => by omega)
              have hz9 : Hid (w.heap.size + 1 + 1 < w1.heap.size) := HZ.out.lt
              clear a0 a1 a2 a3 a4 f4 f0 p0 p1 p2 z0 z1 z2 z3 z4 g0 g1 g2 g3 g4 HA HP HZ HE K1 HO4 hsz
              generalize w4.setCell ⟨w.heap.size, 0, none⟩ (.slice ad4 (m.L.length + 1) cap4) = w5 at *
              have HF := hid (five (v0 := .slice ad4 (m.L.length + 1) cap4) (v1 := .slice ad2 m.cs.length c2) (v2 := .int .i64 ((m.se : Int) + 1)) (v3 := .int .i64 m.ta) (v4 := .int .i64 m.lo) rZ)
              have a0 := rA.cellAt (o := 0) rfl
              have a1 := rA.cellAt (o := 1) rfl
              have a2 := rA.cellAt (o := 2) rfl
              have a3 := rA.cellAt (o := 3) rfl
              have a4 := rA.cellAt (o := 4) rfl
              have z0 := rZ.cellAt (o := 0) rfl
              have z1 := rZ.cellAt (o := 1) rfl
              have z2 := rZ.cellAt (o := 2) rfl
              have z3 := rZ.cellAt (o := 3) rfl
              have z4 := rZ.cellAt (o := 4) rfl
              have g0 := rZ.frozen (o := 0)
              have g1 := rZ.frozen (o := 1)
              have g2 := rZ.frozen (o := 2)
              have g3 := rZ.frozen (o := 3)
              have g4 := rZ.frozen (o := 4)
              clear rA rZ
              go_wp2
              refine bodyPost_ret (v := .tuple #[.agg #[.slice ad4 (m.L.length + 1) cap4, .slice ad2 m.cs.length c2, .int .i64 ((m.se : Int) + 1), .int .i64 m.ta, .int .i64 m.lo], .bool true]) (npk_cell_tmp (p := 4) (u := 5) rfl _ _ (w.heap.size + 1 + 1) _ _ rfl rfl (run_loadVar_row _ _ _ _ _ _ _ HF.out.1 Try.underlying28 rfl (by kernel_rfl))) rfl ?_
              have kk : Keep (fun _ => False) w _ := K5.out.then HF.out.2 (fun j hj e => by omega)
              have hz8 := hz9.out
              refine ⟨.slice ad4 (m.L.length + 1) cap4, by rw [HR.out]; rfl, ?_, kk⟩
              rw [HR.out]
              refine ⟨?_, kk.ownsRow H.out.c (fun _ _ h => h), by show (m.L ++ [_]).length ≤ _; simp; omega, H.out.cl, by show m.se + 1 ≤ _; omega, H.out.ta, H.out.lo⟩
              show World.ownsRow _ 0 _ 3 _ (m.L ++ [(⟨fr, tt, s⟩ : Pk)]).length (pks (m.L ++ [(⟨fr, tt, s⟩ : Pk)]))
              rw [List.length_append, pks_app]
              exact HF.out.2.ownsRow (ownsRow_base HO5.out (Nat.zero_le _)) (fun g e e2 => by have := ownsRow_ge HO5.out e; omega)
          · have HR : Hid (rsendD m ⟨fr, tt, s⟩ = ({ m with se := m.se + 1, lo := m.lo + 1 }, false)) := by show _ = _; rw [HSD.out, if_neg (fun e => hl e.2.2)]
            clear HSD
            have hge : (4096 : Int) ≤ (m.L.length : Int) := by omega
            have HF := hid (five (v0 := .slice ad1 m.L.length c1) (v1 := .slice ad2 m.cs.length c2) (v2 := .int .i64 ((m.se : Int) + 1)) (v3 := .int .i64 m.ta) (v4 := .int .i64 ((m.lo : Int) + 1)) (HZ.out.keep (keep_setCell w1 w.heap.size 4 (.int .i64 ((m.lo : Int) + 1))) (fun e => by omega)))
            go_wp2
            refine bodyPost_ret (v := .tuple #[.agg #[.slice ad1 m.L.length c1, .slice ad2 m.cs.length c2, .int .i64 ((m.se : Int) + 1), .int .i64 m.ta, .int .i64 ((m.lo : Int) + 1)], .bool false]) (npk_cell_tmp (p := 4) (u := 5) rfl _ _ (w.heap.size + 1 + 1) _ _ rfl rfl (run_loadVar_row _ _ _ _ _ _ _ HF.out.1 Try.underlying28 rfl (by kernel_rfl))) rfl ?_
            have kk : Keep (fun _ => False) w _ := (K1.out.then (keep_setCell _ _ _ _) (fun j hj e => by omega)).then HF.out.2 (fun j hj e => by omega)
            exact ⟨.slice ad1 m.L.length c1, by rw [HR.out]; rfl, by rw [HR.out]; exact RL.out.keep kk, kk⟩
end Go.Proofs.Ytfcchmjofejkhaa
