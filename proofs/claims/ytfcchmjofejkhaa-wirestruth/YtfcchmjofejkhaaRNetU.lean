/- The reference's net: Double. -/
import Derived.Test.YtfcchmjofejkhaaRNetT
namespace Go.Proofs.Ytfcchmjofejkhaa
open Go.RowKit Go.Maps
set_option linter.unusedVariables false
set_option linter.unusedSimpArgs false

set_option maxRecDepth 100000 in
set_option maxHeartbeats 4000000 in
theorem rdouble_none (lv cv : Value) (m : RNet) (i : Int) (w : World) (h : RfIs w lv cv m) (hi : hasI m.L.length i = false) : Calls Try.prog 27 #[rmV lv cv m, .int .i64 i] w fun e w' => e = .returned (.tuple #[rmV lv cv m, .bool false]) ∧ Keep (fun _ => False) w w' := by
  have AT := hid (fun W (hW : Keep (fun _ => False) w W) => rat_none lv cv m i W (h.keep hW) hi)
  have H := hid h
  obtain ⟨ad1, c1, rfl⟩ := row_form h.l
  obtain ⟨ad2, c2, rfl⟩ := row_form h.c
  unfold rmV pkV pk0 at *
  simp only at *
  clear h
  have K0 : Hid (Keep (fun _ => False) w ((w.alloc (.cells #[.slice ad1 m.L.length c1, .slice ad2 m.cs.length c2, .int .i64 m.se, .int .i64 m.ta, .int .i64 m.lo] 28)).alloc (.cells #[.slice none 0 0, .slice none 0 0, .int .i64 0, .int .i64 0, .int .i64 0] 28))) := (keep_alloc _ _ _).trans (keep_alloc _ _ _)
  have HA0 := hid ((row1 w [.slice ad1 m.L.length c1, .slice ad2 m.cs.length c2, .int .i64 m.se, .int .i64 m.ta, .int .i64 m.lo] 28).keep (keep_alloc (fun _ => False) _ (.cells #[.slice none 0 0, .slice none 0 0, .int .i64 0, .int .i64 0, .int .i64 0] 28)) (fun h => h))
  have HZ0 := hid (row2 w (.cells #[.slice ad1 m.L.length c1, .slice ad2 m.cs.length c2, .int .i64 m.se, .int .i64 m.ta, .int .i64 m.lo] 28) [.slice none 0 0, .slice none 0 0, .int .i64 0, .int .i64 0, .int .i64 0] 28)
  go_enter Try.func27, Try.ntmps27
  go_wp2_with fail
  refine (AT.out _ K0.out).mono ?_
  rintro e w9 ⟨rfl, k9⟩
  have kA := k9.trans (keep_alloc (fun _ => False) w9 (.cells #[.int .i64 0, .int .i64 0, .string ⟨#[]⟩] 58))
  have HA := hid (HA0.out.keep kA (fun h => h))
  have HZ := hid (HZ0.out.keep kA (fun h => h))
  have HP := hid (row1 w9 [.int .i64 0, .int .i64 0, .string ⟨#[]⟩] 58)
  have K1 := hid (K0.out.trans kA)
  have a0 := HA.out.cellAt (o := 0) rfl
  have a1 := HA.out.cellAt (o := 1) rfl
  have a2 := HA.out.cellAt (o := 2) rfl
  have a3 := HA.out.cellAt (o := 3) rfl
  have a4 := HA.out.cellAt (o := 4) rfl
  have f0 := HA.out.frozen (o := 0)
  have f1 := HA.out.frozen (o := 1)
  have f2 := HA.out.frozen (o := 2)
  have f3 := HA.out.frozen (o := 3)
  have f4 := HA.out.frozen (o := 4)
  have z0 := HZ.out.cellAt (o := 0) rfl
  have z1 := HZ.out.cellAt (o := 1) rfl
  have z2 := HZ.out.cellAt (o := 2) rfl
  have z3 := HZ.out.cellAt (o := 3) rfl
  have z4 := HZ.out.cellAt (o := 4) rfl
  have g0 := HZ.out.frozen (o := 0)
  have g1 := HZ.out.frozen (o := 1)
  have g2 := HZ.out.frozen (o := 2)
  have g3 := HZ.out.frozen (o := 3)
  have g4 := HZ.out.frozen (o := 4)
  clear k9 kA AT K0 HA0 HZ0
  clear hi H
  have HF := hid (five (v0 := .slice ad1 m.L.length c1) (v1 := .slice ad2 m.cs.length c2) (v2 := .int .i64 m.se) (v3 := .int .i64 m.ta) (v4 := .int .i64 m.lo) HZ.out)
  have HKR := hid (K1.out.then HF.out.2 (fun j hj e => by omega))
  clear HA HZ HP K1
  go_wp2
  refine bodyPost_ret (v := .tuple #[.agg #[.slice ad1 m.L.length c1, .slice ad2 m.cs.length c2, .int .i64 m.se, .int .i64 m.ta, .int .i64 m.lo], .bool false]) (npk_cell_tmp (p := 4) (u := 5) rfl _ _ (w.heap.size + 1) _ _ rfl rfl (run_loadVar_row _ _ _ _ _ _ _ HF.out.1 Try.underlying28 rfl (by kernel_rfl))) rfl ⟨rfl, HKR.out⟩
set_option maxRecDepth 100000 in
set_option maxHeartbeats 4000000 in
theorem rdouble_full (lv cv : Value) (m : RNet) (k : Nat) (hk : k < m.L.length) (w : World) (h : RfIs w lv cv m) (hf : ¬ m.L.length < 4096) : Calls Try.prog 27 #[rmV lv cv m, .int .i64 (k : Int)] w fun e w' => e = .returned (.tuple #[rmV lv cv m, .bool false]) ∧ Keep (fun _ => False) w w' := by
  have AT := hid (fun W (hW : Keep (fun _ => False) w W) => rat_some lv cv m k hk W (h.keep hW))
  have H := hid h
  obtain ⟨ad1, c1, rfl⟩ := row_form h.l
  obtain ⟨ad2, c2, rfl⟩ := row_form h.c
  generalize hx : m.L[k] = x at *
  obtain ⟨fr, tt, s⟩ := x
  unfold rmV pkV at *
  simp only at *
  clear h
  have K0 : Hid (Keep (fun _ => False) w ((w.alloc (.cells #[.slice ad1 m.L.length c1, .slice ad2 m.cs.length c2, .int .i64 m.se, .int .i64 m.ta, .int .i64 m.lo] 28)).alloc (.cells #[.slice none 0 0, .slice none 0 0, .int .i64 0, .int .i64 0, .int .i64 0] 28))) := (keep_alloc _ _ _).trans (keep_alloc _ _ _)
  have HA0 := hid ((row1 w [.slice ad1 m.L.length c1, .slice ad2 m.cs.length c2, .int .i64 m.se, .int .i64 m.ta, .int .i64 m.lo] 28).keep (keep_alloc (fun _ => False) _ (.cells #[.slice none 0 0, .slice none 0 0, .int .i64 0, .int .i64 0, .int .i64 0] 28)) (fun h => h))
  have HZ0 := hid (row2 w (.cells #[.slice ad1 m.L.length c1, .slice ad2 m.cs.length c2, .int .i64 m.se, .int .i64 m.ta, .int .i64 m.lo] 28) [.slice none 0 0, .slice none 0 0, .int .i64 0, .int .i64 0, .int .i64 0] 28)
  go_enter Try.func27, Try.ntmps27
  go_wp2_with fail
  refine (AT.out _ K0.out).mono ?_
  rintro e w9 ⟨rfl, k9⟩
  have kA := k9.trans (keep_alloc (fun _ => False) w9 (.cells #[.int .i64 fr, .int .i64 tt, .string s] 58))
  have HA := hid (HA0.out.keep kA (fun h => h))
  have HZ := hid (HZ0.out.keep kA (fun h => h))
  have HP := hid (row1 w9 [.int .i64 fr, .int .i64 tt, .string s] 58)
  have K1 := hid (K0.out.trans kA)
  have a0 := HA.out.cellAt (o := 0) rfl
  have a1 := HA.out.cellAt (o := 1) rfl
  have a2 := HA.out.cellAt (o := 2) rfl
  have a3 := HA.out.cellAt (o := 3) rfl
  have a4 := HA.out.cellAt (o := 4) rfl
  have f0 := HA.out.frozen (o := 0)
  have f1 := HA.out.frozen (o := 1)
  have f2 := HA.out.frozen (o := 2)
  have f3 := HA.out.frozen (o := 3)
  have f4 := HA.out.frozen (o := 4)
  have z0 := HZ.out.cellAt (o := 0) rfl
  have z1 := HZ.out.cellAt (o := 1) rfl
  have z2 := HZ.out.cellAt (o := 2) rfl
  have z3 := HZ.out.cellAt (o := 3) rfl
  have z4 := HZ.out.cellAt (o := 4) rfl
  have g0 := HZ.out.frozen (o := 0)
  have g1 := HZ.out.frozen (o := 1)
  have g2 := HZ.out.frozen (o := 2)
  have g3 := HZ.out.frozen (o := 3)
  have g4 := HZ.out.frozen (o := 4)
  clear k9 kA AT K0 HA0 HZ0
  have hge : (4096 : Int) ≤ (m.L.length : Int) := by omega
  clear hk hf H hx
  have HF := hid (five (v0 := .slice ad1 m.L.length c1) (v1 := .slice ad2 m.cs.length c2) (v2 := .int .i64 m.se) (v3 := .int .i64 m.ta) (v4 := .int .i64 m.lo) HZ.out)
  have HKR := hid (K1.out.then HF.out.2 (fun j hj e => by omega))
  clear HA HZ HP K1
  go_wp2
  refine bodyPost_ret (v := .tuple #[.agg #[.slice ad1 m.L.length c1, .slice ad2 m.cs.length c2, .int .i64 m.se, .int .i64 m.ta, .int .i64 m.lo], .bool false]) (npk_cell_tmp (p := 4) (u := 5) rfl _ _ (w.heap.size + 1) _ _ rfl rfl (run_loadVar_row _ _ _ _ _ _ _ HF.out.1 Try.underlying28 rfl (by kernel_rfl))) rfl ⟨rfl, HKR.out⟩
set_option maxRecDepth 100000 in
set_option maxHeartbeats 4000000 in
theorem rdouble_some (lv cv : Value) (m : RNet) (k : Nat) (hk : k < m.L.length) (w : World) (h : RfIs w lv cv m) (hl : m.L.length < 4096) (hse : m.se < 1152921504606846976) : Calls Try.prog 27 #[rmV lv cv m, .int .i64 (k : Int)] w fun e w' => ∃ lv', e = .returned (.tuple #[rmV lv' cv { m with L := m.L ++ [m.L[k]], se := m.se + 1 }, .bool true]) ∧ RfIs w' lv' cv { m with L := m.L ++ [m.L[k]], se := m.se + 1 } ∧ Keep (fun _ => False) w w' := by
  have AT := hid (fun W (hW : Keep (fun _ => False) w W) => rat_some lv cv m k hk W (h.keep hW))
  have H := hid h
  obtain ⟨ad1, c1, rfl⟩ := row_form h.l
  obtain ⟨ad2, c2, rfl⟩ := row_form h.c
  generalize hx : m.L[k] = x at *
  obtain ⟨fr, tt, s⟩ := x
  unfold rmV pkV at *
  simp only at *
  clear h
  have K0 : Hid (Keep (fun _ => False) w ((w.alloc (.cells #[.slice ad1 m.L.length c1, .slice ad2 m.cs.length c2, .int .i64 m.se, .int .i64 m.ta, .int .i64 m.lo] 28)).alloc (.cells #[.slice none 0 0, .slice none 0 0, .int .i64 0, .int .i64 0, .int .i64 0] 28))) := (keep_alloc _ _ _).trans (keep_alloc _ _ _)
  have HA0 := hid ((row1 w [.slice ad1 m.L.length c1, .slice ad2 m.cs.length c2, .int .i64 m.se, .int .i64 m.ta, .int .i64 m.lo] 28).keep (keep_alloc (fun _ => False) _ (.cells #[.slice none 0 0, .slice none 0 0, .int .i64 0, .int .i64 0, .int .i64 0] 28)) (fun h => h))
  have HZ0 := hid (row2 w (.cells #[.slice ad1 m.L.length c1, .slice ad2 m.cs.length c2, .int .i64 m.se, .int .i64 m.ta, .int .i64 m.lo] 28) [.slice none 0 0, .slice none 0 0, .int .i64 0, .int .i64 0, .int .i64 0] 28)
  go_enter Try.func27, Try.ntmps27
  go_wp2_with fail
  refine (AT.out _ K0.out).mono ?_
  rintro e w9 ⟨rfl, k9⟩
  have kA := k9.trans (keep_alloc (fun _ => False) w9 (.cells #[.int .i64 fr, .int .i64 tt, .string s] 58))
  have HA := hid (HA0.out.keep kA (fun h => h))
  have HZ := hid (HZ0.out.keep kA (fun h => h))
  have HP := hid (row1 w9 [.int .i64 fr, .int .i64 tt, .string s] 58)
  have K1 := hid (K0.out.trans kA)
  have a0 := HA.out.cellAt (o := 0) rfl
  have a1 := HA.out.cellAt (o := 1) rfl
  have a2 := HA.out.cellAt (o := 2) rfl
  have a3 := HA.out.cellAt (o := 3) rfl
  have a4 := HA.out.cellAt (o := 4) rfl
  have f0 := HA.out.frozen (o := 0)
  have f1 := HA.out.frozen (o := 1)
  have f2 := HA.out.frozen (o := 2)
  have f3 := HA.out.frozen (o := 3)
  have f4 := HA.out.frozen (o := 4)
  have z0 := HZ.out.cellAt (o := 0) rfl
  have z1 := HZ.out.cellAt (o := 1) rfl
  have z2 := HZ.out.cellAt (o := 2) rfl
  have z3 := HZ.out.cellAt (o := 3) rfl
  have z4 := HZ.out.cellAt (o := 4) rfl
  have g0 := HZ.out.frozen (o := 0)
  have g1 := HZ.out.frozen (o := 1)
  have g2 := HZ.out.frozen (o := 2)
  have g3 := HZ.out.frozen (o := 3)
  have g4 := HZ.out.frozen (o := 4)
  clear k9 kA AT K0 HA0 HZ0
  have hw1 : wrap64 ((m.se : Int) + 1) = (m.se : Int) + 1 := IntWalk.wrap64_in _ (by omega)
  have hge : decide ((4096 : Int) ≤ (m.L.length : Int)) = false := decide_eq_false (by omega)
  have hge2 : ¬ ((4096 : Int) ≤ (m.L.length : Int)) := by omega
  have HX := hid hx
  clear hx
  go_wp2
  clear hge hge2
  generalize w9.alloc (.cells #[.int .i64 fr, .int .i64 tt, .string s] 58) = w1 at *
  have hsz0 := HA.out.lt
  go_cut [29] from 23 to 30 (fun sv wx => ∃ ad4 cap4 w4, sv = .slice ad4 (m.L.length + 1) cap4 ∧ wx = w4.setCell ⟨w.heap.size, 0, none⟩ (.slice ad4 (m.L.length + 1) cap4) ∧ Hid (w4.ownsRow w1.heap.size 58 3 (.slice ad4 (m.L.length + 1) cap4) (m.L.length + 1) ([] ++ pks m.L ++ pks [⟨fr, tt, s⟩])) ∧ Hid (Keep (fun _ => False) w1 w4))
  case first =>
    clear HX hw1
    have p0 := HP.out.cellAt (o := 0) rfl
    have p1 := HP.out.cellAt (o := 1) rfl
    have p2 := HP.out.cellAt (o := 2) rfl
    have HOW := hid (K1.out.ownsRow H.out.l (fun _ _ h => h))
    have AP := hid (ap2 w1 (.slice ad1 m.L.length c1) m.L ⟨fr, tt, s⟩ HOW.out)
    have CL : Hid (∀ W, Keep (fun _ => False) w1 W → (W.cell? ⟨w.heap.size, 0, none⟩ = some (.slice ad1 m.L.length c1) ∧ W.frozen? ⟨w.heap.size, 0, none⟩ = false) ∧ W.cell? ⟨w9.heap.size, 0, none⟩ = some (.int .i64 fr) ∧ W.cell? ⟨w9.heap.size, 1, none⟩ = some (.int .i64 tt) ∧ W.cell? ⟨w9.heap.size, 2, none⟩ = some (.string s)) := fun W hW => ⟨⟨(HA.out.keep hW (fun h => h)).cellAt rfl, (HA.out.keep hW (fun h => h)).frozen⟩, (HP.out.keep hW (fun h => h)).cellAt rfl, (HP.out.keep hW (fun h => h)).cellAt rfl, (HP.out.keep hW (fun h => h)).cellAt rfl⟩
    obtain ⟨⟨u00, v00⟩, u01, u02, u03⟩ := CL.out (w1.alloc (Obj.cells #[] 58)) (keep_alloc _ _ _)
    obtain ⟨⟨u10, v10⟩, u11, u12, u13⟩ := CL.out (w1.alloc (Obj.cells #[.int .i64 fr, .int .i64 tt, .string s] 58)) (keep_alloc _ _ _)
    obtain ⟨⟨u20, v20⟩, u21, u22, u23⟩ := CL.out ((w1.alloc (Obj.cells #[] 58)).alloc (Obj.cells #[.int .i64 fr, .int .i64 tt, .string s] 58)) ((keep_alloc _ _ _).trans (keep_alloc _ _ _))
    obtain ⟨⟨u30, v30⟩, u31, u32, u33⟩ := CL.out ((w1.alloc (Obj.cells #[.int .i64 fr, .int .i64 tt, .string s] 58)).alloc (Obj.cells #[] 58)) ((keep_alloc _ _ _).trans (keep_alloc _ _ _))
    have HZ0 : Hid (0 + m.L.length = m.L.length) := Nat.zero_add _
    have LL : Hid ((pks m.L).length = m.L.length * 3) := pks_len _
    have OL := hid (pks_one m.L)
    have OX := hid (pks_one [⟨fr, tt, s⟩])
    have B1 : Hid (m.L.length ≤ 70368744177) := by show _ ≤ _; omega
    have B2 : Hid (m.L.length * 32 ≤ 140737488355328) := by show _ ≤ _; omega
    have B3 : Hid (m.L.length + 1 ≤ 70368744177) := by show _ ≤ _; omega
    have B4 : Hid ((m.L.length + 1) * 32 ≤ 140737488355328) := by show _ ≤ _; omega
    go_region_law (first | (refine step_gapp (w0 := w1.alloc (Obj.cells #[] 58)) (by rfl) _ _ ElRPk (by rfl) w1.heap.size (.slice (some ⟨w1.heap.size, 0, none⟩) 0 0) (.slice ad1 m.L.length c1) [] (pks m.L) 0 m.L.length m.L.length HZ0.out (by first | exact keep_drew _ _ | exact Keep.refl _ _) (by rfl) (by rfl) AP.out.oA AP.out.sA AP.out.gA LL.out OL.out B1.out B2.out ?_; intro ad3 cap3 w2 hr2 hk2; obtain ⟨k2, k2x, s2, o2, gs2⟩ := AP.out.fA ad3 cap3 w2 hr2 hk2; obtain ⟨⟨n0, n0f⟩, n1, n2, n3⟩ := CL.out w2 k2; obtain ⟨⟨m0, m0f⟩, m1, m2, m3⟩ := CL.out (w2.alloc (Obj.cells #[.int .i64 fr, .int .i64 tt, .string s] 58)) k2x) | (refine step_gapp (w0 := (w1.alloc (Obj.cells #[] 58)).alloc (Obj.cells #[.int .i64 fr, .int .i64 tt, .string s] 58)) (by rfl) _ _ ElRPk (by rfl) w1.heap.size (.slice (some ⟨w1.heap.size, 0, none⟩) 0 0) (.slice ad1 m.L.length c1) [] (pks m.L) 0 m.L.length m.L.length HZ0.out (by first | exact keep_drew _ _ | exact Keep.refl _ _) (by rfl) (by rfl) AP.out.oB AP.out.sB AP.out.gB LL.out OL.out B1.out B2.out ?_; intro ad3 cap3 w2 hr2 hk2; obtain ⟨kb, sb, gsb⟩ := AP.out.fB ad3 cap3 w2 hr2 hk2; obtain ⟨⟨n0, n0f⟩, n1, n2, n3⟩ := CL.out w2 kb) | (refine step_gapp (w0 := (w1.alloc (Obj.cells #[.int .i64 fr, .int .i64 tt, .string s] 58)).alloc (Obj.cells #[] 58)) (by rfl) _ _ ElRPk (by rfl) w1.heap.size (.slice (some ⟨w1.heap.size + 1, 0, none⟩) 0 0) (.slice ad1 m.L.length c1) [] (pks m.L) 0 m.L.length m.L.length HZ0.out (by first | exact keep_drew _ _ | exact Keep.refl _ _) (by rfl) (by rfl) AP.out.oC AP.out.sC AP.out.gC LL.out OL.out B1.out B2.out ?_; intro ad3 cap3 w2 hr2 hk2; obtain ⟨kc, sc, gsc⟩ := AP.out.fC ad3 cap3 w2 hr2 hk2; obtain ⟨⟨n0, n0f⟩, n1, n2, n3⟩ := CL.out w2 kc) | (refine step_gapp (w0 := w2.alloc (Obj.cells #[.int .i64 fr, .int .i64 tt, .string s] 58)) (by rfl) _ _ ElRPk (by rfl) w1.heap.size (.slice ad3 m.L.length cap3) (.slice (some ⟨w2.heap.size, 0, none⟩) 1 1) ([] ++ pks m.L) (pks [⟨fr, tt, s⟩]) m.L.length 1 (m.L.length + 1) (by rfl) (Keep.refl _ _) (by rfl) (by rfl) o2 s2 gs2 (by rfl) OX.out B3.out B4.out ?_; intro ad4 cap4 w4 hr4 hk4; have HE : Hid (Keep (fun _ => False) w1 w4) := (k2x).then hk4 (fun j hj e => by have := ownsRow_ge o2 e; omega); obtain ⟨⟨q0, q0f⟩, q1, q2, q3⟩ := CL.out w4 HE.out) | (refine step_gapp (w0 := w2) (by rfl) _ _ ElRPk (by rfl) w1.heap.size (.slice ad3 m.L.length cap3) (.slice (some ⟨w1.heap.size + 1, 0, none⟩) 1 1) ([] ++ pks m.L) (pks [⟨fr, tt, s⟩]) m.L.length 1 (m.L.length + 1) (by rfl) (Keep.refl _ _) (by rfl) (by rfl) hr2 sb gsb (by rfl) OX.out B3.out B4.out ?_; intro ad4 cap4 w4 hr4 hk4; have HE : Hid (Keep (fun _ => False) w1 w4) := (kb).then hk4 (fun j hj e => by have := ownsRow_ge hr2 e; omega); obtain ⟨⟨q0, q0f⟩, q1, q2, q3⟩ := CL.out w4 HE.out) | (refine step_gapp (w0 := w2) (by rfl) _ _ ElRPk (by rfl) w1.heap.size (.slice ad3 m.L.length cap3) (.slice (some ⟨w1.heap.size, 0, none⟩) 1 1) ([] ++ pks m.L) (pks [⟨fr, tt, s⟩]) m.L.length 1 (m.L.length + 1) (by rfl) (Keep.refl _ _) (by rfl) (by rfl) hr2 sc gsc (by rfl) OX.out B3.out B4.out ?_; intro ad4 cap4 w4 hr4 hk4; have HE : Hid (Keep (fun _ => False) w1 w4) := (kc).then hk4 (fun j hj e => by have := ownsRow_ge hr2 e; omega); obtain ⟨⟨q0, q0f⟩, q1, q2, q3⟩ := CL.out w4 HE.out))
    all_goals (go_wp2_with fail; go_meet; exact ⟨_, _, _, rfl, rfl, hr4, HE⟩)
  case rest =>
    obtain ⟨ad4, cap4, w4, rfl, rfl, HO4, HE⟩ := hcut
    have rA := (HA.out.keep HE.out (fun h => h)).set 0 (.slice ad4 (m.L.length + 1) cap4)
    have rZ := (HZ.out.keep HE.out (fun h => h)).keep (keep_setCell w4 w.heap.size 0 (.slice ad4 (m.L.length + 1) cap4)) (fun e => by omega)
    have HO5 : Hid ((w4.setCell ⟨w.heap.size, 0, none⟩ (.slice ad4 (m.L.length + 1) cap4)).ownsRow w1.heap.size 58 3 (.slice ad4 (m.L.length + 1) cap4) (m.L.length + 1) ([] ++ pks m.L ++ pks [⟨fr, tt, s⟩])) := (keep_setCell _ _ _ _).ownsRow HO4.out (fun g e e2 => by have := ownsRow_ge HO4.out e; omega)
    have K5 : Hid (Keep (fun _ => False) w (w4.setCell ⟨w.heap.size, 0, none⟩ (.slice ad4 (m.L.length + 1) cap4))) := (K1.out.trans HE.out).then (keep_setCell _ _ _ _) (fun j hj e => by omega)
    have hz9 : Hid (w.heap.size + 1 < w1.heap.size) := HZ.out.lt
    clear a0 a1 a2 a3 a4 f0 f1 f2 f3 f4 z0 z1 z2 z3 z4 g0 g1 g2 g3 g4 HA HP HZ HE K1 HO4
    generalize w4.setCell ⟨w.heap.size, 0, none⟩ (.slice ad4 (m.L.length + 1) cap4) = w5 at *
    have kB := keep_setCell w5 w.heap.size 2 (.int .i64 ((m.se : Int) + 1))
    have HF := hid (five (v0 := .slice ad4 (m.L.length + 1) cap4) (v1 := .slice ad2 m.cs.length c2) (v2 := .int .i64 ((m.se : Int) + 1)) (v3 := .int .i64 m.ta) (v4 := .int .i64 m.lo) (rZ.keep kB (fun e => by omega)))
    have HKB := hid kB
    have a0 := rA.cellAt (o := 0) rfl
    have a1 := rA.cellAt (o := 1) rfl
    have a2 := rA.cellAt (o := 2) rfl
    have a3 := rA.cellAt (o := 3) rfl
    have a4 := rA.cellAt (o := 4) rfl
    have f0 := rA.frozen (o := 0)
    have f1 := rA.frozen (o := 1)
    have f2 := rA.frozen (o := 2)
    have f3 := rA.frozen (o := 3)
    have f4 := rA.frozen (o := 4)
    have z0 := rZ.cellAt (o := 0) rfl
    have z1 := rZ.cellAt (o := 1) rfl
    have z2 := rZ.cellAt (o := 2) rfl
    have z3 := rZ.cellAt (o := 3) rfl
    have z4 := rZ.cellAt (o := 4) rfl
    have g0 := rZ.frozen (o := 0)
    have g1 := rZ.frozen (o := 1)
    have g2 := rZ.frozen (o := 2)
    have g3 := rZ.frozen (o := 3)
    have g4 := rZ.frozen (o := 4)
    clear rA rZ kB
    go_wp2
    refine bodyPost_ret (v := .tuple #[.agg #[.slice ad4 (m.L.length + 1) cap4, .slice ad2 m.cs.length c2, .int .i64 ((m.se : Int) + 1), .int .i64 m.ta, .int .i64 m.lo], .bool true]) (npk_cell_tmp (p := 4) (u := 5) rfl _ _ (w.heap.size + 1) _ _ rfl rfl (run_loadVar_row _ _ _ _ _ _ _ HF.out.1 Try.underlying28 rfl (by kernel_rfl))) rfl ?_
    have kk : Keep (fun _ => False) w _ := (K5.out.then HKB.out (fun j hj e => by omega)).then HF.out.2 (fun j hj e => by omega)
    have hz8 := hz9.out
    refine ⟨.slice ad4 (m.L.length + 1) cap4, rfl, ?_, kk⟩
    refine ⟨?_, kk.ownsRow H.out.c (fun _ _ h => h), by show (m.L ++ [_]).length ≤ _; simp; omega, H.out.cl, by show m.se + 1 ≤ _; omega, H.out.ta, H.out.lo⟩
    show World.ownsRow _ 0 _ 3 _ (m.L ++ [(⟨fr, tt, s⟩ : Pk)]).length (pks (m.L ++ [(⟨fr, tt, s⟩ : Pk)]))
    rw [List.length_append, pks_app]
    exact HF.out.2.ownsRow (HKB.out.ownsRow (ownsRow_base HO5.out (Nat.zero_le _)) (fun g e e2 => by have := ownsRow_ge HO5.out e; omega)) (fun g e e2 => by have := ownsRow_ge HO5.out e; omega)
end Go.Proofs.Ytfcchmjofejkhaa
