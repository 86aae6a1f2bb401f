/- The reference's net: Take, Drop. -/
import Derived.Test.YtfcchmjofejkhaaRNetS
namespace Go.Proofs.Ytfcchmjofejkhaa
open Go.RowKit Go.Maps
set_option linter.unusedVariables false
set_option linter.unusedSimpArgs false

theorem row4 (w : World) (a b c : Obj) (cs : List Value) (t : TypeId) : RowIs ((((w.alloc a).alloc b).alloc c).alloc (.cells cs.toArray t)) (w.heap.size + 1 + 1 + 1) cs t := by
  have e : (((w.alloc a).alloc b).alloc c).heap.size = w.heap.size + 1 + 1 + 1 := by simp
  rw [← e]; exact heap_alloc_new _ _
theorem npk_two_cells {fn : Func} {p q u : Tmp} {ty ty2 : TypeId} (h : fn.results = #[.cell p ty, .cell q ty2, .tmp u]) (tmps : Array Value) (w : World) (g g2 : Nat) (cs cs2 : Array Value) (x : Value)
    (hp : tmps.getD p undef = .pointer (some ⟨g, 0, none⟩)) (hq : tmps.getD q undef = .pointer (some ⟨g2, 0, none⟩)) (hx : tmps.getD u undef = x) (hg : (loadVar ty ⟨g, 0, none⟩).run Try.prog w = .ok (.agg cs) w) (hg2 : (loadVar ty2 ⟨g2, 0, none⟩).run Try.prog w = .ok (.agg cs2) w) :
    (results fn tmps).run Try.prog w = .ok (.tuple #[.agg cs, .agg cs2, x]) w := by
  have hp2 : tmps[p]?.getD undef = .pointer (some ⟨g, 0, none⟩) := by rw [← hp]; simp [Array.getD_eq_getD_getElem?]
  have hq2 : tmps[q]?.getD undef = .pointer (some ⟨g2, 0, none⟩) := by rw [← hq]; simp [Array.getD_eq_getD_getElem?]
  have hx2 : tmps[u]?.getD undef = x := by rw [← hx]; simp [Array.getD_eq_getD_getElem?]
  simp only [results, h]
  simp [Sem.run_bind, Result.andThen, hp2, hq2, hx2, asAddr, hg, hg2]
set_option maxRecDepth 100000 in
set_option maxHeartbeats 2000000 in
theorem rdrop_none (lv cv : Value) (m : RNet) (i : Int) (w : World) (h : RfIs w lv cv m) (hi : hasI m.L.length i = false) : Calls Try.prog 26 #[rmV lv cv m, .int .i64 i] w fun e w' => e = .returned (.tuple #[rmV lv cv m, .bool false]) ∧ Keep (fun _ => False) w w' := by
  have AT := hid (fun W (hW : Keep (fun _ => False) w W) => rat_none lv cv m i W (h.keep hW) hi)
  obtain ⟨ad1, c1, rfl⟩ := row_form h.l
  obtain ⟨ad2, c2, rfl⟩ := row_form h.c
  unfold rmV pkV pk0 at *
  simp only at *
  clear h
  have K0 : Hid (Keep (fun _ => False) w ((w.alloc (.cells #[.slice ad1 m.L.length c1, .slice ad2 m.cs.length c2, .int .i64 m.se, .int .i64 m.ta, .int .i64 m.lo] 28)).alloc (.cells #[.slice none 0 0, .slice none 0 0, .int .i64 0, .int .i64 0, .int .i64 0] 28))) := (keep_alloc _ _ _).trans (keep_alloc _ _ _)
  have HA := hid ((row1 w [.slice ad1 m.L.length c1, .slice ad2 m.cs.length c2, .int .i64 m.se, .int .i64 m.ta, .int .i64 m.lo] 28).keep (keep_alloc (fun _ => False) _ (.cells #[.slice none 0 0, .slice none 0 0, .int .i64 0, .int .i64 0, .int .i64 0] 28)) (fun h => h))
  have HZ := hid (row2 w (.cells #[.slice ad1 m.L.length c1, .slice ad2 m.cs.length c2, .int .i64 m.se, .int .i64 m.ta, .int .i64 m.lo] 28) [.slice none 0 0, .slice none 0 0, .int .i64 0, .int .i64 0, .int .i64 0] 28)
  go_enter Try.func26, Try.ntmps26
  go_wp2_with fail
  refine (AT.out _ K0.out).mono ?_
  rintro e w1 ⟨rfl, k1⟩
  have rA := HA.out.keep k1 (fun h => h)
  have rZ := HZ.out.keep k1 (fun h => h)
  have rA2 := rA.keep (keep_alloc (fun _ => False) w1 (.cells #[.int .i64 0, .int .i64 0, .string ⟨#[]⟩] 58)) (fun h => h)
  have rZ2 := rZ.keep (keep_alloc (fun _ => False) w1 (.cells #[.int .i64 0, .int .i64 0, .string ⟨#[]⟩] 58)) (fun h => h)
  have HF := hid (five (v0 := .slice ad1 m.L.length c1) (v1 := .slice ad2 m.cs.length c2) (v2 := .int .i64 m.se) (v3 := .int .i64 m.ta) (v4 := .int .i64 m.lo) rZ)
  have K1 := hid (K0.out.trans k1)
  have a0 := rA.cellAt (o := 0) rfl
  have a1 := rA.cellAt (o := 1) rfl
  have a2 := rA.cellAt (o := 2) rfl
  have a3 := rA.cellAt (o := 3) rfl
  have a4 := rA.cellAt (o := 4) rfl
  have b0 := rA2.cellAt (o := 0) rfl
  have b1 := rA2.cellAt (o := 1) rfl
  have b2 := rA2.cellAt (o := 2) rfl
  have b3 := rA2.cellAt (o := 3) rfl
  have b4 := rA2.cellAt (o := 4) rfl
  have z0 := rZ.cellAt (o := 0) rfl
  have z1 := rZ.cellAt (o := 1) rfl
  have z2 := rZ.cellAt (o := 2) rfl
  have z3 := rZ.cellAt (o := 3) rfl
  have z4 := rZ.cellAt (o := 4) rfl
  have y0 := rZ2.cellAt (o := 0) rfl
  have y1 := rZ2.cellAt (o := 1) rfl
  have y2 := rZ2.cellAt (o := 2) rfl
  have y3 := rZ2.cellAt (o := 3) rfl
  have y4 := rZ2.cellAt (o := 4) rfl
  have g0 := rZ.frozen (o := 0)
  have g1 := rZ.frozen (o := 1)
  have g2 := rZ.frozen (o := 2)
  have g3 := rZ.frozen (o := 3)
  have g4 := rZ.frozen (o := 4)
  have f0 := rZ2.frozen (o := 0)
  have f1 := rZ2.frozen (o := 1)
  have f2 := rZ2.frozen (o := 2)
  have f3 := rZ2.frozen (o := 3)
  have f4 := rZ2.frozen (o := 4)
  have HF2 := hid (five (v0 := .slice ad1 m.L.length c1) (v1 := .slice ad2 m.cs.length c2) (v2 := .int .i64 m.se) (v3 := .int .i64 m.ta) (v4 := .int .i64 m.lo) rZ2)
  have HFR := hid HF2.out.1
  have HKR := hid ((K1.out.trans (keep_alloc (fun _ => False) w1 (.cells #[.int .i64 0, .int .i64 0, .string ⟨#[]⟩] 58))).then HF2.out.2 (fun j hj e => by omega))
  clear HF HF2
  clear rA rZ rA2 rZ2 k1 AT K0 HA HZ hi
  go_wp2
  refine bodyPost_ret (v := .tuple #[.agg #[.slice ad1 m.L.length c1, .slice ad2 m.cs.length c2, .int .i64 m.se, .int .i64 m.ta, .int .i64 m.lo], .bool false]) (npk_cell_tmp (p := 4) (u := 5) rfl _ _ (w.heap.size + 1) _ _ rfl rfl (run_loadVar_row _ _ _ _ _ _ _ HFR.out Try.underlying28 rfl (by kernel_rfl))) rfl ⟨rfl, HKR.out⟩
set_option maxRecDepth 100000 in
set_option maxHeartbeats 2000000 in
theorem rtake_none (lv cv : Value) (m : RNet) (i : Int) (w : World) (h : RfIs w lv cv m) (hi : hasI m.L.length i = false) : Calls Try.prog 25 #[rmV lv cv m, .int .i64 i] w fun e w' => e = .returned (.tuple #[rmV lv cv m, pkV pk0, .bool false]) ∧ Keep (fun _ => False) w w' := by
  have AT := hid (fun W (hW : Keep (fun _ => False) w W) => rat_none lv cv m i W (h.keep hW) hi)
  obtain ⟨ad1, c1, rfl⟩ := row_form h.l
  obtain ⟨ad2, c2, rfl⟩ := row_form h.c
  unfold rmV pkV pk0 at *
  simp only at *
  clear h
  have K0 : Hid (Keep (fun _ => False) w (((w.alloc (.cells #[.slice ad1 m.L.length c1, .slice ad2 m.cs.length c2, .int .i64 m.se, .int .i64 m.ta, .int .i64 m.lo] 28)).alloc (.cells #[.slice none 0 0, .slice none 0 0, .int .i64 0, .int .i64 0, .int .i64 0] 28)).alloc (.cells #[.int .i64 0, .int .i64 0, .string ⟨#[]⟩] 58))) := ((keep_alloc _ _ _).trans (keep_alloc _ _ _)).trans (keep_alloc _ _ _)
  have HA := hid (((row1 w [.slice ad1 m.L.length c1, .slice ad2 m.cs.length c2, .int .i64 m.se, .int .i64 m.ta, .int .i64 m.lo] 28).keep (keep_alloc (fun _ => False) _ (.cells #[.slice none 0 0, .slice none 0 0, .int .i64 0, .int .i64 0, .int .i64 0] 28)) (fun h => h)).keep (keep_alloc (fun _ => False) _ (.cells #[.int .i64 0, .int .i64 0, .string ⟨#[]⟩] 58)) (fun h => h))
  have HZ := hid ((row2 w (.cells #[.slice ad1 m.L.length c1, .slice ad2 m.cs.length c2, .int .i64 m.se, .int .i64 m.ta, .int .i64 m.lo] 28) [.slice none 0 0, .slice none 0 0, .int .i64 0, .int .i64 0, .int .i64 0] 28).keep (keep_alloc (fun _ => False) _ (.cells #[.int .i64 0, .int .i64 0, .string ⟨#[]⟩] 58)) (fun h => h))
  have HQ := hid (row3 w (.cells #[.slice ad1 m.L.length c1, .slice ad2 m.cs.length c2, .int .i64 m.se, .int .i64 m.ta, .int .i64 m.lo] 28) (.cells #[.slice none 0 0, .slice none 0 0, .int .i64 0, .int .i64 0, .int .i64 0] 28) [.int .i64 0, .int .i64 0, .string ⟨#[]⟩] 58)
  go_enter Try.func25, Try.ntmps25
  go_wp2_with fail
  refine (AT.out _ K0.out).mono ?_
  rintro e w1 ⟨rfl, k1⟩
  have rA := HA.out.keep k1 (fun h => h)
  have rZ := HZ.out.keep k1 (fun h => h)
  have rA2 := rA.keep (keep_alloc (fun _ => False) w1 (.cells #[.int .i64 0, .int .i64 0, .string ⟨#[]⟩] 58)) (fun h => h)
  have rZ2 := rZ.keep (keep_alloc (fun _ => False) w1 (.cells #[.int .i64 0, .int .i64 0, .string ⟨#[]⟩] 58)) (fun h => h)
  have HF := hid (five (v0 := .slice ad1 m.L.length c1) (v1 := .slice ad2 m.cs.length c2) (v2 := .int .i64 m.se) (v3 := .int .i64 m.ta) (v4 := .int .i64 m.lo) rZ)
  have K1 := hid (K0.out.trans k1)
  have HQ1 := hid (HQ.out.keep k1 (fun h => h))
  have a0 := rA.cellAt (o := 0) rfl
  have a1 := rA.cellAt (o := 1) rfl
  have a2 := rA.cellAt (o := 2) rfl
  have a3 := rA.cellAt (o := 3) rfl
  have a4 := rA.cellAt (o := 4) rfl
  have b0 := rA2.cellAt (o := 0) rfl
  have b1 := rA2.cellAt (o := 1) rfl
  have b2 := rA2.cellAt (o := 2) rfl
  have b3 := rA2.cellAt (o := 3) rfl
  have b4 := rA2.cellAt (o := 4) rfl
  have z0 := rZ.cellAt (o := 0) rfl
  have z1 := rZ.cellAt (o := 1) rfl
  have z2 := rZ.cellAt (o := 2) rfl
  have z3 := rZ.cellAt (o := 3) rfl
  have z4 := rZ.cellAt (o := 4) rfl
  have y0 := rZ2.cellAt (o := 0) rfl
  have y1 := rZ2.cellAt (o := 1) rfl
  have y2 := rZ2.cellAt (o := 2) rfl
  have y3 := rZ2.cellAt (o := 3) rfl
  have y4 := rZ2.cellAt (o := 4) rfl
  have g0 := rZ.frozen (o := 0)
  have g1 := rZ.frozen (o := 1)
  have g2 := rZ.frozen (o := 2)
  have g3 := rZ.frozen (o := 3)
  have g4 := rZ.frozen (o := 4)
  have f0 := rZ2.frozen (o := 0)
  have f1 := rZ2.frozen (o := 1)
  have f2 := rZ2.frozen (o := 2)
  have f3 := rZ2.frozen (o := 3)
  have f4 := rZ2.frozen (o := 4)
  have rQ2 := HQ1.out.keep (keep_alloc (fun _ => False) w1 (.cells #[.int .i64 0, .int .i64 0, .string ⟨#[]⟩] 58)) (fun h => h)
  have s0 := HQ1.out.cellAt (o := 0) rfl
  have s1 := HQ1.out.cellAt (o := 1) rfl
  have s2 := HQ1.out.cellAt (o := 2) rfl
  have t0 := rQ2.cellAt (o := 0) rfl
  have t1 := rQ2.cellAt (o := 1) rfl
  have t2 := rQ2.cellAt (o := 2) rfl
  have q0 := HQ1.out.frozen (o := 0)
  have q1 := HQ1.out.frozen (o := 1)
  have q2 := HQ1.out.frozen (o := 2)
  have p0 := rQ2.frozen (o := 0)
  have p1 := rQ2.frozen (o := 1)
  have p2 := rQ2.frozen (o := 2)
  have rN := row1 w1 [.int .i64 0, .int .i64 0, .string ⟨#[]⟩] 58
  have n0 := rN.cellAt (o := 0) rfl
  have n1 := rN.cellAt (o := 1) rfl
  have n2 := rN.cellAt (o := 2) rfl
  clear rN rQ2
  have HZ8 := hid rZ2
  have HB8 := hid rA2
  have HQ8 := hid (HQ1.out.keep (keep_alloc (fun _ => False) w1 (.cells #[.int .i64 0, .int .i64 0, .string ⟨#[]⟩] 58)) (fun h => h))
  clear rA rZ rA2 rZ2 k1 AT K0 HA HZ hi
  go_wp2
  have L9 := hid (row1 w1 [.int .i64 0, .int .i64 0, .string ⟨#[]⟩] 58)
  have K9 := hid (K1.out.trans (keep_alloc (fun _ => False) w1 (.cells #[.int .i64 0, .int .i64 0, .string ⟨#[]⟩] 58)))
  have hx8 : w.heap.size + 1 < w1.heap.size := World.block_lt_of_cell? _ _ z0
  have hx7 : w.heap.size + 1 + 1 < w1.heap.size := World.block_lt_of_cell? _ _ s0
  have hn1 : ¬ w1.heap.size = w.heap.size + 1 := by omega
  have hn2 : ¬ w1.heap.size = w.heap.size + 1 + 1 := by omega
  have hn3 : ¬ w1.heap.size = w.heap.size := by omega
  clear a0 a1 a2 a3 a4 z0 z1 z2 z3 z4 g0 g1 g2 g3 g4 s0 s1 s2 q0 q1 q2 K1 HF HQ1 HQ
  have HZ9 := hid HZ8.out
  have HQ9 := hid HQ8.out
  have HB9 := hid HB8.out
  generalize w1.alloc (.cells #[.int .i64 0, .int .i64 0, .string ⟨#[]⟩] 58) = w3 at *
  have HF := hid (five (v0 := .slice ad1 m.L.length c1) (v1 := .slice ad2 m.cs.length c2) (v2 := .int .i64 m.se) (v3 := .int .i64 m.ta) (v4 := .int .i64 m.lo) HZ9.out)
  have HT := hid (three (v0 := .int .i64 0) (v1 := .int .i64 0) (v2 := .string ⟨#[]⟩) (HQ9.out.keep HF.out.2 (fun e => by omega)))
  clear HZ8 HQ8 HB8
  have SK : Hid (∀ w' : World, Keep (fun j => j = w.heap.size + 1 ∨ j = w.heap.size + 1 + 1) w3 w' → (w'.cell? ⟨w.heap.size, 0, none⟩ = some (.slice ad1 m.L.length c1) ∧ w'.cell? ⟨w.heap.size, 1, none⟩ = some (.slice ad2 m.cs.length c2) ∧ w'.cell? ⟨w.heap.size, 2, none⟩ = some (.int .i64 m.se) ∧ w'.cell? ⟨w.heap.size, 3, none⟩ = some (.int .i64 m.ta) ∧ w'.cell? ⟨w.heap.size, 4, none⟩ = some (.int .i64 m.lo) ∧ w'.cell? ⟨w1.heap.size, 0, none⟩ = some (.int .i64 0) ∧ w'.cell? ⟨w1.heap.size, 1, none⟩ = some (.int .i64 0) ∧ w'.cell? ⟨w1.heap.size, 2, none⟩ = some (.string ⟨#[]⟩))) := fun w' hw => by
    have r1 := HB9.out.keep hw (fun e => by omega)
    have r2 := L9.out.keep hw (fun e => by omega)
    exact ⟨r1.cellAt rfl, r1.cellAt rfl, r1.cellAt rfl, r1.cellAt rfl, r1.cellAt rfl, r2.cellAt rfl, r2.cellAt rfl, r2.cellAt rfl⟩
  have k5 : ∀ W : World, Keep (fun j => j = w.heap.size + 1 ∨ j = w.heap.size + 1 + 1) W (((((W.setCell ⟨w.heap.size + 1, 0, none⟩ (.slice ad1 m.L.length c1)).setCell ⟨w.heap.size + 1, 1, none⟩ (.slice ad2 m.cs.length c2)).setCell ⟨w.heap.size + 1, 2, none⟩ (.int .i64 m.se)).setCell ⟨w.heap.size + 1, 3, none⟩ (.int .i64 m.ta)).setCell ⟨w.heap.size + 1, 4, none⟩ (.int .i64 m.lo)) := fun W => Keep.mono (S := (· = w.heap.size + 1)) (((((keep_setCell _ _ _ _).trans (keep_setCell _ _ _ _)).trans (keep_setCell _ _ _ _)).trans (keep_setCell _ _ _ _)).trans (keep_setCell _ _ _ _)) (fun _ _ e => .inl e)
  have k3 : ∀ W : World, Keep (fun j => j = w.heap.size + 1 ∨ j = w.heap.size + 1 + 1) W (((W.setCell ⟨w.heap.size + 1 + 1, 0, none⟩ (.int .i64 0)).setCell ⟨w.heap.size + 1 + 1, 1, none⟩ (.int .i64 0)).setCell ⟨w.heap.size + 1 + 1, 2, none⟩ (.string ⟨#[]⟩)) := fun W => Keep.mono (S := (· = w.heap.size + 1 + 1)) (((keep_setCell _ _ _ _).trans (keep_setCell _ _ _ _)).trans (keep_setCell _ _ _ _)) (fun _ _ e => .inr e)
  have kd : ∀ W : World, Keep (fun j => j = w.heap.size + 1 ∨ j = w.heap.size + 1 + 1) W W.drew := fun W => keep_drew _ _
  have S5 := hid (SK.out (((((w3.setCell ⟨w.heap.size + 1, 0, none⟩ (.slice ad1 m.L.length c1)).setCell ⟨w.heap.size + 1, 1, none⟩ (.slice ad2 m.cs.length c2)).setCell ⟨w.heap.size + 1, 2, none⟩ (.int .i64 m.se)).setCell ⟨w.heap.size + 1, 3, none⟩ (.int .i64 m.ta)).setCell ⟨w.heap.size + 1, 4, none⟩ (.int .i64 m.lo)).drew ((k5 _).trans (kd _)))
  have S3 := hid (SK.out (((w3.setCell ⟨w.heap.size + 1 + 1, 0, none⟩ (.int .i64 0)).setCell ⟨w.heap.size + 1 + 1, 1, none⟩ (.int .i64 0)).setCell ⟨w.heap.size + 1 + 1, 2, none⟩ (.string ⟨#[]⟩)).drew ((k3 _).trans (kd _)))
  have S53 := hid (SK.out ((((((((w3.setCell ⟨w.heap.size + 1, 0, none⟩ (.slice ad1 m.L.length c1)).setCell ⟨w.heap.size + 1, 1, none⟩ (.slice ad2 m.cs.length c2)).setCell ⟨w.heap.size + 1, 2, none⟩ (.int .i64 m.se)).setCell ⟨w.heap.size + 1, 3, none⟩ (.int .i64 m.ta)).setCell ⟨w.heap.size + 1, 4, none⟩ (.int .i64 m.lo)).setCell ⟨w.heap.size + 1 + 1, 0, none⟩ (.int .i64 0)).setCell ⟨w.heap.size + 1 + 1, 1, none⟩ (.int .i64 0)).setCell ⟨w.heap.size + 1 + 1, 2, none⟩ (.string ⟨#[]⟩)).drew (((k5 _).trans (k3 _)).trans (kd _)))
  have S35 := hid (SK.out ((((((((w3.setCell ⟨w.heap.size + 1 + 1, 0, none⟩ (.int .i64 0)).setCell ⟨w.heap.size + 1 + 1, 1, none⟩ (.int .i64 0)).setCell ⟨w.heap.size + 1 + 1, 2, none⟩ (.string ⟨#[]⟩)).setCell ⟨w.heap.size + 1, 0, none⟩ (.slice ad1 m.L.length c1)).setCell ⟨w.heap.size + 1, 1, none⟩ (.slice ad2 m.cs.length c2)).setCell ⟨w.heap.size + 1, 2, none⟩ (.int .i64 m.se)).setCell ⟨w.heap.size + 1, 3, none⟩ (.int .i64 m.ta)).setCell ⟨w.heap.size + 1, 4, none⟩ (.int .i64 m.lo)).drew (((k3 _).trans (k5 _)).trans (kd _)))
  have S0 := hid (SK.out w3.drew (kd _))
  clear SK k5 k3 kd
  go_region_held3 (fun w' => w'.cell? ⟨w.heap.size, 0, none⟩ = some (.slice ad1 m.L.length c1) ∧ w'.cell? ⟨w.heap.size, 1, none⟩ = some (.slice ad2 m.cs.length c2) ∧ w'.cell? ⟨w.heap.size, 2, none⟩ = some (.int .i64 m.se) ∧ w'.cell? ⟨w.heap.size, 3, none⟩ = some (.int .i64 m.ta) ∧ w'.cell? ⟨w.heap.size, 4, none⟩ = some (.int .i64 m.lo) ∧ w'.cell? ⟨w1.heap.size, 0, none⟩ = some (.int .i64 0) ∧ w'.cell? ⟨w1.heap.size, 1, none⟩ = some (.int .i64 0) ∧ w'.cell? ⟨w1.heap.size, 2, none⟩ = some (.string ⟨#[]⟩)) (first | (refine ⟨?_, ?_, ?_, ?_, ?_, ?_, ?_, ?_⟩ <;> with_reducible assumption) | with_reducible (exact S5.out) | with_reducible (exact S3.out) | with_reducible (exact S53.out) | with_reducible (exact S35.out) | with_reducible (exact S0.out)) (fail)
  clear S5 S3 S53 S35 S0
  have HR5 := hid ((HF.out.1.keep HT.out.2 (fun e => by omega)).keep (keep_drew (fun _ => False) _) (fun h => h))
  have HR3 := hid (HT.out.1.keep (keep_drew (fun _ => False) _) (fun h => h))
  have HKE := hid (((K9.out.then HF.out.2 (fun j hj e => by omega)).then HT.out.2 (fun j hj e => by omega)).trans (keep_drew (fun _ => False) _))
  go_wp2
  refine bodyPost_ret (v := .tuple #[.agg #[.slice ad1 m.L.length c1, .slice ad2 m.cs.length c2, .int .i64 m.se, .int .i64 m.ta, .int .i64 m.lo], .agg #[.int .i64 0, .int .i64 0, .string ⟨#[]⟩], .bool false]) (npk_two_cells (p := 4) (q := 5) (u := 6) rfl _ _ (w.heap.size + 1) (w.heap.size + 1 + 1) _ _ _ rfl rfl rfl (run_loadVar_row _ _ _ _ _ _ _ HR5.out Try.underlying28 rfl (by kernel_rfl)) (run_loadVar_row _ _ _ _ _ _ _ HR3.out Try.underlying58 rfl (by kernel_rfl))) rfl ⟨rfl, HKE.out⟩
set_option maxRecDepth 100000 in
set_option maxHeartbeats 2000000 in
theorem rdrop_some (lv cv : Value) (m : RNet) (k : Nat) (hk : k < m.L.length) (w : World) (h : RfIs w lv cv m) (hb : m.lo < 1152921504606846976) : Calls Try.prog 26 #[rmV lv cv m, .int .i64 (k : Int)] w fun e w' => ∃ lv', e = .returned (.tuple #[rmV lv' cv { m with L := outL m.L k, lo := m.lo + 1 }, .bool true]) ∧ RfIs w' lv' cv { m with L := outL m.L k, lo := m.lo + 1 } ∧ Keep (fun _ => False) w w' := by
  have AT := hid (fun W (hW : Keep (fun _ => False) w W) => rat_some lv cv m k hk W (h.keep hW))
  have WO := hid (fun W (hW : Keep (fun _ => False) w W) => rwithout_any lv m.L k hk h.ll W (hW.ownsRow h.l (fun _ _ h => h)))
  have hw1 : wrap64 ((m.lo : Int) + 1) = (m.lo : Int) + 1 := IntWalk.wrap64_in _ (by omega)
  have H := hid h
  obtain ⟨ad1, c1, rfl⟩ := row_form h.l
  obtain ⟨ad2, c2, rfl⟩ := row_form h.c
  have HLN := hid (outL_len hk)
  generalize m.L[k] = x at *
  obtain ⟨fr, tt, s⟩ := x
  unfold rmV pkV at *
  simp only at *
  clear h
  have K0 : Hid (Keep (fun _ => False) w ((w.alloc (.cells #[.slice ad1 m.L.length c1, .slice ad2 m.cs.length c2, .int .i64 m.se, .int .i64 m.ta, .int .i64 m.lo] 28)).alloc (.cells #[.slice none 0 0, .slice none 0 0, .int .i64 0, .int .i64 0, .int .i64 0] 28))) := (keep_alloc _ _ _).trans (keep_alloc _ _ _)
  have HA := hid ((row1 w [.slice ad1 m.L.length c1, .slice ad2 m.cs.length c2, .int .i64 m.se, .int .i64 m.ta, .int .i64 m.lo] 28).keep (keep_alloc (fun _ => False) _ (.cells #[.slice none 0 0, .slice none 0 0, .int .i64 0, .int .i64 0, .int .i64 0] 28)) (fun h => h))
  have HZ := hid (row2 w (.cells #[.slice ad1 m.L.length c1, .slice ad2 m.cs.length c2, .int .i64 m.se, .int .i64 m.ta, .int .i64 m.lo] 28) [.slice none 0 0, .slice none 0 0, .int .i64 0, .int .i64 0, .int .i64 0] 28)
  go_enter Try.func26, Try.ntmps26
  go_wp2_with fail
  refine (AT.out _ K0.out).mono ?_
  rintro e w1 ⟨rfl, k1⟩
  have kA := k1.trans (keep_alloc (fun _ => False) w1 (.cells #[.int .i64 fr, .int .i64 tt, .string s] 58))
  have rA := HA.out.keep kA (fun h => h)
  have a0 := rA.cellAt (o := 0) rfl
  have HA1 := hid rA
  have HZ1 := hid (HZ.out.keep kA (fun h => h))
  have HX1 := hid (row1 w1 [.int .i64 fr, .int .i64 tt, .string s] 58)
  have hxs := HZ.out.lt
  have hx9 : w.heap.size + 1 < w1.heap.size := Nat.lt_of_lt_of_le hxs k1.size
  have K1 := hid (K0.out.trans kA)
  clear k1 kA rA AT K0 HA HZ hxs
  go_wp2_with fail
  refine (WO.out _ K1.out).mono ?_
  rintro e w2 ⟨v', rfl, ho, k2⟩
  obtain ⟨ad3, c3, rfl⟩ := row_form ho
  have rA := HA1.out.keep k2 (fun h => h)
  have rZ := HZ1.out.keep k2 (fun h => h)
  have rX := HX1.out.keep k2 (fun h => h)
  have K2 := hid (K1.out.trans k2)
  have HO := hid ho
  clear a0
  have a0 := rA.cellAt (o := 0) rfl
  have a1 := rA.cellAt (o := 1) rfl
  have a2 := rA.cellAt (o := 2) rfl
  have a3 := rA.cellAt (o := 3) rfl
  have a4 := rA.cellAt (o := 4) rfl
  have f0 := rA.frozen (o := 0)
  have f1 := rA.frozen (o := 1)
  have f2 := rA.frozen (o := 2)
  have f3 := rA.frozen (o := 3)
  have f4 := rA.frozen (o := 4)
  have z0 := rZ.cellAt (o := 0) rfl
  have z1 := rZ.cellAt (o := 1) rfl
  have z2 := rZ.cellAt (o := 2) rfl
  have z3 := rZ.cellAt (o := 3) rfl
  have z4 := rZ.cellAt (o := 4) rfl
  have g0 := rZ.frozen (o := 0)
  have g1 := rZ.frozen (o := 1)
  have g2 := rZ.frozen (o := 2)
  have g3 := rZ.frozen (o := 3)
  have g4 := rZ.frozen (o := 4)
  have x0 := rX.cellAt (o := 0) rfl
  have x1 := rX.cellAt (o := 1) rfl
  have x2 := rX.cellAt (o := 2) rfl
  have kB : Keep (· = w.heap.size) w2 ((w2.setCell ⟨w.heap.size, 0, none⟩ (.slice ad3 (outL m.L k).length c3)).setCell ⟨w.heap.size, 4, none⟩ (.int .i64 ((m.lo : Int) + 1))) := (keep_setCell _ _ _ _).trans (keep_setCell _ _ _ _)
  have HF := hid (five (v0 := .slice ad3 (outL m.L k).length c3) (v1 := .slice ad2 m.cs.length c2) (v2 := .int .i64 m.se) (v3 := .int .i64 m.ta) (v4 := .int .i64 ((m.lo : Int) + 1)) (rZ.keep kB (fun e => by omega)))
  have HKB := hid kB
  have hsz2 := Nat.le_trans (Nat.le_of_lt hx9) (Nat.le_trans (Nat.le_of_lt (show w1.heap.size < (w1.alloc (.cells #[.int .i64 fr, .int .i64 tt, .string s] 58)).heap.size by simp)) k2.size)
  have HS9 : Hid ((w1.alloc (.cells #[.int .i64 fr, .int .i64 tt, .string s] 58)).heap.size = w1.heap.size + 1) := by show _ = _; simp
  clear rA rZ rX k2 kB WO HA1 HZ1 HX1 K1 ho
  go_wp2
  refine bodyPost_ret (v := .tuple #[.agg #[.slice ad3 (outL m.L k).length c3, .slice ad2 m.cs.length c2, .int .i64 m.se, .int .i64 m.ta, .int .i64 ((m.lo : Int) + 1)], .bool true]) (npk_cell_tmp (p := 4) (u := 5) rfl _ _ (w.heap.size + 1) _ _ rfl rfl (run_loadVar_row _ _ _ _ _ _ _ HF.out.1 Try.underlying28 rfl (by kernel_rfl))) rfl ?_
  have kk : Keep (fun _ => False) w _ := (K2.out.then HKB.out (fun j hj e => by omega)).then HF.out.2 (fun j hj e => by omega)
  have hs9 := HS9.out
  refine ⟨_, rfl, ⟨?_, kk.ownsRow H.out.c (fun _ _ h => h), by show (outL m.L k).length ≤ _; rw [HLN.out]; have := H.out.ll; omega, H.out.cl, H.out.se, H.out.ta, by show m.lo + 1 ≤ _; omega⟩, kk⟩
  exact HF.out.2.ownsRow (HKB.out.ownsRow (ownsRow_base HO.out (Nat.zero_le _)) (fun g e e2 => by have := ownsRow_ge HO.out e; omega)) (fun g e e2 => by have := ownsRow_ge HO.out e; omega)
set_option maxRecDepth 100000 in
set_option maxHeartbeats 2000000 in
theorem rtake_some (lv cv : Value) (m : RNet) (k : Nat) (hk : k < m.L.length) (w : World) (h : RfIs w lv cv m) (hb : m.ta < 1152921504606846976) : Calls Try.prog 25 #[rmV lv cv m, .int .i64 (k : Int)] w fun e w' => ∃ lv', e = .returned (.tuple #[rmV lv' cv { m with L := outL m.L k, ta := m.ta + 1 }, pkV m.L[k], .bool true]) ∧ RfIs w' lv' cv { m with L := outL m.L k, ta := m.ta + 1 } ∧ Keep (fun _ => False) w w' := by
  have AT := hid (fun W (hW : Keep (fun _ => False) w W) => rat_some lv cv m k hk W (h.keep hW))
  have WO := hid (fun W (hW : Keep (fun _ => False) w W) => rwithout_any lv m.L k hk h.ll W (hW.ownsRow h.l (fun _ _ h => h)))
  have hw1 : wrap64 ((m.ta : Int) + 1) = (m.ta : Int) + 1 := IntWalk.wrap64_in _ (by omega)
  have H := hid h
  obtain ⟨ad1, c1, rfl⟩ := row_form h.l
  obtain ⟨ad2, c2, rfl⟩ := row_form h.c
  have HLN := hid (outL_len hk)
  generalize m.L[k] = x at *
  obtain ⟨fr, tt, s⟩ := x
  unfold rmV pkV at *
  simp only at *
  clear h
  have K0 : Hid (Keep (fun _ => False) w (((w.alloc (.cells #[.slice ad1 m.L.length c1, .slice ad2 m.cs.length c2, .int .i64 m.se, .int .i64 m.ta, .int .i64 m.lo] 28)).alloc (.cells #[.slice none 0 0, .slice none 0 0, .int .i64 0, .int .i64 0, .int .i64 0] 28)).alloc (.cells #[.int .i64 0, .int .i64 0, .string ⟨#[]⟩] 58))) := ((keep_alloc _ _ _).trans (keep_alloc _ _ _)).trans (keep_alloc _ _ _)
  have HA := hid (((row1 w [.slice ad1 m.L.length c1, .slice ad2 m.cs.length c2, .int .i64 m.se, .int .i64 m.ta, .int .i64 m.lo] 28).keep (keep_alloc (fun _ => False) _ (.cells #[.slice none 0 0, .slice none 0 0, .int .i64 0, .int .i64 0, .int .i64 0] 28)) (fun h => h)).keep (keep_alloc (fun _ => False) _ (.cells #[.int .i64 0, .int .i64 0, .string ⟨#[]⟩] 58)) (fun h => h))
  have HZ := hid ((row2 w (.cells #[.slice ad1 m.L.length c1, .slice ad2 m.cs.length c2, .int .i64 m.se, .int .i64 m.ta, .int .i64 m.lo] 28) [.slice none 0 0, .slice none 0 0, .int .i64 0, .int .i64 0, .int .i64 0] 28).keep (keep_alloc (fun _ => False) _ (.cells #[.int .i64 0, .int .i64 0, .string ⟨#[]⟩] 58)) (fun h => h))
  have HQ := hid (row3 w (.cells #[.slice ad1 m.L.length c1, .slice ad2 m.cs.length c2, .int .i64 m.se, .int .i64 m.ta, .int .i64 m.lo] 28) (.cells #[.slice none 0 0, .slice none 0 0, .int .i64 0, .int .i64 0, .int .i64 0] 28) [.int .i64 0, .int .i64 0, .string ⟨#[]⟩] 58)
  go_enter Try.func25, Try.ntmps25
  go_wp2_with fail
  refine (AT.out _ K0.out).mono ?_
  rintro e w1 ⟨rfl, k1⟩
  have kA := k1.trans (keep_alloc (fun _ => False) w1 (.cells #[.int .i64 fr, .int .i64 tt, .string s] 58))
  have rA := HA.out.keep kA (fun h => h)
  have a0 := rA.cellAt (o := 0) rfl
  have HA1 := hid rA
  have HZ1 := hid (HZ.out.keep kA (fun h => h))
  have HX1 := hid (row1 w1 [.int .i64 fr, .int .i64 tt, .string s] 58)
  have hxs := HZ.out.lt
  have hx9 : w.heap.size + 1 < w1.heap.size := Nat.lt_of_lt_of_le hxs k1.size
  have K1 := hid (K0.out.trans kA)
  have HQ1 := hid (HQ.out.keep kA (fun h => h))
  have hx8 : w.heap.size + 1 + 1 < w1.heap.size := Nat.lt_of_lt_of_le HQ.out.lt k1.size
  clear k1 kA rA AT K0 HA HZ hxs
  go_wp2_with fail
  refine (WO.out _ K1.out).mono ?_
  rintro e w2 ⟨v', rfl, ho, k2⟩
  obtain ⟨ad3, c3, rfl⟩ := row_form ho
  have rA := HA1.out.keep k2 (fun h => h)
  have rZ := HZ1.out.keep k2 (fun h => h)
  have rX := HX1.out.keep k2 (fun h => h)
  have K2 := hid (K1.out.trans k2)
  have HO := hid ho
  clear a0
  have a0 := rA.cellAt (o := 0) rfl
  have a1 := rA.cellAt (o := 1) rfl
  have a2 := rA.cellAt (o := 2) rfl
  have a3 := rA.cellAt (o := 3) rfl
  have a4 := rA.cellAt (o := 4) rfl
  have f0 := rA.frozen (o := 0)
  have f1 := rA.frozen (o := 1)
  have f2 := rA.frozen (o := 2)
  have f3 := rA.frozen (o := 3)
  have f4 := rA.frozen (o := 4)
  have z0 := rZ.cellAt (o := 0) rfl
  have z1 := rZ.cellAt (o := 1) rfl
  have z2 := rZ.cellAt (o := 2) rfl
  have z3 := rZ.cellAt (o := 3) rfl
  have z4 := rZ.cellAt (o := 4) rfl
  have g0 := rZ.frozen (o := 0)
  have g1 := rZ.frozen (o := 1)
  have g2 := rZ.frozen (o := 2)
  have g3 := rZ.frozen (o := 3)
  have g4 := rZ.frozen (o := 4)
  have x0 := rX.cellAt (o := 0) rfl
  have x1 := rX.cellAt (o := 1) rfl
  have x2 := rX.cellAt (o := 2) rfl
  have kB : Keep (· = w.heap.size) w2 ((w2.setCell ⟨w.heap.size, 0, none⟩ (.slice ad3 (outL m.L k).length c3)).setCell ⟨w.heap.size, 3, none⟩ (.int .i64 ((m.ta : Int) + 1))) := (keep_setCell _ _ _ _).trans (keep_setCell _ _ _ _)
  have HF := hid (five (v0 := .slice ad3 (outL m.L k).length c3) (v1 := .slice ad2 m.cs.length c2) (v2 := .int .i64 m.se) (v3 := .int .i64 ((m.ta : Int) + 1)) (v4 := .int .i64 m.lo) (rZ.keep kB (fun e => by omega)))
  have HKB := hid kB
  have rQ := HQ1.out.keep k2 (fun h => h)
  have s0 := rQ.cellAt (o := 0) rfl
  have s1 := rQ.cellAt (o := 1) rfl
  have s2 := rQ.cellAt (o := 2) rfl
  have q0 := rQ.frozen (o := 0)
  have q1 := rQ.frozen (o := 1)
  have q2 := rQ.frozen (o := 2)
  have HT := hid (three (v0 := .int .i64 fr) (v1 := .int .i64 tt) (v2 := .string s) ((rQ.keep kB (fun e => by omega)).keep HF.out.2 (fun e => by omega)))
  have hsz2 := Nat.le_trans (Nat.le_of_lt hx9) (Nat.le_trans (Nat.le_of_lt (show w1.heap.size < (w1.alloc (.cells #[.int .i64 fr, .int .i64 tt, .string s] 58)).heap.size by simp)) k2.size)
  have HB8 := hid ((rA.set 0 (.slice ad3 (outL m.L k).length c3)).set 3 (.int .i64 ((m.ta : Int) + 1)))
  have L8 := hid (rX.keep kB (fun e => by omega))
  have HO8 := hid (kB.ownsRow ho (fun g e e2 => by have := ownsRow_ge ho e; have h5 : (w1.alloc (.cells #[.int .i64 fr, .int .i64 tt, .string s] 58)).heap.size = w1.heap.size + 1 := (by simp); omega))
  have HZ8 := hid (rZ.keep kB (fun e => by omega))
  have HQ8 := hid (rQ.keep kB (fun e => by omega))
  clear rQ HQ1 HQ
  have HS9 : Hid ((w1.alloc (.cells #[.int .i64 fr, .int .i64 tt, .string s] 58)).heap.size = w1.heap.size + 1) := by show _ = _; simp
  clear rA rZ rX k2 kB WO HA1 HZ1 HX1 K1 ho
  go_wp2
  have K9 := hid (K2.out.then HKB.out (fun j hj e => by omega))
  have HB9 := hid HB8.out
  have L9 := hid L8.out
  have HO9 := hid HO8.out
  clear a0 a1 a2 a3 a4 f0 f1 f2 f3 f4 z0 z1 z2 z3 z4 g0 g1 g2 g3 g4 x0 x1 x2 s0 s1 s2 q0 q1 q2 K2 HKB HB8 L8 HO8 HO
  have ya := HB9.out.cellAt (o := 0) rfl
  have yb := HB9.out.cellAt (o := 1) rfl
  have yc := HB9.out.cellAt (o := 2) rfl
  have yd := HB9.out.cellAt (o := 3) rfl
  have ye := HB9.out.cellAt (o := 4) rfl
  have yf := L9.out.cellAt (o := 0) rfl
  have yg := L9.out.cellAt (o := 1) rfl
  have yh := L9.out.cellAt (o := 2) rfl
  have za0 := HZ8.out.cellAt (o := 0) rfl
  have za1 := HZ8.out.cellAt (o := 1) rfl
  have za2 := HZ8.out.cellAt (o := 2) rfl
  have za3 := HZ8.out.cellAt (o := 3) rfl
  have za4 := HZ8.out.cellAt (o := 4) rfl
  have zb0 := HZ8.out.frozen (o := 0)
  have zb1 := HZ8.out.frozen (o := 1)
  have zb2 := HZ8.out.frozen (o := 2)
  have zb3 := HZ8.out.frozen (o := 3)
  have zb4 := HZ8.out.frozen (o := 4)
  have qa0 := HQ8.out.cellAt (o := 0) rfl
  have qa1 := HQ8.out.cellAt (o := 1) rfl
  have qa2 := HQ8.out.cellAt (o := 2) rfl
  have qb0 := HQ8.out.frozen (o := 0)
  have qb1 := HQ8.out.frozen (o := 1)
  have qb2 := HQ8.out.frozen (o := 2)
  clear HZ8 HQ8
  generalize ((w2.setCell ⟨w.heap.size, 0, none⟩ (.slice ad3 (outL m.L k).length c3)).setCell ⟨w.heap.size, 3, none⟩ (.int .i64 ((m.ta : Int) + 1))) = w3 at *
  have SK : Hid (∀ w' : World, Keep (fun j => j = w.heap.size + 1 ∨ j = w.heap.size + 1 + 1) w3 w' → (w'.cell? ⟨w.heap.size, 0, none⟩ = some (.slice ad3 (outL m.L k).length c3) ∧ w'.cell? ⟨w.heap.size, 1, none⟩ = some (.slice ad2 m.cs.length c2) ∧ w'.cell? ⟨w.heap.size, 2, none⟩ = some (.int .i64 m.se) ∧ w'.cell? ⟨w.heap.size, 3, none⟩ = some (.int .i64 ((m.ta : Int) + 1)) ∧ w'.cell? ⟨w.heap.size, 4, none⟩ = some (.int .i64 m.lo) ∧ w'.cell? ⟨w1.heap.size, 0, none⟩ = some (.int .i64 fr) ∧ w'.cell? ⟨w1.heap.size, 1, none⟩ = some (.int .i64 tt) ∧ w'.cell? ⟨w1.heap.size, 2, none⟩ = some (.string s))) := fun w' hw => by
    have r1 := HB9.out.keep hw (fun e => by omega)
    have r2 := L9.out.keep hw (fun e => by omega)
    exact ⟨r1.cellAt rfl, r1.cellAt rfl, r1.cellAt rfl, r1.cellAt rfl, r1.cellAt rfl, r2.cellAt rfl, r2.cellAt rfl, r2.cellAt rfl⟩
  have k5 : ∀ W : World, Keep (fun j => j = w.heap.size + 1 ∨ j = w.heap.size + 1 + 1) W (((((W.setCell ⟨w.heap.size + 1, 0, none⟩ (.slice ad3 (outL m.L k).length c3)).setCell ⟨w.heap.size + 1, 1, none⟩ (.slice ad2 m.cs.length c2)).setCell ⟨w.heap.size + 1, 2, none⟩ (.int .i64 m.se)).setCell ⟨w.heap.size + 1, 3, none⟩ (.int .i64 ((m.ta : Int) + 1))).setCell ⟨w.heap.size + 1, 4, none⟩ (.int .i64 m.lo)) := fun W => Keep.mono (S := (· = w.heap.size + 1)) (((((keep_setCell _ _ _ _).trans (keep_setCell _ _ _ _)).trans (keep_setCell _ _ _ _)).trans (keep_setCell _ _ _ _)).trans (keep_setCell _ _ _ _)) (fun _ _ e => .inl e)
  have k3 : ∀ W : World, Keep (fun j => j = w.heap.size + 1 ∨ j = w.heap.size + 1 + 1) W (((W.setCell ⟨w.heap.size + 1 + 1, 0, none⟩ (.int .i64 fr)).setCell ⟨w.heap.size + 1 + 1, 1, none⟩ (.int .i64 tt)).setCell ⟨w.heap.size + 1 + 1, 2, none⟩ (.string s)) := fun W => Keep.mono (S := (· = w.heap.size + 1 + 1)) (((keep_setCell _ _ _ _).trans (keep_setCell _ _ _ _)).trans (keep_setCell _ _ _ _)) (fun _ _ e => .inr e)
  have kd : ∀ W : World, Keep (fun j => j = w.heap.size + 1 ∨ j = w.heap.size + 1 + 1) W W.drew := fun W => keep_drew _ _
  have S5 := hid (SK.out (((((w3.setCell ⟨w.heap.size + 1, 0, none⟩ (.slice ad3 (outL m.L k).length c3)).setCell ⟨w.heap.size + 1, 1, none⟩ (.slice ad2 m.cs.length c2)).setCell ⟨w.heap.size + 1, 2, none⟩ (.int .i64 m.se)).setCell ⟨w.heap.size + 1, 3, none⟩ (.int .i64 ((m.ta : Int) + 1))).setCell ⟨w.heap.size + 1, 4, none⟩ (.int .i64 m.lo)).drew ((k5 _).trans (kd _)))
  have S3 := hid (SK.out (((w3.setCell ⟨w.heap.size + 1 + 1, 0, none⟩ (.int .i64 fr)).setCell ⟨w.heap.size + 1 + 1, 1, none⟩ (.int .i64 tt)).setCell ⟨w.heap.size + 1 + 1, 2, none⟩ (.string s)).drew ((k3 _).trans (kd _)))
  have S53 := hid (SK.out ((((((((w3.setCell ⟨w.heap.size + 1, 0, none⟩ (.slice ad3 (outL m.L k).length c3)).setCell ⟨w.heap.size + 1, 1, none⟩ (.slice ad2 m.cs.length c2)).setCell ⟨w.heap.size + 1, 2, none⟩ (.int .i64 m.se)).setCell ⟨w.heap.size + 1, 3, none⟩ (.int .i64 ((m.ta : Int) + 1))).setCell ⟨w.heap.size + 1, 4, none⟩ (.int .i64 m.lo)).setCell ⟨w.heap.size + 1 + 1, 0, none⟩ (.int .i64 fr)).setCell ⟨w.heap.size + 1 + 1, 1, none⟩ (.int .i64 tt)).setCell ⟨w.heap.size + 1 + 1, 2, none⟩ (.string s)).drew (((k5 _).trans (k3 _)).trans (kd _)))
  have S35 := hid (SK.out ((((((((w3.setCell ⟨w.heap.size + 1 + 1, 0, none⟩ (.int .i64 fr)).setCell ⟨w.heap.size + 1 + 1, 1, none⟩ (.int .i64 tt)).setCell ⟨w.heap.size + 1 + 1, 2, none⟩ (.string s)).setCell ⟨w.heap.size + 1, 0, none⟩ (.slice ad3 (outL m.L k).length c3)).setCell ⟨w.heap.size + 1, 1, none⟩ (.slice ad2 m.cs.length c2)).setCell ⟨w.heap.size + 1, 2, none⟩ (.int .i64 m.se)).setCell ⟨w.heap.size + 1, 3, none⟩ (.int .i64 ((m.ta : Int) + 1))).setCell ⟨w.heap.size + 1, 4, none⟩ (.int .i64 m.lo)).drew (((k3 _).trans (k5 _)).trans (kd _)))
  have S0 := hid (SK.out w3.drew (kd _))
  clear SK k5 k3 kd
  go_region_held3 (fun w' => w'.cell? ⟨w.heap.size, 0, none⟩ = some (.slice ad3 (outL m.L k).length c3) ∧ w'.cell? ⟨w.heap.size, 1, none⟩ = some (.slice ad2 m.cs.length c2) ∧ w'.cell? ⟨w.heap.size, 2, none⟩ = some (.int .i64 m.se) ∧ w'.cell? ⟨w.heap.size, 3, none⟩ = some (.int .i64 ((m.ta : Int) + 1)) ∧ w'.cell? ⟨w.heap.size, 4, none⟩ = some (.int .i64 m.lo) ∧ w'.cell? ⟨w1.heap.size, 0, none⟩ = some (.int .i64 fr) ∧ w'.cell? ⟨w1.heap.size, 1, none⟩ = some (.int .i64 tt) ∧ w'.cell? ⟨w1.heap.size, 2, none⟩ = some (.string s)) (first | (refine ⟨?_, ?_, ?_, ?_, ?_, ?_, ?_, ?_⟩ <;> with_reducible assumption) | with_reducible (exact S5.out) | with_reducible (exact S3.out) | with_reducible (exact S53.out) | with_reducible (exact S35.out) | with_reducible (exact S0.out)) (fail)
  clear S5 S3 S53 S35 S0
  have HR5 := hid ((HF.out.1.keep HT.out.2 (fun e => by omega)).keep (keep_drew (fun _ => False) _) (fun h => h))
  have HR3 := hid (HT.out.1.keep (keep_drew (fun _ => False) _) (fun h => h))
  have HKE := hid (((K9.out.then HF.out.2 (fun j hj e => by omega)).then HT.out.2 (fun j hj e => by omega)).trans (keep_drew (fun _ => False) _))
  go_wp2
  refine bodyPost_ret (v := .tuple #[.agg #[.slice ad3 (outL m.L k).length c3, .slice ad2 m.cs.length c2, .int .i64 m.se, .int .i64 ((m.ta : Int) + 1), .int .i64 m.lo], .agg #[.int .i64 fr, .int .i64 tt, .string s], .bool true]) (npk_two_cells (p := 4) (q := 5) (u := 6) rfl _ _ (w.heap.size + 1) (w.heap.size + 1 + 1) _ _ _ rfl rfl rfl (run_loadVar_row _ _ _ _ _ _ _ HR5.out Try.underlying28 rfl (by kernel_rfl)) (run_loadVar_row _ _ _ _ _ _ _ HR3.out Try.underlying58 rfl (by kernel_rfl))) rfl ?_
  have hs9 := HS9.out
  refine ⟨_, rfl, ⟨?_, HKE.out.ownsRow H.out.c (fun _ _ h => h), by show (outL m.L k).length ≤ _; rw [HLN.out]; have := H.out.ll; omega, H.out.cl, H.out.se, by show m.ta + 1 ≤ _; omega, H.out.lo⟩, HKE.out⟩
  exact (keep_drew (fun _ => False) _).ownsRow (HT.out.2.ownsRow (HF.out.2.ownsRow (ownsRow_base HO9.out (Nat.zero_le _)) (fun g e e2 => by have := ownsRow_ge HO9.out e; omega)) (fun g e e2 => by have := ownsRow_ge HO9.out e; omega)) (fun _ _ h => h)
end Go.Proofs.Ytfcchmjofejkhaa
