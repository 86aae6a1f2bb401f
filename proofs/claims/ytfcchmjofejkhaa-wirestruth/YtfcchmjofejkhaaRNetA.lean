/- The reference's net: At, without. -/
import Derived.Test.YtfcchmjofejkhaaRNetM
import Derived.Test.YtfcchmjofejkhaaNetC
import Derived.Test.YtfcchmjofejkhaaNetP
namespace Go.Proofs.Ytfcchmjofejkhaa
open Go.RowKit Go.Maps
set_option linter.unusedVariables false
set_option linter.unusedSimpArgs false

set_option maxRecDepth 100000 in
theorem rat_none (lv cv : Value) (m : RNet) (i : Int) (w : World) (h : RfIs w lv cv m) (hi : hasI m.L.length i = false) : Calls Try.prog 30 #[rmV lv cv m, .int .i64 i] w fun e w' => e = .returned (.tuple #[pkV pk0, .bool false]) ∧ Keep (fun _ => False) w w' := by
  obtain ⟨ad1, c1, rfl⟩ := row_form h.l
  obtain ⟨ad2, c2, rfl⟩ := row_form h.c
  unfold rmV pk0 pkV
  clear h
  have kk : Keep (fun _ => False) w ((w.alloc (.cells #[.slice ad1 m.L.length c1, .slice ad2 m.cs.length c2, .int .i64 m.se, .int .i64 m.ta, .int .i64 m.lo] 28)).alloc (.cells #[.int .i64 0, .int .i64 0, .string ⟨#[]⟩] 58)) := (keep_alloc _ _ _).trans (keep_alloc _ _ _)
  have hsz : (w.alloc (.cells #[.slice ad1 m.L.length c1, .slice ad2 m.cs.length c2, .int .i64 m.se, .int .i64 m.ta, .int .i64 m.lo] 28)).heap.size = w.heap.size + 1 := by simp
  have r0 : RowIs ((w.alloc (.cells #[.slice ad1 m.L.length c1, .slice ad2 m.cs.length c2, .int .i64 m.se, .int .i64 m.ta, .int .i64 m.lo] 28)).alloc (.cells #[.int .i64 0, .int .i64 0, .string ⟨#[]⟩] 58)) (w.heap.size + 1) [.int .i64 0, .int .i64 0, .string ⟨#[]⟩] 58 := by rw [← hsz]; exact heap_alloc_new _ _
  have HR := hid r0
  have HK := hid kk
  clear r0 kk hsz
  by_cases h0 : i < 0
  · clear hi
    go_enter Try.func30, Try.ntmps30
    go_wp2
    refine bodyPost_ret (v := .tuple #[.agg #[.int .i64 0, .int .i64 0, .string ⟨#[]⟩], .bool false]) (npk_cell_tmp (p := 4) (u := 5) rfl _ _ (w.heap.size + 1) _ _ rfl rfl (run_loadVar_row _ _ _ _ _ _ _ HR.out Try.underlying58 rfl (by kernel_rfl))) rfl ⟨rfl, HK.out⟩
  · have h1 : (m.L.length : Int) ≤ i := by simp [hasI] at hi; omega
    have hd : decide (i < 0) = false := decide_eq_false h0
    clear hi
    go_enter Try.func30, Try.ntmps30
    go_wp2
    refine bodyPost_ret (v := .tuple #[.agg #[.int .i64 0, .int .i64 0, .string ⟨#[]⟩], .bool false]) (npk_cell_tmp (p := 4) (u := 5) rfl _ _ (w.heap.size + 1) _ _ rfl rfl (run_loadVar_row _ _ _ _ _ _ _ HR.out Try.underlying58 rfl (by kernel_rfl))) rfl ⟨rfl, HK.out⟩
set_option maxRecDepth 100000 in
theorem rat_some (lv cv : Value) (m : RNet) (k : Nat) (hk : k < m.L.length) (w : World) (h : RfIs w lv cv m) : Calls Try.prog 30 #[rmV lv cv m, .int .i64 (k : Int)] w fun e w' => e = .returned (.tuple #[pkV m.L[k], .bool true]) ∧ Keep (fun _ => False) w w' := by
  obtain ⟨g, c1, rfl, hg, x0, x1, x2⟩ := rrow_cells h.l k hk
  obtain ⟨ad2, c2, rfl⟩ := row_form h.c
  generalize m.L[k] = x at *
  obtain ⟨fr, tt, s⟩ := x
  unfold rmV pkV
  simp only at *
  clear h
  have kk : Keep (fun _ => False) w ((w.alloc (.cells #[.slice (some ⟨g, 0, none⟩) m.L.length c1, .slice ad2 m.cs.length c2, .int .i64 m.se, .int .i64 m.ta, .int .i64 m.lo] 28)).alloc (.cells #[.int .i64 0, .int .i64 0, .string ⟨#[]⟩] 58)) := (keep_alloc _ _ _).trans (keep_alloc _ _ _)
  have hsz : (w.alloc (.cells #[.slice (some ⟨g, 0, none⟩) m.L.length c1, .slice ad2 m.cs.length c2, .int .i64 m.se, .int .i64 m.ta, .int .i64 m.lo] 28)).heap.size = w.heap.size + 1 := by simp
  have r0 : RowIs ((w.alloc (.cells #[.slice (some ⟨g, 0, none⟩) m.L.length c1, .slice ad2 m.cs.length c2, .int .i64 m.se, .int .i64 m.ta, .int .i64 m.lo] 28)).alloc (.cells #[.int .i64 0, .int .i64 0, .string ⟨#[]⟩] 58)) (w.heap.size + 1) [.int .i64 0, .int .i64 0, .string ⟨#[]⟩] 58 := by rw [← hsz]; exact heap_alloc_new _ _
  have rb : RowIs ((w.alloc (.cells #[.slice (some ⟨g, 0, none⟩) m.L.length c1, .slice ad2 m.cs.length c2, .int .i64 m.se, .int .i64 m.ta, .int .i64 m.lo] 28)).alloc (.cells #[.int .i64 0, .int .i64 0, .string ⟨#[]⟩] 58)) w.heap.size [.slice (some ⟨g, 0, none⟩) m.L.length c1, .slice ad2 m.cs.length c2, .int .i64 m.se, .int .i64 m.ta, .int .i64 m.lo] 28 := RowIs.keep (heap_alloc_new _ _) (keep_alloc (fun _ => False) _ _) (fun h => h)
  have y0 := (kk.cell hg (fun h => h)).trans x0
  have y1 := (kk.cell hg (fun h => h)).trans x1
  have y2 := (kk.cell hg (fun h => h)).trans x2
  have b0 := rb.cellAt (o := 0) rfl
  have HSZ := hid hsz
  have hk0 : (0 : Int) ≤ (k : Int) := by omega
  have hk1 : (k : Int) < (m.L.length : Int) := by omega
  have hd : decide ((k : Int) < 0) = false := decide_eq_false (by omega)
  have hd2 : decide ((m.L.length : Int) ≤ (k : Int)) = false := decide_eq_false (by omega)
  clear r0 kk hsz rb x0 x1 x2
  go_enter Try.func30, Try.ntmps30
  go_wp2
  have r9 : RowIs ((w.alloc (.cells #[.slice (some ⟨g, 0, none⟩) m.L.length c1, .slice ad2 m.cs.length c2, .int .i64 m.se, .int .i64 m.ta, .int .i64 m.lo] 28)).alloc (.cells #[.int .i64 fr, .int .i64 tt, .string s] 58)) (w.heap.size + 1) [.int .i64 fr, .int .i64 tt, .string s] 58 := by rw [← HSZ.out]; exact heap_alloc_new _ _
  refine bodyPost_ret (v := .tuple #[.agg #[.int .i64 fr, .int .i64 tt, .string s], .bool true]) (npk_cell_tmp (p := 4) (u := 5) rfl _ _ (w.heap.size + 1) _ _ rfl rfl (run_loadVar_row _ _ _ _ _ _ _ r9 Try.underlying58 rfl (by kernel_rfl))) rfl ⟨rfl, (keep_alloc _ _ _).trans (keep_alloc _ _ _)⟩
set_option maxRecDepth 100000 in
set_option maxHeartbeats 2000000 in
theorem rwithout_any (lv : Value) (L : List Pk) (k : Nat) (hk : k < L.length) (hl : L.length ≤ 4096) (w : World) (h : w.ownsRow 0 58 3 lv L.length (pks L)) : Calls Try.prog 41 #[lv, .int .i64 (k : Int)] w fun e w' => ∃ v', e = .returned v' ∧ w'.ownsRow w.heap.size 58 3 v' (outL L k).length (pks (outL L k)) ∧ Keep (fun _ => False) w w' := by
  obtain ⟨g, cap, rfl, hg, _⟩ := rrow_cells h k hk
  obtain ⟨xA, hA, hsA⟩ := gsrc_to ElRPk h k (by omega)
  obtain ⟨xB, hB, hsB⟩ := gsrc_from ElRPk h (k + 1) (by omega)
  rw [pks_take] at hA
  rw [pks_drop] at hB
  have hsB2 : ∀ W : World, (Instr.slice 25 (.slice (some ⟨g, 0, none⟩) L.length cap) (some (.int .i64 ((k : Int) + 1))) none none).run Try.prog W = .ok xB W := hsB
  clear hsB
  have hwk : wrap64 ((k : Int) + 1) = (k : Int) + 1 := IntWalk.wrap64_in _ (by omega)
  have hwk2 : IntKind.i64.wrap ((k : Int) + 1) = (k : Int) + 1 := by rw [IntKind.wrap_i64]; omega
  obtain ⟨adA, capA, rfl⟩ := gsrc_form hA
  obtain ⟨adB, capB, rfl⟩ := gsrc_form hB
  have HE : Hid ((w.alloc (Obj.cells #[] 58)).ownsRow w.heap.size 58 3 (.slice (some ⟨w.heap.size, 0, none⟩) 0 0) 0 []) := own_empty (heap_alloc_new _ _) (Nat.le_refl _)
  have HS : Hid (w.heap.size ≤ (w.alloc (Obj.cells #[] 58)).heap.size) := by show _ ≤ _; simp
  have GA := hid (hA.keep _ (keep_alloc (fun _ => False) w (Obj.cells #[] 58)) (fun _ _ h => h))
  have HZ : Hid (0 + k = k) := Nat.zero_add _
  have LA : Hid ((pks (L.take k)).length = k * 3) := by show _ = _; rw [pks_len, List.length_take]; congr 1; omega
  have LB : Hid ((pks (L.drop (k + 1))).length = (L.length - (k + 1)) * 3) := by show _ = _; rw [pks_len, List.length_drop]
  have OA := hid (pks_one (L.take k))
  have OB := hid (pks_one (L.drop (k + 1)))
  have B1 : Hid (k ≤ 70368744177) := by show _ ≤ _; omega
  have B2 : Hid (k * 32 ≤ 140737488355328) := by show _ ≤ _; omega
  have HQ : Hid (k + (L.length - (k + 1)) = L.length - 1) := by show _ = _; omega
  have B3 : Hid (L.length - 1 ≤ 70368744177) := by show _ ≤ _; omega
  have B4 : Hid ((L.length - 1) * 32 ≤ 140737488355328) := by show _ ≤ _; omega
  have HF : Hid (∀ (ad1 : Option Addr) (cap1 : Nat) w2, w2.ownsRow w.heap.size 58 3 (.slice ad1 k cap1) k ([] ++ pks (L.take k)) → Keep (fun j => (Value.slice (some ⟨w.heap.size, 0, none⟩) 0 0).ownBlock = some j) (w.alloc (Obj.cells #[] 58)) w2 → Keep (fun _ => False) w w2 ∧ w.heap.size ≤ w2.heap.size ∧ GSrc w2 (.slice adB (L.length - (k + 1)) capB) (L.length - (k + 1)) (pks (L.drop (k + 1)))) := fun ad1 cap1 w2 hr hk2 => by
    have k1 : Keep (fun _ => False) w w2 := (keep_alloc (fun _ => False) w _).then hk2 (fun j hj e => by have e2 := Option.some.inj (show some w.heap.size = some j from e); omega)
    exact ⟨k1, k1.size, hB.keep _ k1 (fun _ _ h => h)⟩
  have HP : Hid (pks (outL L k) = [] ++ pks (L.take k) ++ pks (L.drop (k + 1))) := by show _ = _; rw [outL, pks_app]; rfl
  have HLn : Hid ((outL L k).length = L.length - 1) := outL_len hk
  clear hA hB h hg
  go_enter Try.func41, Try.ntmps41
  go_wp2
  go_region_law (first | (refine step_gapp (w0 := w.alloc (Obj.cells #[] 58)) (by rfl) _ _ ElRPk (by rfl) w.heap.size (.slice (some ⟨w.heap.size, 0, none⟩) 0 0) (.slice adA k capA) [] (pks (L.take k)) 0 k k HZ.out (by first | exact Keep.refl _ _ | exact keep_drew _ _) (by rfl) (by rfl) HE.out HS.out GA.out LA.out OA.out B1.out B2.out ?_; intro ad1 cap1 w2 hr2 hk2; obtain ⟨f1, f2, f3⟩ := HF.out ad1 cap1 w2 hr2 hk2) | (refine step_gapp (w0 := w2) (by rfl) _ _ ElRPk (by rfl) w.heap.size (.slice ad1 k cap1) (.slice adB (L.length - (k + 1)) capB) ([] ++ pks (L.take k)) (pks (L.drop (k + 1))) k (L.length - (k + 1)) (L.length - 1) HQ.out (Keep.refl _ _) (by rfl) (by rfl) hr2 f2 f3 LB.out OB.out B3.out B4.out ?_; intro ad3 cap3 w3 hr3 hk3))
  all_goals
    have HK3 := hid (f1.then hk3 (fun j hj e => by have := ownsRow_ge hr2 e; omega))
    have HR3 := hid hr3
    clear hr3 hr2 hk3 hk2 f1 f2 f3
    go_wp2
    go_ret
    exact ⟨_, rfl, by rw [HLn.out, HP.out]; exact HR3.out, HK3.out⟩
end Go.Proofs.Ytfcchmjofejkhaa
