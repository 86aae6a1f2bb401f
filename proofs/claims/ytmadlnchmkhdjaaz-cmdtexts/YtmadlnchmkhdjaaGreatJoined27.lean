/- Joined: The document's text of a command. -/
import Derived.Test.YtmadlnchmkhdjaaGreatCmL
import Derived.Test.YtmadlnchmkhdjaaGreatCvU
import Derived.Test.YtmadlnchmkhdjaaGreatCoA
import Derived.Test.YtmadlnchmkhdjaaGreatCmV
import Derived.Deep.RegionHeld3
namespace Go.Proofs.YtmadlnchmkhdjaaGreat
open Go.RowKit Go.Maps
set_option linter.unusedVariables false
set_option linter.unusedSimpArgs false

set_option maxRecDepth 100000 in
set_option maxHeartbeats 4000000 in
theorem told_1 (tk bk ky : ByteArray) (id n : Int) (sm : ByteArray) (ps : List Pc) (pa ka : Option Addr) (pc kc : Nat) (w : World) (hp : PcI w (.slice pa ps.length pc) ps) (hd : CmD (⟨1, tk, bk, ky, id, n, sm, ps, []⟩ : Cm)) : Calls Tryz.prog 23 #[.agg #[.int .i64 1, .string tk, .string bk, .string ky, .int .i64 id, .int .i64 n, .string sm, .slice pa ps.length pc, .slice ka 0 kc]] w fun e w' => e = .returned (.string ⟨(cmB (⟨1, tk, bk, ky, id, n, sm, ps, []⟩ : Cm)).toArray⟩) ∧ Below w.heap.size w w' := by
  have HB : cmB (⟨1, tk, bk, ky, id, n, sm, ps, []⟩ : Cm) = put (1 : Int).toNat ++ ptx tk ++ ptx bk := by
    simp only [cmB, flB, show hasF (flN 1) 1 = true from by decide, show hasF (flN 1) 2 = true from by decide, show hasF (flN 1) 4 = false from by decide, show hasF (flN 1) 8 = false from by decide, show hasF (flN 1) 16 = false from by decide, show hasF (flN 1) 32 = false from by decide, show hasF (flN 1) 64 = false from by decide, show hasF (flN 1) 128 = false from by decide, if_true, Bool.false_eq_true, if_false, List.append_nil]
  rw [HB]
  clear HB
  obtain ⟨-, dtk, dbk, dky, did, dn, dsm, dps, dpl, dks, dkl⟩ := hd
  simp only at dtk dbk dky did dn dsm dps dpl dks dkl
  have N0 : Hid (∀ W, Calls Tryz.prog 52 #[.int .i64 1] W fun e w' => e = .returned (.string ⟨(put (1 : Int).toNat).toArray⟩) ∧ Below W.heap.size W w') := fun W => rnum16_any 1 W (by decide)
  have T1 : Hid (∀ W, Calls Tryz.prog 53 #[.string tk] W fun e w' => e = .returned (.string ⟨(ptx tk).toArray⟩) ∧ Below W.heap.size W w') := fun W => ref_text_any tk W (Nat.le_trans dtk (by decide))
  have l1 : (ptx tk).length ≤ 74 := by have := (put_len tk.size).2; rw [ptx_len]; omega
  have T2 : Hid (∀ W, Calls Tryz.prog 53 #[.string bk] W fun e w' => e = .returned (.string ⟨(ptx bk).toArray⟩) ∧ Below W.heap.size W w') := fun W => ref_text_any bk W (Nat.le_trans dbk (by decide))
  have l2 : (ptx bk).length ≤ 73 := by have := (put_len bk.size).2; rw [ptx_len]; omega
  have l0 := (put_len (1 : Int).toNat).2
  have HK1 : Hid (∀ W, Calls Tryz.prog 35 #[.int .i64 1] W fun e w' => e = .returned (.bool false) ∧ w' = W) := fun W => hasKey_any 1 W
  have HI1 : Hid (∀ W, Calls Tryz.prog 37 #[.int .i64 1] W fun e w' => e = .returned (.bool false) ∧ w' = W) := fun W => hasID_any 1 W
  have HS1 : Hid (∀ W, Calls Tryz.prog 39 #[.int .i64 1] W fun e w' => e = .returned (.bool false) ∧ w' = W) := fun W => hasSum_any 1 W
  clear dtk dbk dky did dn dsm dps dks dkl hp dpl
  generalize put (1 : Int).toNat = X0 at *
  generalize ptx tk = X1 at *
  generalize ptx bk = X2 at *
  have q1 := fun W => add_ls (X0) X1 W (by omega)
  have q2 := fun W => add_ls (X0 ++ X1) X2 W (by simp only [List.length_append]; omega)
  generalize X0 ++ X1 = Y1 at *
  generalize Y1 ++ X2 = Y2 at *
  clear l0 l1 l2
  generalize ps.length = pn at *
  have BA := hid (below_al (Below.refl w.heap.size w) (.cells #[.int .i64 1, .string tk, .string bk, .string ky, .int .i64 id, .int .i64 n, .string sm, .slice pa pn pc, .slice ka 0 kc] 34))
  have ZC : Hid (∀ W, Below (w.alloc (.cells #[.int .i64 1, .string tk, .string bk, .string ky, .int .i64 id, .int .i64 n, .string sm, .slice pa pn pc, .slice ka 0 kc] 34)).heap.size (w.alloc (.cells #[.int .i64 1, .string tk, .string bk, .string ky, .int .i64 id, .int .i64 n, .string sm, .slice pa pn pc, .slice ka 0 kc] 34)) W → W.cell? ⟨w.heap.size, 0, none⟩ = some (.int .i64 1) ∧ W.cell? ⟨w.heap.size, 1, none⟩ = some (.string tk) ∧ W.cell? ⟨w.heap.size, 2, none⟩ = some (.string bk) ∧ W.cell? ⟨w.heap.size, 3, none⟩ = some (.string ky) ∧ W.cell? ⟨w.heap.size, 4, none⟩ = some (.int .i64 id) ∧ W.cell? ⟨w.heap.size, 5, none⟩ = some (.int .i64 n) ∧ W.cell? ⟨w.heap.size, 6, none⟩ = some (.string sm) ∧ W.cell? ⟨w.heap.size, 7, none⟩ = some (.slice pa pn pc) ∧ W.cell? ⟨w.heap.size, 8, none⟩ = some (.slice ka 0 kc)) := fun W hW => by
    have q := (srow w [.int .i64 1, .string tk, .string bk, .string ky, .int .i64 id, .int .i64 n, .string sm, .slice pa pn pc, .slice ka 0 kc] 34).keep (hW.keep (fun _ => False)) (fun h => h)
    exact ⟨q.cellAt rfl, q.cellAt rfl, q.cellAt rfl, q.cellAt rfl, q.cellAt rfl, q.cellAt rfl, q.cellAt rfl, q.cellAt rfl, q.cellAt rfl⟩
  have B0 := hid (Below.refl (w.alloc (.cells #[.int .i64 1, .string tk, .string bk, .string ky, .int .i64 id, .int .i64 n, .string sm, .slice pa pn pc, .slice ka 0 kc] 34)).heap.size (w.alloc (.cells #[.int .i64 1, .string tk, .string bk, .string ky, .int .i64 id, .int .i64 n, .string sm, .slice pa pn pc, .slice ka 0 kc] 34)))
  obtain ⟨y0, y1, y2, y3, y4, y5, y6, y7, y8⟩ := ZC.out _ B0.out
  go_enter Tryz.func23, Tryz.ntmps23
  go_wp2_with fail
  refine (N0.out _).mono ?_
  rintro e v1 ⟨rfl, bb⟩
  have B1 := hid (below_on B0.out bb)
  clear N0 bb B0
  clear y0 y1 y2 y3 y4 y5 y6 y7 y8
  obtain ⟨y0, y1, y2, y3, y4, y5, y6, y7, y8⟩ := ZC.out _ B1.out
  go_upto_region 3 with fail
  clear y0 y1 y2 y3 y4 y5 y6 y7 y8
  have D2 := hid B1.out.drew
  clear B1
  refine wp_region_held_drew (S := (fun w' => w'.cell? ⟨w.heap.size, 0, none⟩ = some (.int .i64 1) ∧ w'.cell? ⟨w.heap.size, 1, none⟩ = some (.string tk) ∧ w'.cell? ⟨w.heap.size, 2, none⟩ = some (.string bk) ∧ w'.cell? ⟨w.heap.size, 3, none⟩ = some (.string ky) ∧ w'.cell? ⟨w.heap.size, 4, none⟩ = some (.int .i64 id) ∧ w'.cell? ⟨w.heap.size, 5, none⟩ = some (.int .i64 n) ∧ w'.cell? ⟨w.heap.size, 6, none⟩ = some (.string sm) ∧ w'.cell? ⟨w.heap.size, 7, none⟩ = some (.slice pa pn pc) ∧ w'.cell? ⟨w.heap.size, 8, none⟩ = some (.slice ka 0 kc))) (by kernel_rfl) (ZC.out _ D2.out) (fun hHeld => ?_)
  refine wpAnyH_take (i := 0) (v := ?vv1) rfl (by kernel_rfl) (by kernel_rfl) (by kernel_rfl) (fun _ _ _ h => h) (Or.inl ⟨by rfl, ?hy1⟩) (by assumption) ?rest1
  case hy1 => (intro w hSw; (try dsimp only at hSw); go_simp; first | done | with_reducible rfl)
  try simp only [Act.put, List.getElem_toArray, List.getElem_cons_succ, List.getElem_cons_zero, List.setIfInBounds_toArray, List.set_cons_zero, List.set_cons_succ]
  refine wpAnyH_take (i := 1) (v := ?vv2) rfl (by kernel_rfl) (by kernel_rfl) (by kernel_rfl) (fun _ _ _ h => h) (Or.inl ⟨by rfl, ?hy2⟩) (by assumption) ?rest2
  case hy2 => (intro w hSw; (try dsimp only at hSw); go_simp; first | done | with_reducible rfl)
  try simp only [Act.put, List.getElem_toArray, List.getElem_cons_succ, List.getElem_cons_zero, List.setIfInBounds_toArray, List.set_cons_zero, List.set_cons_succ]
  refine wpAnyH_take (i := 2) (v := ?vv3) rfl (by kernel_rfl) (by kernel_rfl) (by kernel_rfl) (fun _ _ _ h => h) (Or.inl ⟨by rfl, ?hy3⟩) (by assumption) ?rest3
  case hy3 => (intro w hSw; (try dsimp only at hSw); go_simp; first | done | with_reducible rfl)
  try simp only [Act.put, List.getElem_toArray, List.getElem_cons_succ, List.getElem_cons_zero, List.setIfInBounds_toArray, List.set_cons_zero, List.set_cons_succ]
  refine wpAnyH_take (i := 5) (v := ?vv4) rfl (by kernel_rfl) (by kernel_rfl) (by kernel_rfl) (fun _ _ _ h => h) (Or.inl ⟨by rfl, ?hy4⟩) (by assumption) ?rest4
  case hy4 => (intro w hSw; (try dsimp only at hSw); go_simp; first | done | with_reducible rfl)
  try simp only [Act.put, List.getElem_toArray, List.getElem_cons_succ, List.getElem_cons_zero, List.setIfInBounds_toArray, List.set_cons_zero, List.set_cons_succ]
  refine wpAnyH_take (i := 6) (v := ?vv5) rfl (by kernel_rfl) (by kernel_rfl) (by kernel_rfl) (fun _ _ _ h => h) (Or.inl ⟨by rfl, ?hy5⟩) (by assumption) ?rest5
  case hy5 => (intro w hSw; (try dsimp only at hSw); go_simp; first | done | with_reducible rfl)
  try simp only [Act.put, List.getElem_toArray, List.getElem_cons_succ, List.getElem_cons_zero, List.setIfInBounds_toArray, List.set_cons_zero, List.set_cons_succ]
  refine wpAnyH_ready (rs := [3]) (by kernel_rfl) (by simp) ?_
  refine AllReadyH.cons rfl (fun K hK => ?_) AllReadyH.nil
  go_simp
  refine (T1.out _).mono ?_
  rintro e v3 ⟨rfl, bq⟩
  have D3 := hid (below_on D2.out bq)
  clear bq hHeld D2 T1
  go_wp2_with fail
  refine hK.out _ _ (ZC.out _ D3.out) (fun hHeld => ?_)
  clear hK K
  try simp only [Act.put, List.getElem_toArray, List.getElem_cons_succ, List.getElem_cons_zero, List.setIfInBounds_toArray, List.set_cons_zero, List.set_cons_succ]
  refine wpAnyH_take (i := 4) (v := ?vv6) rfl (by kernel_rfl) (by kernel_rfl) (by kernel_rfl) (fun _ _ _ h => h) (Or.inl ⟨by rfl, ?hy6⟩) (by assumption) ?rest6
  case hy6 => (intro w hSw; (try dsimp only at hSw); go_simp; first | done | with_reducible rfl)
  try simp only [Act.put, List.getElem_toArray, List.getElem_cons_succ, List.getElem_cons_zero, List.setIfInBounds_toArray, List.set_cons_zero, List.set_cons_succ]
  refine wpAnyH_ready (rs := [7]) (by kernel_rfl) (by simp) ?_
  refine AllReadyH.cons rfl (fun K hK => ?_) AllReadyH.nil
  go_simp
  refine (T2.out _).mono ?_
  rintro e v4 ⟨rfl, bq⟩
  have D4 := hid (below_on D3.out bq)
  clear bq hHeld D3 T2
  go_wp2_with fail
  refine hK.out _ _ (ZC.out _ D4.out) (fun hHeld => ?_)
  clear hK K
  try simp only [Act.put, List.getElem_toArray, List.getElem_cons_succ, List.getElem_cons_zero, List.setIfInBounds_toArray, List.set_cons_zero, List.set_cons_succ]
  refine wpAnyH_take (i := 8) (v := ?vv7) rfl (by kernel_rfl) (by kernel_rfl) (by kernel_rfl) (fun _ _ _ h => h) (Or.inl ⟨by rfl, ?hy7⟩) (by assumption) ?rest7
  case hy7 => (intro w hSw; (try dsimp only at hSw); go_simp; first | done | with_reducible rfl)
  try simp only [Act.put, List.getElem_toArray, List.getElem_cons_succ, List.getElem_cons_zero, List.setIfInBounds_toArray, List.set_cons_zero, List.set_cons_succ]
  refine wpAnyH_take (i := 9) (v := ?vv8) rfl (by kernel_rfl) (by kernel_rfl) (by kernel_rfl) (fun _ _ _ h => h) (Or.inl ⟨by rfl, ?hy8⟩) (by assumption) ?rest8
  case hy8 => (intro w hSw; (try dsimp only at hSw); go_simp; first | done | with_reducible rfl)
  try simp only [Act.put, List.getElem_toArray, List.getElem_cons_succ, List.getElem_cons_zero, List.setIfInBounds_toArray, List.set_cons_zero, List.set_cons_succ]
  refine wpAnyH_done (by kernel_rfl) ?_ _
  clear hHeld
  obtain ⟨y0, y1, y2, y3, y4, y5, y6, y7, y8⟩ := ZC.out _ D4.out
  go_wp2_with fail
  refine (HK1.out _).mono ?_
  rintro e v5 ⟨rfl, rfl⟩
  clear HK1
  go_wp2_with fail
  refine (HI1.out _).mono ?_
  rintro e v6 ⟨rfl, rfl⟩
  clear HI1
  go_wp2_with fail
  refine (HS1.out _).mono ?_
  rintro e v7 ⟨rfl, rfl⟩
  clear HS1
  go_wp2
  have BZ := hid (below_on BA.out D4.out)
  go_loopw [3, 4] (fun s i wr => s = .string ⟨Y2.toArray⟩ ∧ i = .int .i64 0 ∧ Hid (Below (w.alloc (.cells #[.int .i64 1, .string tk, .string bk, .string ky, .int .i64 id, .int .i64 n, .string sm, .slice pa pn pc, .slice ka 0 kc] 34)).heap.size (w.alloc (.cells #[.int .i64 1, .string tk, .string bk, .string ky, .int .i64 id, .int .i64 n, .string sm, .slice pa pn pc, .slice ka 0 kc] 34)) wr)) (fun _ _ _ => 0)
  case atStart => exact ⟨rfl, rfl, D4⟩
  case round =>
    obtain ⟨rfl, rfl, HB⟩ := hrel
    clear y0 y1 y2 y3 y4 y5 y6 y7 y8
    obtain ⟨y0, y1, y2, y3, y4, y5, y6, y7, y8⟩ := ZC.out _ HB.out
    go_wp2
    go_ret
    exact ⟨rfl, below_on BA.out HB.out⟩
set_option maxRecDepth 100000 in
set_option maxHeartbeats 4000000 in
theorem told_2 (tk bk ky : ByteArray) (id n : Int) (sm : ByteArray) (ps : List Pc) (pa ka : Option Addr) (pc kc : Nat) (w : World) (hp : PcI w (.slice pa ps.length pc) ps) (hd : CmD (⟨2, tk, bk, ky, id, n, sm, ps, []⟩ : Cm)) : Calls Tryz.prog 23 #[.agg #[.int .i64 2, .string tk, .string bk, .string ky, .int .i64 id, .int .i64 n, .string sm, .slice pa ps.length pc, .slice ka 0 kc]] w fun e w' => e = .returned (.string ⟨(cmB (⟨2, tk, bk, ky, id, n, sm, ps, []⟩ : Cm)).toArray⟩) ∧ Below w.heap.size w w' := by
  have HB : cmB (⟨2, tk, bk, ky, id, n, sm, ps, []⟩ : Cm) = put (2 : Int).toNat ++ ptx tk ++ ptx bk := by
    simp only [cmB, flB, show hasF (flN 2) 1 = true from by decide, show hasF (flN 2) 2 = true from by decide, show hasF (flN 2) 4 = false from by decide, show hasF (flN 2) 8 = false from by decide, show hasF (flN 2) 16 = false from by decide, show hasF (flN 2) 32 = false from by decide, show hasF (flN 2) 64 = false from by decide, show hasF (flN 2) 128 = false from by decide, if_true, Bool.false_eq_true, if_false, List.append_nil]
  rw [HB]
  clear HB
  obtain ⟨-, dtk, dbk, dky, did, dn, dsm, dps, dpl, dks, dkl⟩ := hd
  simp only at dtk dbk dky did dn dsm dps dpl dks dkl
  have N0 : Hid (∀ W, Calls Tryz.prog 52 #[.int .i64 2] W fun e w' => e = .returned (.string ⟨(put (2 : Int).toNat).toArray⟩) ∧ Below W.heap.size W w') := fun W => rnum16_any 2 W (by decide)
  have T1 : Hid (∀ W, Calls Tryz.prog 53 #[.string tk] W fun e w' => e = .returned (.string ⟨(ptx tk).toArray⟩) ∧ Below W.heap.size W w') := fun W => ref_text_any tk W (Nat.le_trans dtk (by decide))
  have l1 : (ptx tk).length ≤ 74 := by have := (put_len tk.size).2; rw [ptx_len]; omega
  have T2 : Hid (∀ W, Calls Tryz.prog 53 #[.string bk] W fun e w' => e = .returned (.string ⟨(ptx bk).toArray⟩) ∧ Below W.heap.size W w') := fun W => ref_text_any bk W (Nat.le_trans dbk (by decide))
  have l2 : (ptx bk).length ≤ 73 := by have := (put_len bk.size).2; rw [ptx_len]; omega
  have l0 := (put_len (2 : Int).toNat).2
  have HK1 : Hid (∀ W, Calls Tryz.prog 35 #[.int .i64 2] W fun e w' => e = .returned (.bool false) ∧ w' = W) := fun W => hasKey_any 2 W
  have HI1 : Hid (∀ W, Calls Tryz.prog 37 #[.int .i64 2] W fun e w' => e = .returned (.bool false) ∧ w' = W) := fun W => hasID_any 2 W
  have HS1 : Hid (∀ W, Calls Tryz.prog 39 #[.int .i64 2] W fun e w' => e = .returned (.bool false) ∧ w' = W) := fun W => hasSum_any 2 W
  clear dtk dbk dky did dn dsm dps dks dkl hp dpl
  generalize put (2 : Int).toNat = X0 at *
  generalize ptx tk = X1 at *
  generalize ptx bk = X2 at *
  have q1 := fun W => add_ls (X0) X1 W (by omega)
  have q2 := fun W => add_ls (X0 ++ X1) X2 W (by simp only [List.length_append]; omega)
  generalize X0 ++ X1 = Y1 at *
  generalize Y1 ++ X2 = Y2 at *
  clear l0 l1 l2
  generalize ps.length = pn at *
  have BA := hid (below_al (Below.refl w.heap.size w) (.cells #[.int .i64 2, .string tk, .string bk, .string ky, .int .i64 id, .int .i64 n, .string sm, .slice pa pn pc, .slice ka 0 kc] 34))
  have ZC : Hid (∀ W, Below (w.alloc (.cells #[.int .i64 2, .string tk, .string bk, .string ky, .int .i64 id, .int .i64 n, .string sm, .slice pa pn pc, .slice ka 0 kc] 34)).heap.size (w.alloc (.cells #[.int .i64 2, .string tk, .string bk, .string ky, .int .i64 id, .int .i64 n, .string sm, .slice pa pn pc, .slice ka 0 kc] 34)) W → W.cell? ⟨w.heap.size, 0, none⟩ = some (.int .i64 2) ∧ W.cell? ⟨w.heap.size, 1, none⟩ = some (.string tk) ∧ W.cell? ⟨w.heap.size, 2, none⟩ = some (.string bk) ∧ W.cell? ⟨w.heap.size, 3, none⟩ = some (.string ky) ∧ W.cell? ⟨w.heap.size, 4, none⟩ = some (.int .i64 id) ∧ W.cell? ⟨w.heap.size, 5, none⟩ = some (.int .i64 n) ∧ W.cell? ⟨w.heap.size, 6, none⟩ = some (.string sm) ∧ W.cell? ⟨w.heap.size, 7, none⟩ = some (.slice pa pn pc) ∧ W.cell? ⟨w.heap.size, 8, none⟩ = some (.slice ka 0 kc)) := fun W hW => by
    have q := (srow w [.int .i64 2, .string tk, .string bk, .string ky, .int .i64 id, .int .i64 n, .string sm, .slice pa pn pc, .slice ka 0 kc] 34).keep (hW.keep (fun _ => False)) (fun h => h)
    exact ⟨q.cellAt rfl, q.cellAt rfl, q.cellAt rfl, q.cellAt rfl, q.cellAt rfl, q.cellAt rfl, q.cellAt rfl, q.cellAt rfl, q.cellAt rfl⟩
  have B0 := hid (Below.refl (w.alloc (.cells #[.int .i64 2, .string tk, .string bk, .string ky, .int .i64 id, .int .i64 n, .string sm, .slice pa pn pc, .slice ka 0 kc] 34)).heap.size (w.alloc (.cells #[.int .i64 2, .string tk, .string bk, .string ky, .int .i64 id, .int .i64 n, .string sm, .slice pa pn pc, .slice ka 0 kc] 34)))
  obtain ⟨y0, y1, y2, y3, y4, y5, y6, y7, y8⟩ := ZC.out _ B0.out
  go_enter Tryz.func23, Tryz.ntmps23
  go_wp2_with fail
  refine (N0.out _).mono ?_
  rintro e v1 ⟨rfl, bb⟩
  have B1 := hid (below_on B0.out bb)
  clear N0 bb B0
  clear y0 y1 y2 y3 y4 y5 y6 y7 y8
  obtain ⟨y0, y1, y2, y3, y4, y5, y6, y7, y8⟩ := ZC.out _ B1.out
  go_upto_region 3 with fail
  clear y0 y1 y2 y3 y4 y5 y6 y7 y8
  have D2 := hid B1.out.drew
  clear B1
  refine wp_region_held_drew (S := (fun w' => w'.cell? ⟨w.heap.size, 0, none⟩ = some (.int .i64 2) ∧ w'.cell? ⟨w.heap.size, 1, none⟩ = some (.string tk) ∧ w'.cell? ⟨w.heap.size, 2, none⟩ = some (.string bk) ∧ w'.cell? ⟨w.heap.size, 3, none⟩ = some (.string ky) ∧ w'.cell? ⟨w.heap.size, 4, none⟩ = some (.int .i64 id) ∧ w'.cell? ⟨w.heap.size, 5, none⟩ = some (.int .i64 n) ∧ w'.cell? ⟨w.heap.size, 6, none⟩ = some (.string sm) ∧ w'.cell? ⟨w.heap.size, 7, none⟩ = some (.slice pa pn pc) ∧ w'.cell? ⟨w.heap.size, 8, none⟩ = some (.slice ka 0 kc))) (by kernel_rfl) (ZC.out _ D2.out) (fun hHeld => ?_)
  refine wpAnyH_take (i := 0) (v := ?vv9) rfl (by kernel_rfl) (by kernel_rfl) (by kernel_rfl) (fun _ _ _ h => h) (Or.inl ⟨by rfl, ?hy9⟩) (by assumption) ?rest9
  case hy9 => (intro w hSw; (try dsimp only at hSw); go_simp; first | done | with_reducible rfl)
  try simp only [Act.put, List.getElem_toArray, List.getElem_cons_succ, List.getElem_cons_zero, List.setIfInBounds_toArray, List.set_cons_zero, List.set_cons_succ]
  refine wpAnyH_take (i := 1) (v := ?vv10) rfl (by kernel_rfl) (by kernel_rfl) (by kernel_rfl) (fun _ _ _ h => h) (Or.inl ⟨by rfl, ?hy10⟩) (by assumption) ?rest10
  case hy10 => (intro w hSw; (try dsimp only at hSw); go_simp; first | done | with_reducible rfl)
  try simp only [Act.put, List.getElem_toArray, List.getElem_cons_succ, List.getElem_cons_zero, List.setIfInBounds_toArray, List.set_cons_zero, List.set_cons_succ]
  refine wpAnyH_take (i := 2) (v := ?vv11) rfl (by kernel_rfl) (by kernel_rfl) (by kernel_rfl) (fun _ _ _ h => h) (Or.inl ⟨by rfl, ?hy11⟩) (by assumption) ?rest11
  case hy11 => (intro w hSw; (try dsimp only at hSw); go_simp; first | done | with_reducible rfl)
  try simp only [Act.put, List.getElem_toArray, List.getElem_cons_succ, List.getElem_cons_zero, List.setIfInBounds_toArray, List.set_cons_zero, List.set_cons_succ]
  refine wpAnyH_take (i := 5) (v := ?vv12) rfl (by kernel_rfl) (by kernel_rfl) (by kernel_rfl) (fun _ _ _ h => h) (Or.inl ⟨by rfl, ?hy12⟩) (by assumption) ?rest12
  case hy12 => (intro w hSw; (try dsimp only at hSw); go_simp; first | done | with_reducible rfl)
  try simp only [Act.put, List.getElem_toArray, List.getElem_cons_succ, List.getElem_cons_zero, List.setIfInBounds_toArray, List.set_cons_zero, List.set_cons_succ]
  refine wpAnyH_take (i := 6) (v := ?vv13) rfl (by kernel_rfl) (by kernel_rfl) (by kernel_rfl) (fun _ _ _ h => h) (Or.inl ⟨by rfl, ?hy13⟩) (by assumption) ?rest13
  case hy13 => (intro w hSw; (try dsimp only at hSw); go_simp; first | done | with_reducible rfl)
  try simp only [Act.put, List.getElem_toArray, List.getElem_cons_succ, List.getElem_cons_zero, List.setIfInBounds_toArray, List.set_cons_zero, List.set_cons_succ]
  refine wpAnyH_ready (rs := [3]) (by kernel_rfl) (by simp) ?_
  refine AllReadyH.cons rfl (fun K hK => ?_) AllReadyH.nil
  go_simp
  refine (T1.out _).mono ?_
  rintro e v3 ⟨rfl, bq⟩
  have D3 := hid (below_on D2.out bq)
  clear bq hHeld D2 T1
  go_wp2_with fail
  refine hK.out _ _ (ZC.out _ D3.out) (fun hHeld => ?_)
  clear hK K
  try simp only [Act.put, List.getElem_toArray, List.getElem_cons_succ, List.getElem_cons_zero, List.setIfInBounds_toArray, List.set_cons_zero, List.set_cons_succ]
  refine wpAnyH_take (i := 4) (v := ?vv14) rfl (by kernel_rfl) (by kernel_rfl) (by kernel_rfl) (fun _ _ _ h => h) (Or.inl ⟨by rfl, ?hy14⟩) (by assumption) ?rest14
  case hy14 => (intro w hSw; (try dsimp only at hSw); go_simp; first | done | with_reducible rfl)
  try simp only [Act.put, List.getElem_toArray, List.getElem_cons_succ, List.getElem_cons_zero, List.setIfInBounds_toArray, List.set_cons_zero, List.set_cons_succ]
  refine wpAnyH_ready (rs := [7]) (by kernel_rfl) (by simp) ?_
  refine AllReadyH.cons rfl (fun K hK => ?_) AllReadyH.nil
  go_simp
  refine (T2.out _).mono ?_
  rintro e v4 ⟨rfl, bq⟩
  have D4 := hid (below_on D3.out bq)
  clear bq hHeld D3 T2
  go_wp2_with fail
  refine hK.out _ _ (ZC.out _ D4.out) (fun hHeld => ?_)
  clear hK K
  try simp only [Act.put, List.getElem_toArray, List.getElem_cons_succ, List.getElem_cons_zero, List.setIfInBounds_toArray, List.set_cons_zero, List.set_cons_succ]
  refine wpAnyH_take (i := 8) (v := ?vv15) rfl (by kernel_rfl) (by kernel_rfl) (by kernel_rfl) (fun _ _ _ h => h) (Or.inl ⟨by rfl, ?hy15⟩) (by assumption) ?rest15
  case hy15 => (intro w hSw; (try dsimp only at hSw); go_simp; first | done | with_reducible rfl)
  try simp only [Act.put, List.getElem_toArray, List.getElem_cons_succ, List.getElem_cons_zero, List.setIfInBounds_toArray, List.set_cons_zero, List.set_cons_succ]
  refine wpAnyH_take (i := 9) (v := ?vv16) rfl (by kernel_rfl) (by kernel_rfl) (by kernel_rfl) (fun _ _ _ h => h) (Or.inl ⟨by rfl, ?hy16⟩) (by assumption) ?rest16
  case hy16 => (intro w hSw; (try dsimp only at hSw); go_simp; first | done | with_reducible rfl)
  try simp only [Act.put, List.getElem_toArray, List.getElem_cons_succ, List.getElem_cons_zero, List.setIfInBounds_toArray, List.set_cons_zero, List.set_cons_succ]
  refine wpAnyH_done (by kernel_rfl) ?_ _
  clear hHeld
  obtain ⟨y0, y1, y2, y3, y4, y5, y6, y7, y8⟩ := ZC.out _ D4.out
  go_wp2_with fail
  refine (HK1.out _).mono ?_
  rintro e v5 ⟨rfl, rfl⟩
  clear HK1
  go_wp2_with fail
  refine (HI1.out _).mono ?_
  rintro e v6 ⟨rfl, rfl⟩
  clear HI1
  go_wp2_with fail
  refine (HS1.out _).mono ?_
  rintro e v7 ⟨rfl, rfl⟩
  clear HS1
  go_wp2
  have BZ := hid (below_on BA.out D4.out)
  go_loopw [3, 4] (fun s i wr => s = .string ⟨Y2.toArray⟩ ∧ i = .int .i64 0 ∧ Hid (Below (w.alloc (.cells #[.int .i64 2, .string tk, .string bk, .string ky, .int .i64 id, .int .i64 n, .string sm, .slice pa pn pc, .slice ka 0 kc] 34)).heap.size (w.alloc (.cells #[.int .i64 2, .string tk, .string bk, .string ky, .int .i64 id, .int .i64 n, .string sm, .slice pa pn pc, .slice ka 0 kc] 34)) wr)) (fun _ _ _ => 0)
  case atStart => exact ⟨rfl, rfl, D4⟩
  case round =>
    obtain ⟨rfl, rfl, HB⟩ := hrel
    clear y0 y1 y2 y3 y4 y5 y6 y7 y8
    obtain ⟨y0, y1, y2, y3, y4, y5, y6, y7, y8⟩ := ZC.out _ HB.out
    go_wp2
    go_ret
    exact ⟨rfl, below_on BA.out HB.out⟩
set_option maxRecDepth 100000 in
set_option maxHeartbeats 4000000 in
theorem told_3 (tk bk ky : ByteArray) (id n : Int) (sm : ByteArray) (ps : List Pc) (pa ka : Option Addr) (pc kc : Nat) (w : World) (hp : PcI w (.slice pa ps.length pc) ps) (hd : CmD (⟨3, tk, bk, ky, id, n, sm, ps, []⟩ : Cm)) : Calls Tryz.prog 23 #[.agg #[.int .i64 3, .string tk, .string bk, .string ky, .int .i64 id, .int .i64 n, .string sm, .slice pa ps.length pc, .slice ka 0 kc]] w fun e w' => e = .returned (.string ⟨(cmB (⟨3, tk, bk, ky, id, n, sm, ps, []⟩ : Cm)).toArray⟩) ∧ Below w.heap.size w w' := by
  have HB : cmB (⟨3, tk, bk, ky, id, n, sm, ps, []⟩ : Cm) = put (3 : Int).toNat ++ ptx tk ++ ptx bk ++ ptx ky ++ ptx sm ++ pcsB ps := by
    simp only [cmB, flB, show hasF (flN 3) 1 = true from by decide, show hasF (flN 3) 2 = true from by decide, show hasF (flN 3) 4 = true from by decide, show hasF (flN 3) 8 = false from by decide, show hasF (flN 3) 16 = false from by decide, show hasF (flN 3) 32 = true from by decide, show hasF (flN 3) 64 = true from by decide, show hasF (flN 3) 128 = false from by decide, if_true, Bool.false_eq_true, if_false, List.append_nil]
  rw [HB]
  clear HB
  obtain ⟨-, dtk, dbk, dky, did, dn, dsm, dps, dpl, dks, dkl⟩ := hd
  simp only at dtk dbk dky did dn dsm dps dpl dks dkl
  have N0 : Hid (∀ W, Calls Tryz.prog 52 #[.int .i64 3] W fun e w' => e = .returned (.string ⟨(put (3 : Int).toNat).toArray⟩) ∧ Below W.heap.size W w') := fun W => rnum16_any 3 W (by decide)
  have T1 : Hid (∀ W, Calls Tryz.prog 53 #[.string tk] W fun e w' => e = .returned (.string ⟨(ptx tk).toArray⟩) ∧ Below W.heap.size W w') := fun W => ref_text_any tk W (Nat.le_trans dtk (by decide))
  have l1 : (ptx tk).length ≤ 74 := by have := (put_len tk.size).2; rw [ptx_len]; omega
  have T2 : Hid (∀ W, Calls Tryz.prog 53 #[.string bk] W fun e w' => e = .returned (.string ⟨(ptx bk).toArray⟩) ∧ Below W.heap.size W w') := fun W => ref_text_any bk W (Nat.le_trans dbk (by decide))
  have l2 : (ptx bk).length ≤ 73 := by have := (put_len bk.size).2; rw [ptx_len]; omega
  have T3 : Hid (∀ W, Calls Tryz.prog 53 #[.string ky] W fun e w' => e = .returned (.string ⟨(ptx ky).toArray⟩) ∧ Below W.heap.size W w') := fun W => ref_text_any ky W (Nat.le_trans dky (by decide))
  have l3 : (ptx ky).length ≤ 1034 := by have := (put_len ky.size).2; rw [ptx_len]; omega
  have T6 : Hid (∀ W, Calls Tryz.prog 53 #[.string sm] W fun e w' => e = .returned (.string ⟨(ptx sm).toArray⟩) ∧ Below W.heap.size W w') := fun W => ref_text_any sm W (Nat.le_trans dsm (by decide))
  have l6 : (ptx sm).length ≤ 74 := by have := (put_len sm.size).2; rw [ptx_len]; omega
  have P7 : Hid (∀ W, Below w.heap.size w W → Calls Tryz.prog 61 #[.slice pa ps.length pc] W fun e w' => e = .returned (.string ⟨(pcsB ps).toArray⟩) ∧ Below W.heap.size W w') := fun W hW => rtold_any _ ps W (hp.next hW) dps dpl
  have l7 := pcsB_len dps dpl
  have l0 := (put_len (3 : Int).toNat).2
  have HK1 : Hid (∀ W, Calls Tryz.prog 35 #[.int .i64 3] W fun e w' => e = .returned (.bool true) ∧ w' = W) := fun W => hasKey_any 3 W
  have HI1 : Hid (∀ W, Calls Tryz.prog 37 #[.int .i64 3] W fun e w' => e = .returned (.bool false) ∧ w' = W) := fun W => hasID_any 3 W
  have HS1 : Hid (∀ W, Calls Tryz.prog 39 #[.int .i64 3] W fun e w' => e = .returned (.bool true) ∧ w' = W) := fun W => hasSum_any 3 W
  clear dtk dbk dky did dn dsm dps dks dkl hp dpl
  generalize put (3 : Int).toNat = X0 at *
  generalize ptx tk = X1 at *
  generalize ptx bk = X2 at *
  generalize ptx ky = X3 at *
  generalize ptx sm = X6 at *
  generalize pcsB ps = X7 at *
  have q1 := fun W => add_ls (X0) X1 W (by omega)
  have q2 := fun W => add_ls (X0 ++ X1) X2 W (by simp only [List.length_append]; omega)
  have q3 := fun W => add_ls (X0 ++ X1 ++ X2) X3 W (by simp only [List.length_append]; omega)
  have q6 := fun W => add_ls (X0 ++ X1 ++ X2 ++ X3) X6 W (by simp only [List.length_append]; omega)
  have q7 := fun W => add_ls (X0 ++ X1 ++ X2 ++ X3 ++ X6) X7 W (by simp only [List.length_append]; omega)
  generalize X0 ++ X1 = Y1 at *
  generalize Y1 ++ X2 = Y2 at *
  generalize Y2 ++ X3 = Y3 at *
  generalize Y3 ++ X6 = Y4 at *
  generalize Y4 ++ X7 = Y5 at *
  clear l0 l1 l2 l3 l6 l7
  generalize ps.length = pn at *
  have BA := hid (below_al (Below.refl w.heap.size w) (.cells #[.int .i64 3, .string tk, .string bk, .string ky, .int .i64 id, .int .i64 n, .string sm, .slice pa pn pc, .slice ka 0 kc] 34))
  have ZC : Hid (∀ W, Below (w.alloc (.cells #[.int .i64 3, .string tk, .string bk, .string ky, .int .i64 id, .int .i64 n, .string sm, .slice pa pn pc, .slice ka 0 kc] 34)).heap.size (w.alloc (.cells #[.int .i64 3, .string tk, .string bk, .string ky, .int .i64 id, .int .i64 n, .string sm, .slice pa pn pc, .slice ka 0 kc] 34)) W → W.cell? ⟨w.heap.size, 0, none⟩ = some (.int .i64 3) ∧ W.cell? ⟨w.heap.size, 1, none⟩ = some (.string tk) ∧ W.cell? ⟨w.heap.size, 2, none⟩ = some (.string bk) ∧ W.cell? ⟨w.heap.size, 3, none⟩ = some (.string ky) ∧ W.cell? ⟨w.heap.size, 4, none⟩ = some (.int .i64 id) ∧ W.cell? ⟨w.heap.size, 5, none⟩ = some (.int .i64 n) ∧ W.cell? ⟨w.heap.size, 6, none⟩ = some (.string sm) ∧ W.cell? ⟨w.heap.size, 7, none⟩ = some (.slice pa pn pc) ∧ W.cell? ⟨w.heap.size, 8, none⟩ = some (.slice ka 0 kc)) := fun W hW => by
    have q := (srow w [.int .i64 3, .string tk, .string bk, .string ky, .int .i64 id, .int .i64 n, .string sm, .slice pa pn pc, .slice ka 0 kc] 34).keep (hW.keep (fun _ => False)) (fun h => h)
    exact ⟨q.cellAt rfl, q.cellAt rfl, q.cellAt rfl, q.cellAt rfl, q.cellAt rfl, q.cellAt rfl, q.cellAt rfl, q.cellAt rfl, q.cellAt rfl⟩
  have B0 := hid (Below.refl (w.alloc (.cells #[.int .i64 3, .string tk, .string bk, .string ky, .int .i64 id, .int .i64 n, .string sm, .slice pa pn pc, .slice ka 0 kc] 34)).heap.size (w.alloc (.cells #[.int .i64 3, .string tk, .string bk, .string ky, .int .i64 id, .int .i64 n, .string sm, .slice pa pn pc, .slice ka 0 kc] 34)))
  obtain ⟨y0, y1, y2, y3, y4, y5, y6, y7, y8⟩ := ZC.out _ B0.out
  go_enter Tryz.func23, Tryz.ntmps23
  go_wp2_with fail
  refine (N0.out _).mono ?_
  rintro e v1 ⟨rfl, bb⟩
  have B1 := hid (below_on B0.out bb)
  clear N0 bb B0
  clear y0 y1 y2 y3 y4 y5 y6 y7 y8
  obtain ⟨y0, y1, y2, y3, y4, y5, y6, y7, y8⟩ := ZC.out _ B1.out
  go_upto_region 3 with fail
  clear y0 y1 y2 y3 y4 y5 y6 y7 y8
  have D2 := hid B1.out.drew
  clear B1
  refine wp_region_held_drew (S := (fun w' => w'.cell? ⟨w.heap.size, 0, none⟩ = some (.int .i64 3) ∧ w'.cell? ⟨w.heap.size, 1, none⟩ = some (.string tk) ∧ w'.cell? ⟨w.heap.size, 2, none⟩ = some (.string bk) ∧ w'.cell? ⟨w.heap.size, 3, none⟩ = some (.string ky) ∧ w'.cell? ⟨w.heap.size, 4, none⟩ = some (.int .i64 id) ∧ w'.cell? ⟨w.heap.size, 5, none⟩ = some (.int .i64 n) ∧ w'.cell? ⟨w.heap.size, 6, none⟩ = some (.string sm) ∧ w'.cell? ⟨w.heap.size, 7, none⟩ = some (.slice pa pn pc) ∧ w'.cell? ⟨w.heap.size, 8, none⟩ = some (.slice ka 0 kc))) (by kernel_rfl) (ZC.out _ D2.out) (fun hHeld => ?_)
  refine wpAnyH_take (i := 0) (v := ?vv17) rfl (by kernel_rfl) (by kernel_rfl) (by kernel_rfl) (fun _ _ _ h => h) (Or.inl ⟨by rfl, ?hy17⟩) (by assumption) ?rest17
  case hy17 => (intro w hSw; (try dsimp only at hSw); go_simp; first | done | with_reducible rfl)
  try simp only [Act.put, List.getElem_toArray, List.getElem_cons_succ, List.getElem_cons_zero, List.setIfInBounds_toArray, List.set_cons_zero, List.set_cons_succ]
  refine wpAnyH_take (i := 1) (v := ?vv18) rfl (by kernel_rfl) (by kernel_rfl) (by kernel_rfl) (fun _ _ _ h => h) (Or.inl ⟨by rfl, ?hy18⟩) (by assumption) ?rest18
  case hy18 => (intro w hSw; (try dsimp only at hSw); go_simp; first | done | with_reducible rfl)
  try simp only [Act.put, List.getElem_toArray, List.getElem_cons_succ, List.getElem_cons_zero, List.setIfInBounds_toArray, List.set_cons_zero, List.set_cons_succ]
  refine wpAnyH_take (i := 2) (v := ?vv19) rfl (by kernel_rfl) (by kernel_rfl) (by kernel_rfl) (fun _ _ _ h => h) (Or.inl ⟨by rfl, ?hy19⟩) (by assumption) ?rest19
  case hy19 => (intro w hSw; (try dsimp only at hSw); go_simp; first | done | with_reducible rfl)
  try simp only [Act.put, List.getElem_toArray, List.getElem_cons_succ, List.getElem_cons_zero, List.setIfInBounds_toArray, List.set_cons_zero, List.set_cons_succ]
  refine wpAnyH_take (i := 5) (v := ?vv20) rfl (by kernel_rfl) (by kernel_rfl) (by kernel_rfl) (fun _ _ _ h => h) (Or.inl ⟨by rfl, ?hy20⟩) (by assumption) ?rest20
  case hy20 => (intro w hSw; (try dsimp only at hSw); go_simp; first | done | with_reducible rfl)
  try simp only [Act.put, List.getElem_toArray, List.getElem_cons_succ, List.getElem_cons_zero, List.setIfInBounds_toArray, List.set_cons_zero, List.set_cons_succ]
  refine wpAnyH_take (i := 6) (v := ?vv21) rfl (by kernel_rfl) (by kernel_rfl) (by kernel_rfl) (fun _ _ _ h => h) (Or.inl ⟨by rfl, ?hy21⟩) (by assumption) ?rest21
  case hy21 => (intro w hSw; (try dsimp only at hSw); go_simp; first | done | with_reducible rfl)
  try simp only [Act.put, List.getElem_toArray, List.getElem_cons_succ, List.getElem_cons_zero, List.setIfInBounds_toArray, List.set_cons_zero, List.set_cons_succ]
  refine wpAnyH_ready (rs := [3]) (by kernel_rfl) (by simp) ?_
  refine AllReadyH.cons rfl (fun K hK => ?_) AllReadyH.nil
  go_simp
  refine (T1.out _).mono ?_
  rintro e v3 ⟨rfl, bq⟩
  have D3 := hid (below_on D2.out bq)
  clear bq hHeld D2 T1
  go_wp2_with fail
  refine hK.out _ _ (ZC.out _ D3.out) (fun hHeld => ?_)
  clear hK K
  try simp only [Act.put, List.getElem_toArray, List.getElem_cons_succ, List.getElem_cons_zero, List.setIfInBounds_toArray, List.set_cons_zero, List.set_cons_succ]
  refine wpAnyH_take (i := 4) (v := ?vv22) rfl (by kernel_rfl) (by kernel_rfl) (by kernel_rfl) (fun _ _ _ h => h) (Or.inl ⟨by rfl, ?hy22⟩) (by assumption) ?rest22
  case hy22 => (intro w hSw; (try dsimp only at hSw); go_simp; first | done | with_reducible rfl)
  try simp only [Act.put, List.getElem_toArray, List.getElem_cons_succ, List.getElem_cons_zero, List.setIfInBounds_toArray, List.set_cons_zero, List.set_cons_succ]
  refine wpAnyH_ready (rs := [7]) (by kernel_rfl) (by simp) ?_
  refine AllReadyH.cons rfl (fun K hK => ?_) AllReadyH.nil
  go_simp
  refine (T2.out _).mono ?_
  rintro e v4 ⟨rfl, bq⟩
  have D4 := hid (below_on D3.out bq)
  clear bq hHeld D3 T2
  go_wp2_with fail
  refine hK.out _ _ (ZC.out _ D4.out) (fun hHeld => ?_)
  clear hK K
  try simp only [Act.put, List.getElem_toArray, List.getElem_cons_succ, List.getElem_cons_zero, List.setIfInBounds_toArray, List.set_cons_zero, List.set_cons_succ]
  refine wpAnyH_take (i := 8) (v := ?vv23) rfl (by kernel_rfl) (by kernel_rfl) (by kernel_rfl) (fun _ _ _ h => h) (Or.inl ⟨by rfl, ?hy23⟩) (by assumption) ?rest23
  case hy23 => (intro w hSw; (try dsimp only at hSw); go_simp; first | done | with_reducible rfl)
  try simp only [Act.put, List.getElem_toArray, List.getElem_cons_succ, List.getElem_cons_zero, List.setIfInBounds_toArray, List.set_cons_zero, List.set_cons_succ]
  refine wpAnyH_take (i := 9) (v := ?vv24) rfl (by kernel_rfl) (by kernel_rfl) (by kernel_rfl) (fun _ _ _ h => h) (Or.inl ⟨by rfl, ?hy24⟩) (by assumption) ?rest24
  case hy24 => (intro w hSw; (try dsimp only at hSw); go_simp; first | done | with_reducible rfl)
  try simp only [Act.put, List.getElem_toArray, List.getElem_cons_succ, List.getElem_cons_zero, List.setIfInBounds_toArray, List.set_cons_zero, List.set_cons_succ]
  refine wpAnyH_done (by kernel_rfl) ?_ _
  clear hHeld
  obtain ⟨y0, y1, y2, y3, y4, y5, y6, y7, y8⟩ := ZC.out _ D4.out
  go_wp2_with fail
  refine (HK1.out _).mono ?_
  rintro e v5 ⟨rfl, rfl⟩
  clear HK1
  go_wp2_with fail
  refine (T3.out _).mono ?_
  rintro e v6 ⟨rfl, bb⟩
  have B6 := hid (below_on D4.out bb)
  clear T3 bb D4
  clear y0 y1 y2 y3 y4 y5 y6 y7 y8
  obtain ⟨y0, y1, y2, y3, y4, y5, y6, y7, y8⟩ := ZC.out _ B6.out
  go_wp2_with fail
  refine (HI1.out _).mono ?_
  rintro e v7 ⟨rfl, rfl⟩
  clear HI1
  go_wp2_with fail
  refine (HS1.out _).mono ?_
  rintro e v8 ⟨rfl, rfl⟩
  clear HS1
  go_upto_region 11 with fail
  clear y0 y1 y2 y3 y4 y5 y6 y7 y8
  have D9 := hid B6.out.drew
  clear B6
  refine wp_region_held_drew (S := (fun w' => w'.cell? ⟨w.heap.size, 0, none⟩ = some (.int .i64 3) ∧ w'.cell? ⟨w.heap.size, 1, none⟩ = some (.string tk) ∧ w'.cell? ⟨w.heap.size, 2, none⟩ = some (.string bk) ∧ w'.cell? ⟨w.heap.size, 3, none⟩ = some (.string ky) ∧ w'.cell? ⟨w.heap.size, 4, none⟩ = some (.int .i64 id) ∧ w'.cell? ⟨w.heap.size, 5, none⟩ = some (.int .i64 n) ∧ w'.cell? ⟨w.heap.size, 6, none⟩ = some (.string sm) ∧ w'.cell? ⟨w.heap.size, 7, none⟩ = some (.slice pa pn pc) ∧ w'.cell? ⟨w.heap.size, 8, none⟩ = some (.slice ka 0 kc))) (by kernel_rfl) (ZC.out _ D9.out) (fun hHeld => ?_)
  refine wpAnyH_take (i := 0) (v := ?vv25) rfl (by kernel_rfl) (by kernel_rfl) (by kernel_rfl) (fun _ _ _ h => h) (Or.inl ⟨by rfl, ?hy25⟩) (by assumption) ?rest25
  case hy25 => (intro w hSw; (try dsimp only at hSw); go_simp; first | done | with_reducible rfl)
  try simp only [Act.put, List.getElem_toArray, List.getElem_cons_succ, List.getElem_cons_zero, List.setIfInBounds_toArray, List.set_cons_zero, List.set_cons_succ]
  refine wpAnyH_take (i := 1) (v := ?vv26) rfl (by kernel_rfl) (by kernel_rfl) (by kernel_rfl) (fun _ _ _ h => h) (Or.inl ⟨by rfl, ?hy26⟩) (by assumption) ?rest26
  case hy26 => (intro w hSw; (try dsimp only at hSw); go_simp; first | done | with_reducible rfl)
  try simp only [Act.put, List.getElem_toArray, List.getElem_cons_succ, List.getElem_cons_zero, List.setIfInBounds_toArray, List.set_cons_zero, List.set_cons_succ]
  refine wpAnyH_take (i := 2) (v := ?vv27) rfl (by kernel_rfl) (by kernel_rfl) (by kernel_rfl) (fun _ _ _ h => h) (Or.inl ⟨by rfl, ?hy27⟩) (by assumption) ?rest27
  case hy27 => (intro w hSw; (try dsimp only at hSw); go_simp; first | done | with_reducible rfl)
  try simp only [Act.put, List.getElem_toArray, List.getElem_cons_succ, List.getElem_cons_zero, List.setIfInBounds_toArray, List.set_cons_zero, List.set_cons_succ]
  refine wpAnyH_take (i := 5) (v := ?vv28) rfl (by kernel_rfl) (by kernel_rfl) (by kernel_rfl) (fun _ _ _ h => h) (Or.inl ⟨by rfl, ?hy28⟩) (by assumption) ?rest28
  case hy28 => (intro w hSw; (try dsimp only at hSw); go_simp; first | done | with_reducible rfl)
  try simp only [Act.put, List.getElem_toArray, List.getElem_cons_succ, List.getElem_cons_zero, List.setIfInBounds_toArray, List.set_cons_zero, List.set_cons_succ]
  refine wpAnyH_take (i := 6) (v := ?vv29) rfl (by kernel_rfl) (by kernel_rfl) (by kernel_rfl) (fun _ _ _ h => h) (Or.inl ⟨by rfl, ?hy29⟩) (by assumption) ?rest29
  case hy29 => (intro w hSw; (try dsimp only at hSw); go_simp; first | done | with_reducible rfl)
  try simp only [Act.put, List.getElem_toArray, List.getElem_cons_succ, List.getElem_cons_zero, List.setIfInBounds_toArray, List.set_cons_zero, List.set_cons_succ]
  refine wpAnyH_ready (rs := [3]) (by kernel_rfl) (by simp) ?_
  refine AllReadyH.cons rfl (fun K hK => ?_) AllReadyH.nil
  go_simp
  refine (T6.out _).mono ?_
  rintro e v10 ⟨rfl, bq⟩
  have D10 := hid (below_on D9.out bq)
  clear bq hHeld D9 T6
  go_wp2_with fail
  refine hK.out _ _ (ZC.out _ D10.out) (fun hHeld => ?_)
  clear hK K
  try simp only [Act.put, List.getElem_toArray, List.getElem_cons_succ, List.getElem_cons_zero, List.setIfInBounds_toArray, List.set_cons_zero, List.set_cons_succ]
  refine wpAnyH_take (i := 4) (v := ?vv30) rfl (by kernel_rfl) (by kernel_rfl) (by kernel_rfl) (fun _ _ _ h => h) (Or.inl ⟨by rfl, ?hy30⟩) (by assumption) ?rest30
  case hy30 => (intro w hSw; (try dsimp only at hSw); go_simp; first | done | with_reducible rfl)
  try simp only [Act.put, List.getElem_toArray, List.getElem_cons_succ, List.getElem_cons_zero, List.setIfInBounds_toArray, List.set_cons_zero, List.set_cons_succ]
  refine wpAnyH_ready (rs := [7]) (by kernel_rfl) (by simp) ?_
  refine AllReadyH.cons rfl (fun K hK => ?_) AllReadyH.nil
  go_simp
  refine (P7.out _ (below_on BA.out D10.out)).mono ?_
  rintro e v11 ⟨rfl, bq⟩
  have D11 := hid (below_on D10.out bq)
  clear bq hHeld D10 P7
  go_wp2_with fail
  refine hK.out _ _ (ZC.out _ D11.out) (fun hHeld => ?_)
  clear hK K
  try simp only [Act.put, List.getElem_toArray, List.getElem_cons_succ, List.getElem_cons_zero, List.setIfInBounds_toArray, List.set_cons_zero, List.set_cons_succ]
  refine wpAnyH_take (i := 8) (v := ?vv31) rfl (by kernel_rfl) (by kernel_rfl) (by kernel_rfl) (fun _ _ _ h => h) (Or.inl ⟨by rfl, ?hy31⟩) (by assumption) ?rest31
  case hy31 => (intro w hSw; (try dsimp only at hSw); go_simp; first | done | with_reducible rfl)
  try simp only [Act.put, List.getElem_toArray, List.getElem_cons_succ, List.getElem_cons_zero, List.setIfInBounds_toArray, List.set_cons_zero, List.set_cons_succ]
  refine wpAnyH_take (i := 9) (v := ?vv32) rfl (by kernel_rfl) (by kernel_rfl) (by kernel_rfl) (fun _ _ _ h => h) (Or.inl ⟨by rfl, ?hy32⟩) (by assumption) ?rest32
  case hy32 => (intro w hSw; (try dsimp only at hSw); go_simp; first | done | with_reducible rfl)
  try simp only [Act.put, List.getElem_toArray, List.getElem_cons_succ, List.getElem_cons_zero, List.setIfInBounds_toArray, List.set_cons_zero, List.set_cons_succ]
  refine wpAnyH_done (by kernel_rfl) ?_ _
  clear hHeld
  obtain ⟨y0, y1, y2, y3, y4, y5, y6, y7, y8⟩ := ZC.out _ D11.out
  go_wp2
  have BZ := hid (below_on BA.out D11.out)
  go_loopw [3, 4] (fun s i wr => s = .string ⟨Y5.toArray⟩ ∧ i = .int .i64 0 ∧ Hid (Below (w.alloc (.cells #[.int .i64 3, .string tk, .string bk, .string ky, .int .i64 id, .int .i64 n, .string sm, .slice pa pn pc, .slice ka 0 kc] 34)).heap.size (w.alloc (.cells #[.int .i64 3, .string tk, .string bk, .string ky, .int .i64 id, .int .i64 n, .string sm, .slice pa pn pc, .slice ka 0 kc] 34)) wr)) (fun _ _ _ => 0)
  case atStart => exact ⟨rfl, rfl, D11⟩
  case round =>
    obtain ⟨rfl, rfl, HB⟩ := hrel
    clear y0 y1 y2 y3 y4 y5 y6 y7 y8
    obtain ⟨y0, y1, y2, y3, y4, y5, y6, y7, y8⟩ := ZC.out _ HB.out
    go_wp2
    go_ret
    exact ⟨rfl, below_on BA.out HB.out⟩
set_option maxRecDepth 100000 in
set_option maxHeartbeats 4000000 in
theorem told_4 (tk bk ky : ByteArray) (id n : Int) (sm : ByteArray) (ps : List Pc) (pa ka : Option Addr) (pc kc : Nat) (w : World) (hp : PcI w (.slice pa ps.length pc) ps) (hd : CmD (⟨4, tk, bk, ky, id, n, sm, ps, []⟩ : Cm)) : Calls Tryz.prog 23 #[.agg #[.int .i64 4, .string tk, .string bk, .string ky, .int .i64 id, .int .i64 n, .string sm, .slice pa ps.length pc, .slice ka 0 kc]] w fun e w' => e = .returned (.string ⟨(cmB (⟨4, tk, bk, ky, id, n, sm, ps, []⟩ : Cm)).toArray⟩) ∧ Below w.heap.size w w' := by
  have HB : cmB (⟨4, tk, bk, ky, id, n, sm, ps, []⟩ : Cm) = put (4 : Int).toNat ++ ptx tk ++ ptx bk ++ ptx ky := by
    simp only [cmB, flB, show hasF (flN 4) 1 = true from by decide, show hasF (flN 4) 2 = true from by decide, show hasF (flN 4) 4 = true from by decide, show hasF (flN 4) 8 = false from by decide, show hasF (flN 4) 16 = false from by decide, show hasF (flN 4) 32 = false from by decide, show hasF (flN 4) 64 = false from by decide, show hasF (flN 4) 128 = false from by decide, if_true, Bool.false_eq_true, if_false, List.append_nil]
  rw [HB]
  clear HB
  obtain ⟨-, dtk, dbk, dky, did, dn, dsm, dps, dpl, dks, dkl⟩ := hd
  simp only at dtk dbk dky did dn dsm dps dpl dks dkl
  have N0 : Hid (∀ W, Calls Tryz.prog 52 #[.int .i64 4] W fun e w' => e = .returned (.string ⟨(put (4 : Int).toNat).toArray⟩) ∧ Below W.heap.size W w') := fun W => rnum16_any 4 W (by decide)
  have T1 : Hid (∀ W, Calls Tryz.prog 53 #[.string tk] W fun e w' => e = .returned (.string ⟨(ptx tk).toArray⟩) ∧ Below W.heap.size W w') := fun W => ref_text_any tk W (Nat.le_trans dtk (by decide))
  have l1 : (ptx tk).length ≤ 74 := by have := (put_len tk.size).2; rw [ptx_len]; omega
  have T2 : Hid (∀ W, Calls Tryz.prog 53 #[.string bk] W fun e w' => e = .returned (.string ⟨(ptx bk).toArray⟩) ∧ Below W.heap.size W w') := fun W => ref_text_any bk W (Nat.le_trans dbk (by decide))
  have l2 : (ptx bk).length ≤ 73 := by have := (put_len bk.size).2; rw [ptx_len]; omega
  have T3 : Hid (∀ W, Calls Tryz.prog 53 #[.string ky] W fun e w' => e = .returned (.string ⟨(ptx ky).toArray⟩) ∧ Below W.heap.size W w') := fun W => ref_text_any ky W (Nat.le_trans dky (by decide))
  have l3 : (ptx ky).length ≤ 1034 := by have := (put_len ky.size).2; rw [ptx_len]; omega
  have l0 := (put_len (4 : Int).toNat).2
  have HK1 : Hid (∀ W, Calls Tryz.prog 35 #[.int .i64 4] W fun e w' => e = .returned (.bool true) ∧ w' = W) := fun W => hasKey_any 4 W
  have HI1 : Hid (∀ W, Calls Tryz.prog 37 #[.int .i64 4] W fun e w' => e = .returned (.bool false) ∧ w' = W) := fun W => hasID_any 4 W
  have HS1 : Hid (∀ W, Calls Tryz.prog 39 #[.int .i64 4] W fun e w' => e = .returned (.bool false) ∧ w' = W) := fun W => hasSum_any 4 W
  clear dtk dbk dky did dn dsm dps dks dkl hp dpl
  generalize put (4 : Int).toNat = X0 at *
  generalize ptx tk = X1 at *
  generalize ptx bk = X2 at *
  generalize ptx ky = X3 at *
  have q1 := fun W => add_ls (X0) X1 W (by omega)
  have q2 := fun W => add_ls (X0 ++ X1) X2 W (by simp only [List.length_append]; omega)
  have q3 := fun W => add_ls (X0 ++ X1 ++ X2) X3 W (by simp only [List.length_append]; omega)
  generalize X0 ++ X1 = Y1 at *
  generalize Y1 ++ X2 = Y2 at *
  generalize Y2 ++ X3 = Y3 at *
  clear l0 l1 l2 l3
  generalize ps.length = pn at *
  have BA := hid (below_al (Below.refl w.heap.size w) (.cells #[.int .i64 4, .string tk, .string bk, .string ky, .int .i64 id, .int .i64 n, .string sm, .slice pa pn pc, .slice ka 0 kc] 34))
  have ZC : Hid (∀ W, Below (w.alloc (.cells #[.int .i64 4, .string tk, .string bk, .string ky, .int .i64 id, .int .i64 n, .string sm, .slice pa pn pc, .slice ka 0 kc] 34)).heap.size (w.alloc (.cells #[.int .i64 4, .string tk, .string bk, .string ky, .int .i64 id, .int .i64 n, .string sm, .slice pa pn pc, .slice ka 0 kc] 34)) W → W.cell? ⟨w.heap.size, 0, none⟩ = some (.int .i64 4) ∧ W.cell? ⟨w.heap.size, 1, none⟩ = some (.string tk) ∧ W.cell? ⟨w.heap.size, 2, none⟩ = some (.string bk) ∧ W.cell? ⟨w.heap.size, 3, none⟩ = some (.string ky) ∧ W.cell? ⟨w.heap.size, 4, none⟩ = some (.int .i64 id) ∧ W.cell? ⟨w.heap.size, 5, none⟩ = some (.int .i64 n) ∧ W.cell? ⟨w.heap.size, 6, none⟩ = some (.string sm) ∧ W.cell? ⟨w.heap.size, 7, none⟩ = some (.slice pa pn pc) ∧ W.cell? ⟨w.heap.size, 8, none⟩ = some (.slice ka 0 kc)) := fun W hW => by
    have q := (srow w [.int .i64 4, .string tk, .string bk, .string ky, .int .i64 id, .int .i64 n, .string sm, .slice pa pn pc, .slice ka 0 kc] 34).keep (hW.keep (fun _ => False)) (fun h => h)
    exact ⟨q.cellAt rfl, q.cellAt rfl, q.cellAt rfl, q.cellAt rfl, q.cellAt rfl, q.cellAt rfl, q.cellAt rfl, q.cellAt rfl, q.cellAt rfl⟩
  have B0 := hid (Below.refl (w.alloc (.cells #[.int .i64 4, .string tk, .string bk, .string ky, .int .i64 id, .int .i64 n, .string sm, .slice pa pn pc, .slice ka 0 kc] 34)).heap.size (w.alloc (.cells #[.int .i64 4, .string tk, .string bk, .string ky, .int .i64 id, .int .i64 n, .string sm, .slice pa pn pc, .slice ka 0 kc] 34)))
  obtain ⟨y0, y1, y2, y3, y4, y5, y6, y7, y8⟩ := ZC.out _ B0.out
  go_enter Tryz.func23, Tryz.ntmps23
  go_wp2_with fail
  refine (N0.out _).mono ?_
  rintro e v1 ⟨rfl, bb⟩
  have B1 := hid (below_on B0.out bb)
  clear N0 bb B0
  clear y0 y1 y2 y3 y4 y5 y6 y7 y8
  obtain ⟨y0, y1, y2, y3, y4, y5, y6, y7, y8⟩ := ZC.out _ B1.out
  go_upto_region 3 with fail
  clear y0 y1 y2 y3 y4 y5 y6 y7 y8
  have D2 := hid B1.out.drew
  clear B1
  refine wp_region_held_drew (S := (fun w' => w'.cell? ⟨w.heap.size, 0, none⟩ = some (.int .i64 4) ∧ w'.cell? ⟨w.heap.size, 1, none⟩ = some (.string tk) ∧ w'.cell? ⟨w.heap.size, 2, none⟩ = some (.string bk) ∧ w'.cell? ⟨w.heap.size, 3, none⟩ = some (.string ky) ∧ w'.cell? ⟨w.heap.size, 4, none⟩ = some (.int .i64 id) ∧ w'.cell? ⟨w.heap.size, 5, none⟩ = some (.int .i64 n) ∧ w'.cell? ⟨w.heap.size, 6, none⟩ = some (.string sm) ∧ w'.cell? ⟨w.heap.size, 7, none⟩ = some (.slice pa pn pc) ∧ w'.cell? ⟨w.heap.size, 8, none⟩ = some (.slice ka 0 kc))) (by kernel_rfl) (ZC.out _ D2.out) (fun hHeld => ?_)
  refine wpAnyH_take (i := 0) (v := ?vv33) rfl (by kernel_rfl) (by kernel_rfl) (by kernel_rfl) (fun _ _ _ h => h) (Or.inl ⟨by rfl, ?hy33⟩) (by assumption) ?rest33
  case hy33 => (intro w hSw; (try dsimp only at hSw); go_simp; first | done | with_reducible rfl)
  try simp only [Act.put, List.getElem_toArray, List.getElem_cons_succ, List.getElem_cons_zero, List.setIfInBounds_toArray, List.set_cons_zero, List.set_cons_succ]
  refine wpAnyH_take (i := 1) (v := ?vv34) rfl (by kernel_rfl) (by kernel_rfl) (by kernel_rfl) (fun _ _ _ h => h) (Or.inl ⟨by rfl, ?hy34⟩) (by assumption) ?rest34
  case hy34 => (intro w hSw; (try dsimp only at hSw); go_simp; first | done | with_reducible rfl)
  try simp only [Act.put, List.getElem_toArray, List.getElem_cons_succ, List.getElem_cons_zero, List.setIfInBounds_toArray, List.set_cons_zero, List.set_cons_succ]
  refine wpAnyH_take (i := 2) (v := ?vv35) rfl (by kernel_rfl) (by kernel_rfl) (by kernel_rfl) (fun _ _ _ h => h) (Or.inl ⟨by rfl, ?hy35⟩) (by assumption) ?rest35
  case hy35 => (intro w hSw; (try dsimp only at hSw); go_simp; first | done | with_reducible rfl)
  try simp only [Act.put, List.getElem_toArray, List.getElem_cons_succ, List.getElem_cons_zero, List.setIfInBounds_toArray, List.set_cons_zero, List.set_cons_succ]
  refine wpAnyH_take (i := 5) (v := ?vv36) rfl (by kernel_rfl) (by kernel_rfl) (by kernel_rfl) (fun _ _ _ h => h) (Or.inl ⟨by rfl, ?hy36⟩) (by assumption) ?rest36
  case hy36 => (intro w hSw; (try dsimp only at hSw); go_simp; first | done | with_reducible rfl)
  try simp only [Act.put, List.getElem_toArray, List.getElem_cons_succ, List.getElem_cons_zero, List.setIfInBounds_toArray, List.set_cons_zero, List.set_cons_succ]
  refine wpAnyH_take (i := 6) (v := ?vv37) rfl (by kernel_rfl) (by kernel_rfl) (by kernel_rfl) (fun _ _ _ h => h) (Or.inl ⟨by rfl, ?hy37⟩) (by assumption) ?rest37
  case hy37 => (intro w hSw; (try dsimp only at hSw); go_simp; first | done | with_reducible rfl)
  try simp only [Act.put, List.getElem_toArray, List.getElem_cons_succ, List.getElem_cons_zero, List.setIfInBounds_toArray, List.set_cons_zero, List.set_cons_succ]
  refine wpAnyH_ready (rs := [3]) (by kernel_rfl) (by simp) ?_
  refine AllReadyH.cons rfl (fun K hK => ?_) AllReadyH.nil
  go_simp
  refine (T1.out _).mono ?_
  rintro e v3 ⟨rfl, bq⟩
  have D3 := hid (below_on D2.out bq)
  clear bq hHeld D2 T1
  go_wp2_with fail
  refine hK.out _ _ (ZC.out _ D3.out) (fun hHeld => ?_)
  clear hK K
  try simp only [Act.put, List.getElem_toArray, List.getElem_cons_succ, List.getElem_cons_zero, List.setIfInBounds_toArray, List.set_cons_zero, List.set_cons_succ]
  refine wpAnyH_take (i := 4) (v := ?vv38) rfl (by kernel_rfl) (by kernel_rfl) (by kernel_rfl) (fun _ _ _ h => h) (Or.inl ⟨by rfl, ?hy38⟩) (by assumption) ?rest38
  case hy38 => (intro w hSw; (try dsimp only at hSw); go_simp; first | done | with_reducible rfl)
  try simp only [Act.put, List.getElem_toArray, List.getElem_cons_succ, List.getElem_cons_zero, List.setIfInBounds_toArray, List.set_cons_zero, List.set_cons_succ]
  refine wpAnyH_ready (rs := [7]) (by kernel_rfl) (by simp) ?_
  refine AllReadyH.cons rfl (fun K hK => ?_) AllReadyH.nil
  go_simp
  refine (T2.out _).mono ?_
  rintro e v4 ⟨rfl, bq⟩
  have D4 := hid (below_on D3.out bq)
  clear bq hHeld D3 T2
  go_wp2_with fail
  refine hK.out _ _ (ZC.out _ D4.out) (fun hHeld => ?_)
  clear hK K
  try simp only [Act.put, List.getElem_toArray, List.getElem_cons_succ, List.getElem_cons_zero, List.setIfInBounds_toArray, List.set_cons_zero, List.set_cons_succ]
  refine wpAnyH_take (i := 8) (v := ?vv39) rfl (by kernel_rfl) (by kernel_rfl) (by kernel_rfl) (fun _ _ _ h => h) (Or.inl ⟨by rfl, ?hy39⟩) (by assumption) ?rest39
  case hy39 => (intro w hSw; (try dsimp only at hSw); go_simp; first | done | with_reducible rfl)
  try simp only [Act.put, List.getElem_toArray, List.getElem_cons_succ, List.getElem_cons_zero, List.setIfInBounds_toArray, List.set_cons_zero, List.set_cons_succ]
  refine wpAnyH_take (i := 9) (v := ?vv40) rfl (by kernel_rfl) (by kernel_rfl) (by kernel_rfl) (fun _ _ _ h => h) (Or.inl ⟨by rfl, ?hy40⟩) (by assumption) ?rest40
  case hy40 => (intro w hSw; (try dsimp only at hSw); go_simp; first | done | with_reducible rfl)
  try simp only [Act.put, List.getElem_toArray, List.getElem_cons_succ, List.getElem_cons_zero, List.setIfInBounds_toArray, List.set_cons_zero, List.set_cons_succ]
  refine wpAnyH_done (by kernel_rfl) ?_ _
  clear hHeld
  obtain ⟨y0, y1, y2, y3, y4, y5, y6, y7, y8⟩ := ZC.out _ D4.out
  go_wp2_with fail
  refine (HK1.out _).mono ?_
  rintro e v5 ⟨rfl, rfl⟩
  clear HK1
  go_wp2_with fail
  refine (T3.out _).mono ?_
  rintro e v6 ⟨rfl, bb⟩
  have B6 := hid (below_on D4.out bb)
  clear T3 bb D4
  clear y0 y1 y2 y3 y4 y5 y6 y7 y8
  obtain ⟨y0, y1, y2, y3, y4, y5, y6, y7, y8⟩ := ZC.out _ B6.out
  go_wp2_with fail
  refine (HI1.out _).mono ?_
  rintro e v7 ⟨rfl, rfl⟩
  clear HI1
  go_wp2_with fail
  refine (HS1.out _).mono ?_
  rintro e v8 ⟨rfl, rfl⟩
  clear HS1
  go_wp2
  have BZ := hid (below_on BA.out B6.out)
  go_loopw [3, 4] (fun s i wr => s = .string ⟨Y3.toArray⟩ ∧ i = .int .i64 0 ∧ Hid (Below (w.alloc (.cells #[.int .i64 4, .string tk, .string bk, .string ky, .int .i64 id, .int .i64 n, .string sm, .slice pa pn pc, .slice ka 0 kc] 34)).heap.size (w.alloc (.cells #[.int .i64 4, .string tk, .string bk, .string ky, .int .i64 id, .int .i64 n, .string sm, .slice pa pn pc, .slice ka 0 kc] 34)) wr)) (fun _ _ _ => 0)
  case atStart => exact ⟨rfl, rfl, B6⟩
  case round =>
    obtain ⟨rfl, rfl, HB⟩ := hrel
    clear y0 y1 y2 y3 y4 y5 y6 y7 y8
    obtain ⟨y0, y1, y2, y3, y4, y5, y6, y7, y8⟩ := ZC.out _ HB.out
    go_wp2
    go_ret
    exact ⟨rfl, below_on BA.out HB.out⟩
set_option maxRecDepth 100000 in
set_option maxHeartbeats 4000000 in
theorem told_5 (tk bk ky : ByteArray) (id n : Int) (sm : ByteArray) (ps : List Pc) (pa ka : Option Addr) (pc kc : Nat) (w : World) (hp : PcI w (.slice pa ps.length pc) ps) (hd : CmD (⟨5, tk, bk, ky, id, n, sm, ps, []⟩ : Cm)) : Calls Tryz.prog 23 #[.agg #[.int .i64 5, .string tk, .string bk, .string ky, .int .i64 id, .int .i64 n, .string sm, .slice pa ps.length pc, .slice ka 0 kc]] w fun e w' => e = .returned (.string ⟨(cmB (⟨5, tk, bk, ky, id, n, sm, ps, []⟩ : Cm)).toArray⟩) ∧ Below w.heap.size w w' := by
  have HB : cmB (⟨5, tk, bk, ky, id, n, sm, ps, []⟩ : Cm) = put (5 : Int).toNat ++ ptx tk ++ ptx bk ++ ptx ky ++ put id.toNat := by
    simp only [cmB, flB, show hasF (flN 5) 1 = true from by decide, show hasF (flN 5) 2 = true from by decide, show hasF (flN 5) 4 = true from by decide, show hasF (flN 5) 8 = true from by decide, show hasF (flN 5) 16 = false from by decide, show hasF (flN 5) 32 = false from by decide, show hasF (flN 5) 64 = false from by decide, show hasF (flN 5) 128 = false from by decide, if_true, Bool.false_eq_true, if_false, List.append_nil]
  rw [HB]
  clear HB
  obtain ⟨-, dtk, dbk, dky, did, dn, dsm, dps, dpl, dks, dkl⟩ := hd
  simp only at dtk dbk dky did dn dsm dps dpl dks dkl
  have N0 : Hid (∀ W, Calls Tryz.prog 52 #[.int .i64 5] W fun e w' => e = .returned (.string ⟨(put (5 : Int).toNat).toArray⟩) ∧ Below W.heap.size W w') := fun W => rnum16_any 5 W (by decide)
  have T1 : Hid (∀ W, Calls Tryz.prog 53 #[.string tk] W fun e w' => e = .returned (.string ⟨(ptx tk).toArray⟩) ∧ Below W.heap.size W w') := fun W => ref_text_any tk W (Nat.le_trans dtk (by decide))
  have l1 : (ptx tk).length ≤ 74 := by have := (put_len tk.size).2; rw [ptx_len]; omega
  have T2 : Hid (∀ W, Calls Tryz.prog 53 #[.string bk] W fun e w' => e = .returned (.string ⟨(ptx bk).toArray⟩) ∧ Below W.heap.size W w') := fun W => ref_text_any bk W (Nat.le_trans dbk (by decide))
  have l2 : (ptx bk).length ≤ 73 := by have := (put_len bk.size).2; rw [ptx_len]; omega
  have T3 : Hid (∀ W, Calls Tryz.prog 53 #[.string ky] W fun e w' => e = .returned (.string ⟨(ptx ky).toArray⟩) ∧ Below W.heap.size W w') := fun W => ref_text_any ky W (Nat.le_trans dky (by decide))
  have l3 : (ptx ky).length ≤ 1034 := by have := (put_len ky.size).2; rw [ptx_len]; omega
  have N4 : Hid (∀ W, Calls Tryz.prog 52 #[.int .i64 id] W fun e w' => e = .returned (.string ⟨(put id.toNat).toArray⟩) ∧ Below W.heap.size W w') := fun W => by
    have := rnum16_any id.toNat W (by omega)
    rwa [show ((id.toNat : Nat) : Int) = id by omega] at this
  have l4 := (put_len id.toNat).2
  have l0 := (put_len (5 : Int).toNat).2
  have HK1 : Hid (∀ W, Calls Tryz.prog 35 #[.int .i64 5] W fun e w' => e = .returned (.bool true) ∧ w' = W) := fun W => hasKey_any 5 W
  have HI1 : Hid (∀ W, Calls Tryz.prog 37 #[.int .i64 5] W fun e w' => e = .returned (.bool true) ∧ w' = W) := fun W => hasID_any 5 W
  have HS1 : Hid (∀ W, Calls Tryz.prog 39 #[.int .i64 5] W fun e w' => e = .returned (.bool false) ∧ w' = W) := fun W => hasSum_any 5 W
  clear dtk dbk dky did dn dsm dps dks dkl hp dpl
  generalize put (5 : Int).toNat = X0 at *
  generalize ptx tk = X1 at *
  generalize ptx bk = X2 at *
  generalize ptx ky = X3 at *
  generalize put id.toNat = X4 at *
  have q1 := fun W => add_ls (X0) X1 W (by omega)
  have q2 := fun W => add_ls (X0 ++ X1) X2 W (by simp only [List.length_append]; omega)
  have q3 := fun W => add_ls (X0 ++ X1 ++ X2) X3 W (by simp only [List.length_append]; omega)
  have q4 := fun W => add_ls (X0 ++ X1 ++ X2 ++ X3) X4 W (by simp only [List.length_append]; omega)
  generalize X0 ++ X1 = Y1 at *
  generalize Y1 ++ X2 = Y2 at *
  generalize Y2 ++ X3 = Y3 at *
  generalize Y3 ++ X4 = Y4 at *
  clear l0 l1 l2 l3 l4
  generalize ps.length = pn at *
  have BA := hid (below_al (Below.refl w.heap.size w) (.cells #[.int .i64 5, .string tk, .string bk, .string ky, .int .i64 id, .int .i64 n, .string sm, .slice pa pn pc, .slice ka 0 kc] 34))
  have ZC : Hid (∀ W, Below (w.alloc (.cells #[.int .i64 5, .string tk, .string bk, .string ky, .int .i64 id, .int .i64 n, .string sm, .slice pa pn pc, .slice ka 0 kc] 34)).heap.size (w.alloc (.cells #[.int .i64 5, .string tk, .string bk, .string ky, .int .i64 id, .int .i64 n, .string sm, .slice pa pn pc, .slice ka 0 kc] 34)) W → W.cell? ⟨w.heap.size, 0, none⟩ = some (.int .i64 5) ∧ W.cell? ⟨w.heap.size, 1, none⟩ = some (.string tk) ∧ W.cell? ⟨w.heap.size, 2, none⟩ = some (.string bk) ∧ W.cell? ⟨w.heap.size, 3, none⟩ = some (.string ky) ∧ W.cell? ⟨w.heap.size, 4, none⟩ = some (.int .i64 id) ∧ W.cell? ⟨w.heap.size, 5, none⟩ = some (.int .i64 n) ∧ W.cell? ⟨w.heap.size, 6, none⟩ = some (.string sm) ∧ W.cell? ⟨w.heap.size, 7, none⟩ = some (.slice pa pn pc) ∧ W.cell? ⟨w.heap.size, 8, none⟩ = some (.slice ka 0 kc)) := fun W hW => by
    have q := (srow w [.int .i64 5, .string tk, .string bk, .string ky, .int .i64 id, .int .i64 n, .string sm, .slice pa pn pc, .slice ka 0 kc] 34).keep (hW.keep (fun _ => False)) (fun h => h)
    exact ⟨q.cellAt rfl, q.cellAt rfl, q.cellAt rfl, q.cellAt rfl, q.cellAt rfl, q.cellAt rfl, q.cellAt rfl, q.cellAt rfl, q.cellAt rfl⟩
  have B0 := hid (Below.refl (w.alloc (.cells #[.int .i64 5, .string tk, .string bk, .string ky, .int .i64 id, .int .i64 n, .string sm, .slice pa pn pc, .slice ka 0 kc] 34)).heap.size (w.alloc (.cells #[.int .i64 5, .string tk, .string bk, .string ky, .int .i64 id, .int .i64 n, .string sm, .slice pa pn pc, .slice ka 0 kc] 34)))
  obtain ⟨y0, y1, y2, y3, y4, y5, y6, y7, y8⟩ := ZC.out _ B0.out
  go_enter Tryz.func23, Tryz.ntmps23
  go_wp2_with fail
  refine (N0.out _).mono ?_
  rintro e v1 ⟨rfl, bb⟩
  have B1 := hid (below_on B0.out bb)
  clear N0 bb B0
  clear y0 y1 y2 y3 y4 y5 y6 y7 y8
  obtain ⟨y0, y1, y2, y3, y4, y5, y6, y7, y8⟩ := ZC.out _ B1.out
  go_upto_region 3 with fail
  clear y0 y1 y2 y3 y4 y5 y6 y7 y8
  have D2 := hid B1.out.drew
  clear B1
  refine wp_region_held_drew (S := (fun w' => w'.cell? ⟨w.heap.size, 0, none⟩ = some (.int .i64 5) ∧ w'.cell? ⟨w.heap.size, 1, none⟩ = some (.string tk) ∧ w'.cell? ⟨w.heap.size, 2, none⟩ = some (.string bk) ∧ w'.cell? ⟨w.heap.size, 3, none⟩ = some (.string ky) ∧ w'.cell? ⟨w.heap.size, 4, none⟩ = some (.int .i64 id) ∧ w'.cell? ⟨w.heap.size, 5, none⟩ = some (.int .i64 n) ∧ w'.cell? ⟨w.heap.size, 6, none⟩ = some (.string sm) ∧ w'.cell? ⟨w.heap.size, 7, none⟩ = some (.slice pa pn pc) ∧ w'.cell? ⟨w.heap.size, 8, none⟩ = some (.slice ka 0 kc))) (by kernel_rfl) (ZC.out _ D2.out) (fun hHeld => ?_)
  refine wpAnyH_take (i := 0) (v := ?vv41) rfl (by kernel_rfl) (by kernel_rfl) (by kernel_rfl) (fun _ _ _ h => h) (Or.inl ⟨by rfl, ?hy41⟩) (by assumption) ?rest41
  case hy41 => (intro w hSw; (try dsimp only at hSw); go_simp; first | done | with_reducible rfl)
  try simp only [Act.put, List.getElem_toArray, List.getElem_cons_succ, List.getElem_cons_zero, List.setIfInBounds_toArray, List.set_cons_zero, List.set_cons_succ]
  refine wpAnyH_take (i := 1) (v := ?vv42) rfl (by kernel_rfl) (by kernel_rfl) (by kernel_rfl) (fun _ _ _ h => h) (Or.inl ⟨by rfl, ?hy42⟩) (by assumption) ?rest42
  case hy42 => (intro w hSw; (try dsimp only at hSw); go_simp; first | done | with_reducible rfl)
  try simp only [Act.put, List.getElem_toArray, List.getElem_cons_succ, List.getElem_cons_zero, List.setIfInBounds_toArray, List.set_cons_zero, List.set_cons_succ]
  refine wpAnyH_take (i := 2) (v := ?vv43) rfl (by kernel_rfl) (by kernel_rfl) (by kernel_rfl) (fun _ _ _ h => h) (Or.inl ⟨by rfl, ?hy43⟩) (by assumption) ?rest43
  case hy43 => (intro w hSw; (try dsimp only at hSw); go_simp; first | done | with_reducible rfl)
  try simp only [Act.put, List.getElem_toArray, List.getElem_cons_succ, List.getElem_cons_zero, List.setIfInBounds_toArray, List.set_cons_zero, List.set_cons_succ]
  refine wpAnyH_take (i := 5) (v := ?vv44) rfl (by kernel_rfl) (by kernel_rfl) (by kernel_rfl) (fun _ _ _ h => h) (Or.inl ⟨by rfl, ?hy44⟩) (by assumption) ?rest44
  case hy44 => (intro w hSw; (try dsimp only at hSw); go_simp; first | done | with_reducible rfl)
  try simp only [Act.put, List.getElem_toArray, List.getElem_cons_succ, List.getElem_cons_zero, List.setIfInBounds_toArray, List.set_cons_zero, List.set_cons_succ]
  refine wpAnyH_take (i := 6) (v := ?vv45) rfl (by kernel_rfl) (by kernel_rfl) (by kernel_rfl) (fun _ _ _ h => h) (Or.inl ⟨by rfl, ?hy45⟩) (by assumption) ?rest45
  case hy45 => (intro w hSw; (try dsimp only at hSw); go_simp; first | done | with_reducible rfl)
  try simp only [Act.put, List.getElem_toArray, List.getElem_cons_succ, List.getElem_cons_zero, List.setIfInBounds_toArray, List.set_cons_zero, List.set_cons_succ]
  refine wpAnyH_ready (rs := [3]) (by kernel_rfl) (by simp) ?_
  refine AllReadyH.cons rfl (fun K hK => ?_) AllReadyH.nil
  go_simp
  refine (T1.out _).mono ?_
  rintro e v3 ⟨rfl, bq⟩
  have D3 := hid (below_on D2.out bq)
  clear bq hHeld D2 T1
  go_wp2_with fail
  refine hK.out _ _ (ZC.out _ D3.out) (fun hHeld => ?_)
  clear hK K
  try simp only [Act.put, List.getElem_toArray, List.getElem_cons_succ, List.getElem_cons_zero, List.setIfInBounds_toArray, List.set_cons_zero, List.set_cons_succ]
  refine wpAnyH_take (i := 4) (v := ?vv46) rfl (by kernel_rfl) (by kernel_rfl) (by kernel_rfl) (fun _ _ _ h => h) (Or.inl ⟨by rfl, ?hy46⟩) (by assumption) ?rest46
  case hy46 => (intro w hSw; (try dsimp only at hSw); go_simp; first | done | with_reducible rfl)
  try simp only [Act.put, List.getElem_toArray, List.getElem_cons_succ, List.getElem_cons_zero, List.setIfInBounds_toArray, List.set_cons_zero, List.set_cons_succ]
  refine wpAnyH_ready (rs := [7]) (by kernel_rfl) (by simp) ?_
  refine AllReadyH.cons rfl (fun K hK => ?_) AllReadyH.nil
  go_simp
  refine (T2.out _).mono ?_
  rintro e v4 ⟨rfl, bq⟩
  have D4 := hid (below_on D3.out bq)
  clear bq hHeld D3 T2
  go_wp2_with fail
  refine hK.out _ _ (ZC.out _ D4.out) (fun hHeld => ?_)
  clear hK K
  try simp only [Act.put, List.getElem_toArray, List.getElem_cons_succ, List.getElem_cons_zero, List.setIfInBounds_toArray, List.set_cons_zero, List.set_cons_succ]
  refine wpAnyH_take (i := 8) (v := ?vv47) rfl (by kernel_rfl) (by kernel_rfl) (by kernel_rfl) (fun _ _ _ h => h) (Or.inl ⟨by rfl, ?hy47⟩) (by assumption) ?rest47
  case hy47 => (intro w hSw; (try dsimp only at hSw); go_simp; first | done | with_reducible rfl)
  try simp only [Act.put, List.getElem_toArray, List.getElem_cons_succ, List.getElem_cons_zero, List.setIfInBounds_toArray, List.set_cons_zero, List.set_cons_succ]
  refine wpAnyH_take (i := 9) (v := ?vv48) rfl (by kernel_rfl) (by kernel_rfl) (by kernel_rfl) (fun _ _ _ h => h) (Or.inl ⟨by rfl, ?hy48⟩) (by assumption) ?rest48
  case hy48 => (intro w hSw; (try dsimp only at hSw); go_simp; first | done | with_reducible rfl)
  try simp only [Act.put, List.getElem_toArray, List.getElem_cons_succ, List.getElem_cons_zero, List.setIfInBounds_toArray, List.set_cons_zero, List.set_cons_succ]
  refine wpAnyH_done (by kernel_rfl) ?_ _
  clear hHeld
  obtain ⟨y0, y1, y2, y3, y4, y5, y6, y7, y8⟩ := ZC.out _ D4.out
  go_wp2_with fail
  refine (HK1.out _).mono ?_
  rintro e v5 ⟨rfl, rfl⟩
  clear HK1
  go_wp2_with fail
  refine (T3.out _).mono ?_
  rintro e v6 ⟨rfl, bb⟩
  have B6 := hid (below_on D4.out bb)
  clear T3 bb D4
  clear y0 y1 y2 y3 y4 y5 y6 y7 y8
  obtain ⟨y0, y1, y2, y3, y4, y5, y6, y7, y8⟩ := ZC.out _ B6.out
  go_wp2_with fail
  refine (HI1.out _).mono ?_
  rintro e v7 ⟨rfl, rfl⟩
  clear HI1
  go_wp2_with fail
  refine (N4.out _).mono ?_
  rintro e v8 ⟨rfl, bb⟩
  have B8 := hid (below_on B6.out bb)
  clear N4 bb B6
  clear y0 y1 y2 y3 y4 y5 y6 y7 y8
  obtain ⟨y0, y1, y2, y3, y4, y5, y6, y7, y8⟩ := ZC.out _ B8.out
  go_wp2_with fail
  refine (HS1.out _).mono ?_
  rintro e v9 ⟨rfl, rfl⟩
  clear HS1
  go_wp2
  have BZ := hid (below_on BA.out B8.out)
  go_loopw [3, 4] (fun s i wr => s = .string ⟨Y4.toArray⟩ ∧ i = .int .i64 0 ∧ Hid (Below (w.alloc (.cells #[.int .i64 5, .string tk, .string bk, .string ky, .int .i64 id, .int .i64 n, .string sm, .slice pa pn pc, .slice ka 0 kc] 34)).heap.size (w.alloc (.cells #[.int .i64 5, .string tk, .string bk, .string ky, .int .i64 id, .int .i64 n, .string sm, .slice pa pn pc, .slice ka 0 kc] 34)) wr)) (fun _ _ _ => 0)
  case atStart => exact ⟨rfl, rfl, B8⟩
  case round =>
    obtain ⟨rfl, rfl, HB⟩ := hrel
    clear y0 y1 y2 y3 y4 y5 y6 y7 y8
    obtain ⟨y0, y1, y2, y3, y4, y5, y6, y7, y8⟩ := ZC.out _ HB.out
    go_wp2
    go_ret
    exact ⟨rfl, below_on BA.out HB.out⟩
set_option maxRecDepth 100000 in
set_option maxHeartbeats 4000000 in
theorem told_6 (tk bk ky : ByteArray) (id n : Int) (sm : ByteArray) (ps : List Pc) (pa ka : Option Addr) (pc kc : Nat) (w : World) (hp : PcI w (.slice pa ps.length pc) ps) (hd : CmD (⟨6, tk, bk, ky, id, n, sm, ps, []⟩ : Cm)) : Calls Tryz.prog 23 #[.agg #[.int .i64 6, .string tk, .string bk, .string ky, .int .i64 id, .int .i64 n, .string sm, .slice pa ps.length pc, .slice ka 0 kc]] w fun e w' => e = .returned (.string ⟨(cmB (⟨6, tk, bk, ky, id, n, sm, ps, []⟩ : Cm)).toArray⟩) ∧ Below w.heap.size w w' := by
  have HB : cmB (⟨6, tk, bk, ky, id, n, sm, ps, []⟩ : Cm) = put (6 : Int).toNat ++ ptx tk ++ ptx bk ++ ptx ky := by
    simp only [cmB, flB, show hasF (flN 6) 1 = true from by decide, show hasF (flN 6) 2 = true from by decide, show hasF (flN 6) 4 = true from by decide, show hasF (flN 6) 8 = false from by decide, show hasF (flN 6) 16 = false from by decide, show hasF (flN 6) 32 = false from by decide, show hasF (flN 6) 64 = false from by decide, show hasF (flN 6) 128 = false from by decide, if_true, Bool.false_eq_true, if_false, List.append_nil]
  rw [HB]
  clear HB
  obtain ⟨-, dtk, dbk, dky, did, dn, dsm, dps, dpl, dks, dkl⟩ := hd
  simp only at dtk dbk dky did dn dsm dps dpl dks dkl
  have N0 : Hid (∀ W, Calls Tryz.prog 52 #[.int .i64 6] W fun e w' => e = .returned (.string ⟨(put (6 : Int).toNat).toArray⟩) ∧ Below W.heap.size W w') := fun W => rnum16_any 6 W (by decide)
  have T1 : Hid (∀ W, Calls Tryz.prog 53 #[.string tk] W fun e w' => e = .returned (.string ⟨(ptx tk).toArray⟩) ∧ Below W.heap.size W w') := fun W => ref_text_any tk W (Nat.le_trans dtk (by decide))
  have l1 : (ptx tk).length ≤ 74 := by have := (put_len tk.size).2; rw [ptx_len]; omega
  have T2 : Hid (∀ W, Calls Tryz.prog 53 #[.string bk] W fun e w' => e = .returned (.string ⟨(ptx bk).toArray⟩) ∧ Below W.heap.size W w') := fun W => ref_text_any bk W (Nat.le_trans dbk (by decide))
  have l2 : (ptx bk).length ≤ 73 := by have := (put_len bk.size).2; rw [ptx_len]; omega
  have T3 : Hid (∀ W, Calls Tryz.prog 53 #[.string ky] W fun e w' => e = .returned (.string ⟨(ptx ky).toArray⟩) ∧ Below W.heap.size W w') := fun W => ref_text_any ky W (Nat.le_trans dky (by decide))
  have l3 : (ptx ky).length ≤ 1034 := by have := (put_len ky.size).2; rw [ptx_len]; omega
  have l0 := (put_len (6 : Int).toNat).2
  have HK1 : Hid (∀ W, Calls Tryz.prog 35 #[.int .i64 6] W fun e w' => e = .returned (.bool true) ∧ w' = W) := fun W => hasKey_any 6 W
  have HI1 : Hid (∀ W, Calls Tryz.prog 37 #[.int .i64 6] W fun e w' => e = .returned (.bool false) ∧ w' = W) := fun W => hasID_any 6 W
  have HS1 : Hid (∀ W, Calls Tryz.prog 39 #[.int .i64 6] W fun e w' => e = .returned (.bool false) ∧ w' = W) := fun W => hasSum_any 6 W
  clear dtk dbk dky did dn dsm dps dks dkl hp dpl
  generalize put (6 : Int).toNat = X0 at *
  generalize ptx tk = X1 at *
  generalize ptx bk = X2 at *
  generalize ptx ky = X3 at *
  have q1 := fun W => add_ls (X0) X1 W (by omega)
  have q2 := fun W => add_ls (X0 ++ X1) X2 W (by simp only [List.length_append]; omega)
  have q3 := fun W => add_ls (X0 ++ X1 ++ X2) X3 W (by simp only [List.length_append]; omega)
  generalize X0 ++ X1 = Y1 at *
  generalize Y1 ++ X2 = Y2 at *
  generalize Y2 ++ X3 = Y3 at *
  clear l0 l1 l2 l3
  generalize ps.length = pn at *
  have BA := hid (below_al (Below.refl w.heap.size w) (.cells #[.int .i64 6, .string tk, .string bk, .string ky, .int .i64 id, .int .i64 n, .string sm, .slice pa pn pc, .slice ka 0 kc] 34))
  have ZC : Hid (∀ W, Below (w.alloc (.cells #[.int .i64 6, .string tk, .string bk, .string ky, .int .i64 id, .int .i64 n, .string sm, .slice pa pn pc, .slice ka 0 kc] 34)).heap.size (w.alloc (.cells #[.int .i64 6, .string tk, .string bk, .string ky, .int .i64 id, .int .i64 n, .string sm, .slice pa pn pc, .slice ka 0 kc] 34)) W → W.cell? ⟨w.heap.size, 0, none⟩ = some (.int .i64 6) ∧ W.cell? ⟨w.heap.size, 1, none⟩ = some (.string tk) ∧ W.cell? ⟨w.heap.size, 2, none⟩ = some (.string bk) ∧ W.cell? ⟨w.heap.size, 3, none⟩ = some (.string ky) ∧ W.cell? ⟨w.heap.size, 4, none⟩ = some (.int .i64 id) ∧ W.cell? ⟨w.heap.size, 5, none⟩ = some (.int .i64 n) ∧ W.cell? ⟨w.heap.size, 6, none⟩ = some (.string sm) ∧ W.cell? ⟨w.heap.size, 7, none⟩ = some (.slice pa pn pc) ∧ W.cell? ⟨w.heap.size, 8, none⟩ = some (.slice ka 0 kc)) := fun W hW => by
    have q := (srow w [.int .i64 6, .string tk, .string bk, .string ky, .int .i64 id, .int .i64 n, .string sm, .slice pa pn pc, .slice ka 0 kc] 34).keep (hW.keep (fun _ => False)) (fun h => h)
    exact ⟨q.cellAt rfl, q.cellAt rfl, q.cellAt rfl, q.cellAt rfl, q.cellAt rfl, q.cellAt rfl, q.cellAt rfl, q.cellAt rfl, q.cellAt rfl⟩
  have B0 := hid (Below.refl (w.alloc (.cells #[.int .i64 6, .string tk, .string bk, .string ky, .int .i64 id, .int .i64 n, .string sm, .slice pa pn pc, .slice ka 0 kc] 34)).heap.size (w.alloc (.cells #[.int .i64 6, .string tk, .string bk, .string ky, .int .i64 id, .int .i64 n, .string sm, .slice pa pn pc, .slice ka 0 kc] 34)))
  obtain ⟨y0, y1, y2, y3, y4, y5, y6, y7, y8⟩ := ZC.out _ B0.out
  go_enter Tryz.func23, Tryz.ntmps23
  go_wp2_with fail
  refine (N0.out _).mono ?_
  rintro e v1 ⟨rfl, bb⟩
  have B1 := hid (below_on B0.out bb)
  clear N0 bb B0
  clear y0 y1 y2 y3 y4 y5 y6 y7 y8
  obtain ⟨y0, y1, y2, y3, y4, y5, y6, y7, y8⟩ := ZC.out _ B1.out
  go_upto_region 3 with fail
  clear y0 y1 y2 y3 y4 y5 y6 y7 y8
  have D2 := hid B1.out.drew
  clear B1
  refine wp_region_held_drew (S := (fun w' => w'.cell? ⟨w.heap.size, 0, none⟩ = some (.int .i64 6) ∧ w'.cell? ⟨w.heap.size, 1, none⟩ = some (.string tk) ∧ w'.cell? ⟨w.heap.size, 2, none⟩ = some (.string bk) ∧ w'.cell? ⟨w.heap.size, 3, none⟩ = some (.string ky) ∧ w'.cell? ⟨w.heap.size, 4, none⟩ = some (.int .i64 id) ∧ w'.cell? ⟨w.heap.size, 5, none⟩ = some (.int .i64 n) ∧ w'.cell? ⟨w.heap.size, 6, none⟩ = some (.string sm) ∧ w'.cell? ⟨w.heap.size, 7, none⟩ = some (.slice pa pn pc) ∧ w'.cell? ⟨w.heap.size, 8, none⟩ = some (.slice ka 0 kc))) (by kernel_rfl) (ZC.out _ D2.out) (fun hHeld => ?_)
  refine wpAnyH_take (i := 0) (v := ?vv49) rfl (by kernel_rfl) (by kernel_rfl) (by kernel_rfl) (fun _ _ _ h => h) (Or.inl ⟨by rfl, ?hy49⟩) (by assumption) ?rest49
  case hy49 => (intro w hSw; (try dsimp only at hSw); go_simp; first | done | with_reducible rfl)
  try simp only [Act.put, List.getElem_toArray, List.getElem_cons_succ, List.getElem_cons_zero, List.setIfInBounds_toArray, List.set_cons_zero, List.set_cons_succ]
  refine wpAnyH_take (i := 1) (v := ?vv50) rfl (by kernel_rfl) (by kernel_rfl) (by kernel_rfl) (fun _ _ _ h => h) (Or.inl ⟨by rfl, ?hy50⟩) (by assumption) ?rest50
  case hy50 => (intro w hSw; (try dsimp only at hSw); go_simp; first | done | with_reducible rfl)
  try simp only [Act.put, List.getElem_toArray, List.getElem_cons_succ, List.getElem_cons_zero, List.setIfInBounds_toArray, List.set_cons_zero, List.set_cons_succ]
  refine wpAnyH_take (i := 2) (v := ?vv51) rfl (by kernel_rfl) (by kernel_rfl) (by kernel_rfl) (fun _ _ _ h => h) (Or.inl ⟨by rfl, ?hy51⟩) (by assumption) ?rest51
  case hy51 => (intro w hSw; (try dsimp only at hSw); go_simp; first | done | with_reducible rfl)
  try simp only [Act.put, List.getElem_toArray, List.getElem_cons_succ, List.getElem_cons_zero, List.setIfInBounds_toArray, List.set_cons_zero, List.set_cons_succ]
  refine wpAnyH_take (i := 5) (v := ?vv52) rfl (by kernel_rfl) (by kernel_rfl) (by kernel_rfl) (fun _ _ _ h => h) (Or.inl ⟨by rfl, ?hy52⟩) (by assumption) ?rest52
  case hy52 => (intro w hSw; (try dsimp only at hSw); go_simp; first | done | with_reducible rfl)
  try simp only [Act.put, List.getElem_toArray, List.getElem_cons_succ, List.getElem_cons_zero, List.setIfInBounds_toArray, List.set_cons_zero, List.set_cons_succ]
  refine wpAnyH_take (i := 6) (v := ?vv53) rfl (by kernel_rfl) (by kernel_rfl) (by kernel_rfl) (fun _ _ _ h => h) (Or.inl ⟨by rfl, ?hy53⟩) (by assumption) ?rest53
  case hy53 => (intro w hSw; (try dsimp only at hSw); go_simp; first | done | with_reducible rfl)
  try simp only [Act.put, List.getElem_toArray, List.getElem_cons_succ, List.getElem_cons_zero, List.setIfInBounds_toArray, List.set_cons_zero, List.set_cons_succ]
  refine wpAnyH_ready (rs := [3]) (by kernel_rfl) (by simp) ?_
  refine AllReadyH.cons rfl (fun K hK => ?_) AllReadyH.nil
  go_simp
  refine (T1.out _).mono ?_
  rintro e v3 ⟨rfl, bq⟩
  have D3 := hid (below_on D2.out bq)
  clear bq hHeld D2 T1
  go_wp2_with fail
  refine hK.out _ _ (ZC.out _ D3.out) (fun hHeld => ?_)
  clear hK K
  try simp only [Act.put, List.getElem_toArray, List.getElem_cons_succ, List.getElem_cons_zero, List.setIfInBounds_toArray, List.set_cons_zero, List.set_cons_succ]
  refine wpAnyH_take (i := 4) (v := ?vv54) rfl (by kernel_rfl) (by kernel_rfl) (by kernel_rfl) (fun _ _ _ h => h) (Or.inl ⟨by rfl, ?hy54⟩) (by assumption) ?rest54
  case hy54 => (intro w hSw; (try dsimp only at hSw); go_simp; first | done | with_reducible rfl)
  try simp only [Act.put, List.getElem_toArray, List.getElem_cons_succ, List.getElem_cons_zero, List.setIfInBounds_toArray, List.set_cons_zero, List.set_cons_succ]
  refine wpAnyH_ready (rs := [7]) (by kernel_rfl) (by simp) ?_
  refine AllReadyH.cons rfl (fun K hK => ?_) AllReadyH.nil
  go_simp
  refine (T2.out _).mono ?_
  rintro e v4 ⟨rfl, bq⟩
  have D4 := hid (below_on D3.out bq)
  clear bq hHeld D3 T2
  go_wp2_with fail
  refine hK.out _ _ (ZC.out _ D4.out) (fun hHeld => ?_)
  clear hK K
  try simp only [Act.put, List.getElem_toArray, List.getElem_cons_succ, List.getElem_cons_zero, List.setIfInBounds_toArray, List.set_cons_zero, List.set_cons_succ]
  refine wpAnyH_take (i := 8) (v := ?vv55) rfl (by kernel_rfl) (by kernel_rfl) (by kernel_rfl) (fun _ _ _ h => h) (Or.inl ⟨by rfl, ?hy55⟩) (by assumption) ?rest55
  case hy55 => (intro w hSw; (try dsimp only at hSw); go_simp; first | done | with_reducible rfl)
  try simp only [Act.put, List.getElem_toArray, List.getElem_cons_succ, List.getElem_cons_zero, List.setIfInBounds_toArray, List.set_cons_zero, List.set_cons_succ]
  refine wpAnyH_take (i := 9) (v := ?vv56) rfl (by kernel_rfl) (by kernel_rfl) (by kernel_rfl) (fun _ _ _ h => h) (Or.inl ⟨by rfl, ?hy56⟩) (by assumption) ?rest56
  case hy56 => (intro w hSw; (try dsimp only at hSw); go_simp; first | done | with_reducible rfl)
  try simp only [Act.put, List.getElem_toArray, List.getElem_cons_succ, List.getElem_cons_zero, List.setIfInBounds_toArray, List.set_cons_zero, List.set_cons_succ]
  refine wpAnyH_done (by kernel_rfl) ?_ _
  clear hHeld
  obtain ⟨y0, y1, y2, y3, y4, y5, y6, y7, y8⟩ := ZC.out _ D4.out
  go_wp2_with fail
  refine (HK1.out _).mono ?_
  rintro e v5 ⟨rfl, rfl⟩
  clear HK1
  go_wp2_with fail
  refine (T3.out _).mono ?_
  rintro e v6 ⟨rfl, bb⟩
  have B6 := hid (below_on D4.out bb)
  clear T3 bb D4
  clear y0 y1 y2 y3 y4 y5 y6 y7 y8
  obtain ⟨y0, y1, y2, y3, y4, y5, y6, y7, y8⟩ := ZC.out _ B6.out
  go_wp2_with fail
  refine (HI1.out _).mono ?_
  rintro e v7 ⟨rfl, rfl⟩
  clear HI1
  go_wp2_with fail
  refine (HS1.out _).mono ?_
  rintro e v8 ⟨rfl, rfl⟩
  clear HS1
  go_wp2
  have BZ := hid (below_on BA.out B6.out)
  go_loopw [3, 4] (fun s i wr => s = .string ⟨Y3.toArray⟩ ∧ i = .int .i64 0 ∧ Hid (Below (w.alloc (.cells #[.int .i64 6, .string tk, .string bk, .string ky, .int .i64 id, .int .i64 n, .string sm, .slice pa pn pc, .slice ka 0 kc] 34)).heap.size (w.alloc (.cells #[.int .i64 6, .string tk, .string bk, .string ky, .int .i64 id, .int .i64 n, .string sm, .slice pa pn pc, .slice ka 0 kc] 34)) wr)) (fun _ _ _ => 0)
  case atStart => exact ⟨rfl, rfl, B6⟩
  case round =>
    obtain ⟨rfl, rfl, HB⟩ := hrel
    clear y0 y1 y2 y3 y4 y5 y6 y7 y8
    obtain ⟨y0, y1, y2, y3, y4, y5, y6, y7, y8⟩ := ZC.out _ HB.out
    go_wp2
    go_ret
    exact ⟨rfl, below_on BA.out HB.out⟩
set_option maxRecDepth 100000 in
set_option maxHeartbeats 4000000 in
theorem told_7 (tk bk ky : ByteArray) (id n : Int) (sm : ByteArray) (ps : List Pc) (pa ka : Option Addr) (pc kc : Nat) (w : World) (hp : PcI w (.slice pa ps.length pc) ps) (hd : CmD (⟨7, tk, bk, ky, id, n, sm, ps, []⟩ : Cm)) : Calls Tryz.prog 23 #[.agg #[.int .i64 7, .string tk, .string bk, .string ky, .int .i64 id, .int .i64 n, .string sm, .slice pa ps.length pc, .slice ka 0 kc]] w fun e w' => e = .returned (.string ⟨(cmB (⟨7, tk, bk, ky, id, n, sm, ps, []⟩ : Cm)).toArray⟩) ∧ Below w.heap.size w w' := by
  have HB : cmB (⟨7, tk, bk, ky, id, n, sm, ps, []⟩ : Cm) = put (7 : Int).toNat ++ ptx tk ++ ptx bk ++ ptx ky ++ put id.toNat ++ put n.toNat ++ ptx sm ++ pcsB ps := by
    simp only [cmB, flB, show hasF (flN 7) 1 = true from by decide, show hasF (flN 7) 2 = true from by decide, show hasF (flN 7) 4 = true from by decide, show hasF (flN 7) 8 = true from by decide, show hasF (flN 7) 16 = true from by decide, show hasF (flN 7) 32 = true from by decide, show hasF (flN 7) 64 = true from by decide, show hasF (flN 7) 128 = false from by decide, if_true, Bool.false_eq_true, if_false, List.append_nil]
  rw [HB]
  clear HB
  obtain ⟨-, dtk, dbk, dky, did, dn, dsm, dps, dpl, dks, dkl⟩ := hd
  simp only at dtk dbk dky did dn dsm dps dpl dks dkl
  have N0 : Hid (∀ W, Calls Tryz.prog 52 #[.int .i64 7] W fun e w' => e = .returned (.string ⟨(put (7 : Int).toNat).toArray⟩) ∧ Below W.heap.size W w') := fun W => rnum16_any 7 W (by decide)
  have T1 : Hid (∀ W, Calls Tryz.prog 53 #[.string tk] W fun e w' => e = .returned (.string ⟨(ptx tk).toArray⟩) ∧ Below W.heap.size W w') := fun W => ref_text_any tk W (Nat.le_trans dtk (by decide))
  have l1 : (ptx tk).length ≤ 74 := by have := (put_len tk.size).2; rw [ptx_len]; omega
  have T2 : Hid (∀ W, Calls Tryz.prog 53 #[.string bk] W fun e w' => e = .returned (.string ⟨(ptx bk).toArray⟩) ∧ Below W.heap.size W w') := fun W => ref_text_any bk W (Nat.le_trans dbk (by decide))
  have l2 : (ptx bk).length ≤ 73 := by have := (put_len bk.size).2; rw [ptx_len]; omega
  have T3 : Hid (∀ W, Calls Tryz.prog 53 #[.string ky] W fun e w' => e = .returned (.string ⟨(ptx ky).toArray⟩) ∧ Below W.heap.size W w') := fun W => ref_text_any ky W (Nat.le_trans dky (by decide))
  have l3 : (ptx ky).length ≤ 1034 := by have := (put_len ky.size).2; rw [ptx_len]; omega
  have T6 : Hid (∀ W, Calls Tryz.prog 53 #[.string sm] W fun e w' => e = .returned (.string ⟨(ptx sm).toArray⟩) ∧ Below W.heap.size W w') := fun W => ref_text_any sm W (Nat.le_trans dsm (by decide))
  have l6 : (ptx sm).length ≤ 74 := by have := (put_len sm.size).2; rw [ptx_len]; omega
  have N4 : Hid (∀ W, Calls Tryz.prog 52 #[.int .i64 id] W fun e w' => e = .returned (.string ⟨(put id.toNat).toArray⟩) ∧ Below W.heap.size W w') := fun W => by
    have := rnum16_any id.toNat W (by omega)
    rwa [show ((id.toNat : Nat) : Int) = id by omega] at this
  have l4 := (put_len id.toNat).2
  have N5 : Hid (∀ W, Calls Tryz.prog 52 #[.int .i64 n] W fun e w' => e = .returned (.string ⟨(put n.toNat).toArray⟩) ∧ Below W.heap.size W w') := fun W => by
    have := rnum16_any n.toNat W (by omega)
    rwa [show ((n.toNat : Nat) : Int) = n by omega] at this
  have l5 := (put_len n.toNat).2
  have P7 : Hid (∀ W, Below w.heap.size w W → Calls Tryz.prog 61 #[.slice pa ps.length pc] W fun e w' => e = .returned (.string ⟨(pcsB ps).toArray⟩) ∧ Below W.heap.size W w') := fun W hW => rtold_any _ ps W (hp.next hW) dps dpl
  have l7 := pcsB_len dps dpl
  have l0 := (put_len (7 : Int).toNat).2
  have HK1 : Hid (∀ W, Calls Tryz.prog 35 #[.int .i64 7] W fun e w' => e = .returned (.bool true) ∧ w' = W) := fun W => hasKey_any 7 W
  have HI1 : Hid (∀ W, Calls Tryz.prog 37 #[.int .i64 7] W fun e w' => e = .returned (.bool true) ∧ w' = W) := fun W => hasID_any 7 W
  have HS1 : Hid (∀ W, Calls Tryz.prog 39 #[.int .i64 7] W fun e w' => e = .returned (.bool true) ∧ w' = W) := fun W => hasSum_any 7 W
  clear dtk dbk dky did dn dsm dps dks dkl hp dpl
  generalize put (7 : Int).toNat = X0 at *
  generalize ptx tk = X1 at *
  generalize ptx bk = X2 at *
  generalize ptx ky = X3 at *
  generalize put id.toNat = X4 at *
  generalize put n.toNat = X5 at *
  generalize ptx sm = X6 at *
  generalize pcsB ps = X7 at *
  have q1 := fun W => add_ls (X0) X1 W (by omega)
  have q2 := fun W => add_ls (X0 ++ X1) X2 W (by simp only [List.length_append]; omega)
  have q3 := fun W => add_ls (X0 ++ X1 ++ X2) X3 W (by simp only [List.length_append]; omega)
  have q4 := fun W => add_ls (X0 ++ X1 ++ X2 ++ X3) X4 W (by simp only [List.length_append]; omega)
  have q5 := fun W => add_ls (X0 ++ X1 ++ X2 ++ X3 ++ X4) X5 W (by simp only [List.length_append]; omega)
  have q6 := fun W => add_ls (X0 ++ X1 ++ X2 ++ X3 ++ X4 ++ X5) X6 W (by simp only [List.length_append]; omega)
  have q7 := fun W => add_ls (X0 ++ X1 ++ X2 ++ X3 ++ X4 ++ X5 ++ X6) X7 W (by simp only [List.length_append]; omega)
  generalize X0 ++ X1 = Y1 at *
  generalize Y1 ++ X2 = Y2 at *
  generalize Y2 ++ X3 = Y3 at *
  generalize Y3 ++ X4 = Y4 at *
  generalize Y4 ++ X5 = Y5 at *
  generalize Y5 ++ X6 = Y6 at *
  generalize Y6 ++ X7 = Y7 at *
  clear l0 l1 l2 l3 l4 l5 l6 l7
  generalize ps.length = pn at *
  have BA := hid (below_al (Below.refl w.heap.size w) (.cells #[.int .i64 7, .string tk, .string bk, .string ky, .int .i64 id, .int .i64 n, .string sm, .slice pa pn pc, .slice ka 0 kc] 34))
  have ZC : Hid (∀ W, Below (w.alloc (.cells #[.int .i64 7, .string tk, .string bk, .string ky, .int .i64 id, .int .i64 n, .string sm, .slice pa pn pc, .slice ka 0 kc] 34)).heap.size (w.alloc (.cells #[.int .i64 7, .string tk, .string bk, .string ky, .int .i64 id, .int .i64 n, .string sm, .slice pa pn pc, .slice ka 0 kc] 34)) W → W.cell? ⟨w.heap.size, 0, none⟩ = some (.int .i64 7) ∧ W.cell? ⟨w.heap.size, 1, none⟩ = some (.string tk) ∧ W.cell? ⟨w.heap.size, 2, none⟩ = some (.string bk) ∧ W.cell? ⟨w.heap.size, 3, none⟩ = some (.string ky) ∧ W.cell? ⟨w.heap.size, 4, none⟩ = some (.int .i64 id) ∧ W.cell? ⟨w.heap.size, 5, none⟩ = some (.int .i64 n) ∧ W.cell? ⟨w.heap.size, 6, none⟩ = some (.string sm) ∧ W.cell? ⟨w.heap.size, 7, none⟩ = some (.slice pa pn pc) ∧ W.cell? ⟨w.heap.size, 8, none⟩ = some (.slice ka 0 kc)) := fun W hW => by
    have q := (srow w [.int .i64 7, .string tk, .string bk, .string ky, .int .i64 id, .int .i64 n, .string sm, .slice pa pn pc, .slice ka 0 kc] 34).keep (hW.keep (fun _ => False)) (fun h => h)
    exact ⟨q.cellAt rfl, q.cellAt rfl, q.cellAt rfl, q.cellAt rfl, q.cellAt rfl, q.cellAt rfl, q.cellAt rfl, q.cellAt rfl, q.cellAt rfl⟩
  have B0 := hid (Below.refl (w.alloc (.cells #[.int .i64 7, .string tk, .string bk, .string ky, .int .i64 id, .int .i64 n, .string sm, .slice pa pn pc, .slice ka 0 kc] 34)).heap.size (w.alloc (.cells #[.int .i64 7, .string tk, .string bk, .string ky, .int .i64 id, .int .i64 n, .string sm, .slice pa pn pc, .slice ka 0 kc] 34)))
  obtain ⟨y0, y1, y2, y3, y4, y5, y6, y7, y8⟩ := ZC.out _ B0.out
  go_enter Tryz.func23, Tryz.ntmps23
  go_wp2_with fail
  refine (N0.out _).mono ?_
  rintro e v1 ⟨rfl, bb⟩
  have B1 := hid (below_on B0.out bb)
  clear N0 bb B0
  clear y0 y1 y2 y3 y4 y5 y6 y7 y8
  obtain ⟨y0, y1, y2, y3, y4, y5, y6, y7, y8⟩ := ZC.out _ B1.out
  go_upto_region 3 with fail
  clear y0 y1 y2 y3 y4 y5 y6 y7 y8
  have D2 := hid B1.out.drew
  clear B1
  refine wp_region_held_drew (S := (fun w' => w'.cell? ⟨w.heap.size, 0, none⟩ = some (.int .i64 7) ∧ w'.cell? ⟨w.heap.size, 1, none⟩ = some (.string tk) ∧ w'.cell? ⟨w.heap.size, 2, none⟩ = some (.string bk) ∧ w'.cell? ⟨w.heap.size, 3, none⟩ = some (.string ky) ∧ w'.cell? ⟨w.heap.size, 4, none⟩ = some (.int .i64 id) ∧ w'.cell? ⟨w.heap.size, 5, none⟩ = some (.int .i64 n) ∧ w'.cell? ⟨w.heap.size, 6, none⟩ = some (.string sm) ∧ w'.cell? ⟨w.heap.size, 7, none⟩ = some (.slice pa pn pc) ∧ w'.cell? ⟨w.heap.size, 8, none⟩ = some (.slice ka 0 kc))) (by kernel_rfl) (ZC.out _ D2.out) (fun hHeld => ?_)
  refine wpAnyH_take (i := 0) (v := ?vv57) rfl (by kernel_rfl) (by kernel_rfl) (by kernel_rfl) (fun _ _ _ h => h) (Or.inl ⟨by rfl, ?hy57⟩) (by assumption) ?rest57
  case hy57 => (intro w hSw; (try dsimp only at hSw); go_simp; first | done | with_reducible rfl)
  try simp only [Act.put, List.getElem_toArray, List.getElem_cons_succ, List.getElem_cons_zero, List.setIfInBounds_toArray, List.set_cons_zero, List.set_cons_succ]
  refine wpAnyH_take (i := 1) (v := ?vv58) rfl (by kernel_rfl) (by kernel_rfl) (by kernel_rfl) (fun _ _ _ h => h) (Or.inl ⟨by rfl, ?hy58⟩) (by assumption) ?rest58
  case hy58 => (intro w hSw; (try dsimp only at hSw); go_simp; first | done | with_reducible rfl)
  try simp only [Act.put, List.getElem_toArray, List.getElem_cons_succ, List.getElem_cons_zero, List.setIfInBounds_toArray, List.set_cons_zero, List.set_cons_succ]
  refine wpAnyH_take (i := 2) (v := ?vv59) rfl (by kernel_rfl) (by kernel_rfl) (by kernel_rfl) (fun _ _ _ h => h) (Or.inl ⟨by rfl, ?hy59⟩) (by assumption) ?rest59
  case hy59 => (intro w hSw; (try dsimp only at hSw); go_simp; first | done | with_reducible rfl)
  try simp only [Act.put, List.getElem_toArray, List.getElem_cons_succ, List.getElem_cons_zero, List.setIfInBounds_toArray, List.set_cons_zero, List.set_cons_succ]
  refine wpAnyH_take (i := 5) (v := ?vv60) rfl (by kernel_rfl) (by kernel_rfl) (by kernel_rfl) (fun _ _ _ h => h) (Or.inl ⟨by rfl, ?hy60⟩) (by assumption) ?rest60
  case hy60 => (intro w hSw; (try dsimp only at hSw); go_simp; first | done | with_reducible rfl)
  try simp only [Act.put, List.getElem_toArray, List.getElem_cons_succ, List.getElem_cons_zero, List.setIfInBounds_toArray, List.set_cons_zero, List.set_cons_succ]
  refine wpAnyH_take (i := 6) (v := ?vv61) rfl (by kernel_rfl) (by kernel_rfl) (by kernel_rfl) (fun _ _ _ h => h) (Or.inl ⟨by rfl, ?hy61⟩) (by assumption) ?rest61
  case hy61 => (intro w hSw; (try dsimp only at hSw); go_simp; first | done | with_reducible rfl)
  try simp only [Act.put, List.getElem_toArray, List.getElem_cons_succ, List.getElem_cons_zero, List.setIfInBounds_toArray, List.set_cons_zero, List.set_cons_succ]
  refine wpAnyH_ready (rs := [3]) (by kernel_rfl) (by simp) ?_
  refine AllReadyH.cons rfl (fun K hK => ?_) AllReadyH.nil
  go_simp
  refine (T1.out _).mono ?_
  rintro e v3 ⟨rfl, bq⟩
  have D3 := hid (below_on D2.out bq)
  clear bq hHeld D2 T1
  go_wp2_with fail
  refine hK.out _ _ (ZC.out _ D3.out) (fun hHeld => ?_)
  clear hK K
  try simp only [Act.put, List.getElem_toArray, List.getElem_cons_succ, List.getElem_cons_zero, List.setIfInBounds_toArray, List.set_cons_zero, List.set_cons_succ]
  refine wpAnyH_take (i := 4) (v := ?vv62) rfl (by kernel_rfl) (by kernel_rfl) (by kernel_rfl) (fun _ _ _ h => h) (Or.inl ⟨by rfl, ?hy62⟩) (by assumption) ?rest62
  case hy62 => (intro w hSw; (try dsimp only at hSw); go_simp; first | done | with_reducible rfl)
  try simp only [Act.put, List.getElem_toArray, List.getElem_cons_succ, List.getElem_cons_zero, List.setIfInBounds_toArray, List.set_cons_zero, List.set_cons_succ]
  refine wpAnyH_ready (rs := [7]) (by kernel_rfl) (by simp) ?_
  refine AllReadyH.cons rfl (fun K hK => ?_) AllReadyH.nil
  go_simp
  refine (T2.out _).mono ?_
  rintro e v4 ⟨rfl, bq⟩
  have D4 := hid (below_on D3.out bq)
  clear bq hHeld D3 T2
  go_wp2_with fail
  refine hK.out _ _ (ZC.out _ D4.out) (fun hHeld => ?_)
  clear hK K
  try simp only [Act.put, List.getElem_toArray, List.getElem_cons_succ, List.getElem_cons_zero, List.setIfInBounds_toArray, List.set_cons_zero, List.set_cons_succ]
  refine wpAnyH_take (i := 8) (v := ?vv63) rfl (by kernel_rfl) (by kernel_rfl) (by kernel_rfl) (fun _ _ _ h => h) (Or.inl ⟨by rfl, ?hy63⟩) (by assumption) ?rest63
  case hy63 => (intro w hSw; (try dsimp only at hSw); go_simp; first | done | with_reducible rfl)
  try simp only [Act.put, List.getElem_toArray, List.getElem_cons_succ, List.getElem_cons_zero, List.setIfInBounds_toArray, List.set_cons_zero, List.set_cons_succ]
  refine wpAnyH_take (i := 9) (v := ?vv64) rfl (by kernel_rfl) (by kernel_rfl) (by kernel_rfl) (fun _ _ _ h => h) (Or.inl ⟨by rfl, ?hy64⟩) (by assumption) ?rest64
  case hy64 => (intro w hSw; (try dsimp only at hSw); go_simp; first | done | with_reducible rfl)
  try simp only [Act.put, List.getElem_toArray, List.getElem_cons_succ, List.getElem_cons_zero, List.setIfInBounds_toArray, List.set_cons_zero, List.set_cons_succ]
  refine wpAnyH_done (by kernel_rfl) ?_ _
  clear hHeld
  obtain ⟨y0, y1, y2, y3, y4, y5, y6, y7, y8⟩ := ZC.out _ D4.out
  go_wp2_with fail
  refine (HK1.out _).mono ?_
  rintro e v5 ⟨rfl, rfl⟩
  clear HK1
  go_wp2_with fail
  refine (T3.out _).mono ?_
  rintro e v6 ⟨rfl, bb⟩
  have B6 := hid (below_on D4.out bb)
  clear T3 bb D4
  clear y0 y1 y2 y3 y4 y5 y6 y7 y8
  obtain ⟨y0, y1, y2, y3, y4, y5, y6, y7, y8⟩ := ZC.out _ B6.out
  go_wp2_with fail
  refine (HI1.out _).mono ?_
  rintro e v7 ⟨rfl, rfl⟩
  clear HI1
  go_wp2_with fail
  refine (N4.out _).mono ?_
  rintro e v8 ⟨rfl, bb⟩
  have B8 := hid (below_on B6.out bb)
  clear N4 bb B6
  clear y0 y1 y2 y3 y4 y5 y6 y7 y8
  obtain ⟨y0, y1, y2, y3, y4, y5, y6, y7, y8⟩ := ZC.out _ B8.out
  go_wp2_with fail
  refine (N5.out _).mono ?_
  rintro e v9 ⟨rfl, bb⟩
  have B9 := hid (below_on B8.out bb)
  clear N5 bb B8
  clear y0 y1 y2 y3 y4 y5 y6 y7 y8
  obtain ⟨y0, y1, y2, y3, y4, y5, y6, y7, y8⟩ := ZC.out _ B9.out
  go_wp2_with fail
  refine (HS1.out _).mono ?_
  rintro e v10 ⟨rfl, rfl⟩
  clear HS1
  go_upto_region 11 with fail
  clear y0 y1 y2 y3 y4 y5 y6 y7 y8
  have D11 := hid B9.out.drew
  clear B9
  refine wp_region_held_drew (S := (fun w' => w'.cell? ⟨w.heap.size, 0, none⟩ = some (.int .i64 7) ∧ w'.cell? ⟨w.heap.size, 1, none⟩ = some (.string tk) ∧ w'.cell? ⟨w.heap.size, 2, none⟩ = some (.string bk) ∧ w'.cell? ⟨w.heap.size, 3, none⟩ = some (.string ky) ∧ w'.cell? ⟨w.heap.size, 4, none⟩ = some (.int .i64 id) ∧ w'.cell? ⟨w.heap.size, 5, none⟩ = some (.int .i64 n) ∧ w'.cell? ⟨w.heap.size, 6, none⟩ = some (.string sm) ∧ w'.cell? ⟨w.heap.size, 7, none⟩ = some (.slice pa pn pc) ∧ w'.cell? ⟨w.heap.size, 8, none⟩ = some (.slice ka 0 kc))) (by kernel_rfl) (ZC.out _ D11.out) (fun hHeld => ?_)
  refine wpAnyH_take (i := 0) (v := ?vv65) rfl (by kernel_rfl) (by kernel_rfl) (by kernel_rfl) (fun _ _ _ h => h) (Or.inl ⟨by rfl, ?hy65⟩) (by assumption) ?rest65
  case hy65 => (intro w hSw; (try dsimp only at hSw); go_simp; first | done | with_reducible rfl)
  try simp only [Act.put, List.getElem_toArray, List.getElem_cons_succ, List.getElem_cons_zero, List.setIfInBounds_toArray, List.set_cons_zero, List.set_cons_succ]
  refine wpAnyH_take (i := 1) (v := ?vv66) rfl (by kernel_rfl) (by kernel_rfl) (by kernel_rfl) (fun _ _ _ h => h) (Or.inl ⟨by rfl, ?hy66⟩) (by assumption) ?rest66
  case hy66 => (intro w hSw; (try dsimp only at hSw); go_simp; first | done | with_reducible rfl)
  try simp only [Act.put, List.getElem_toArray, List.getElem_cons_succ, List.getElem_cons_zero, List.setIfInBounds_toArray, List.set_cons_zero, List.set_cons_succ]
  refine wpAnyH_take (i := 2) (v := ?vv67) rfl (by kernel_rfl) (by kernel_rfl) (by kernel_rfl) (fun _ _ _ h => h) (Or.inl ⟨by rfl, ?hy67⟩) (by assumption) ?rest67
  case hy67 => (intro w hSw; (try dsimp only at hSw); go_simp; first | done | with_reducible rfl)
  try simp only [Act.put, List.getElem_toArray, List.getElem_cons_succ, List.getElem_cons_zero, List.setIfInBounds_toArray, List.set_cons_zero, List.set_cons_succ]
  refine wpAnyH_take (i := 5) (v := ?vv68) rfl (by kernel_rfl) (by kernel_rfl) (by kernel_rfl) (fun _ _ _ h => h) (Or.inl ⟨by rfl, ?hy68⟩) (by assumption) ?rest68
  case hy68 => (intro w hSw; (try dsimp only at hSw); go_simp; first | done | with_reducible rfl)
  try simp only [Act.put, List.getElem_toArray, List.getElem_cons_succ, List.getElem_cons_zero, List.setIfInBounds_toArray, List.set_cons_zero, List.set_cons_succ]
  refine wpAnyH_take (i := 6) (v := ?vv69) rfl (by kernel_rfl) (by kernel_rfl) (by kernel_rfl) (fun _ _ _ h => h) (Or.inl ⟨by rfl, ?hy69⟩) (by assumption) ?rest69
  case hy69 => (intro w hSw; (try dsimp only at hSw); go_simp; first | done | with_reducible rfl)
  try simp only [Act.put, List.getElem_toArray, List.getElem_cons_succ, List.getElem_cons_zero, List.setIfInBounds_toArray, List.set_cons_zero, List.set_cons_succ]
  refine wpAnyH_ready (rs := [3]) (by kernel_rfl) (by simp) ?_
  refine AllReadyH.cons rfl (fun K hK => ?_) AllReadyH.nil
  go_simp
  refine (T6.out _).mono ?_
  rintro e v12 ⟨rfl, bq⟩
  have D12 := hid (below_on D11.out bq)
  clear bq hHeld D11 T6
  go_wp2_with fail
  refine hK.out _ _ (ZC.out _ D12.out) (fun hHeld => ?_)
  clear hK K
  try simp only [Act.put, List.getElem_toArray, List.getElem_cons_succ, List.getElem_cons_zero, List.setIfInBounds_toArray, List.set_cons_zero, List.set_cons_succ]
  refine wpAnyH_take (i := 4) (v := ?vv70) rfl (by kernel_rfl) (by kernel_rfl) (by kernel_rfl) (fun _ _ _ h => h) (Or.inl ⟨by rfl, ?hy70⟩) (by assumption) ?rest70
  case hy70 => (intro w hSw; (try dsimp only at hSw); go_simp; first | done | with_reducible rfl)
  try simp only [Act.put, List.getElem_toArray, List.getElem_cons_succ, List.getElem_cons_zero, List.setIfInBounds_toArray, List.set_cons_zero, List.set_cons_succ]
  refine wpAnyH_ready (rs := [7]) (by kernel_rfl) (by simp) ?_
  refine AllReadyH.cons rfl (fun K hK => ?_) AllReadyH.nil
  go_simp
  refine (P7.out _ (below_on BA.out D12.out)).mono ?_
  rintro e v13 ⟨rfl, bq⟩
  have D13 := hid (below_on D12.out bq)
  clear bq hHeld D12 P7
  go_wp2_with fail
  refine hK.out _ _ (ZC.out _ D13.out) (fun hHeld => ?_)
  clear hK K
  try simp only [Act.put, List.getElem_toArray, List.getElem_cons_succ, List.getElem_cons_zero, List.setIfInBounds_toArray, List.set_cons_zero, List.set_cons_succ]
  refine wpAnyH_take (i := 8) (v := ?vv71) rfl (by kernel_rfl) (by kernel_rfl) (by kernel_rfl) (fun _ _ _ h => h) (Or.inl ⟨by rfl, ?hy71⟩) (by assumption) ?rest71
  case hy71 => (intro w hSw; (try dsimp only at hSw); go_simp; first | done | with_reducible rfl)
  try simp only [Act.put, List.getElem_toArray, List.getElem_cons_succ, List.getElem_cons_zero, List.setIfInBounds_toArray, List.set_cons_zero, List.set_cons_succ]
  refine wpAnyH_take (i := 9) (v := ?vv72) rfl (by kernel_rfl) (by kernel_rfl) (by kernel_rfl) (fun _ _ _ h => h) (Or.inl ⟨by rfl, ?hy72⟩) (by assumption) ?rest72
  case hy72 => (intro w hSw; (try dsimp only at hSw); go_simp; first | done | with_reducible rfl)
  try simp only [Act.put, List.getElem_toArray, List.getElem_cons_succ, List.getElem_cons_zero, List.setIfInBounds_toArray, List.set_cons_zero, List.set_cons_succ]
  refine wpAnyH_done (by kernel_rfl) ?_ _
  clear hHeld
  obtain ⟨y0, y1, y2, y3, y4, y5, y6, y7, y8⟩ := ZC.out _ D13.out
  go_wp2
  have BZ := hid (below_on BA.out D13.out)
  go_loopw [3, 4] (fun s i wr => s = .string ⟨Y7.toArray⟩ ∧ i = .int .i64 0 ∧ Hid (Below (w.alloc (.cells #[.int .i64 7, .string tk, .string bk, .string ky, .int .i64 id, .int .i64 n, .string sm, .slice pa pn pc, .slice ka 0 kc] 34)).heap.size (w.alloc (.cells #[.int .i64 7, .string tk, .string bk, .string ky, .int .i64 id, .int .i64 n, .string sm, .slice pa pn pc, .slice ka 0 kc] 34)) wr)) (fun _ _ _ => 0)
  case atStart => exact ⟨rfl, rfl, D13⟩
  case round =>
    obtain ⟨rfl, rfl, HB⟩ := hrel
    clear y0 y1 y2 y3 y4 y5 y6 y7 y8
    obtain ⟨y0, y1, y2, y3, y4, y5, y6, y7, y8⟩ := ZC.out _ HB.out
    go_wp2
    go_ret
    exact ⟨rfl, below_on BA.out HB.out⟩
set_option maxRecDepth 100000 in
set_option maxHeartbeats 4000000 in
theorem told_8 (tk bk ky : ByteArray) (id n : Int) (sm : ByteArray) (ps : List Pc) (ks : List Pk) (pa ka : Option Addr) (pc kc : Nat) (w : World) (hp : PcI w (.slice pa ps.length pc) ps) (hc : ∀ (k : Nat) (hk : k < ks.length), ∃ b off, ka = some ⟨b, off, none⟩ ∧ b < w.heap.size ∧ w.cell? ⟨b, off + k * 2, none⟩ = some (.int .i64 ks[k].n) ∧ w.cell? ⟨b, off + k * 2 + 1, none⟩ = some (.string ks[k].su)) (hd : CmD (⟨8, tk, bk, ky, id, n, sm, ps, ks⟩ : Cm)) : Calls Tryz.prog 23 #[.agg #[.int .i64 8, .string tk, .string bk, .string ky, .int .i64 id, .int .i64 n, .string sm, .slice pa ps.length pc, .slice ka ks.length kc]] w fun e w' => e = .returned (.string ⟨(cmB (⟨8, tk, bk, ky, id, n, sm, ps, ks⟩ : Cm)).toArray⟩) ∧ Below w.heap.size w w' := by
  have HB : cmB (⟨8, tk, bk, ky, id, n, sm, ps, ks⟩ : Cm) = put (8 : Int).toNat ++ ptx tk ++ ptx bk ++ ptx ky ++ put id.toNat ++ pksB ks := by
    simp only [cmB, flB, show hasF (flN 8) 1 = true from by decide, show hasF (flN 8) 2 = true from by decide, show hasF (flN 8) 4 = true from by decide, show hasF (flN 8) 8 = true from by decide, show hasF (flN 8) 16 = false from by decide, show hasF (flN 8) 32 = false from by decide, show hasF (flN 8) 64 = false from by decide, show hasF (flN 8) 128 = true from by decide, if_true, Bool.false_eq_true, if_false, List.append_nil]
  rw [HB]
  clear HB
  obtain ⟨-, dtk, dbk, dky, did, dn, dsm, dps, dpl, dks, dkl⟩ := hd
  simp only at dtk dbk dky did dn dsm dps dpl dks dkl
  have N0 : Hid (∀ W, Calls Tryz.prog 52 #[.int .i64 8] W fun e w' => e = .returned (.string ⟨(put (8 : Int).toNat).toArray⟩) ∧ Below W.heap.size W w') := fun W => rnum16_any 8 W (by decide)
  have T1 : Hid (∀ W, Calls Tryz.prog 53 #[.string tk] W fun e w' => e = .returned (.string ⟨(ptx tk).toArray⟩) ∧ Below W.heap.size W w') := fun W => ref_text_any tk W (Nat.le_trans dtk (by decide))
  have l1 : (ptx tk).length ≤ 74 := by have := (put_len tk.size).2; rw [ptx_len]; omega
  have T2 : Hid (∀ W, Calls Tryz.prog 53 #[.string bk] W fun e w' => e = .returned (.string ⟨(ptx bk).toArray⟩) ∧ Below W.heap.size W w') := fun W => ref_text_any bk W (Nat.le_trans dbk (by decide))
  have l2 : (ptx bk).length ≤ 73 := by have := (put_len bk.size).2; rw [ptx_len]; omega
  have T3 : Hid (∀ W, Calls Tryz.prog 53 #[.string ky] W fun e w' => e = .returned (.string ⟨(ptx ky).toArray⟩) ∧ Below W.heap.size W w') := fun W => ref_text_any ky W (Nat.le_trans dky (by decide))
  have l3 : (ptx ky).length ≤ 1034 := by have := (put_len ky.size).2; rw [ptx_len]; omega
  have N4 : Hid (∀ W, Calls Tryz.prog 52 #[.int .i64 id] W fun e w' => e = .returned (.string ⟨(put id.toNat).toArray⟩) ∧ Below W.heap.size W w') := fun W => by
    have := rnum16_any id.toNat W (by omega)
    rwa [show ((id.toNat : Nat) : Int) = id by omega] at this
  have l4 := (put_len id.toNat).2
  have N8 : Hid (∀ W, Calls Tryz.prog 52 #[.int .i64 (ks.length : Int)] W fun e w' => e = .returned (.string ⟨(put ks.length).toArray⟩) ∧ Below W.heap.size W w') := fun W => rnum16_any ks.length W (by omega)
  have l8 := (put_len ks.length).2
  have l0 := (put_len (8 : Int).toNat).2
  have HK1 : Hid (∀ W, Calls Tryz.prog 35 #[.int .i64 8] W fun e w' => e = .returned (.bool true) ∧ w' = W) := fun W => hasKey_any 8 W
  have HI1 : Hid (∀ W, Calls Tryz.prog 37 #[.int .i64 8] W fun e w' => e = .returned (.bool true) ∧ w' = W) := fun W => hasID_any 8 W
  have HS1 : Hid (∀ W, Calls Tryz.prog 39 #[.int .i64 8] W fun e w' => e = .returned (.bool false) ∧ w' = W) := fun W => hasSum_any 8 W
  generalize put (8 : Int).toNat = X0 at *
  generalize ptx tk = X1 at *
  generalize ptx bk = X2 at *
  generalize ptx ky = X3 at *
  generalize put id.toNat = X4 at *
  have q1 := fun W => add_ls (X0) X1 W (by omega)
  have q2 := fun W => add_ls (X0 ++ X1) X2 W (by simp only [List.length_append]; omega)
  have q3 := fun W => add_ls (X0 ++ X1 ++ X2) X3 W (by simp only [List.length_append]; omega)
  have q4 := fun W => add_ls (X0 ++ X1 ++ X2 ++ X3) X4 W (by simp only [List.length_append]; omega)
  have q8 := fun W => add_ls (X0 ++ X1 ++ X2 ++ X3 ++ X4) (put ks.length) W (by simp only [List.length_append]; omega)
  have HC := hid hc
  have hl : ks.length ≤ 100 := dkl
  have HNM : Hid (∀ (k : Nat) (hk : k < ks.length) W, Calls Tryz.prog 52 #[.int .i64 ks[k].n] W fun e w' => e = .returned (.string ⟨(put ks[k].n.toNat).toArray⟩) ∧ Below W.heap.size W w') := fun k hk W => by
    have h := pkOk_bd (dks _ (List.getElem_mem hk))
    have := rnum16_any ks[k].n.toNat W (by omega)
    rwa [show ((ks[k].n.toNat : Nat) : Int) = ks[k].n by omega] at this
  have HTX : Hid (∀ (k : Nat) (hk : k < ks.length) W, Calls Tryz.prog 53 #[.string ks[k].su] W fun e w' => e = .returned (.string ⟨(ptx ks[k].su).toArray⟩) ∧ Below W.heap.size W w') := fun k hk W => ref_text_any _ W (by have := (pkOk_bd (dks _ (List.getElem_mem hk))).2.2; have h9 : (64 : Nat) ≤ reachBytes := (by decide); omega)
  have HT : Hid (∀ (k : Nat) (hk : k < ks.length), put ks.length ++ (ks.take (k + 1)).flatMap pkB = (put ks.length ++ (ks.take k).flatMap pkB) ++ put ks[k].n.toNat ++ ptx ks[k].su) := fun k hk => by rw [flatB_take pkB ks k hk]; unfold pkB; simp
  have HLN : Hid (∀ (k : Nat) (hk : k < ks.length), (put ks.length ++ (ks.take k).flatMap pkB).length ≤ 50000 ∧ (put ks[k].n.toNat).length ≤ 10 ∧ (ptx ks[k].su).length ≤ 74) := fun k hk => by
    have h1 := flatB_len pkB 84 (ks.take k) (fun p hp => pkB_len (by have := (pkOk_bd (dks p (List.mem_of_mem_take hp))).2.2; omega))
    have h2 := (put_len ks.length).2
    have h3 : (ks.take k).length ≤ 100 := by simp; omega
    have h4 := ptx_len ks[k].su
    have h5 := (put_len ks[k].su.size).2
    have h6 := (pkOk_bd (dks _ (List.getElem_mem hk))).2.2
    have h7 := (put_len ks[k].n.toNat).2
    rw [List.length_append]
    omega
  have HZ : Hid (put ks.length ++ (ks.take ks.length).flatMap pkB = pksB ks) := by show _ = _; rw [List.take_length]; rfl
  have LY : Hid ((X0 ++ X1 ++ X2 ++ X3 ++ X4).length ≤ 2000) := by show _ ≤ _; simp only [List.length_append]; omega
  generalize X0 ++ X1 = Y1 at *
  generalize Y1 ++ X2 = Y2 at *
  generalize Y2 ++ X3 = Y3 at *
  generalize Y3 ++ X4 = Y4 at *
  generalize hR : pksB ks = R at *
  clear hR hc dtk dbk dky did dn dsm dps dks dkl hp dpl l0 l1 l2 l3 l4 l8
  generalize ps.length = pn at *
  have HLP := hid hl
  clear hl
  have BA := hid (below_al (Below.refl w.heap.size w) (.cells #[.int .i64 8, .string tk, .string bk, .string ky, .int .i64 id, .int .i64 n, .string sm, .slice pa pn pc, .slice ka ks.length kc] 34))
  have ZC : Hid (∀ W, Below (w.alloc (.cells #[.int .i64 8, .string tk, .string bk, .string ky, .int .i64 id, .int .i64 n, .string sm, .slice pa pn pc, .slice ka ks.length kc] 34)).heap.size (w.alloc (.cells #[.int .i64 8, .string tk, .string bk, .string ky, .int .i64 id, .int .i64 n, .string sm, .slice pa pn pc, .slice ka ks.length kc] 34)) W → W.cell? ⟨w.heap.size, 0, none⟩ = some (.int .i64 8) ∧ W.cell? ⟨w.heap.size, 1, none⟩ = some (.string tk) ∧ W.cell? ⟨w.heap.size, 2, none⟩ = some (.string bk) ∧ W.cell? ⟨w.heap.size, 3, none⟩ = some (.string ky) ∧ W.cell? ⟨w.heap.size, 4, none⟩ = some (.int .i64 id) ∧ W.cell? ⟨w.heap.size, 5, none⟩ = some (.int .i64 n) ∧ W.cell? ⟨w.heap.size, 6, none⟩ = some (.string sm) ∧ W.cell? ⟨w.heap.size, 7, none⟩ = some (.slice pa pn pc) ∧ W.cell? ⟨w.heap.size, 8, none⟩ = some (.slice ka ks.length kc)) := fun W hW => by
    have q := (srow w [.int .i64 8, .string tk, .string bk, .string ky, .int .i64 id, .int .i64 n, .string sm, .slice pa pn pc, .slice ka ks.length kc] 34).keep (hW.keep (fun _ => False)) (fun h => h)
    exact ⟨q.cellAt rfl, q.cellAt rfl, q.cellAt rfl, q.cellAt rfl, q.cellAt rfl, q.cellAt rfl, q.cellAt rfl, q.cellAt rfl, q.cellAt rfl⟩
  have B0 := hid (Below.refl (w.alloc (.cells #[.int .i64 8, .string tk, .string bk, .string ky, .int .i64 id, .int .i64 n, .string sm, .slice pa pn pc, .slice ka ks.length kc] 34)).heap.size (w.alloc (.cells #[.int .i64 8, .string tk, .string bk, .string ky, .int .i64 id, .int .i64 n, .string sm, .slice pa pn pc, .slice ka ks.length kc] 34)))
  obtain ⟨y0, y1, y2, y3, y4, y5, y6, y7, y8⟩ := ZC.out _ B0.out
  go_enter Tryz.func23, Tryz.ntmps23
  go_wp2_with fail
  refine (N0.out _).mono ?_
  rintro e v1 ⟨rfl, bb⟩
  have B1 := hid (below_on B0.out bb)
  clear N0 bb B0
  clear y0 y1 y2 y3 y4 y5 y6 y7 y8
  obtain ⟨y0, y1, y2, y3, y4, y5, y6, y7, y8⟩ := ZC.out _ B1.out
  go_upto_region 3 with fail
  clear y0 y1 y2 y3 y4 y5 y6 y7 y8
  have D2 := hid B1.out.drew
  clear B1
  refine wp_region_held_drew (S := (fun w' => w'.cell? ⟨w.heap.size, 0, none⟩ = some (.int .i64 8) ∧ w'.cell? ⟨w.heap.size, 1, none⟩ = some (.string tk) ∧ w'.cell? ⟨w.heap.size, 2, none⟩ = some (.string bk) ∧ w'.cell? ⟨w.heap.size, 3, none⟩ = some (.string ky) ∧ w'.cell? ⟨w.heap.size, 4, none⟩ = some (.int .i64 id) ∧ w'.cell? ⟨w.heap.size, 5, none⟩ = some (.int .i64 n) ∧ w'.cell? ⟨w.heap.size, 6, none⟩ = some (.string sm) ∧ w'.cell? ⟨w.heap.size, 7, none⟩ = some (.slice pa pn pc) ∧ w'.cell? ⟨w.heap.size, 8, none⟩ = some (.slice ka ks.length kc))) (by kernel_rfl) (ZC.out _ D2.out) (fun hHeld => ?_)
  refine wpAnyH_take (i := 0) (v := ?vv73) rfl (by kernel_rfl) (by kernel_rfl) (by kernel_rfl) (fun _ _ _ h => h) (Or.inl ⟨by rfl, ?hy73⟩) (by assumption) ?rest73
  case hy73 => (intro w hSw; (try dsimp only at hSw); go_simp; first | done | with_reducible rfl)
  try simp only [Act.put, List.getElem_toArray, List.getElem_cons_succ, List.getElem_cons_zero, List.setIfInBounds_toArray, List.set_cons_zero, List.set_cons_succ]
  refine wpAnyH_take (i := 1) (v := ?vv74) rfl (by kernel_rfl) (by kernel_rfl) (by kernel_rfl) (fun _ _ _ h => h) (Or.inl ⟨by rfl, ?hy74⟩) (by assumption) ?rest74
  case hy74 => (intro w hSw; (try dsimp only at hSw); go_simp; first | done | with_reducible rfl)
  try simp only [Act.put, List.getElem_toArray, List.getElem_cons_succ, List.getElem_cons_zero, List.setIfInBounds_toArray, List.set_cons_zero, List.set_cons_succ]
  refine wpAnyH_take (i := 2) (v := ?vv75) rfl (by kernel_rfl) (by kernel_rfl) (by kernel_rfl) (fun _ _ _ h => h) (Or.inl ⟨by rfl, ?hy75⟩) (by assumption) ?rest75
  case hy75 => (intro w hSw; (try dsimp only at hSw); go_simp; first | done | with_reducible rfl)
  try simp only [Act.put, List.getElem_toArray, List.getElem_cons_succ, List.getElem_cons_zero, List.setIfInBounds_toArray, List.set_cons_zero, List.set_cons_succ]
  refine wpAnyH_take (i := 5) (v := ?vv76) rfl (by kernel_rfl) (by kernel_rfl) (by kernel_rfl) (fun _ _ _ h => h) (Or.inl ⟨by rfl, ?hy76⟩) (by assumption) ?rest76
  case hy76 => (intro w hSw; (try dsimp only at hSw); go_simp; first | done | with_reducible rfl)
  try simp only [Act.put, List.getElem_toArray, List.getElem_cons_succ, List.getElem_cons_zero, List.setIfInBounds_toArray, List.set_cons_zero, List.set_cons_succ]
  refine wpAnyH_take (i := 6) (v := ?vv77) rfl (by kernel_rfl) (by kernel_rfl) (by kernel_rfl) (fun _ _ _ h => h) (Or.inl ⟨by rfl, ?hy77⟩) (by assumption) ?rest77
  case hy77 => (intro w hSw; (try dsimp only at hSw); go_simp; first | done | with_reducible rfl)
  try simp only [Act.put, List.getElem_toArray, List.getElem_cons_succ, List.getElem_cons_zero, List.setIfInBounds_toArray, List.set_cons_zero, List.set_cons_succ]
  refine wpAnyH_ready (rs := [3]) (by kernel_rfl) (by simp) ?_
  refine AllReadyH.cons rfl (fun K hK => ?_) AllReadyH.nil
  go_simp
  refine (T1.out _).mono ?_
  rintro e v3 ⟨rfl, bq⟩
  have D3 := hid (below_on D2.out bq)
  clear bq hHeld D2 T1
  go_wp2_with fail
  refine hK.out _ _ (ZC.out _ D3.out) (fun hHeld => ?_)
  clear hK K
  try simp only [Act.put, List.getElem_toArray, List.getElem_cons_succ, List.getElem_cons_zero, List.setIfInBounds_toArray, List.set_cons_zero, List.set_cons_succ]
  refine wpAnyH_take (i := 4) (v := ?vv78) rfl (by kernel_rfl) (by kernel_rfl) (by kernel_rfl) (fun _ _ _ h => h) (Or.inl ⟨by rfl, ?hy78⟩) (by assumption) ?rest78
  case hy78 => (intro w hSw; (try dsimp only at hSw); go_simp; first | done | with_reducible rfl)
  try simp only [Act.put, List.getElem_toArray, List.getElem_cons_succ, List.getElem_cons_zero, List.setIfInBounds_toArray, List.set_cons_zero, List.set_cons_succ]
  refine wpAnyH_ready (rs := [7]) (by kernel_rfl) (by simp) ?_
  refine AllReadyH.cons rfl (fun K hK => ?_) AllReadyH.nil
  go_simp
  refine (T2.out _).mono ?_
  rintro e v4 ⟨rfl, bq⟩
  have D4 := hid (below_on D3.out bq)
  clear bq hHeld D3 T2
  go_wp2_with fail
  refine hK.out _ _ (ZC.out _ D4.out) (fun hHeld => ?_)
  clear hK K
  try simp only [Act.put, List.getElem_toArray, List.getElem_cons_succ, List.getElem_cons_zero, List.setIfInBounds_toArray, List.set_cons_zero, List.set_cons_succ]
  refine wpAnyH_take (i := 8) (v := ?vv79) rfl (by kernel_rfl) (by kernel_rfl) (by kernel_rfl) (fun _ _ _ h => h) (Or.inl ⟨by rfl, ?hy79⟩) (by assumption) ?rest79
  case hy79 => (intro w hSw; (try dsimp only at hSw); go_simp; first | done | with_reducible rfl)
  try simp only [Act.put, List.getElem_toArray, List.getElem_cons_succ, List.getElem_cons_zero, List.setIfInBounds_toArray, List.set_cons_zero, List.set_cons_succ]
  refine wpAnyH_take (i := 9) (v := ?vv80) rfl (by kernel_rfl) (by kernel_rfl) (by kernel_rfl) (fun _ _ _ h => h) (Or.inl ⟨by rfl, ?hy80⟩) (by assumption) ?rest80
  case hy80 => (intro w hSw; (try dsimp only at hSw); go_simp; first | done | with_reducible rfl)
  try simp only [Act.put, List.getElem_toArray, List.getElem_cons_succ, List.getElem_cons_zero, List.setIfInBounds_toArray, List.set_cons_zero, List.set_cons_succ]
  refine wpAnyH_done (by kernel_rfl) ?_ _
  clear hHeld
  obtain ⟨y0, y1, y2, y3, y4, y5, y6, y7, y8⟩ := ZC.out _ D4.out
  go_wp2_with fail
  refine (HK1.out _).mono ?_
  rintro e v5 ⟨rfl, rfl⟩
  clear HK1
  go_wp2_with fail
  refine (T3.out _).mono ?_
  rintro e v6 ⟨rfl, bb⟩
  have B6 := hid (below_on D4.out bb)
  clear T3 bb D4
  clear y0 y1 y2 y3 y4 y5 y6 y7 y8
  obtain ⟨y0, y1, y2, y3, y4, y5, y6, y7, y8⟩ := ZC.out _ B6.out
  go_wp2_with fail
  refine (HI1.out _).mono ?_
  rintro e v7 ⟨rfl, rfl⟩
  clear HI1
  go_wp2_with fail
  refine (N4.out _).mono ?_
  rintro e v8 ⟨rfl, bb⟩
  have B8 := hid (below_on B6.out bb)
  clear N4 bb B6
  clear y0 y1 y2 y3 y4 y5 y6 y7 y8
  obtain ⟨y0, y1, y2, y3, y4, y5, y6, y7, y8⟩ := ZC.out _ B8.out
  go_wp2_with fail
  refine (HS1.out _).mono ?_
  rintro e v9 ⟨rfl, rfl⟩
  clear HS1
  go_wp2_with fail
  refine (N8.out _).mono ?_
  rintro e v10 ⟨rfl, bb⟩
  have B10 := hid (below_on B8.out bb)
  clear N8 bb B8
  clear y0 y1 y2 y3 y4 y5 y6 y7 y8
  obtain ⟨y0, y1, y2, y3, y4, y5, y6, y7, y8⟩ := ZC.out _ B10.out
  go_wp2
  go_loopw [3, 4] (fun s i wr => ∃ (k : Nat) (A : List UInt8), k ≤ ks.length ∧ s = .string ⟨(Y4 ++ A).toArray⟩ ∧ i = .int .i64 (k : Int) ∧ Hid (A = put ks.length ++ (ks.take k).flatMap pkB) ∧ Hid (Below (w.alloc (.cells #[.int .i64 8, .string tk, .string bk, .string ky, .int .i64 id, .int .i64 n, .string sm, .slice pa pn pc, .slice ka ks.length kc] 34)).heap.size (w.alloc (.cells #[.int .i64 8, .string tk, .string bk, .string ky, .int .i64 id, .int .i64 n, .string sm, .slice pa pn pc, .slice ka ks.length kc] 34)) wr)) (fun _ i _ => ks.length - (intOf i).toNat)
  case atStart => exact ⟨0, put ks.length, Nat.zero_le _, rfl, rfl, by show _ = _; simp, B10⟩
  case round =>
    clear B10
    clear y0 y1 y2 y3 y4 y5 y6 y7 y8
    obtain ⟨k, A, hk, rfl, rfl, HA, HB⟩ := hrel
    obtain ⟨y0, y1, y2, y3, y4, y5, y6, y7, y8⟩ := ZC.out _ HB.out
    by_cases hlt : k < ks.length
    · have hk1 : (k : Int) < (ks.length : Int) := by omega
      have hk0 : (0 : Int) ≤ (k : Int) := by omega
      have hwk : wrap64 ((k : Int) + 1) = ((k + 1 : Nat) : Int) := by have := HLP.out; rw [IntWalk.wrap64_in _ (by omega)]; omega
      obtain ⟨b, off, rfl, hb, c0, c1⟩ := HC.out k hlt
      have NM := hid (HNM.out k hlt)
      have TX := hid (HTX.out k hlt)
      have HTK := hid (HT.out k hlt)
      have HLL := HLN.out k hlt
      have HLT := hid hlt
      rw [← HA.out] at HTK HLL
      clear HC HNM HTX HT HLN HZ HA
      generalize ks[k] = p at *
      obtain ⟨pn1, su⟩ := p
      simp only at *
      generalize put pn1.toNat = Z1 at *
      generalize ptx su = Z2 at *
      have u1 := fun W => add_ls (Y4 ++ A) Z1 W (by have := LY.out; rw [List.length_append]; omega)
      have u2 := fun W => add_ls (Y4 ++ A ++ Z1) Z2 W (by have := LY.out; simp only [List.length_append] at *; omega)
      have HE : Y4 ++ A ++ Z1 ++ Z2 = Y4 ++ (A ++ Z1 ++ Z2) := by simp
      have HEH := hid HE
      clear HE
      generalize Y4 ++ A ++ Z1 ++ Z2 = W2 at *
      generalize Y4 ++ A ++ Z1 = W1 at *
      generalize Y4 ++ A = W0 at *
      have ZD : Hid (∀ W, Below (w.alloc (.cells #[.int .i64 8, .string tk, .string bk, .string ky, .int .i64 id, .int .i64 n, .string sm, .slice pa pn pc, .slice (some ⟨b, off, none⟩) ks.length kc] 34)).heap.size (w.alloc (.cells #[.int .i64 8, .string tk, .string bk, .string ky, .int .i64 id, .int .i64 n, .string sm, .slice pa pn pc, .slice (some ⟨b, off, none⟩) ks.length kc] 34)) W → (fun w' => w'.cell? ⟨w.heap.size, 0, none⟩ = some (.int .i64 8) ∧ w'.cell? ⟨w.heap.size, 1, none⟩ = some (.string tk) ∧ w'.cell? ⟨w.heap.size, 2, none⟩ = some (.string bk) ∧ w'.cell? ⟨w.heap.size, 3, none⟩ = some (.string ky) ∧ w'.cell? ⟨w.heap.size, 4, none⟩ = some (.int .i64 id) ∧ w'.cell? ⟨w.heap.size, 5, none⟩ = some (.int .i64 n) ∧ w'.cell? ⟨w.heap.size, 6, none⟩ = some (.string sm) ∧ w'.cell? ⟨w.heap.size, 7, none⟩ = some (.slice pa pn pc) ∧ w'.cell? ⟨w.heap.size, 8, none⟩ = some (.slice (some ⟨b, off, none⟩) ks.length kc) ∧ w'.cell? ⟨b, off + k * 2, none⟩ = some (.int .i64 pn1) ∧ w'.cell? ⟨b, off + k * 2 + 1, none⟩ = some (.string su)) W) := fun W hW => by
        have hW0 := below_on BA.out hW
        obtain ⟨e0, e1, e2, e3, e4, e5, e6, e7, e8⟩ := ZC.out _ hW
        exact ⟨e0, e1, e2, e3, e4, e5, e6, e7, e8, (hW0.cell (p := ⟨b, off + k * 2, none⟩) hb).trans c0, (hW0.cell (p := ⟨b, off + k * 2 + 1, none⟩) hb).trans c1⟩
      clear hlt hk HLL c0 c1
      go_upto_region 17 with fail
      clear y0 y1 y2 y3 y4 y5 y6 y7 y8
      have E0 := hid HB.out.drew
      clear HB
      refine wp_region_held_drew (S := (fun w' => w'.cell? ⟨w.heap.size, 0, none⟩ = some (.int .i64 8) ∧ w'.cell? ⟨w.heap.size, 1, none⟩ = some (.string tk) ∧ w'.cell? ⟨w.heap.size, 2, none⟩ = some (.string bk) ∧ w'.cell? ⟨w.heap.size, 3, none⟩ = some (.string ky) ∧ w'.cell? ⟨w.heap.size, 4, none⟩ = some (.int .i64 id) ∧ w'.cell? ⟨w.heap.size, 5, none⟩ = some (.int .i64 n) ∧ w'.cell? ⟨w.heap.size, 6, none⟩ = some (.string sm) ∧ w'.cell? ⟨w.heap.size, 7, none⟩ = some (.slice pa pn pc) ∧ w'.cell? ⟨w.heap.size, 8, none⟩ = some (.slice (some ⟨b, off, none⟩) ks.length kc) ∧ w'.cell? ⟨b, off + k * 2, none⟩ = some (.int .i64 pn1) ∧ w'.cell? ⟨b, off + k * 2 + 1, none⟩ = some (.string su))) (by kernel_rfl) (ZD.out _ E0.out) (fun hHeld => ?_)
      refine wpAnyH_take (i := 0) (v := ?vv81) rfl (by kernel_rfl) (by kernel_rfl) (by kernel_rfl) (fun _ _ _ h => h) (Or.inl ⟨by rfl, ?hy81⟩) (by assumption) ?rest81
      case hy81 => (intro w hSw; (try dsimp only at hSw); go_simp; first | done | with_reducible rfl)
      try simp only [Act.put, List.getElem_toArray, List.getElem_cons_succ, List.getElem_cons_zero, List.setIfInBounds_toArray, List.set_cons_zero, List.set_cons_succ]
      refine wpAnyH_take (i := 1) (v := ?vv82) rfl (by kernel_rfl) (by kernel_rfl) (by kernel_rfl) (fun _ _ _ h => h) (Or.inl ⟨by rfl, ?hy82⟩) (by assumption) ?rest82
      case hy82 => (intro w hSw; (try dsimp only at hSw); go_simp; first | done | with_reducible rfl)
      try simp only [Act.put, List.getElem_toArray, List.getElem_cons_succ, List.getElem_cons_zero, List.setIfInBounds_toArray, List.set_cons_zero, List.set_cons_succ]
      refine wpAnyH_take (i := 2) (v := ?vv83) rfl (by kernel_rfl) (by kernel_rfl) (by kernel_rfl) (fun _ _ _ h => h) (Or.inl ⟨by rfl, ?hy83⟩) (by assumption) ?rest83
      case hy83 => (intro w hSw; (try dsimp only at hSw); go_simp; first | done | with_reducible rfl)
      try simp only [Act.put, List.getElem_toArray, List.getElem_cons_succ, List.getElem_cons_zero, List.setIfInBounds_toArray, List.set_cons_zero, List.set_cons_succ]
      refine wpAnyH_take (i := 3) (v := ?vv84) rfl (by kernel_rfl) (by kernel_rfl) (by kernel_rfl) (fun _ _ _ h => h) (Or.inl ⟨by rfl, ?hy84⟩) (by assumption) ?rest84
      case hy84 => (intro w hSw; (try dsimp only at hSw); go_simp; first | done | with_reducible rfl)
      try simp only [Act.put, List.getElem_toArray, List.getElem_cons_succ, List.getElem_cons_zero, List.setIfInBounds_toArray, List.set_cons_zero, List.set_cons_succ]
      refine wpAnyH_take (i := 4) (v := ?vv85) rfl (by kernel_rfl) (by kernel_rfl) (by kernel_rfl) (fun _ _ _ h => h) (Or.inl ⟨by rfl, ?hy85⟩) (by assumption) ?rest85
      case hy85 => (intro w hSw; (try dsimp only at hSw); go_simp; first | done | with_reducible rfl)
      try simp only [Act.put, List.getElem_toArray, List.getElem_cons_succ, List.getElem_cons_zero, List.setIfInBounds_toArray, List.set_cons_zero, List.set_cons_succ]
      refine wpAnyH_take (i := 5) (v := ?vv86) rfl (by kernel_rfl) (by kernel_rfl) (by kernel_rfl) (fun _ _ _ h => h) (Or.inl ⟨by rfl, ?hy86⟩) (by assumption) ?rest86
      case hy86 => (intro w hSw; (try dsimp only at hSw); go_simp; first | done | with_reducible rfl)
      try simp only [Act.put, List.getElem_toArray, List.getElem_cons_succ, List.getElem_cons_zero, List.setIfInBounds_toArray, List.set_cons_zero, List.set_cons_succ]
      refine wpAnyH_take (i := 6) (v := ?vv87) rfl (by kernel_rfl) (by kernel_rfl) (by kernel_rfl) (fun _ _ _ h => h) (Or.inl ⟨by rfl, ?hy87⟩) (by assumption) ?rest87
      case hy87 => (intro w hSw; (try dsimp only at hSw); go_simp; first | done | with_reducible rfl)
      try simp only [Act.put, List.getElem_toArray, List.getElem_cons_succ, List.getElem_cons_zero, List.setIfInBounds_toArray, List.set_cons_zero, List.set_cons_succ]
      refine wpAnyH_take (i := 9) (v := ?vv88) rfl (by kernel_rfl) (by kernel_rfl) (by kernel_rfl) (fun _ _ _ h => h) (Or.inl ⟨by rfl, ?hy88⟩) (by assumption) ?rest88
      case hy88 => (intro w hSw; (try dsimp only at hSw); go_simp; first | done | with_reducible rfl)
      try simp only [Act.put, List.getElem_toArray, List.getElem_cons_succ, List.getElem_cons_zero, List.setIfInBounds_toArray, List.set_cons_zero, List.set_cons_succ]
      refine wpAnyH_take (i := 10) (v := ?vv89) rfl (by kernel_rfl) (by kernel_rfl) (by kernel_rfl) (fun _ _ _ h => h) (Or.inl ⟨by rfl, ?hy89⟩) (by assumption) ?rest89
      case hy89 => (intro w hSw; (try dsimp only at hSw); go_simp; first | done | with_reducible rfl)
      try simp only [Act.put, List.getElem_toArray, List.getElem_cons_succ, List.getElem_cons_zero, List.setIfInBounds_toArray, List.set_cons_zero, List.set_cons_succ]
      refine wpAnyH_take (i := 11) (v := ?vv90) rfl (by kernel_rfl) (by kernel_rfl) (by kernel_rfl) (fun _ _ _ h => h) (Or.inl ⟨by rfl, ?hy90⟩) (by assumption) ?rest90
      case hy90 => (intro w hSw; (try dsimp only at hSw); go_simp; first | done | with_reducible rfl)
      try simp only [Act.put, List.getElem_toArray, List.getElem_cons_succ, List.getElem_cons_zero, List.setIfInBounds_toArray, List.set_cons_zero, List.set_cons_succ]
      refine wpAnyH_take (i := 12) (v := ?vv91) rfl (by kernel_rfl) (by kernel_rfl) (by kernel_rfl) (fun _ _ _ h => h) (Or.inl ⟨by rfl, ?hy91⟩) (by assumption) ?rest91
      case hy91 => (intro w hSw; (try dsimp only at hSw); go_simp; first | done | with_reducible rfl)
      try simp only [Act.put, List.getElem_toArray, List.getElem_cons_succ, List.getElem_cons_zero, List.setIfInBounds_toArray, List.set_cons_zero, List.set_cons_succ]
      refine wpAnyH_take (i := 13) (v := ?vv92) rfl (by kernel_rfl) (by kernel_rfl) (by kernel_rfl) (fun _ _ _ h => h) (Or.inl ⟨by rfl, ?hy92⟩) (by assumption) ?rest92
      case hy92 => (intro w hSw; (try dsimp only at hSw); go_simp; first | done | with_reducible rfl)
      try simp only [Act.put, List.getElem_toArray, List.getElem_cons_succ, List.getElem_cons_zero, List.setIfInBounds_toArray, List.set_cons_zero, List.set_cons_succ]
      refine wpAnyH_take (i := 14) (v := ?vv93) rfl (by kernel_rfl) (by kernel_rfl) (by kernel_rfl) (fun _ _ _ h => h) (Or.inl ⟨by rfl, ?hy93⟩) (by assumption) ?rest93
      case hy93 => (intro w hSw; (try dsimp only at hSw); go_simp; first | done | with_reducible rfl)
      try simp only [Act.put, List.getElem_toArray, List.getElem_cons_succ, List.getElem_cons_zero, List.setIfInBounds_toArray, List.set_cons_zero, List.set_cons_succ]
      refine wpAnyH_ready (rs := [7]) (by kernel_rfl) (by simp) ?_
      refine AllReadyH.cons rfl (fun K hK => ?_) AllReadyH.nil
      go_simp
      refine (NM.out _).mono ?_
      rintro e uE1 ⟨rfl, bq⟩
      have E1 := hid (below_on E0.out bq)
      clear bq hHeld E0 NM
      go_wp2_with fail
      refine hK.out _ _ (ZD.out _ E1.out) (fun hHeld => ?_)
      clear hK K
      try simp only [Act.put, List.getElem_toArray, List.getElem_cons_succ, List.getElem_cons_zero, List.setIfInBounds_toArray, List.set_cons_zero, List.set_cons_succ]
      refine wpAnyH_take (i := 8) (v := ?vv94) rfl (by kernel_rfl) (by kernel_rfl) (by kernel_rfl) (fun _ _ _ h => h) (Or.inl ⟨by rfl, ?hy94⟩) (by assumption) ?rest94
      case hy94 => (intro w hSw; (try dsimp only at hSw); go_simp; first | done | with_reducible rfl)
      try simp only [Act.put, List.getElem_toArray, List.getElem_cons_succ, List.getElem_cons_zero, List.setIfInBounds_toArray, List.set_cons_zero, List.set_cons_succ]
      refine wpAnyH_ready (rs := [15]) (by kernel_rfl) (by simp) ?_
      refine AllReadyH.cons rfl (fun K hK => ?_) AllReadyH.nil
      go_simp
      refine (TX.out _).mono ?_
      rintro e uE2 ⟨rfl, bq⟩
      have E2 := hid (below_on E1.out bq)
      clear bq hHeld E1 TX
      go_wp2_with fail
      refine hK.out _ _ (ZD.out _ E2.out) (fun hHeld => ?_)
      clear hK K
      try simp only [Act.put, List.getElem_toArray, List.getElem_cons_succ, List.getElem_cons_zero, List.setIfInBounds_toArray, List.set_cons_zero, List.set_cons_succ]
      refine wpAnyH_take (i := 16) (v := ?vv95) rfl (by kernel_rfl) (by kernel_rfl) (by kernel_rfl) (fun _ _ _ h => h) (Or.inl ⟨by rfl, ?hy95⟩) (by assumption) ?rest95
      case hy95 => (intro w hSw; (try dsimp only at hSw); go_simp; first | done | with_reducible rfl)
      try simp only [Act.put, List.getElem_toArray, List.getElem_cons_succ, List.getElem_cons_zero, List.setIfInBounds_toArray, List.set_cons_zero, List.set_cons_succ]
      refine wpAnyH_take (i := 17) (v := ?vv96) rfl (by kernel_rfl) (by kernel_rfl) (by kernel_rfl) (fun _ _ _ h => h) (Or.inl ⟨by rfl, ?hy96⟩) (by assumption) ?rest96
      case hy96 => (intro w hSw; (try dsimp only at hSw); go_simp; first | done | with_reducible rfl)
      try simp only [Act.put, List.getElem_toArray, List.getElem_cons_succ, List.getElem_cons_zero, List.setIfInBounds_toArray, List.set_cons_zero, List.set_cons_succ]
      refine wpAnyH_done (by kernel_rfl) ?_ _
      clear hHeld u1 u2 ZD
      go_wp2
      exact ⟨⟨k + 1, A ++ Z1 ++ Z2, HLT.out, by rw [← HEH.out], by first | rw [hwk] | rfl | simp, hid HTK.out.symm, E2⟩, by (try rw [hwk]); have := HLT.out; simp [intOf]; omega⟩
    · have hke : k = ks.length := by omega
      have hd : decide ((k : Int) < (ks.length : Int)) = false := decide_eq_false (by omega)
      have hd2 : decide (k < ks.length) = false := decide_eq_false hlt
      have HF : A = R := by rw [HA.out, hke, HZ.out]
      subst HF
      clear HC HNM HTX HT HLN HZ HA hke hlt hk
      go_wp2
      go_ret
      exact ⟨rfl, below_on BA.out HB.out⟩
set_option maxRecDepth 100000 in
set_option maxHeartbeats 4000000 in
theorem told_9 (tk bk ky : ByteArray) (id n : Int) (sm : ByteArray) (ps : List Pc) (pa ka : Option Addr) (pc kc : Nat) (w : World) (hp : PcI w (.slice pa ps.length pc) ps) (hd : CmD (⟨9, tk, bk, ky, id, n, sm, ps, []⟩ : Cm)) : Calls Tryz.prog 23 #[.agg #[.int .i64 9, .string tk, .string bk, .string ky, .int .i64 id, .int .i64 n, .string sm, .slice pa ps.length pc, .slice ka 0 kc]] w fun e w' => e = .returned (.string ⟨(cmB (⟨9, tk, bk, ky, id, n, sm, ps, []⟩ : Cm)).toArray⟩) ∧ Below w.heap.size w w' := by
  have HB : cmB (⟨9, tk, bk, ky, id, n, sm, ps, []⟩ : Cm) = put (9 : Int).toNat ++ ptx tk ++ ptx bk ++ ptx ky ++ put id.toNat := by
    simp only [cmB, flB, show hasF (flN 9) 1 = true from by decide, show hasF (flN 9) 2 = true from by decide, show hasF (flN 9) 4 = true from by decide, show hasF (flN 9) 8 = true from by decide, show hasF (flN 9) 16 = false from by decide, show hasF (flN 9) 32 = false from by decide, show hasF (flN 9) 64 = false from by decide, show hasF (flN 9) 128 = false from by decide, if_true, Bool.false_eq_true, if_false, List.append_nil]
  rw [HB]
  clear HB
  obtain ⟨-, dtk, dbk, dky, did, dn, dsm, dps, dpl, dks, dkl⟩ := hd
  simp only at dtk dbk dky did dn dsm dps dpl dks dkl
  have N0 : Hid (∀ W, Calls Tryz.prog 52 #[.int .i64 9] W fun e w' => e = .returned (.string ⟨(put (9 : Int).toNat).toArray⟩) ∧ Below W.heap.size W w') := fun W => rnum16_any 9 W (by decide)
  have T1 : Hid (∀ W, Calls Tryz.prog 53 #[.string tk] W fun e w' => e = .returned (.string ⟨(ptx tk).toArray⟩) ∧ Below W.heap.size W w') := fun W => ref_text_any tk W (Nat.le_trans dtk (by decide))
  have l1 : (ptx tk).length ≤ 74 := by have := (put_len tk.size).2; rw [ptx_len]; omega
  have T2 : Hid (∀ W, Calls Tryz.prog 53 #[.string bk] W fun e w' => e = .returned (.string ⟨(ptx bk).toArray⟩) ∧ Below W.heap.size W w') := fun W => ref_text_any bk W (Nat.le_trans dbk (by decide))
  have l2 : (ptx bk).length ≤ 73 := by have := (put_len bk.size).2; rw [ptx_len]; omega
  have T3 : Hid (∀ W, Calls Tryz.prog 53 #[.string ky] W fun e w' => e = .returned (.string ⟨(ptx ky).toArray⟩) ∧ Below W.heap.size W w') := fun W => ref_text_any ky W (Nat.le_trans dky (by decide))
  have l3 : (ptx ky).length ≤ 1034 := by have := (put_len ky.size).2; rw [ptx_len]; omega
  have N4 : Hid (∀ W, Calls Tryz.prog 52 #[.int .i64 id] W fun e w' => e = .returned (.string ⟨(put id.toNat).toArray⟩) ∧ Below W.heap.size W w') := fun W => by
    have := rnum16_any id.toNat W (by omega)
    rwa [show ((id.toNat : Nat) : Int) = id by omega] at this
  have l4 := (put_len id.toNat).2
  have l0 := (put_len (9 : Int).toNat).2
  have HK1 : Hid (∀ W, Calls Tryz.prog 35 #[.int .i64 9] W fun e w' => e = .returned (.bool true) ∧ w' = W) := fun W => hasKey_any 9 W
  have HI1 : Hid (∀ W, Calls Tryz.prog 37 #[.int .i64 9] W fun e w' => e = .returned (.bool true) ∧ w' = W) := fun W => hasID_any 9 W
  have HS1 : Hid (∀ W, Calls Tryz.prog 39 #[.int .i64 9] W fun e w' => e = .returned (.bool false) ∧ w' = W) := fun W => hasSum_any 9 W
  clear dtk dbk dky did dn dsm dps dks dkl hp dpl
  generalize put (9 : Int).toNat = X0 at *
  generalize ptx tk = X1 at *
  generalize ptx bk = X2 at *
  generalize ptx ky = X3 at *
  generalize put id.toNat = X4 at *
  have q1 := fun W => add_ls (X0) X1 W (by omega)
  have q2 := fun W => add_ls (X0 ++ X1) X2 W (by simp only [List.length_append]; omega)
  have q3 := fun W => add_ls (X0 ++ X1 ++ X2) X3 W (by simp only [List.length_append]; omega)
  have q4 := fun W => add_ls (X0 ++ X1 ++ X2 ++ X3) X4 W (by simp only [List.length_append]; omega)
  generalize X0 ++ X1 = Y1 at *
  generalize Y1 ++ X2 = Y2 at *
  generalize Y2 ++ X3 = Y3 at *
  generalize Y3 ++ X4 = Y4 at *
  clear l0 l1 l2 l3 l4
  generalize ps.length = pn at *
  have BA := hid (below_al (Below.refl w.heap.size w) (.cells #[.int .i64 9, .string tk, .string bk, .string ky, .int .i64 id, .int .i64 n, .string sm, .slice pa pn pc, .slice ka 0 kc] 34))
  have ZC : Hid (∀ W, Below (w.alloc (.cells #[.int .i64 9, .string tk, .string bk, .string ky, .int .i64 id, .int .i64 n, .string sm, .slice pa pn pc, .slice ka 0 kc] 34)).heap.size (w.alloc (.cells #[.int .i64 9, .string tk, .string bk, .string ky, .int .i64 id, .int .i64 n, .string sm, .slice pa pn pc, .slice ka 0 kc] 34)) W → W.cell? ⟨w.heap.size, 0, none⟩ = some (.int .i64 9) ∧ W.cell? ⟨w.heap.size, 1, none⟩ = some (.string tk) ∧ W.cell? ⟨w.heap.size, 2, none⟩ = some (.string bk) ∧ W.cell? ⟨w.heap.size, 3, none⟩ = some (.string ky) ∧ W.cell? ⟨w.heap.size, 4, none⟩ = some (.int .i64 id) ∧ W.cell? ⟨w.heap.size, 5, none⟩ = some (.int .i64 n) ∧ W.cell? ⟨w.heap.size, 6, none⟩ = some (.string sm) ∧ W.cell? ⟨w.heap.size, 7, none⟩ = some (.slice pa pn pc) ∧ W.cell? ⟨w.heap.size, 8, none⟩ = some (.slice ka 0 kc)) := fun W hW => by
    have q := (srow w [.int .i64 9, .string tk, .string bk, .string ky, .int .i64 id, .int .i64 n, .string sm, .slice pa pn pc, .slice ka 0 kc] 34).keep (hW.keep (fun _ => False)) (fun h => h)
    exact ⟨q.cellAt rfl, q.cellAt rfl, q.cellAt rfl, q.cellAt rfl, q.cellAt rfl, q.cellAt rfl, q.cellAt rfl, q.cellAt rfl, q.cellAt rfl⟩
  have B0 := hid (Below.refl (w.alloc (.cells #[.int .i64 9, .string tk, .string bk, .string ky, .int .i64 id, .int .i64 n, .string sm, .slice pa pn pc, .slice ka 0 kc] 34)).heap.size (w.alloc (.cells #[.int .i64 9, .string tk, .string bk, .string ky, .int .i64 id, .int .i64 n, .string sm, .slice pa pn pc, .slice ka 0 kc] 34)))
  obtain ⟨y0, y1, y2, y3, y4, y5, y6, y7, y8⟩ := ZC.out _ B0.out
  go_enter Tryz.func23, Tryz.ntmps23
  go_wp2_with fail
  refine (N0.out _).mono ?_
  rintro e v1 ⟨rfl, bb⟩
  have B1 := hid (below_on B0.out bb)
  clear N0 bb B0
  clear y0 y1 y2 y3 y4 y5 y6 y7 y8
  obtain ⟨y0, y1, y2, y3, y4, y5, y6, y7, y8⟩ := ZC.out _ B1.out
  go_upto_region 3 with fail
  clear y0 y1 y2 y3 y4 y5 y6 y7 y8
  have D2 := hid B1.out.drew
  clear B1
  refine wp_region_held_drew (S := (fun w' => w'.cell? ⟨w.heap.size, 0, none⟩ = some (.int .i64 9) ∧ w'.cell? ⟨w.heap.size, 1, none⟩ = some (.string tk) ∧ w'.cell? ⟨w.heap.size, 2, none⟩ = some (.string bk) ∧ w'.cell? ⟨w.heap.size, 3, none⟩ = some (.string ky) ∧ w'.cell? ⟨w.heap.size, 4, none⟩ = some (.int .i64 id) ∧ w'.cell? ⟨w.heap.size, 5, none⟩ = some (.int .i64 n) ∧ w'.cell? ⟨w.heap.size, 6, none⟩ = some (.string sm) ∧ w'.cell? ⟨w.heap.size, 7, none⟩ = some (.slice pa pn pc) ∧ w'.cell? ⟨w.heap.size, 8, none⟩ = some (.slice ka 0 kc))) (by kernel_rfl) (ZC.out _ D2.out) (fun hHeld => ?_)
  refine wpAnyH_take (i := 0) (v := ?vv97) rfl (by kernel_rfl) (by kernel_rfl) (by kernel_rfl) (fun _ _ _ h => h) (Or.inl ⟨by rfl, ?hy97⟩) (by assumption) ?rest97
  case hy97 => (intro w hSw; (try dsimp only at hSw); go_simp; first | done | with_reducible rfl)
  try simp only [Act.put, List.getElem_toArray, List.getElem_cons_succ, List.getElem_cons_zero, List.setIfInBounds_toArray, List.set_cons_zero, List.set_cons_succ]
  refine wpAnyH_take (i := 1) (v := ?vv98) rfl (by kernel_rfl) (by kernel_rfl) (by kernel_rfl) (fun _ _ _ h => h) (Or.inl ⟨by rfl, ?hy98⟩) (by assumption) ?rest98
  case hy98 => (intro w hSw; (try dsimp only at hSw); go_simp; first | done | with_reducible rfl)
  try simp only [Act.put, List.getElem_toArray, List.getElem_cons_succ, List.getElem_cons_zero, List.setIfInBounds_toArray, List.set_cons_zero, List.set_cons_succ]
  refine wpAnyH_take (i := 2) (v := ?vv99) rfl (by kernel_rfl) (by kernel_rfl) (by kernel_rfl) (fun _ _ _ h => h) (Or.inl ⟨by rfl, ?hy99⟩) (by assumption) ?rest99
  case hy99 => (intro w hSw; (try dsimp only at hSw); go_simp; first | done | with_reducible rfl)
  try simp only [Act.put, List.getElem_toArray, List.getElem_cons_succ, List.getElem_cons_zero, List.setIfInBounds_toArray, List.set_cons_zero, List.set_cons_succ]
  refine wpAnyH_take (i := 5) (v := ?vv100) rfl (by kernel_rfl) (by kernel_rfl) (by kernel_rfl) (fun _ _ _ h => h) (Or.inl ⟨by rfl, ?hy100⟩) (by assumption) ?rest100
  case hy100 => (intro w hSw; (try dsimp only at hSw); go_simp; first | done | with_reducible rfl)
  try simp only [Act.put, List.getElem_toArray, List.getElem_cons_succ, List.getElem_cons_zero, List.setIfInBounds_toArray, List.set_cons_zero, List.set_cons_succ]
  refine wpAnyH_take (i := 6) (v := ?vv101) rfl (by kernel_rfl) (by kernel_rfl) (by kernel_rfl) (fun _ _ _ h => h) (Or.inl ⟨by rfl, ?hy101⟩) (by assumption) ?rest101
  case hy101 => (intro w hSw; (try dsimp only at hSw); go_simp; first | done | with_reducible rfl)
  try simp only [Act.put, List.getElem_toArray, List.getElem_cons_succ, List.getElem_cons_zero, List.setIfInBounds_toArray, List.set_cons_zero, List.set_cons_succ]
  refine wpAnyH_ready (rs := [3]) (by kernel_rfl) (by simp) ?_
  refine AllReadyH.cons rfl (fun K hK => ?_) AllReadyH.nil
  go_simp
  refine (T1.out _).mono ?_
  rintro e v3 ⟨rfl, bq⟩
  have D3 := hid (below_on D2.out bq)
  clear bq hHeld D2 T1
  go_wp2_with fail
  refine hK.out _ _ (ZC.out _ D3.out) (fun hHeld => ?_)
  clear hK K
  try simp only [Act.put, List.getElem_toArray, List.getElem_cons_succ, List.getElem_cons_zero, List.setIfInBounds_toArray, List.set_cons_zero, List.set_cons_succ]
  refine wpAnyH_take (i := 4) (v := ?vv102) rfl (by kernel_rfl) (by kernel_rfl) (by kernel_rfl) (fun _ _ _ h => h) (Or.inl ⟨by rfl, ?hy102⟩) (by assumption) ?rest102
  case hy102 => (intro w hSw; (try dsimp only at hSw); go_simp; first | done | with_reducible rfl)
  try simp only [Act.put, List.getElem_toArray, List.getElem_cons_succ, List.getElem_cons_zero, List.setIfInBounds_toArray, List.set_cons_zero, List.set_cons_succ]
  refine wpAnyH_ready (rs := [7]) (by kernel_rfl) (by simp) ?_
  refine AllReadyH.cons rfl (fun K hK => ?_) AllReadyH.nil
  go_simp
  refine (T2.out _).mono ?_
  rintro e v4 ⟨rfl, bq⟩
  have D4 := hid (below_on D3.out bq)
  clear bq hHeld D3 T2
  go_wp2_with fail
  refine hK.out _ _ (ZC.out _ D4.out) (fun hHeld => ?_)
  clear hK K
  try simp only [Act.put, List.getElem_toArray, List.getElem_cons_succ, List.getElem_cons_zero, List.setIfInBounds_toArray, List.set_cons_zero, List.set_cons_succ]
  refine wpAnyH_take (i := 8) (v := ?vv103) rfl (by kernel_rfl) (by kernel_rfl) (by kernel_rfl) (fun _ _ _ h => h) (Or.inl ⟨by rfl, ?hy103⟩) (by assumption) ?rest103
  case hy103 => (intro w hSw; (try dsimp only at hSw); go_simp; first | done | with_reducible rfl)
  try simp only [Act.put, List.getElem_toArray, List.getElem_cons_succ, List.getElem_cons_zero, List.setIfInBounds_toArray, List.set_cons_zero, List.set_cons_succ]
  refine wpAnyH_take (i := 9) (v := ?vv104) rfl (by kernel_rfl) (by kernel_rfl) (by kernel_rfl) (fun _ _ _ h => h) (Or.inl ⟨by rfl, ?hy104⟩) (by assumption) ?rest104
  case hy104 => (intro w hSw; (try dsimp only at hSw); go_simp; first | done | with_reducible rfl)
  try simp only [Act.put, List.getElem_toArray, List.getElem_cons_succ, List.getElem_cons_zero, List.setIfInBounds_toArray, List.set_cons_zero, List.set_cons_succ]
  refine wpAnyH_done (by kernel_rfl) ?_ _
  clear hHeld
  obtain ⟨y0, y1, y2, y3, y4, y5, y6, y7, y8⟩ := ZC.out _ D4.out
  go_wp2_with fail
  refine (HK1.out _).mono ?_
  rintro e v5 ⟨rfl, rfl⟩
  clear HK1
  go_wp2_with fail
  refine (T3.out _).mono ?_
  rintro e v6 ⟨rfl, bb⟩
  have B6 := hid (below_on D4.out bb)
  clear T3 bb D4
  clear y0 y1 y2 y3 y4 y5 y6 y7 y8
  obtain ⟨y0, y1, y2, y3, y4, y5, y6, y7, y8⟩ := ZC.out _ B6.out
  go_wp2_with fail
  refine (HI1.out _).mono ?_
  rintro e v7 ⟨rfl, rfl⟩
  clear HI1
  go_wp2_with fail
  refine (N4.out _).mono ?_
  rintro e v8 ⟨rfl, bb⟩
  have B8 := hid (below_on B6.out bb)
  clear N4 bb B6
  clear y0 y1 y2 y3 y4 y5 y6 y7 y8
  obtain ⟨y0, y1, y2, y3, y4, y5, y6, y7, y8⟩ := ZC.out _ B8.out
  go_wp2_with fail
  refine (HS1.out _).mono ?_
  rintro e v9 ⟨rfl, rfl⟩
  clear HS1
  go_wp2
  have BZ := hid (below_on BA.out B8.out)
  go_loopw [3, 4] (fun s i wr => s = .string ⟨Y4.toArray⟩ ∧ i = .int .i64 0 ∧ Hid (Below (w.alloc (.cells #[.int .i64 9, .string tk, .string bk, .string ky, .int .i64 id, .int .i64 n, .string sm, .slice pa pn pc, .slice ka 0 kc] 34)).heap.size (w.alloc (.cells #[.int .i64 9, .string tk, .string bk, .string ky, .int .i64 id, .int .i64 n, .string sm, .slice pa pn pc, .slice ka 0 kc] 34)) wr)) (fun _ _ _ => 0)
  case atStart => exact ⟨rfl, rfl, B8⟩
  case round =>
    obtain ⟨rfl, rfl, HB⟩ := hrel
    clear y0 y1 y2 y3 y4 y5 y6 y7 y8
    obtain ⟨y0, y1, y2, y3, y4, y5, y6, y7, y8⟩ := ZC.out _ HB.out
    go_wp2
    go_ret
    exact ⟨rfl, below_on BA.out HB.out⟩
set_option maxRecDepth 100000 in
set_option maxHeartbeats 4000000 in
theorem told_10 (tk bk ky : ByteArray) (id n : Int) (sm : ByteArray) (ps : List Pc) (pa ka : Option Addr) (pc kc : Nat) (w : World) (hp : PcI w (.slice pa ps.length pc) ps) (hd : CmD (⟨10, tk, bk, ky, id, n, sm, ps, []⟩ : Cm)) : Calls Tryz.prog 23 #[.agg #[.int .i64 10, .string tk, .string bk, .string ky, .int .i64 id, .int .i64 n, .string sm, .slice pa ps.length pc, .slice ka 0 kc]] w fun e w' => e = .returned (.string ⟨(cmB (⟨10, tk, bk, ky, id, n, sm, ps, []⟩ : Cm)).toArray⟩) ∧ Below w.heap.size w w' := by
  have HB : cmB (⟨10, tk, bk, ky, id, n, sm, ps, []⟩ : Cm) = put (10 : Int).toNat ++ put id.toNat := by
    simp only [cmB, flB, show hasF (flN 10) 1 = false from by decide, show hasF (flN 10) 2 = false from by decide, show hasF (flN 10) 4 = false from by decide, show hasF (flN 10) 8 = true from by decide, show hasF (flN 10) 16 = false from by decide, show hasF (flN 10) 32 = false from by decide, show hasF (flN 10) 64 = false from by decide, show hasF (flN 10) 128 = false from by decide, if_true, Bool.false_eq_true, if_false, List.append_nil]
  rw [HB]
  clear HB
  obtain ⟨-, dtk, dbk, dky, did, dn, dsm, dps, dpl, dks, dkl⟩ := hd
  simp only at dtk dbk dky did dn dsm dps dpl dks dkl
  have N0 : Hid (∀ W, Calls Tryz.prog 52 #[.int .i64 10] W fun e w' => e = .returned (.string ⟨(put (10 : Int).toNat).toArray⟩) ∧ Below W.heap.size W w') := fun W => rnum16_any 10 W (by decide)
  have N4 : Hid (∀ W, Calls Tryz.prog 52 #[.int .i64 id] W fun e w' => e = .returned (.string ⟨(put id.toNat).toArray⟩) ∧ Below W.heap.size W w') := fun W => by
    have := rnum16_any id.toNat W (by omega)
    rwa [show ((id.toNat : Nat) : Int) = id by omega] at this
  have l4 := (put_len id.toNat).2
  have l0 := (put_len (10 : Int).toNat).2
  have HK1 : Hid (∀ W, Calls Tryz.prog 35 #[.int .i64 10] W fun e w' => e = .returned (.bool false) ∧ w' = W) := fun W => hasKey_any 10 W
  have HI1 : Hid (∀ W, Calls Tryz.prog 37 #[.int .i64 10] W fun e w' => e = .returned (.bool true) ∧ w' = W) := fun W => hasID_any 10 W
  have HS1 : Hid (∀ W, Calls Tryz.prog 39 #[.int .i64 10] W fun e w' => e = .returned (.bool false) ∧ w' = W) := fun W => hasSum_any 10 W
  clear dtk dbk dky did dn dsm dps dks dkl hp dpl
  generalize put (10 : Int).toNat = X0 at *
  generalize put id.toNat = X4 at *
  have q4 := fun W => add_ls (X0) X4 W (by omega)
  generalize X0 ++ X4 = Y1 at *
  clear l0 l4
  generalize ps.length = pn at *
  have BA := hid (below_al (Below.refl w.heap.size w) (.cells #[.int .i64 10, .string tk, .string bk, .string ky, .int .i64 id, .int .i64 n, .string sm, .slice pa pn pc, .slice ka 0 kc] 34))
  have ZC : Hid (∀ W, Below (w.alloc (.cells #[.int .i64 10, .string tk, .string bk, .string ky, .int .i64 id, .int .i64 n, .string sm, .slice pa pn pc, .slice ka 0 kc] 34)).heap.size (w.alloc (.cells #[.int .i64 10, .string tk, .string bk, .string ky, .int .i64 id, .int .i64 n, .string sm, .slice pa pn pc, .slice ka 0 kc] 34)) W → W.cell? ⟨w.heap.size, 0, none⟩ = some (.int .i64 10) ∧ W.cell? ⟨w.heap.size, 1, none⟩ = some (.string tk) ∧ W.cell? ⟨w.heap.size, 2, none⟩ = some (.string bk) ∧ W.cell? ⟨w.heap.size, 3, none⟩ = some (.string ky) ∧ W.cell? ⟨w.heap.size, 4, none⟩ = some (.int .i64 id) ∧ W.cell? ⟨w.heap.size, 5, none⟩ = some (.int .i64 n) ∧ W.cell? ⟨w.heap.size, 6, none⟩ = some (.string sm) ∧ W.cell? ⟨w.heap.size, 7, none⟩ = some (.slice pa pn pc) ∧ W.cell? ⟨w.heap.size, 8, none⟩ = some (.slice ka 0 kc)) := fun W hW => by
    have q := (srow w [.int .i64 10, .string tk, .string bk, .string ky, .int .i64 id, .int .i64 n, .string sm, .slice pa pn pc, .slice ka 0 kc] 34).keep (hW.keep (fun _ => False)) (fun h => h)
    exact ⟨q.cellAt rfl, q.cellAt rfl, q.cellAt rfl, q.cellAt rfl, q.cellAt rfl, q.cellAt rfl, q.cellAt rfl, q.cellAt rfl, q.cellAt rfl⟩
  have B0 := hid (Below.refl (w.alloc (.cells #[.int .i64 10, .string tk, .string bk, .string ky, .int .i64 id, .int .i64 n, .string sm, .slice pa pn pc, .slice ka 0 kc] 34)).heap.size (w.alloc (.cells #[.int .i64 10, .string tk, .string bk, .string ky, .int .i64 id, .int .i64 n, .string sm, .slice pa pn pc, .slice ka 0 kc] 34)))
  obtain ⟨y0, y1, y2, y3, y4, y5, y6, y7, y8⟩ := ZC.out _ B0.out
  go_enter Tryz.func23, Tryz.ntmps23
  go_wp2_with fail
  refine (N0.out _).mono ?_
  rintro e v1 ⟨rfl, bb⟩
  have B1 := hid (below_on B0.out bb)
  clear N0 bb B0
  clear y0 y1 y2 y3 y4 y5 y6 y7 y8
  obtain ⟨y0, y1, y2, y3, y4, y5, y6, y7, y8⟩ := ZC.out _ B1.out
  go_wp2_with fail
  refine (HK1.out _).mono ?_
  rintro e v2 ⟨rfl, rfl⟩
  clear HK1
  go_wp2_with fail
  refine (HI1.out _).mono ?_
  rintro e v3 ⟨rfl, rfl⟩
  clear HI1
  go_wp2_with fail
  refine (N4.out _).mono ?_
  rintro e v4 ⟨rfl, bb⟩
  have B4 := hid (below_on B1.out bb)
  clear N4 bb B1
  clear y0 y1 y2 y3 y4 y5 y6 y7 y8
  obtain ⟨y0, y1, y2, y3, y4, y5, y6, y7, y8⟩ := ZC.out _ B4.out
  go_wp2_with fail
  refine (HS1.out _).mono ?_
  rintro e v5 ⟨rfl, rfl⟩
  clear HS1
  go_wp2
  have BZ := hid (below_on BA.out B4.out)
  go_loopw [3, 4] (fun s i wr => s = .string ⟨Y1.toArray⟩ ∧ i = .int .i64 0 ∧ Hid (Below (w.alloc (.cells #[.int .i64 10, .string tk, .string bk, .string ky, .int .i64 id, .int .i64 n, .string sm, .slice pa pn pc, .slice ka 0 kc] 34)).heap.size (w.alloc (.cells #[.int .i64 10, .string tk, .string bk, .string ky, .int .i64 id, .int .i64 n, .string sm, .slice pa pn pc, .slice ka 0 kc] 34)) wr)) (fun _ _ _ => 0)
  case atStart => exact ⟨rfl, rfl, B4⟩
  case round =>
    obtain ⟨rfl, rfl, HB⟩ := hrel
    clear y0 y1 y2 y3 y4 y5 y6 y7 y8
    obtain ⟨y0, y1, y2, y3, y4, y5, y6, y7, y8⟩ := ZC.out _ HB.out
    go_wp2
    go_ret
    exact ⟨rfl, below_on BA.out HB.out⟩
theorem rtold16_any (pv kv : Value) (c : Cm) (w : World) (hp : PcI w pv c.ps) (hk : PkI w kv c.ks) (hd : CmD c) (h8 : c.kd ≠ 8 → c.ks = []) : Calls Tryz.prog 23 #[cmV pv kv c] w fun e w' => e = .returned (.string ⟨(cmB c).toArray⟩) ∧ Below w.heap.size w w' := by
  obtain ⟨pa, pc, rfl, -⟩ := hp.form
  obtain ⟨ka, kc, rfl, hc⟩ := hk.form
  unfold cmV
  obtain ⟨kd, tk, bk, ky, id, n, sm, ps, ks⟩ := c
  have h1 : 1 ≤ kd := hd.kd.1
  have h2 : kd ≤ 10 := hd.kd.2
  simp only at *
  by_cases he : kd = 8
  · subst he
    exact told_8 tk bk ky id n sm ps ks pa ka pc kc w hp hc hd
  obtain rfl : ks = [] := h8 he
  rcases ten h1 h2 with rfl | rfl | rfl | rfl | rfl | rfl | rfl | rfl | rfl | rfl
  · exact told_1 tk bk ky id n sm ps pa ka pc kc w hp hd
  · exact told_2 tk bk ky id n sm ps pa ka pc kc w hp hd
  · exact told_3 tk bk ky id n sm ps pa ka pc kc w hp hd
  · exact told_4 tk bk ky id n sm ps pa ka pc kc w hp hd
  · exact told_5 tk bk ky id n sm ps pa ka pc kc w hp hd
  · exact told_6 tk bk ky id n sm ps pa ka pc kc w hp hd
  · exact told_7 tk bk ky id n sm ps pa ka pc kc w hp hd
  · exact absurd rfl he
  · exact told_9 tk bk ky id n sm ps pa ka pc kc w hp hd
  · exact told_10 tk bk ky id n sm ps pa ka pc kc w hp hd
theorem cm_8 {c : Cm} (h : cmOk c = true) (hn : c.kd ≠ 8) : c.ks = [] := by
  have hd := (cm_bd h).kd
  unfold cmOk dfB at h
  simp only [Bool.and_eq_true] at h
  have h2 := h.2.2
  unfold fitB at h2
  have e : hasF (flN c.kd) 128 = false := by
    rcases ten hd.1 hd.2 with e | e | e | e | e | e | e | e | e | e <;> rw [e] <;> first | decide | exact absurd e hn
  rw [e] at h2
  simpa using h2
end Go.Proofs.YtmadlnchmkhdjaaGreat
