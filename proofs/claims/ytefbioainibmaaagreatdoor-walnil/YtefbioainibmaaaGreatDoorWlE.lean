/- A segment: does it go on from another, how it begins; an entry in memory of its own, and why it may not be. -/
import Derived.Test.YtefbioainibmaaaGreatDoorJoined12
import Derived.Test.YtefbioainibmaaaGreatDoorJoined02
import Derived.Test.YtefbioainibmaaaGreatDoorGApR
namespace Go.Proofs.YtefbioainibmaaaGreatDoor
open Go.RowKit Go.Maps
set_option linter.unusedVariables false
set_option linter.unusedSimpArgs false

set_option maxRecDepth 100000 in
set_option maxHeartbeats 1000000 in
theorem goesOn_any (n ix tm n' ix' tm' : Int) (ve vp ve' vp' : Value) (es : List En) (w : World) (he : EntI w ve' es) (h0 : 0 ≤ ix') (h1 : ix' ≤ 4611686018427387904) (h2 : es.length ≤ 1048576) : Calls Tryz.prog 146 #[sgV n ix tm ve vp, sgV n' ix' tm' ve' vp'] w fun e w' => e = .returned (.bool (ix == ix' + es.length && tm == enT tm' es)) ∧ Below w.heap.size w w' := by
  have hB : Below w.heap.size w ((w.alloc (.cells #[.int .i64 n, .int .i64 ix, .int .i64 tm, ve, vp] 126)).alloc (.cells #[.int .i64 n', .int .i64 ix', .int .i64 tm', ve', vp'] 126)) := below_al (below_al (Below.refl _ _) _) _
  have HR : Hid (RowIs ((w.alloc (.cells #[.int .i64 n, .int .i64 ix, .int .i64 tm, ve, vp] 126)).alloc (.cells #[.int .i64 n', .int .i64 ix', .int .i64 tm', ve', vp'] 126)) w.heap.size (sgC n ix tm ve vp) 126) := row_old (srow w (sgC n ix tm ve vp) 126) _
  have EN := hid (sgend_any n' ix' tm' ve' vp' es _ (he.next hB) h0 h1 h2)
  have HB := hid hB
  clear hB he h0 h1 h2
  generalize ix' + (es.length : Int) = y at *
  generalize enT tm' es = t at *
  unfold sgV at *
  go_enter Tryz.func146, Tryz.ntmps146
  go_wp2_with fail
  generalize (w.alloc (.cells #[.int .i64 n, .int .i64 ix, .int .i64 tm, ve, vp] 126)).alloc (.cells #[.int .i64 n', .int .i64 ix', .int .i64 tm', ve', vp'] 126) = W0 at *
  refine EN.out.mono ?_
  rintro e w1 ⟨rfl, b1⟩
  have HR1 := hid (HR.out.keep (b1.keep (fun _ => False)) (fun h => h))
  have B1 := hid (below_on HB.out b1)
  clear EN HR HB b1
  have c1 := HR1.out.cellAt (o := 1) rfl
  have c2 := HR1.out.cellAt (o := 2) rfl
  cases q1 : (ix == y) with
  | false =>
    go_wp2
    go_ret
    rw [q1]
    exact ⟨rfl, B1.out⟩
  | true =>
    cases q2 : (tm == t) with
    | false =>
      go_wp2
      go_ret
      rw [q1, q2]
      exact ⟨rfl, B1.out⟩
    | true =>
      go_wp2
      go_ret
      rw [q1, q2]
      exact ⟨rfl, B1.out⟩
theorem five {W : World} {g : Nat} {v0 v1 v2 v3 v4 : Value} {t : TypeId} (h : RowIs W g [v0, v1, v2, v3, v4] t) (x0 x1 x2 x3 x4 : Value) : RowIs (((((W.setCell ⟨g, 0, none⟩ x0).setCell ⟨g, 1, none⟩ x1).setCell ⟨g, 2, none⟩ x2).setCell ⟨g, 3, none⟩ x3).setCell ⟨g, 4, none⟩ x4) g [x0, x1, x2, x3, x4] t ∧ Keep (· = g) W (((((W.setCell ⟨g, 0, none⟩ x0).setCell ⟨g, 1, none⟩ x1).setCell ⟨g, 2, none⟩ x2).setCell ⟨g, 3, none⟩ x3).setCell ⟨g, 4, none⟩ x4) :=
  ⟨((((h.set 0 x0).set 1 x1).set 2 x2).set 3 x3).set 4 x4, ((((keep_setCell _ _ _ _).trans (keep_setCell _ _ _ _)).trans (keep_setCell _ _ _ _)).trans (keep_setCell _ _ _ _)).trans (keep_setCell _ _ _ _)⟩
set_option maxRecDepth 100000 in
set_option maxHeartbeats 1000000 in
theorem begun_any (n : Int) (ix tm : Nat) (w : World) (h1 : ix < 9223372036854775808) (h2 : tm < 9223372036854775808) : Calls Tryz.prog 144 #[.int .i64 n, .int .i64 ix, .int .i64 tm] w fun e w' => ∃ b, e = .returned (.tuple #[sgV n ix tm (.slice none 0 0) (.slice (some ⟨b, 0, none⟩) 1 1), .string ⟨(bsB ix tm).toArray⟩]) ∧ OwnI w' w.heap.size (.slice (some ⟨b, 0, none⟩) 1 1) [((bsB ix tm).length : Int)] ∧ Below w.heap.size w w' := by
  have BT := hid (baseText_any ix tm (w.alloc (.cells #[.int .i64 0, .int .i64 0, .int .i64 0, .slice none 0 0, .slice none 0 0] 126)) h1 h2)
  have R0 := hid (srow w [.int .i64 0, .int .i64 0, .int .i64 0, .slice none 0 0, .slice none 0 0] 126)
  have B0 : Hid (Below w.heap.size w (w.alloc (.cells #[.int .i64 0, .int .i64 0, .int .i64 0, .slice none 0 0, .slice none 0 0] 126))) := below_al (Below.refl _ _) _
  have hz : (((⟨(bsB ix tm).toArray⟩ : ByteArray).size : Nat) : Int) = ((bsB ix tm).length : Int) := by show ((bsB ix tm).toArray.size : Int) = _; simp
  have HZ := hid hz
  clear h1 h2 hz
  generalize (⟨(bsB ix tm).toArray⟩ : ByteArray) = T at *
  generalize (bsB ix tm).length = L at *
  unfold sgV
  go_enter Tryz.func144, Tryz.ntmps144
  go_wp2_with fail
  generalize w.alloc (.cells #[.int .i64 0, .int .i64 0, .int .i64 0, .slice none 0 0, .slice none 0 0] 126) = W0 at *
  refine BT.out.mono ?_
  rintro e w1 ⟨rfl, b1⟩
  have R1 := hid (row_old (R0.out.keep (b1.keep (fun _ => False)) (fun h => h)) (.cells #[.int .i64 (T.size : Int)] 3))
  have B1 := hid (below_al (below_on B0.out b1) (.cells #[.int .i64 (T.size : Int)] 3))
  have O1 : Hid (OwnI (w1.alloc (.cells #[.int .i64 (T.size : Int)] 3)) w.heap.size (.slice (some ⟨w1.heap.size, 0, none⟩) 1 1) [(T.size : Int)]) := own_made w1 [.int .i64 (T.size : Int)] 3 1 1 w.heap.size (below_on B0.out b1).size rfl (by omega)
  have HLT : Hid (w.heap.size < w1.heap.size) := (R0.out.keep (b1.keep (fun _ => False)) (fun h => h)).lt
  have d0 := R1.out.cellAt (o := 0) rfl
  have d1 := R1.out.cellAt (o := 1) rfl
  have d2 := R1.out.cellAt (o := 2) rfl
  have d3 := R1.out.cellAt (o := 3) rfl
  have d4 := R1.out.cellAt (o := 4) rfl
  have f0 : (w1.alloc (.cells #[.int .i64 (T.size : Int)] 3)).frozen? ⟨w.heap.size, 0, none⟩ = false := R1.out.frozen
  have f1 : (w1.alloc (.cells #[.int .i64 (T.size : Int)] 3)).frozen? ⟨w.heap.size, 1, none⟩ = false := R1.out.frozen
  have f2 : (w1.alloc (.cells #[.int .i64 (T.size : Int)] 3)).frozen? ⟨w.heap.size, 2, none⟩ = false := R1.out.frozen
  have f3 : (w1.alloc (.cells #[.int .i64 (T.size : Int)] 3)).frozen? ⟨w.heap.size, 3, none⟩ = false := R1.out.frozen
  have f4 : (w1.alloc (.cells #[.int .i64 (T.size : Int)] 3)).frozen? ⟨w.heap.size, 4, none⟩ = false := R1.out.frozen
  have FV := hid (five R1.out (.int .i64 n) (.int .i64 (ix : Int)) (.int .i64 (tm : Int)) (.slice none 0 0) (.slice (some ⟨w1.heap.size, 0, none⟩) 1 1))
  have OF := hid (FV.out.2.ownsRow O1.out (fun g hg e => by cases hg; have h9 : w1.heap.size = w.heap.size := e; have := HLT.out; omega))
  have BF := hid (B1.out.trans (keep_below FV.out.2 (fun j hj e => by omega) B1.out.size))
  clear R0 B0 BT b1 R1 B1 O1
  go_wp2
  refine bodyPost_ret (ret_ctw (p := 6) (u := 7) rfl _ _ w.heap.size #[.int .i64 n, .int .i64 (ix : Int), .int .i64 (tm : Int), .slice none 0 0, .slice (some ⟨w1.heap.size, 0, none⟩) 1 1] (.string T) rfl rfl (run_loadVar_row _ _ _ _ _ _ _ FV.out.1 Tryz.underlying126 rfl (by kernel_rfl))) rfl ?_
  refine ⟨_, rfl, ?_, BF.out⟩
  rw [← HZ.out]
  exact OF.out
set_option maxRecDepth 100000 in
set_option maxHeartbeats 1000000 in
theorem wapart_any (x : En) (w : World) (h : x.da.size ≤ 1048576) : Calls Tryz.prog 73 #[.agg #[.int .i64 x.tm, .int .i64 x.kd, .string x.da]] w fun e w' => e = .returned (.agg #[.int .i64 x.tm, .int .i64 x.kd, .string x.da]) ∧ Below w.heap.size w w' := by
  obtain ⟨tm, kd, da⟩ := x
  simp only at *
  have R0 : Hid (RowIs ((w.alloc (.cells #[.int .i64 tm, .int .i64 kd, .string da] 68)).alloc (.cells #[.int .i64 0, .int .i64 0, .string ⟨#[]⟩] 68)) w.heap.size [.int .i64 tm, .int .i64 kd, .string da] 68) := row_old (srow w [.int .i64 tm, .int .i64 kd, .string da] 68) _
  have R1 : Hid (RowIs ((w.alloc (.cells #[.int .i64 tm, .int .i64 kd, .string da] 68)).alloc (.cells #[.int .i64 0, .int .i64 0, .string ⟨#[]⟩] 68)) (w.heap.size + 1) [.int .i64 0, .int .i64 0, .string ⟨#[]⟩] 68) := by
    have := srow (w.alloc (.cells #[.int .i64 tm, .int .i64 kd, .string da] 68)) [.int .i64 0, .int .i64 0, .string ⟨#[]⟩] 68
    show RowIs _ _ _ _
    simpa using this
  have B0 : Hid (Below w.heap.size w ((w.alloc (.cells #[.int .i64 tm, .int .i64 kd, .string da] 68)).alloc (.cells #[.int .i64 0, .int .i64 0, .string ⟨#[]⟩] 68))) := below_al (below_al (Below.refl _ _) _) _
  have CL := hid (clone_any da ((w.alloc (.cells #[.int .i64 tm, .int .i64 kd, .string da] 68)).alloc (.cells #[.int .i64 0, .int .i64 0, .string ⟨#[]⟩] 68)) (by omega))
  clear h
  go_enter Tryz.func73, Tryz.ntmps73
  go_wp2_with fail
  generalize (w.alloc (.cells #[.int .i64 tm, .int .i64 kd, .string da] 68)).alloc (.cells #[.int .i64 0, .int .i64 0, .string ⟨#[]⟩] 68) = W0 at *
  refine CL.out.mono ?_
  rintro e w1 ⟨rfl, b1⟩
  have Q0 := hid (R0.out.keep (b1.keep (fun _ => False)) (fun h => h))
  have Q1 := hid (R1.out.keep (b1.keep (fun _ => False)) (fun h => h))
  have B1 := hid (below_on B0.out b1)
  clear R0 R1 B0 CL b1
  have c0 := Q0.out.cellAt (o := 0) rfl
  have c1 := Q0.out.cellAt (o := 1) rfl
  have c2 := Q0.out.cellAt (o := 2) rfl
  have g2 : w1.frozen? ⟨w.heap.size, 2, none⟩ = false := Q0.out.frozen
  have d0 := Q1.out.cellAt (o := 0) rfl
  have d1 := Q1.out.cellAt (o := 1) rfl
  have d2 := Q1.out.cellAt (o := 2) rfl
  have f0 : w1.frozen? ⟨w.heap.size + 1, 0, none⟩ = false := Q1.out.frozen
  have f1 : w1.frozen? ⟨w.heap.size + 1, 1, none⟩ = false := Q1.out.frozen
  have f2 : w1.frozen? ⟨w.heap.size + 1, 2, none⟩ = false := Q1.out.frozen
  have k1 := keep_setCell w1 w.heap.size 2 (.string da)
  have P1 := Q1.out.keep k1 (by omega)
  have FR := hid (((P1.set 0 (.int .i64 tm)).set 1 (.int .i64 kd)).set 2 (.string da))
  have BF := hid ((B1.out.trans (keep_below k1 (fun j hj e => by omega) B1.out.size)).trans (keep_below (((keep_setCell (w1.setCell ⟨w.heap.size, 2, none⟩ (.string da)) (w.heap.size + 1) 0 (.int .i64 tm)).trans (keep_setCell _ _ 1 (.int .i64 kd))).trans (keep_setCell _ _ 2 (.string da))) (fun j hj e => by omega) (B1.out.trans (keep_below k1 (fun j hj e => by omega) B1.out.size)).size))
  clear Q0 Q1 B1 k1 P1
  go_wp2
  exact bodyPost_ret (v := .agg #[.int .i64 tm, .int .i64 kd, .string da]) (results_cell_row (p := 2) rfl _ _ (w.heap.size + 1) 68 #[.int .i64 tm, .int .i64 kd, .string da] (0, 0) _ rfl FR.out Tryz.underlying68 rfl (by kernel_rfl)) rfl ⟨rfl, BF.out⟩
set_option maxRecDepth 100000 in
set_option maxHeartbeats 1000000 in
theorem refusal_any (x : En) (w : World) : Calls Tryz.prog 66 #[.agg #[.int .i64 x.tm, .int .i64 x.kd, .string x.da]] w fun e w' => e = .returned (.int .i64 (rfE x)) ∧ Below w.heap.size w w' := by
  obtain ⟨tm, kd, da⟩ := x
  unfold rfE
  simp only
  have hB : Below w.heap.size w (w.alloc (.cells #[.int .i64 tm, .int .i64 kd, .string da] 68)) := below_al (Below.refl _ _) _
  have IT := hid (isTerm_any tm (w.alloc (.cells #[.int .i64 tm, .int .i64 kd, .string da] 68)))
  have HB := hid hB
  clear hB
  cases ht : tmOk tm with
  | false =>
    rw [ht] at IT
    rw [if_pos (Or.inl rfl)]
    go_enter Tryz.func66, Tryz.ntmps66
    go_wp2_with fail
    refine IT.out.mono ?_
    rintro e w1 ⟨rfl, rfl⟩
    go_wp2
    go_ret
    exact ⟨rfl, HB.out⟩
  | true =>
    rw [ht] at IT
    by_cases h1 : kd < 0
    · have d1 : decide (kd < 0) = true := decide_eq_true h1
      rw [if_pos (Or.inr (Or.inl h1))]
      go_enter Tryz.func66, Tryz.ntmps66
      go_wp2_with fail
      refine IT.out.mono ?_
      rintro e w1 ⟨rfl, rfl⟩
      go_wp2
      go_ret
      exact ⟨rfl, HB.out⟩
    · have d1 : decide (kd < 0) = false := decide_eq_false h1
      by_cases h2 : 255 < kd
      · have d2 : decide (kd > 255) = true := decide_eq_true h2
        rw [if_pos (Or.inr (Or.inr h2))]
        go_enter Tryz.func66, Tryz.ntmps66
        go_wp2_with fail
        refine IT.out.mono ?_
        rintro e w1 ⟨rfl, rfl⟩
        go_wp2
        go_ret
        exact ⟨rfl, HB.out⟩
      · have d2 : decide (kd > 255) = false := decide_eq_false h2
        rw [if_neg (by simp [h1, h2])]
        by_cases h3 : 65536 < (da.size : Int)
        · have d3 : decide ((da.size : Int) > 65536) = true := decide_eq_true h3
          rw [if_pos h3]
          go_enter Tryz.func66, Tryz.ntmps66
          go_wp2_with fail
          refine IT.out.mono ?_
          rintro e w1 ⟨rfl, rfl⟩
          go_wp2
          go_ret
          exact ⟨rfl, HB.out⟩
        · have d3 : decide ((da.size : Int) > 65536) = false := decide_eq_false h3
          rw [if_neg h3]
          go_enter Tryz.func66, Tryz.ntmps66
          go_wp2_with fail
          refine IT.out.mono ?_
          rintro e w1 ⟨rfl, rfl⟩
          go_wp2
          go_ret
          exact ⟨rfl, HB.out⟩
end Go.Proofs.YtefbioainibmaaaGreatDoor
