/- Joined: The reference's Wrong: kind 1, not found, b. The reference's Wrong: kind 1, not found, c. The reference's Wrong: kind 1, found, a. The reference's Wrong: kind 1, found, b. The reference's Wrong: kind 1, found, c. The reference's Wrong, as a whole. -/
import Derived.Test.YtnlodlpjokkepabJoined08
import Derived.Deep.CutRange
import Derived.Test.YtnlodlpjokkepabJoined09
namespace Go.Proofs.Ytnlodlpjokkepab
open Go.RowKit Go.Maps
set_option linter.unusedVariables false
set_option linter.unusedSimpArgs false

set_option maxRecDepth 100000 in
set_option maxHeartbeats 4000000 in
theorem wrong_1nb (a1 a2 a3 : Option Addr) (x1 c1 x2 c2 b3 c3 n : Nat) (rm : Int) (name tt s : Bs) (ln : Int) (A : List (Bs × Bs)) (w : World) (hI : WrIn w (.agg #[.slice a1 x1 c1, .slice a2 x2 c2, .int .i64 (n : Int), .bool false, .slice a3 b3 c3, .int .i64 rm]) A name) (hnm : nameOk name = true) (hgx : kget A name = none) (hlA : A.length ≤ 7036874417) (hT : tot A ≤ 7036874417) (hls : s.length ≤ 70368744177) (h1 : ¬ (¬ ((0 : Nat) : Int) < (s.length : Int))) (h2 : 0 ≤ rm) (r : Int) (hr : r = (if 0 < (s.length : Int) - (((kget A name).getD []).length : Int) ∧ 0 ≤ rm ∧ rm < ((tot A : Nat) : Int) + ((s.length : Int) - (((kget A name).getD []).length : Int)) then 22 else 0)) :
    Calls Try.prog 59 #[.agg #[.slice a1 x1 c1, .slice a2 x2 c2, .int .i64 (n : Int), .bool false, .slice a3 b3 c3, .int .i64 rm], .agg #[.int .i64 1, .string (tx name), .string (tx tt), .string (tx s), .int .i64 ln]] w fun e w' => e = .returned (.int .i64 r) ∧ Keep (fun _ => False) w w' := by
  have HI := hid hI
  have HA := hid hr
  have H1 := hid h1
  have H2 := hid h2
  clear h2
  clear h1
  have NA := hid (fun W : World => rname_any (tx name) W)
  rw [tx_list, hnm] at NA
  clear hI hr hnm
  go_enter Try.func59, Try.ntmps59
  go_wp2_with fail
  refine (NA.out _).mono ?_
  rintro e w1 ⟨rfl, rfl⟩
  clear NA
  go_wp2_with fail
  have hsz : (w.alloc (.cells #[.slice a1 x1 c1, .slice a2 x2 c2, .int .i64 (n : Int), .bool false, .slice a3 b3 c3, .int .i64 rm] 30)).heap.size = w.heap.size + 1 := by simp
  have hk0 : Keep (fun _ => False) w ((w.alloc (.cells #[.slice a1 x1 c1, .slice a2 x2 c2, .int .i64 (n : Int), .bool false, .slice a3 b3 c3, .int .i64 rm] 30)).alloc (.cells #[.int .i64 1, .string (tx name), .string (tx tt), .string (tx s), .int .i64 ln] 77)) := (keep_alloc _ _ _).trans (keep_alloc _ _ _)
  have rd : RowIs ((w.alloc (.cells #[.slice a1 x1 c1, .slice a2 x2 c2, .int .i64 (n : Int), .bool false, .slice a3 b3 c3, .int .i64 rm] 30)).alloc (.cells #[.int .i64 1, .string (tx name), .string (tx tt), .string (tx s), .int .i64 ln] 77)) w.heap.size [.slice a1 x1 c1, .slice a2 x2 c2, .int .i64 (n : Int), .bool false, .slice a3 b3 c3, .int .i64 rm] 30 := RowIs.keep (heap_alloc_new _ _) (keep_alloc (fun _ => False) _ _) (fun h => h)
  have rc : RowIs ((w.alloc (.cells #[.slice a1 x1 c1, .slice a2 x2 c2, .int .i64 (n : Int), .bool false, .slice a3 b3 c3, .int .i64 rm] 30)).alloc (.cells #[.int .i64 1, .string (tx name), .string (tx tt), .string (tx s), .int .i64 ln] 77)) (w.heap.size + 1) [.int .i64 1, .string (tx name), .string (tx tt), .string (tx s), .int .i64 ln] 77 := by rw [← hsz]; exact heap_alloc_new _ _
  generalize (w.alloc (.cells #[.slice a1 x1 c1, .slice a2 x2 c2, .int .i64 (n : Int), .bool false, .slice a3 b3 c3, .int .i64 rm] 30)).alloc (.cells #[.int .i64 1, .string (tx name), .string (tx tt), .string (tx s), .int .i64 ln] 77) = w0 at *
  refine (HI.out.now w0 hk0).mono ?_
  rintro e w2 ⟨ad, cap, rfl, hr, hk⟩
  have rd2 := rd.keep hk (fun h => h)
  have rc2 := rc.keep hk (fun h => h)
  have c1 := rc2.cellAt (o := 1) rfl
  have F1 := hid (HI.out.find w2 ad cap hr)
  have HK2 := hid (hk0.trans hk)
  clear hk0 rd rc hr hk hsz
  go_wp2_with fail
  refine F1.out.mono ?_
  rintro e w3 ⟨hk3, hor⟩
  have HK3 := hid (HK2.out.trans hk3)
  have rd3 := rd2.keep hk3 (fun h => h)
  have rc3 := rc2.keep hk3 (fun h => h)
  clear F1 HK2 rd2 rc2 c1 hk3
  have d0 := rd3.cellAt (o := 0) rfl
  have d1 := rd3.cellAt (o := 1) rfl
  have d2 := rd3.cellAt (o := 2) rfl
  have d3 := rd3.cellAt (o := 3) rfl
  have d4 := rd3.cellAt (o := 4) rfl
  have d5 := rd3.cellAt (o := 5) rfl
  have k0 := rc3.cellAt (o := 0) rfl
  have k1 := rc3.cellAt (o := 1) rfl
  have k2 := rc3.cellAt (o := 2) rfl
  have k3 := rc3.cellAt (o := 3) rfl
  have k4 := rc3.cellAt (o := 4) rfl
  have HRD := hid rd3
  have HRC := hid rc3
  clear rd3 rc3
  rcases hor with ⟨k, rfl, hg⟩ | ⟨k, g, t, rfl, hg, rfl, hk0, hk1, q1⟩
  · have h1 := H1.out
    have h2 := H2.out
    have hss : ((tx s).size : Int) = (s.length : Int) := by rw [size_mk]
    have hgl : (((kget A name).getD []).length : Int) = ((0 : Nat) : Int) := by rw [hg]; rfl
    have h1q : ((0 : Nat) : Int) < (s.length : Int) := by omega
    have e1 : decide (((tx s).size : Int) > 0) = true := by rw [hss]; exact decide_eq_true h1q
    have e2 : decide (0 < ((tx s).size : Int)) = true := e1
    have e2n : decide (0 < (tx s).size) = true := decide_eq_true (by have := of_decide_eq_true e2; omega)
    have e3 : decide (rm ≥ 0) = true := decide_eq_true (by omega)
    have e4 : decide (0 ≤ rm) = true := e3
    have w0 : wrap64 (((tot A : Nat) : Int)) = ((tot A : Nat) : Int) := by rw [IntWalk.wrap64_in _ (by omega)]
    have w1 : wrap64 (((tot A : Nat) : Int) + ((tx s).size : Int)) = ((tot A : Nat) : Int) + (s.length : Int) := by rw [IntWalk.wrap64_in _ (by omega)]; omega
    have v0 : IntKind.i64.wrap (((tot A : Nat) : Int)) = ((tot A : Nat) : Int) := by rw [IntKind.wrap_i64]; omega
    have v1 : IntKind.i64.wrap (((tot A : Nat) : Int) + ((tx s).size : Int)) = ((tot A : Nat) : Int) + (s.length : Int) := by rw [IntKind.wrap_i64]; omega
    obtain ⟨bb, hbb⟩ : ∃ bb, bb = decide (((tot A : Nat) : Int) + (s.length : Int) > rm) := ⟨_, rfl⟩
    have e5 : decide (((tot A : Nat) : Int) + (s.length : Int) > rm) = bb := hbb.symm
    have e6 : decide (rm < ((tot A : Nat) : Int) + (s.length : Int)) = bb := hbb.symm
    have HBB := hid hbb
    clear hbb
    have UC : Hid (∀ W, Keep (fun _ => False) w3 W → Calls Try.prog 43 #[.agg #[.slice a1 x1 c1, .slice a2 x2 c2, .int .i64 (n : Int), .bool false, .slice a3 b3 c3, .int .i64 rm]] W fun e w' => e = .returned (.int .i64 ((tot A : Nat) : Int)) ∧ (w'.cell? ⟨w.heap.size, 0, none⟩ = some (.slice a1 x1 c1) ∧ w'.cell? ⟨w.heap.size, 1, none⟩ = some (.slice a2 x2 c2) ∧ w'.cell? ⟨w.heap.size, 2, none⟩ = some (.int .i64 (n : Int)) ∧ w'.cell? ⟨w.heap.size, 3, none⟩ = some (.bool false) ∧ w'.cell? ⟨w.heap.size, 4, none⟩ = some (.slice a3 b3 c3) ∧ w'.cell? ⟨w.heap.size, 5, none⟩ = some (.int .i64 rm) ∧ w'.cell? ⟨w.heap.size + 1, 0, none⟩ = some (.int .i64 1) ∧ w'.cell? ⟨w.heap.size + 1, 3, none⟩ = some (.string (tx s))) ∧ Keep (fun _ => False) w w') := by
      intro W hW
      refine (HI.out.used W (HK3.out.trans hW)).mono fun e w' ⟨he, hk⟩ => ⟨he, ?_, (HK3.out.trans hW).trans hk⟩
      have r1 := HRD.out.keep (hW.trans hk) (fun h => h)
      have r2 := HRC.out.keep (hW.trans hk) (fun h => h)
      exact ⟨r1.cellAt rfl, r1.cellAt rfl, r1.cellAt rfl, r1.cellAt rfl, r1.cellAt rfl, r1.cellAt rfl, r2.cellAt rfl, r2.cellAt rfl⟩
    clear HI HRD HRC HK3 hss
    generalize tx s = SX at *
    go_wp2
    go_quiet (fail)
    go_wp2
    go_cut [67] from 68 to 95 (fun s9 wx => s9 = .bool bb ∧ Hid (wx.cell? ⟨w.heap.size, 0, none⟩ = some (.slice a1 x1 c1) ∧ wx.cell? ⟨w.heap.size, 1, none⟩ = some (.slice a2 x2 c2) ∧ wx.cell? ⟨w.heap.size, 2, none⟩ = some (.int .i64 (n : Int)) ∧ wx.cell? ⟨w.heap.size, 3, none⟩ = some (.bool false) ∧ wx.cell? ⟨w.heap.size, 4, none⟩ = some (.slice a3 b3 c3) ∧ wx.cell? ⟨w.heap.size, 5, none⟩ = some (.int .i64 rm) ∧ wx.cell? ⟨w.heap.size + 1, 0, none⟩ = some (.int .i64 1) ∧ wx.cell? ⟨w.heap.size + 1, 3, none⟩ = some (.string SX)) ∧ Hid (Keep (fun _ => False) w wx))
    case first =>
      have hS0 : (w3.drewN nq).cell? ⟨w.heap.size, 0, none⟩ = some (.slice a1 x1 c1) ∧ (w3.drewN nq).cell? ⟨w.heap.size, 1, none⟩ = some (.slice a2 x2 c2) ∧ (w3.drewN nq).cell? ⟨w.heap.size, 2, none⟩ = some (.int .i64 (n : Int)) ∧ (w3.drewN nq).cell? ⟨w.heap.size, 3, none⟩ = some (.bool false) ∧ (w3.drewN nq).cell? ⟨w.heap.size, 4, none⟩ = some (.slice a3 b3 c3) ∧ (w3.drewN nq).cell? ⟨w.heap.size, 5, none⟩ = some (.int .i64 rm) ∧ (w3.drewN nq).cell? ⟨w.heap.size + 1, 0, none⟩ = some (.int .i64 1) ∧ (w3.drewN nq).cell? ⟨w.heap.size + 1, 3, none⟩ = some (.string SX) := ⟨d0, d1, d2, d3, d4, d5, k0, k3⟩
      have hS1 : (w3.drewN nq).drew.cell? ⟨w.heap.size, 0, none⟩ = some (.slice a1 x1 c1) ∧ (w3.drewN nq).drew.cell? ⟨w.heap.size, 1, none⟩ = some (.slice a2 x2 c2) ∧ (w3.drewN nq).drew.cell? ⟨w.heap.size, 2, none⟩ = some (.int .i64 (n : Int)) ∧ (w3.drewN nq).drew.cell? ⟨w.heap.size, 3, none⟩ = some (.bool false) ∧ (w3.drewN nq).drew.cell? ⟨w.heap.size, 4, none⟩ = some (.slice a3 b3 c3) ∧ (w3.drewN nq).drew.cell? ⟨w.heap.size, 5, none⟩ = some (.int .i64 rm) ∧ (w3.drewN nq).drew.cell? ⟨w.heap.size + 1, 0, none⟩ = some (.int .i64 1) ∧ (w3.drewN nq).drew.cell? ⟨w.heap.size + 1, 3, none⟩ = some (.string SX) := ⟨d0, d1, d2, d3, d4, d5, k0, k3⟩
      have HKa : Hid (Keep (fun _ => False) w3 (w3.drewN nq)) := keep_drewN _ _
      have HKb : Hid (Keep (fun _ => False) w3 (w3.drewN (nq + 1))) := keep_drewN _ _
      clear HBB HA hlA hT hls hg k1 k2 k4
      go_region_held3 (fun w' => w'.cell? ⟨w.heap.size, 0, none⟩ = some (.slice a1 x1 c1) ∧ w'.cell? ⟨w.heap.size, 1, none⟩ = some (.slice a2 x2 c2) ∧ w'.cell? ⟨w.heap.size, 2, none⟩ = some (.int .i64 (n : Int)) ∧ w'.cell? ⟨w.heap.size, 3, none⟩ = some (.bool false) ∧ w'.cell? ⟨w.heap.size, 4, none⟩ = some (.slice a3 b3 c3) ∧ w'.cell? ⟨w.heap.size, 5, none⟩ = some (.int .i64 rm) ∧ w'.cell? ⟨w.heap.size + 1, 0, none⟩ = some (.int .i64 1) ∧ w'.cell? ⟨w.heap.size + 1, 3, none⟩ = some (.string SX)) (first | with_reducible assumption | with_reducible (exact hS0) | with_reducible (exact hS1)) (first | (go_at_call 43; with_reducible (refine (UC.out _ ?_).mono ?_); (first | exact HKa.out | exact HKb.out); rintro e w4 ⟨rfl, hf4, hk4⟩))
      all_goals (go_wp2_with fail; go_meet; exact ⟨rfl, hf4, hk4⟩)
    case rest =>
      obtain ⟨rfl, hf4, HK4⟩ := hcut
      clear UC d0 d1 d2 d3 d4 d5 k0 k3
      obtain ⟨d0, d1, d2, d3, d4, d5, k0, k3⟩ := hf4.out
      clear hf4
      cases bb with
      | true =>
        have h3 : rm < ((tot A : Nat) : Int) + (s.length : Int) := of_decide_eq_true HBB.out.symm
        go_wp2
        go_ret
        exact ⟨ret_int (by rw [HA.out, if_pos ⟨by omega, by omega, by omega⟩]), HK4.out⟩
      | false =>
        have h3 : ¬ rm < ((tot A : Nat) : Int) + (s.length : Int) := of_decide_eq_false HBB.out.symm
        go_wp2
        go_ret
        exact ⟨ret_int (by rw [HA.out, if_neg (by omega)]), HK4.out⟩
  · rw [hgx] at hg; cases hg
end Go.Proofs.Ytnlodlpjokkepab
namespace Go.Proofs.Ytnlodlpjokkepab
open Go.RowKit Go.Maps
set_option linter.unusedVariables false
set_option linter.unusedSimpArgs false

set_option maxRecDepth 100000 in
set_option maxHeartbeats 4000000 in
theorem wrong_1nc (a1 a2 a3 : Option Addr) (x1 c1 x2 c2 b3 c3 n : Nat) (rm : Int) (name tt s : Bs) (ln : Int) (A : List (Bs × Bs)) (w : World) (hI : WrIn w (.agg #[.slice a1 x1 c1, .slice a2 x2 c2, .int .i64 (n : Int), .bool false, .slice a3 b3 c3, .int .i64 rm]) A name) (hnm : nameOk name = true) (hgx : kget A name = none) (hlA : A.length ≤ 7036874417) (hT : tot A ≤ 7036874417) (hls : s.length ≤ 70368744177) (h1 : ¬ (¬ ((0 : Nat) : Int) < (s.length : Int))) (h2 : ¬ 0 ≤ rm) (r : Int) (hr : r = (if 0 < (s.length : Int) - (((kget A name).getD []).length : Int) ∧ 0 ≤ rm ∧ rm < ((tot A : Nat) : Int) + ((s.length : Int) - (((kget A name).getD []).length : Int)) then 22 else 0)) :
    Calls Try.prog 59 #[.agg #[.slice a1 x1 c1, .slice a2 x2 c2, .int .i64 (n : Int), .bool false, .slice a3 b3 c3, .int .i64 rm], .agg #[.int .i64 1, .string (tx name), .string (tx tt), .string (tx s), .int .i64 ln]] w fun e w' => e = .returned (.int .i64 r) ∧ Keep (fun _ => False) w w' := by
  have HI := hid hI
  have HA := hid hr
  have H1 := hid h1
  have H2 := hid h2
  clear h2
  clear h1
  have NA := hid (fun W : World => rname_any (tx name) W)
  rw [tx_list, hnm] at NA
  clear hI hr hnm
  go_enter Try.func59, Try.ntmps59
  go_wp2_with fail
  refine (NA.out _).mono ?_
  rintro e w1 ⟨rfl, rfl⟩
  clear NA
  go_wp2_with fail
  have hsz : (w.alloc (.cells #[.slice a1 x1 c1, .slice a2 x2 c2, .int .i64 (n : Int), .bool false, .slice a3 b3 c3, .int .i64 rm] 30)).heap.size = w.heap.size + 1 := by simp
  have hk0 : Keep (fun _ => False) w ((w.alloc (.cells #[.slice a1 x1 c1, .slice a2 x2 c2, .int .i64 (n : Int), .bool false, .slice a3 b3 c3, .int .i64 rm] 30)).alloc (.cells #[.int .i64 1, .string (tx name), .string (tx tt), .string (tx s), .int .i64 ln] 77)) := (keep_alloc _ _ _).trans (keep_alloc _ _ _)
  have rd : RowIs ((w.alloc (.cells #[.slice a1 x1 c1, .slice a2 x2 c2, .int .i64 (n : Int), .bool false, .slice a3 b3 c3, .int .i64 rm] 30)).alloc (.cells #[.int .i64 1, .string (tx name), .string (tx tt), .string (tx s), .int .i64 ln] 77)) w.heap.size [.slice a1 x1 c1, .slice a2 x2 c2, .int .i64 (n : Int), .bool false, .slice a3 b3 c3, .int .i64 rm] 30 := RowIs.keep (heap_alloc_new _ _) (keep_alloc (fun _ => False) _ _) (fun h => h)
  have rc : RowIs ((w.alloc (.cells #[.slice a1 x1 c1, .slice a2 x2 c2, .int .i64 (n : Int), .bool false, .slice a3 b3 c3, .int .i64 rm] 30)).alloc (.cells #[.int .i64 1, .string (tx name), .string (tx tt), .string (tx s), .int .i64 ln] 77)) (w.heap.size + 1) [.int .i64 1, .string (tx name), .string (tx tt), .string (tx s), .int .i64 ln] 77 := by rw [← hsz]; exact heap_alloc_new _ _
  generalize (w.alloc (.cells #[.slice a1 x1 c1, .slice a2 x2 c2, .int .i64 (n : Int), .bool false, .slice a3 b3 c3, .int .i64 rm] 30)).alloc (.cells #[.int .i64 1, .string (tx name), .string (tx tt), .string (tx s), .int .i64 ln] 77) = w0 at *
  refine (HI.out.now w0 hk0).mono ?_
  rintro e w2 ⟨ad, cap, rfl, hr, hk⟩
  have rd2 := rd.keep hk (fun h => h)
  have rc2 := rc.keep hk (fun h => h)
  have c1 := rc2.cellAt (o := 1) rfl
  have F1 := hid (HI.out.find w2 ad cap hr)
  have HK2 := hid (hk0.trans hk)
  clear hk0 rd rc hr hk hsz
  go_wp2_with fail
  refine F1.out.mono ?_
  rintro e w3 ⟨hk3, hor⟩
  have HK3 := hid (HK2.out.trans hk3)
  have rd3 := rd2.keep hk3 (fun h => h)
  have rc3 := rc2.keep hk3 (fun h => h)
  clear F1 HK2 rd2 rc2 c1 hk3
  have d0 := rd3.cellAt (o := 0) rfl
  have d1 := rd3.cellAt (o := 1) rfl
  have d2 := rd3.cellAt (o := 2) rfl
  have d3 := rd3.cellAt (o := 3) rfl
  have d4 := rd3.cellAt (o := 4) rfl
  have d5 := rd3.cellAt (o := 5) rfl
  have k0 := rc3.cellAt (o := 0) rfl
  have k1 := rc3.cellAt (o := 1) rfl
  have k2 := rc3.cellAt (o := 2) rfl
  have k3 := rc3.cellAt (o := 3) rfl
  have k4 := rc3.cellAt (o := 4) rfl
  have HRD := hid rd3
  have HRC := hid rc3
  clear rd3 rc3
  rcases hor with ⟨k, rfl, hg⟩ | ⟨k, g, t, rfl, hg, rfl, hk0, hk1, q1⟩
  · have h1 := H1.out
    have h2 := H2.out
    have hss : ((tx s).size : Int) = (s.length : Int) := by rw [size_mk]
    have hgl : (((kget A name).getD []).length : Int) = ((0 : Nat) : Int) := by rw [hg]; rfl
    have h1q : ((0 : Nat) : Int) < (s.length : Int) := by omega
    have e1 : decide (((tx s).size : Int) > 0) = true := by rw [hss]; exact decide_eq_true h1q
    have e2 : decide (0 < ((tx s).size : Int)) = true := e1
    have e2n : decide (0 < (tx s).size) = true := decide_eq_true (by have := of_decide_eq_true e2; omega)
    have e3 : decide (rm ≥ 0) = false := decide_eq_false (by omega)
    have e4 : decide (0 ≤ rm) = false := e3
    clear HI HRD HRC
    clear hss
    generalize tx s = SX at *
    go_wp2
    go_quiet (fail)
    go_wp2
    go_quiet (fail)
    go_wp2
    go_ret
    exact ⟨ret_int (by rw [HA.out, if_neg (by omega)]), HK3.out.trans (keep_drewN _ _)⟩
  · rw [hgx] at hg; cases hg
end Go.Proofs.Ytnlodlpjokkepab
namespace Go.Proofs.Ytnlodlpjokkepab
open Go.RowKit Go.Maps
set_option linter.unusedVariables false
set_option linter.unusedSimpArgs false

set_option maxRecDepth 100000 in
set_option maxHeartbeats 4000000 in
theorem wrong_1fa (a1 a2 a3 : Option Addr) (x1 c1 x2 c2 b3 c3 n : Nat) (rm : Int) (name tt s : Bs) (ln : Int) (A : List (Bs × Bs)) (w : World) (hI : WrIn w (.agg #[.slice a1 x1 c1, .slice a2 x2 c2, .int .i64 (n : Int), .bool false, .slice a3 b3 c3, .int .i64 rm]) A name) (hnm : nameOk name = true) (t0 : Bs) (hgx : kget A name = some t0) (hlA : A.length ≤ 7036874417) (hT : tot A ≤ 7036874417) (hls : s.length ≤ 70368744177) (h1 : ¬ ((t0.length : Nat) : Int) < (s.length : Int)) (r : Int) (hr : r = (if 0 < (s.length : Int) - (((kget A name).getD []).length : Int) ∧ 0 ≤ rm ∧ rm < ((tot A : Nat) : Int) + ((s.length : Int) - (((kget A name).getD []).length : Int)) then 22 else 0)) :
    Calls Try.prog 59 #[.agg #[.slice a1 x1 c1, .slice a2 x2 c2, .int .i64 (n : Int), .bool false, .slice a3 b3 c3, .int .i64 rm], .agg #[.int .i64 1, .string (tx name), .string (tx tt), .string (tx s), .int .i64 ln]] w fun e w' => e = .returned (.int .i64 r) ∧ Keep (fun _ => False) w w' := by
  have HI := hid hI
  have HA := hid hr
  have H1 := hid h1
  clear h1
  have NA := hid (fun W : World => rname_any (tx name) W)
  rw [tx_list, hnm] at NA
  clear hI hr hnm
  go_enter Try.func59, Try.ntmps59
  go_wp2_with fail
  refine (NA.out _).mono ?_
  rintro e w1 ⟨rfl, rfl⟩
  clear NA
  go_wp2_with fail
  have hsz : (w.alloc (.cells #[.slice a1 x1 c1, .slice a2 x2 c2, .int .i64 (n : Int), .bool false, .slice a3 b3 c3, .int .i64 rm] 30)).heap.size = w.heap.size + 1 := by simp
  have hk0 : Keep (fun _ => False) w ((w.alloc (.cells #[.slice a1 x1 c1, .slice a2 x2 c2, .int .i64 (n : Int), .bool false, .slice a3 b3 c3, .int .i64 rm] 30)).alloc (.cells #[.int .i64 1, .string (tx name), .string (tx tt), .string (tx s), .int .i64 ln] 77)) := (keep_alloc _ _ _).trans (keep_alloc _ _ _)
  have rd : RowIs ((w.alloc (.cells #[.slice a1 x1 c1, .slice a2 x2 c2, .int .i64 (n : Int), .bool false, .slice a3 b3 c3, .int .i64 rm] 30)).alloc (.cells #[.int .i64 1, .string (tx name), .string (tx tt), .string (tx s), .int .i64 ln] 77)) w.heap.size [.slice a1 x1 c1, .slice a2 x2 c2, .int .i64 (n : Int), .bool false, .slice a3 b3 c3, .int .i64 rm] 30 := RowIs.keep (heap_alloc_new _ _) (keep_alloc (fun _ => False) _ _) (fun h => h)
  have rc : RowIs ((w.alloc (.cells #[.slice a1 x1 c1, .slice a2 x2 c2, .int .i64 (n : Int), .bool false, .slice a3 b3 c3, .int .i64 rm] 30)).alloc (.cells #[.int .i64 1, .string (tx name), .string (tx tt), .string (tx s), .int .i64 ln] 77)) (w.heap.size + 1) [.int .i64 1, .string (tx name), .string (tx tt), .string (tx s), .int .i64 ln] 77 := by rw [← hsz]; exact heap_alloc_new _ _
  generalize (w.alloc (.cells #[.slice a1 x1 c1, .slice a2 x2 c2, .int .i64 (n : Int), .bool false, .slice a3 b3 c3, .int .i64 rm] 30)).alloc (.cells #[.int .i64 1, .string (tx name), .string (tx tt), .string (tx s), .int .i64 ln] 77) = w0 at *
  refine (HI.out.now w0 hk0).mono ?_
  rintro e w2 ⟨ad, cap, rfl, hr, hk⟩
  have rd2 := rd.keep hk (fun h => h)
  have rc2 := rc.keep hk (fun h => h)
  have c1 := rc2.cellAt (o := 1) rfl
  have F1 := hid (HI.out.find w2 ad cap hr)
  have HK2 := hid (hk0.trans hk)
  clear hk0 rd rc hr hk hsz
  go_wp2_with fail
  refine F1.out.mono ?_
  rintro e w3 ⟨hk3, hor⟩
  have HK3 := hid (HK2.out.trans hk3)
  have rd3 := rd2.keep hk3 (fun h => h)
  have rc3 := rc2.keep hk3 (fun h => h)
  clear F1 HK2 rd2 rc2 c1 hk3
  have d0 := rd3.cellAt (o := 0) rfl
  have d1 := rd3.cellAt (o := 1) rfl
  have d2 := rd3.cellAt (o := 2) rfl
  have d3 := rd3.cellAt (o := 3) rfl
  have d4 := rd3.cellAt (o := 4) rfl
  have d5 := rd3.cellAt (o := 5) rfl
  have k0 := rc3.cellAt (o := 0) rfl
  have k1 := rc3.cellAt (o := 1) rfl
  have k2 := rc3.cellAt (o := 2) rfl
  have k3 := rc3.cellAt (o := 3) rfl
  have k4 := rc3.cellAt (o := 4) rfl
  have HRD := hid rd3
  have HRC := hid rc3
  clear rd3 rc3
  rcases hor with ⟨k, rfl, hg⟩ | ⟨k, g, t, rfl, hg, rfl, hk0, hk1, q1⟩
  · rw [hgx] at hg; cases hg
  · obtain rfl : t = t0 := by rw [hgx] at hg; injection hg with hg; exact hg.symm
    have h1 := H1.out
    have hss : ((tx s).size : Int) = (s.length : Int) := by rw [size_mk]
    have hsz : ((tx t).size : Int) = (t.length : Int) := by rw [size_mk]
    have hgl : (((kget A name).getD []).length : Int) = ((t.length : Nat) : Int) := by rw [hg]; rfl
    have hlt : t.length ≤ tot A := tot_get hg
    have e1 : decide (((tx s).size : Int) > ((tx t).size : Int)) = false := by rw [hss, hsz]; exact decide_eq_false (by omega)
    have e2 : decide (((tx t).size : Int) < ((tx s).size : Int)) = false := e1
    have e2n : decide ((tx t).size < (tx s).size) = false := decide_eq_false (by have := of_decide_eq_false e2; omega)
    clear HI HRD HRC
    clear h1
    clear hss hsz
    generalize tx s = SX at *
    generalize tx t = TX at *
    go_wp2
    go_quiet (fail)
    go_wp2
    go_quiet (fail)
    go_wp2
    go_ret
    exact ⟨ret_int (by have h1 := H1.out; rw [HA.out, if_neg (by omega)]), HK3.out.trans (keep_drewN _ _)⟩
end Go.Proofs.Ytnlodlpjokkepab
namespace Go.Proofs.Ytnlodlpjokkepab
open Go.RowKit Go.Maps
set_option linter.unusedVariables false
set_option linter.unusedSimpArgs false

set_option maxRecDepth 100000 in
set_option maxHeartbeats 4000000 in
theorem wrong_1fb (a1 a2 a3 : Option Addr) (x1 c1 x2 c2 b3 c3 n : Nat) (rm : Int) (name tt s : Bs) (ln : Int) (A : List (Bs × Bs)) (w : World) (hI : WrIn w (.agg #[.slice a1 x1 c1, .slice a2 x2 c2, .int .i64 (n : Int), .bool false, .slice a3 b3 c3, .int .i64 rm]) A name) (hnm : nameOk name = true) (t0 : Bs) (hgx : kget A name = some t0) (hlA : A.length ≤ 7036874417) (hT : tot A ≤ 7036874417) (hls : s.length ≤ 70368744177) (h1 : ¬ (¬ ((t0.length : Nat) : Int) < (s.length : Int))) (h2 : 0 ≤ rm) (r : Int) (hr : r = (if 0 < (s.length : Int) - (((kget A name).getD []).length : Int) ∧ 0 ≤ rm ∧ rm < ((tot A : Nat) : Int) + ((s.length : Int) - (((kget A name).getD []).length : Int)) then 22 else 0)) :
    Calls Try.prog 59 #[.agg #[.slice a1 x1 c1, .slice a2 x2 c2, .int .i64 (n : Int), .bool false, .slice a3 b3 c3, .int .i64 rm], .agg #[.int .i64 1, .string (tx name), .string (tx tt), .string (tx s), .int .i64 ln]] w fun e w' => e = .returned (.int .i64 r) ∧ Keep (fun _ => False) w w' := by
  have HI := hid hI
  have HA := hid hr
  have H1 := hid h1
  have H2 := hid h2
  clear h2
  clear h1
  have NA := hid (fun W : World => rname_any (tx name) W)
  rw [tx_list, hnm] at NA
  clear hI hr hnm
  go_enter Try.func59, Try.ntmps59
  go_wp2_with fail
  refine (NA.out _).mono ?_
  rintro e w1 ⟨rfl, rfl⟩
  clear NA
  go_wp2_with fail
  have hsz : (w.alloc (.cells #[.slice a1 x1 c1, .slice a2 x2 c2, .int .i64 (n : Int), .bool false, .slice a3 b3 c3, .int .i64 rm] 30)).heap.size = w.heap.size + 1 := by simp
  have hk0 : Keep (fun _ => False) w ((w.alloc (.cells #[.slice a1 x1 c1, .slice a2 x2 c2, .int .i64 (n : Int), .bool false, .slice a3 b3 c3, .int .i64 rm] 30)).alloc (.cells #[.int .i64 1, .string (tx name), .string (tx tt), .string (tx s), .int .i64 ln] 77)) := (keep_alloc _ _ _).trans (keep_alloc _ _ _)
  have rd : RowIs ((w.alloc (.cells #[.slice a1 x1 c1, .slice a2 x2 c2, .int .i64 (n : Int), .bool false, .slice a3 b3 c3, .int .i64 rm] 30)).alloc (.cells #[.int .i64 1, .string (tx name), .string (tx tt), .string (tx s), .int .i64 ln] 77)) w.heap.size [.slice a1 x1 c1, .slice a2 x2 c2, .int .i64 (n : Int), .bool false, .slice a3 b3 c3, .int .i64 rm] 30 := RowIs.keep (heap_alloc_new _ _) (keep_alloc (fun _ => False) _ _) (fun h => h)
  have rc : RowIs ((w.alloc (.cells #[.slice a1 x1 c1, .slice a2 x2 c2, .int .i64 (n : Int), .bool false, .slice a3 b3 c3, .int .i64 rm] 30)).alloc (.cells #[.int .i64 1, .string (tx name), .string (tx tt), .string (tx s), .int .i64 ln] 77)) (w.heap.size + 1) [.int .i64 1, .string (tx name), .string (tx tt), .string (tx s), .int .i64 ln] 77 := by rw [← hsz]; exact heap_alloc_new _ _
  generalize (w.alloc (.cells #[.slice a1 x1 c1, .slice a2 x2 c2, .int .i64 (n : Int), .bool false, .slice a3 b3 c3, .int .i64 rm] 30)).alloc (.cells #[.int .i64 1, .string (tx name), .string (tx tt), .string (tx s), .int .i64 ln] 77) = w0 at *
  refine (HI.out.now w0 hk0).mono ?_
  rintro e w2 ⟨ad, cap, rfl, hr, hk⟩
  have rd2 := rd.keep hk (fun h => h)
  have rc2 := rc.keep hk (fun h => h)
  have c1 := rc2.cellAt (o := 1) rfl
  have F1 := hid (HI.out.find w2 ad cap hr)
  have HK2 := hid (hk0.trans hk)
  clear hk0 rd rc hr hk hsz
  go_wp2_with fail
  refine F1.out.mono ?_
  rintro e w3 ⟨hk3, hor⟩
  have HK3 := hid (HK2.out.trans hk3)
  have rd3 := rd2.keep hk3 (fun h => h)
  have rc3 := rc2.keep hk3 (fun h => h)
  clear F1 HK2 rd2 rc2 c1 hk3
  have d0 := rd3.cellAt (o := 0) rfl
  have d1 := rd3.cellAt (o := 1) rfl
  have d2 := rd3.cellAt (o := 2) rfl
  have d3 := rd3.cellAt (o := 3) rfl
  have d4 := rd3.cellAt (o := 4) rfl
  have d5 := rd3.cellAt (o := 5) rfl
  have k0 := rc3.cellAt (o := 0) rfl
  have k1 := rc3.cellAt (o := 1) rfl
  have k2 := rc3.cellAt (o := 2) rfl
  have k3 := rc3.cellAt (o := 3) rfl
  have k4 := rc3.cellAt (o := 4) rfl
  have HRD := hid rd3
  have HRC := hid rc3
  clear rd3 rc3
  rcases hor with ⟨k, rfl, hg⟩ | ⟨k, g, t, rfl, hg, rfl, hk0, hk1, q1⟩
  · rw [hgx] at hg; cases hg
  · obtain rfl : t = t0 := by rw [hgx] at hg; injection hg with hg; exact hg.symm
    have h1 := H1.out
    have h2 := H2.out
    have hss : ((tx s).size : Int) = (s.length : Int) := by rw [size_mk]
    have hsz : ((tx t).size : Int) = (t.length : Int) := by rw [size_mk]
    have hgl : (((kget A name).getD []).length : Int) = ((t.length : Nat) : Int) := by rw [hg]; rfl
    have hlt : t.length ≤ tot A := tot_get hg
    have h1q : ((t.length : Nat) : Int) < (s.length : Int) := by omega
    have e1 : decide (((tx s).size : Int) > ((tx t).size : Int)) = true := by rw [hss, hsz]; exact decide_eq_true h1q
    have e2 : decide (((tx t).size : Int) < ((tx s).size : Int)) = true := e1
    have e2n : decide ((tx t).size < (tx s).size) = true := decide_eq_true (by have := of_decide_eq_true e2; omega)
    have e3 : decide (rm ≥ 0) = true := decide_eq_true (by omega)
    have e4 : decide (0 ≤ rm) = true := e3
    have w0 : wrap64 (((tot A : Nat) : Int) - ((tx t).size : Int)) = ((tot A : Nat) : Int) - ((tx t).size : Int) := by rw [IntWalk.wrap64_in _ (by omega)]
    have w1 : wrap64 (((tot A : Nat) : Int) - ((tx t).size : Int) + ((tx s).size : Int)) = ((tot A : Nat) : Int) - ((t.length : Nat) : Int) + (s.length : Int) := by rw [IntWalk.wrap64_in _ (by omega)]; omega
    have v0 : IntKind.i64.wrap (((tot A : Nat) : Int) - ((tx t).size : Int)) = ((tot A : Nat) : Int) - ((tx t).size : Int) := by rw [IntKind.wrap_i64]; omega
    have v1 : IntKind.i64.wrap (((tot A : Nat) : Int) - ((tx t).size : Int) + ((tx s).size : Int)) = ((tot A : Nat) : Int) - ((t.length : Nat) : Int) + (s.length : Int) := by rw [IntKind.wrap_i64]; omega
    obtain ⟨bb, hbb⟩ : ∃ bb, bb = decide (((tot A : Nat) : Int) - ((t.length : Nat) : Int) + (s.length : Int) > rm) := ⟨_, rfl⟩
    have e5 : decide (((tot A : Nat) : Int) - ((t.length : Nat) : Int) + (s.length : Int) > rm) = bb := hbb.symm
    have e6 : decide (rm < ((tot A : Nat) : Int) - ((t.length : Nat) : Int) + (s.length : Int)) = bb := hbb.symm
    have HBB := hid hbb
    clear hbb
    have UC : Hid (∀ W, Keep (fun _ => False) w3 W → Calls Try.prog 43 #[.agg #[.slice a1 x1 c1, .slice a2 x2 c2, .int .i64 (n : Int), .bool false, .slice a3 b3 c3, .int .i64 rm]] W fun e w' => e = .returned (.int .i64 ((tot A : Nat) : Int)) ∧ (w'.cell? ⟨w.heap.size, 0, none⟩ = some (.slice a1 x1 c1) ∧ w'.cell? ⟨w.heap.size, 1, none⟩ = some (.slice a2 x2 c2) ∧ w'.cell? ⟨w.heap.size, 2, none⟩ = some (.int .i64 (n : Int)) ∧ w'.cell? ⟨w.heap.size, 3, none⟩ = some (.bool false) ∧ w'.cell? ⟨w.heap.size, 4, none⟩ = some (.slice a3 b3 c3) ∧ w'.cell? ⟨w.heap.size, 5, none⟩ = some (.int .i64 rm) ∧ w'.cell? ⟨w.heap.size + 1, 0, none⟩ = some (.int .i64 1) ∧ w'.cell? ⟨w.heap.size + 1, 3, none⟩ = some (.string (tx s))) ∧ Keep (fun _ => False) w w') := by
      intro W hW
      refine (HI.out.used W (HK3.out.trans hW)).mono fun e w' ⟨he, hk⟩ => ⟨he, ?_, (HK3.out.trans hW).trans hk⟩
      have r1 := HRD.out.keep (hW.trans hk) (fun h => h)
      have r2 := HRC.out.keep (hW.trans hk) (fun h => h)
      exact ⟨r1.cellAt rfl, r1.cellAt rfl, r1.cellAt rfl, r1.cellAt rfl, r1.cellAt rfl, r1.cellAt rfl, r2.cellAt rfl, r2.cellAt rfl⟩
    clear HI HRD HRC HK3 hss hsz
    generalize tx s = SX at *
    generalize tx t = TX at *
    go_wp2
    go_quiet (fail)
    go_wp2
    go_cut [67] from 68 to 95 (fun s9 wx => s9 = .bool bb ∧ Hid (wx.cell? ⟨w.heap.size, 0, none⟩ = some (.slice a1 x1 c1) ∧ wx.cell? ⟨w.heap.size, 1, none⟩ = some (.slice a2 x2 c2) ∧ wx.cell? ⟨w.heap.size, 2, none⟩ = some (.int .i64 (n : Int)) ∧ wx.cell? ⟨w.heap.size, 3, none⟩ = some (.bool false) ∧ wx.cell? ⟨w.heap.size, 4, none⟩ = some (.slice a3 b3 c3) ∧ wx.cell? ⟨w.heap.size, 5, none⟩ = some (.int .i64 rm) ∧ wx.cell? ⟨w.heap.size + 1, 0, none⟩ = some (.int .i64 1) ∧ wx.cell? ⟨w.heap.size + 1, 3, none⟩ = some (.string SX)) ∧ Hid (Keep (fun _ => False) w wx))
    case first =>
      have hS0 : (w3.drewN nq).cell? ⟨w.heap.size, 0, none⟩ = some (.slice a1 x1 c1) ∧ (w3.drewN nq).cell? ⟨w.heap.size, 1, none⟩ = some (.slice a2 x2 c2) ∧ (w3.drewN nq).cell? ⟨w.heap.size, 2, none⟩ = some (.int .i64 (n : Int)) ∧ (w3.drewN nq).cell? ⟨w.heap.size, 3, none⟩ = some (.bool false) ∧ (w3.drewN nq).cell? ⟨w.heap.size, 4, none⟩ = some (.slice a3 b3 c3) ∧ (w3.drewN nq).cell? ⟨w.heap.size, 5, none⟩ = some (.int .i64 rm) ∧ (w3.drewN nq).cell? ⟨w.heap.size + 1, 0, none⟩ = some (.int .i64 1) ∧ (w3.drewN nq).cell? ⟨w.heap.size + 1, 3, none⟩ = some (.string SX) := ⟨d0, d1, d2, d3, d4, d5, k0, k3⟩
      have hS1 : (w3.drewN nq).drew.cell? ⟨w.heap.size, 0, none⟩ = some (.slice a1 x1 c1) ∧ (w3.drewN nq).drew.cell? ⟨w.heap.size, 1, none⟩ = some (.slice a2 x2 c2) ∧ (w3.drewN nq).drew.cell? ⟨w.heap.size, 2, none⟩ = some (.int .i64 (n : Int)) ∧ (w3.drewN nq).drew.cell? ⟨w.heap.size, 3, none⟩ = some (.bool false) ∧ (w3.drewN nq).drew.cell? ⟨w.heap.size, 4, none⟩ = some (.slice a3 b3 c3) ∧ (w3.drewN nq).drew.cell? ⟨w.heap.size, 5, none⟩ = some (.int .i64 rm) ∧ (w3.drewN nq).drew.cell? ⟨w.heap.size + 1, 0, none⟩ = some (.int .i64 1) ∧ (w3.drewN nq).drew.cell? ⟨w.heap.size + 1, 3, none⟩ = some (.string SX) := ⟨d0, d1, d2, d3, d4, d5, k0, k3⟩
      have HKa : Hid (Keep (fun _ => False) w3 (w3.drewN nq)) := keep_drewN _ _
      have HKb : Hid (Keep (fun _ => False) w3 (w3.drewN (nq + 1))) := keep_drewN _ _
      clear HBB HA hlA hT hls hg k1 k2 k4
      go_region_held3 (fun w' => w'.cell? ⟨w.heap.size, 0, none⟩ = some (.slice a1 x1 c1) ∧ w'.cell? ⟨w.heap.size, 1, none⟩ = some (.slice a2 x2 c2) ∧ w'.cell? ⟨w.heap.size, 2, none⟩ = some (.int .i64 (n : Int)) ∧ w'.cell? ⟨w.heap.size, 3, none⟩ = some (.bool false) ∧ w'.cell? ⟨w.heap.size, 4, none⟩ = some (.slice a3 b3 c3) ∧ w'.cell? ⟨w.heap.size, 5, none⟩ = some (.int .i64 rm) ∧ w'.cell? ⟨w.heap.size + 1, 0, none⟩ = some (.int .i64 1) ∧ w'.cell? ⟨w.heap.size + 1, 3, none⟩ = some (.string SX)) (first | with_reducible assumption | with_reducible (exact hS0) | with_reducible (exact hS1)) (first | (go_at_call 43; with_reducible (refine (UC.out _ ?_).mono ?_); (first | exact HKa.out | exact HKb.out); rintro e w4 ⟨rfl, hf4, hk4⟩))
      all_goals (go_wp2_with fail; go_meet; exact ⟨rfl, hf4, hk4⟩)
    case rest =>
      obtain ⟨rfl, hf4, HK4⟩ := hcut
      clear UC d0 d1 d2 d3 d4 d5 k0 k3
      obtain ⟨d0, d1, d2, d3, d4, d5, k0, k3⟩ := hf4.out
      clear hf4
      cases bb with
      | true =>
        have h3 : rm < ((tot A : Nat) : Int) - ((t.length : Nat) : Int) + (s.length : Int) := of_decide_eq_true HBB.out.symm
        go_wp2
        go_ret
        exact ⟨ret_int (by rw [HA.out, if_pos ⟨by omega, by omega, by omega⟩]), HK4.out⟩
      | false =>
        have h3 : ¬ rm < ((tot A : Nat) : Int) - ((t.length : Nat) : Int) + (s.length : Int) := of_decide_eq_false HBB.out.symm
        go_wp2
        go_ret
        exact ⟨ret_int (by rw [HA.out, if_neg (by omega)]), HK4.out⟩
end Go.Proofs.Ytnlodlpjokkepab
namespace Go.Proofs.Ytnlodlpjokkepab
open Go.RowKit Go.Maps
set_option linter.unusedVariables false
set_option linter.unusedSimpArgs false

set_option maxRecDepth 100000 in
set_option maxHeartbeats 4000000 in
theorem wrong_1fc (a1 a2 a3 : Option Addr) (x1 c1 x2 c2 b3 c3 n : Nat) (rm : Int) (name tt s : Bs) (ln : Int) (A : List (Bs × Bs)) (w : World) (hI : WrIn w (.agg #[.slice a1 x1 c1, .slice a2 x2 c2, .int .i64 (n : Int), .bool false, .slice a3 b3 c3, .int .i64 rm]) A name) (hnm : nameOk name = true) (t0 : Bs) (hgx : kget A name = some t0) (hlA : A.length ≤ 7036874417) (hT : tot A ≤ 7036874417) (hls : s.length ≤ 70368744177) (h1 : ¬ (¬ ((t0.length : Nat) : Int) < (s.length : Int))) (h2 : ¬ 0 ≤ rm) (r : Int) (hr : r = (if 0 < (s.length : Int) - (((kget A name).getD []).length : Int) ∧ 0 ≤ rm ∧ rm < ((tot A : Nat) : Int) + ((s.length : Int) - (((kget A name).getD []).length : Int)) then 22 else 0)) :
    Calls Try.prog 59 #[.agg #[.slice a1 x1 c1, .slice a2 x2 c2, .int .i64 (n : Int), .bool false, .slice a3 b3 c3, .int .i64 rm], .agg #[.int .i64 1, .string (tx name), .string (tx tt), .string (tx s), .int .i64 ln]] w fun e w' => e = .returned (.int .i64 r) ∧ Keep (fun _ => False) w w' := by
  have HI := hid hI
  have HA := hid hr
  have H1 := hid h1
  have H2 := hid h2
  clear h2
  clear h1
  have NA := hid (fun W : World => rname_any (tx name) W)
  rw [tx_list, hnm] at NA
  clear hI hr hnm
  go_enter Try.func59, Try.ntmps59
  go_wp2_with fail
  refine (NA.out _).mono ?_
  rintro e w1 ⟨rfl, rfl⟩
  clear NA
  go_wp2_with fail
  have hsz : (w.alloc (.cells #[.slice a1 x1 c1, .slice a2 x2 c2, .int .i64 (n : Int), .bool false, .slice a3 b3 c3, .int .i64 rm] 30)).heap.size = w.heap.size + 1 := by simp
  have hk0 : Keep (fun _ => False) w ((w.alloc (.cells #[.slice a1 x1 c1, .slice a2 x2 c2, .int .i64 (n : Int), .bool false, .slice a3 b3 c3, .int .i64 rm] 30)).alloc (.cells #[.int .i64 1, .string (tx name), .string (tx tt), .string (tx s), .int .i64 ln] 77)) := (keep_alloc _ _ _).trans (keep_alloc _ _ _)
  have rd : RowIs ((w.alloc (.cells #[.slice a1 x1 c1, .slice a2 x2 c2, .int .i64 (n : Int), .bool false, .slice a3 b3 c3, .int .i64 rm] 30)).alloc (.cells #[.int .i64 1, .string (tx name), .string (tx tt), .string (tx s), .int .i64 ln] 77)) w.heap.size [.slice a1 x1 c1, .slice a2 x2 c2, .int .i64 (n : Int), .bool false, .slice a3 b3 c3, .int .i64 rm] 30 := RowIs.keep (heap_alloc_new _ _) (keep_alloc (fun _ => False) _ _) (fun h => h)
  have rc : RowIs ((w.alloc (.cells #[.slice a1 x1 c1, .slice a2 x2 c2, .int .i64 (n : Int), .bool false, .slice a3 b3 c3, .int .i64 rm] 30)).alloc (.cells #[.int .i64 1, .string (tx name), .string (tx tt), .string (tx s), .int .i64 ln] 77)) (w.heap.size + 1) [.int .i64 1, .string (tx name), .string (tx tt), .string (tx s), .int .i64 ln] 77 := by rw [← hsz]; exact heap_alloc_new _ _
  generalize (w.alloc (.cells #[.slice a1 x1 c1, .slice a2 x2 c2, .int .i64 (n : Int), .bool false, .slice a3 b3 c3, .int .i64 rm] 30)).alloc (.cells #[.int .i64 1, .string (tx name), .string (tx tt), .string (tx s), .int .i64 ln] 77) = w0 at *
  refine (HI.out.now w0 hk0).mono ?_
  rintro e w2 ⟨ad, cap, rfl, hr, hk⟩
  have rd2 := rd.keep hk (fun h => h)
  have rc2 := rc.keep hk (fun h => h)
  have c1 := rc2.cellAt (o := 1) rfl
  have F1 := hid (HI.out.find w2 ad cap hr)
  have HK2 := hid (hk0.trans hk)
  clear hk0 rd rc hr hk hsz
  go_wp2_with fail
  refine F1.out.mono ?_
  rintro e w3 ⟨hk3, hor⟩
  have HK3 := hid (HK2.out.trans hk3)
  have rd3 := rd2.keep hk3 (fun h => h)
  have rc3 := rc2.keep hk3 (fun h => h)
  clear F1 HK2 rd2 rc2 c1 hk3
  have d0 := rd3.cellAt (o := 0) rfl
  have d1 := rd3.cellAt (o := 1) rfl
  have d2 := rd3.cellAt (o := 2) rfl
  have d3 := rd3.cellAt (o := 3) rfl
  have d4 := rd3.cellAt (o := 4) rfl
  have d5 := rd3.cellAt (o := 5) rfl
  have k0 := rc3.cellAt (o := 0) rfl
  have k1 := rc3.cellAt (o := 1) rfl
  have k2 := rc3.cellAt (o := 2) rfl
  have k3 := rc3.cellAt (o := 3) rfl
  have k4 := rc3.cellAt (o := 4) rfl
  have HRD := hid rd3
  have HRC := hid rc3
  clear rd3 rc3
  rcases hor with ⟨k, rfl, hg⟩ | ⟨k, g, t, rfl, hg, rfl, hk0, hk1, q1⟩
  · rw [hgx] at hg; cases hg
  · obtain rfl : t = t0 := by rw [hgx] at hg; injection hg with hg; exact hg.symm
    have h1 := H1.out
    have h2 := H2.out
    have hss : ((tx s).size : Int) = (s.length : Int) := by rw [size_mk]
    have hsz : ((tx t).size : Int) = (t.length : Int) := by rw [size_mk]
    have hgl : (((kget A name).getD []).length : Int) = ((t.length : Nat) : Int) := by rw [hg]; rfl
    have hlt : t.length ≤ tot A := tot_get hg
    have h1q : ((t.length : Nat) : Int) < (s.length : Int) := by omega
    have e1 : decide (((tx s).size : Int) > ((tx t).size : Int)) = true := by rw [hss, hsz]; exact decide_eq_true h1q
    have e2 : decide (((tx t).size : Int) < ((tx s).size : Int)) = true := e1
    have e2n : decide ((tx t).size < (tx s).size) = true := decide_eq_true (by have := of_decide_eq_true e2; omega)
    have e3 : decide (rm ≥ 0) = false := decide_eq_false (by omega)
    have e4 : decide (0 ≤ rm) = false := e3
    clear HI HRD HRC
    clear hss hsz
    generalize tx s = SX at *
    generalize tx t = TX at *
    go_wp2
    go_quiet (fail)
    go_wp2
    go_quiet (fail)
    go_wp2
    go_ret
    exact ⟨ret_int (by rw [HA.out, if_neg (by omega)]), HK3.out.trans (keep_drewN _ _)⟩
end Go.Proofs.Ytnlodlpjokkepab
namespace Go.Proofs.Ytnlodlpjokkepab
open Go.RowKit Go.Maps
set_option linter.unusedVariables false
set_option linter.unusedSimpArgs false

set_option maxRecDepth 100000 in
set_option maxHeartbeats 4000000 in
theorem wrong_dead (a1 a2 a3 : Option Addr) (x1 c1 x2 c2 b3 c3 n : Nat) (rm kd : Int) (name tt s : ByteArray) (ln : Int) (w : World) :
    Calls Try.prog 59 #[.agg #[.slice a1 x1 c1, .slice a2 x2 c2, .int .i64 (n : Int), .bool true, .slice a3 b3 c3, .int .i64 rm], .agg #[.int .i64 kd, .string name, .string tt, .string s, .int .i64 ln]] w fun e w' => e = .returned (.int .i64 21) ∧ Keep (fun _ => False) w w' := by
  go_enter Try.func59, Try.ntmps59
  go_wp2
  go_ret
  exact ⟨rfl, (keep_alloc _ _ _).trans (keep_alloc _ _ _)⟩
set_option maxRecDepth 100000 in
set_option maxHeartbeats 4000000 in
theorem wrong_name (a1 a2 a3 : Option Addr) (x1 c1 x2 c2 b3 c3 n : Nat) (rm kd : Int) (name : Bs) (tt s : ByteArray) (ln : Int) (w : World) (hnm : nameOk name = false) :
    Calls Try.prog 59 #[.agg #[.slice a1 x1 c1, .slice a2 x2 c2, .int .i64 (n : Int), .bool false, .slice a3 b3 c3, .int .i64 rm], .agg #[.int .i64 kd, .string (tx name), .string tt, .string s, .int .i64 ln]] w fun e w' => e = .returned (.int .i64 20) ∧ Keep (fun _ => False) w w' := by
  have NA := hid (fun W : World => rname_any (tx name) W)
  rw [tx_list, hnm] at NA
  clear hnm
  go_enter Try.func59, Try.ntmps59
  go_wp2_with fail
  refine (NA.out _).mono ?_
  rintro e w1 ⟨rfl, rfl⟩
  clear NA
  go_wp2
  go_ret
  exact ⟨rfl, (keep_alloc _ _ _).trans (keep_alloc _ _ _)⟩
set_option maxRecDepth 100000 in
set_option maxHeartbeats 4000000 in
theorem wrong_to (a1 a2 a3 : Option Addr) (x1 c1 x2 c2 b3 c3 n : Nat) (rm : Int) (name tt : Bs) (s : ByteArray) (ln : Int) (w : World) (hnm : nameOk name = true) (hto : nameOk tt = false) :
    Calls Try.prog 59 #[.agg #[.slice a1 x1 c1, .slice a2 x2 c2, .int .i64 (n : Int), .bool false, .slice a3 b3 c3, .int .i64 rm], .agg #[.int .i64 2, .string (tx name), .string (tx tt), .string s, .int .i64 ln]] w fun e w' => e = .returned (.int .i64 20) ∧ Keep (fun _ => False) w w' := by
  have NA := hid (fun W : World => rname_any (tx name) W)
  rw [tx_list, hnm] at NA
  have NB := hid (fun W : World => rname_any (tx tt) W)
  rw [tx_list, hto] at NB
  clear hnm hto
  go_enter Try.func59, Try.ntmps59
  go_wp2_with fail
  refine (NA.out _).mono ?_
  rintro e w1 ⟨rfl, rfl⟩
  clear NA
  go_wp2_with fail
  refine (NB.out _).mono ?_
  rintro e w1 ⟨rfl, rfl⟩
  clear NB
  go_wp2
  go_ret
  exact ⟨rfl, (keep_alloc _ _ _).trans (keep_alloc _ _ _)⟩
theorem wrong_0n (a1 a2 a3 : Option Addr) (x1 c1 x2 c2 b3 c3 n : Nat) (rm : Int) (name tt s : Bs) (ln : Int) (A : List (Bs × Bs)) (w : World) (hI : WrIn w (.agg #[.slice a1 x1 c1, .slice a2 x2 c2, .int .i64 (n : Int), .bool false, .slice a3 b3 c3, .int .i64 rm]) A name) (hnm : nameOk name = true) (hgx : kget A name = none) (hlA : A.length ≤ 7036874417) (hT : tot A ≤ 7036874417) (hls : s.length ≤ 70368744177) (r : Int) (hr : r = (if 0 < (s.length : Int) ∧ 0 ≤ rm ∧ rm < ((tot A : Nat) : Int) + (s.length : Int) then 22 else 0)) :
    Calls Try.prog 59 #[.agg #[.slice a1 x1 c1, .slice a2 x2 c2, .int .i64 (n : Int), .bool false, .slice a3 b3 c3, .int .i64 rm], .agg #[.int .i64 0, .string (tx name), .string (tx tt), .string (tx s), .int .i64 ln]] w fun e w' => e = .returned (.int .i64 r) ∧ Keep (fun _ => False) w w' := by
  by_cases h1 : s = []
  · exact wrong_0na a1 a2 a3 x1 c1 x2 c2 b3 c3 n rm name tt s ln A w hI hnm hgx hlA hT hls h1 r hr
  · by_cases h2 : 0 ≤ rm
    · exact wrong_0nb a1 a2 a3 x1 c1 x2 c2 b3 c3 n rm name tt s ln A w hI hnm hgx hlA hT hls h1 h2 r hr
    · exact wrong_0nc a1 a2 a3 x1 c1 x2 c2 b3 c3 n rm name tt s ln A w hI hnm hgx hlA hT hls h1 h2 r hr
theorem wrong_0f (a1 a2 a3 : Option Addr) (x1 c1 x2 c2 b3 c3 n : Nat) (rm : Int) (name tt s : Bs) (ln : Int) (A : List (Bs × Bs)) (w : World) (hI : WrIn w (.agg #[.slice a1 x1 c1, .slice a2 x2 c2, .int .i64 (n : Int), .bool false, .slice a3 b3 c3, .int .i64 rm]) A name) (hnm : nameOk name = true) (t0 : Bs) (hgx : kget A name = some t0) (hlA : A.length ≤ 7036874417) (hT : tot A ≤ 7036874417) (hls : s.length ≤ 70368744177) (r : Int) (hr : r = (if 0 < (s.length : Int) ∧ 0 ≤ rm ∧ rm < ((tot A : Nat) : Int) + (s.length : Int) then 22 else 0)) :
    Calls Try.prog 59 #[.agg #[.slice a1 x1 c1, .slice a2 x2 c2, .int .i64 (n : Int), .bool false, .slice a3 b3 c3, .int .i64 rm], .agg #[.int .i64 0, .string (tx name), .string (tx tt), .string (tx s), .int .i64 ln]] w fun e w' => e = .returned (.int .i64 r) ∧ Keep (fun _ => False) w w' := by
  by_cases h1 : s = []
  · exact wrong_0fa a1 a2 a3 x1 c1 x2 c2 b3 c3 n rm name tt s ln A w hI hnm t0 hgx hlA hT hls h1 r hr
  · by_cases h2 : 0 ≤ rm
    · exact wrong_0fb a1 a2 a3 x1 c1 x2 c2 b3 c3 n rm name tt s ln A w hI hnm t0 hgx hlA hT hls h1 h2 r hr
    · exact wrong_0fc a1 a2 a3 x1 c1 x2 c2 b3 c3 n rm name tt s ln A w hI hnm t0 hgx hlA hT hls h1 h2 r hr
theorem wrong_1n (a1 a2 a3 : Option Addr) (x1 c1 x2 c2 b3 c3 n : Nat) (rm : Int) (name tt s : Bs) (ln : Int) (A : List (Bs × Bs)) (w : World) (hI : WrIn w (.agg #[.slice a1 x1 c1, .slice a2 x2 c2, .int .i64 (n : Int), .bool false, .slice a3 b3 c3, .int .i64 rm]) A name) (hnm : nameOk name = true) (hgx : kget A name = none) (hlA : A.length ≤ 7036874417) (hT : tot A ≤ 7036874417) (hls : s.length ≤ 70368744177) (r : Int) (hr : r = (if 0 < (s.length : Int) - (((kget A name).getD []).length : Int) ∧ 0 ≤ rm ∧ rm < ((tot A : Nat) : Int) + ((s.length : Int) - (((kget A name).getD []).length : Int)) then 22 else 0)) :
    Calls Try.prog 59 #[.agg #[.slice a1 x1 c1, .slice a2 x2 c2, .int .i64 (n : Int), .bool false, .slice a3 b3 c3, .int .i64 rm], .agg #[.int .i64 1, .string (tx name), .string (tx tt), .string (tx s), .int .i64 ln]] w fun e w' => e = .returned (.int .i64 r) ∧ Keep (fun _ => False) w w' := by
  by_cases h1 : ¬ ((0 : Nat) : Int) < (s.length : Int)
  · exact wrong_1na a1 a2 a3 x1 c1 x2 c2 b3 c3 n rm name tt s ln A w hI hnm hgx hlA hT hls h1 r hr
  · by_cases h2 : 0 ≤ rm
    · exact wrong_1nb a1 a2 a3 x1 c1 x2 c2 b3 c3 n rm name tt s ln A w hI hnm hgx hlA hT hls h1 h2 r hr
    · exact wrong_1nc a1 a2 a3 x1 c1 x2 c2 b3 c3 n rm name tt s ln A w hI hnm hgx hlA hT hls h1 h2 r hr
theorem wrong_1f (a1 a2 a3 : Option Addr) (x1 c1 x2 c2 b3 c3 n : Nat) (rm : Int) (name tt s : Bs) (ln : Int) (A : List (Bs × Bs)) (w : World) (hI : WrIn w (.agg #[.slice a1 x1 c1, .slice a2 x2 c2, .int .i64 (n : Int), .bool false, .slice a3 b3 c3, .int .i64 rm]) A name) (hnm : nameOk name = true) (t0 : Bs) (hgx : kget A name = some t0) (hlA : A.length ≤ 7036874417) (hT : tot A ≤ 7036874417) (hls : s.length ≤ 70368744177) (r : Int) (hr : r = (if 0 < (s.length : Int) - (((kget A name).getD []).length : Int) ∧ 0 ≤ rm ∧ rm < ((tot A : Nat) : Int) + ((s.length : Int) - (((kget A name).getD []).length : Int)) then 22 else 0)) :
    Calls Try.prog 59 #[.agg #[.slice a1 x1 c1, .slice a2 x2 c2, .int .i64 (n : Int), .bool false, .slice a3 b3 c3, .int .i64 rm], .agg #[.int .i64 1, .string (tx name), .string (tx tt), .string (tx s), .int .i64 ln]] w fun e w' => e = .returned (.int .i64 r) ∧ Keep (fun _ => False) w w' := by
  by_cases h1 : ¬ ((t0.length : Nat) : Int) < (s.length : Int)
  · exact wrong_1fa a1 a2 a3 x1 c1 x2 c2 b3 c3 n rm name tt s ln A w hI hnm t0 hgx hlA hT hls h1 r hr
  · by_cases h2 : 0 ≤ rm
    · exact wrong_1fb a1 a2 a3 x1 c1 x2 c2 b3 c3 n rm name tt s ln A w hI hnm t0 hgx hlA hT hls h1 h2 r hr
    · exact wrong_1fc a1 a2 a3 x1 c1 x2 c2 b3 c3 n rm name tt s ln A w hI hnm t0 hgx hlA hT hls h1 h2 r hr
/-- what hinders a change -/
theorem wrong_any (su wa fa : Value) (ms : List RC) (d : Ds) (rm : Int) (a : AC) (w : World) (hR : RefIs w su wa fa ms d) (hN : NowOk d) (hrm : RmOk d rm) (h0 : 0 ≤ a.kind) (h4 : a.kind ≤ 4) (hls : a.s.length ≤ 70368744177) :
    Calls Try.prog 59 #[rdV su wa d.n d.dn fa rm, rcV (rcA a)] w fun e w' => e = .returned (.int .i64 (wrgD d a)) ∧ Keep (fun _ => False) w w' := by
  obtain ⟨kind, name, tt, s, n, f0, f1, f2, pv⟩ := a
  simp only at h0 h4 hls
  obtain ⟨hT, hlA, _⟩ := hN.tot
  have hI := wr_in d.n d.dn rm hR hN name
  obtain ⟨a1, c1, rfl⟩ := row_form hR.sure
  obtain ⟨a2, c2, rfl⟩ := row_form hR.wait
  obtain ⟨a3, b3, c3, rfl⟩ := hR.fa
  have h5 : kind = 0 ∨ kind = 1 ∨ kind = 2 ∨ kind = 3 ∨ kind = 4 := by omega
  unfold rdV rcV rcA at *
  unfold wrgD
  simp only
  cases hdn : d.dn with
  | true =>
    rw [if_pos rfl]
    exact wrong_dead _ _ _ _ _ _ _ _ _ _ _ _ _ _ _ _ w
  | false =>
    rw [hdn] at hI
    rw [if_neg (by decide)]
    by_cases hnm : nameOk name = false
    · rw [if_pos (.inl hnm)]
      exact wrong_name _ _ _ _ _ _ _ _ _ _ _ _ name _ _ _ w hnm
    · have hnm' : nameOk name = true := by revert hnm; cases nameOk name <;> simp
      rcases h5 with rfl | rfl | rfl | rfl | rfl
      · rw [if_neg (by rintro (e | ⟨e, _⟩); (exact hnm e); cases e), if_pos rfl]
        have hf := fit_rm hrm (tot d.now) s.length
        cases hg : kget d.now name with
        | none => exact wrong_0n _ _ _ _ _ _ _ _ _ _ rm name tt s _ d.now w hI hnm' hg hlA hT hls _ (by by_cases hc : 0 < (s.length : Int) ∧ 0 ≤ rm ∧ rm < ((tot d.now : Nat) : Int) + (s.length : Int); (rw [if_pos hc, if_pos (hf.2 hc)]); rw [if_neg hc, if_neg (fun e => hc (hf.1 e))])
        | some t => exact wrong_0f _ _ _ _ _ _ _ _ _ _ rm name tt s _ d.now w hI hnm' t hg hlA hT hls _ (by by_cases hc : 0 < (s.length : Int) ∧ 0 ≤ rm ∧ rm < ((tot d.now : Nat) : Int) + (s.length : Int); (rw [if_pos hc, if_pos (hf.2 hc)]); rw [if_neg hc, if_neg (fun e => hc (hf.1 e))])
      · rw [if_neg (by rintro (e | ⟨e, _⟩); (exact hnm e); cases e), if_neg (by decide), if_pos rfl]
        have hf := fit_rm hrm (tot d.now) ((s.length : Int) - (((kget d.now name).getD []).length : Int))
        cases hg : kget d.now name with
        | none => exact wrong_1n _ _ _ _ _ _ _ _ _ _ rm name tt s _ d.now w hI hnm' hg hlA hT hls _ (by rw [hg] at hf ⊢; by_cases hc : 0 < (s.length : Int) - ((((none : Option Bs).getD []).length : Nat) : Int) ∧ 0 ≤ rm ∧ rm < ((tot d.now : Nat) : Int) + ((s.length : Int) - ((((none : Option Bs).getD []).length : Nat) : Int)); (rw [if_pos hc, if_pos (hf.2 hc)]); rw [if_neg hc, if_neg (fun e => hc (hf.1 e))])
        | some t => exact wrong_1f _ _ _ _ _ _ _ _ _ _ rm name tt s _ d.now w hI hnm' t hg hlA hT hls _ (by rw [hg] at hf ⊢; by_cases hc : 0 < (s.length : Int) - ((((some t).getD []).length : Nat) : Int) ∧ 0 ≤ rm ∧ rm < ((tot d.now : Nat) : Int) + ((s.length : Int) - ((((some t).getD []).length : Nat) : Int)); (rw [if_pos hc, if_pos (hf.2 hc)]); rw [if_neg hc, if_neg (fun e => hc (hf.1 e))])
      · by_cases hto : nameOk tt = false
        · rw [if_pos (.inr ⟨rfl, hto⟩)]
          exact wrong_to _ _ _ _ _ _ _ _ _ _ _ name tt _ _ w hnm' hto
        · have hto' : nameOk tt = true := by revert hto; cases nameOk tt <;> simp
          rw [if_neg (by rintro (e | ⟨_, e⟩); (exact hnm e); exact hto e), if_neg (by decide), if_neg (by decide)]
          exact wrong_2 _ _ _ _ _ _ _ _ _ _ rm name tt s _ d.now w hI hnm' hto' hlA hT hls _ (by rw [if_pos rfl])
      · rw [if_neg (by rintro (e | ⟨e, _⟩); (exact hnm e); cases e), if_neg (by decide), if_neg (by decide)]
        exact wrong_3 _ _ _ _ _ _ _ _ _ _ rm name tt s _ d.now w hI hnm' hlA hT hls _ (by rw [if_neg (by decide : ¬ (3 : Int) = 2), if_pos rfl])
      · rw [if_neg (by rintro (e | ⟨e, _⟩); (exact hnm e); cases e), if_neg (by decide), if_neg (by decide)]
        exact wrong_4 _ _ _ _ _ _ _ _ _ _ rm name tt s _ d.now w hI hnm' hlA hT hls _ (by rw [if_neg (by decide : ¬ (4 : Int) = 2), if_neg (by decide : ¬ (4 : Int) = 3)])
end Go.Proofs.Ytnlodlpjokkepab
