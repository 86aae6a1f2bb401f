/- Which versions may be, by the document. -/
import Derived.Test.YtbiapepalkdkdaaCvC
namespace Go.Proofs.Ytbiapepalkdkdaa
open Go.RowKit Go.Maps
set_option linter.unusedVariables false
set_option linter.unusedSimpArgs false

set_option maxRecDepth 100000 in
set_option maxHeartbeats 2000000 in
theorem rvcheck_any (pv : Value) (x : Vn) (w : World) (hp : PcI w pv x.ps) (hl : x.ps.length ≤ 8796093022208) (hs : ∀ p ∈ x.ps, p.id.size ≤ 140737488355328) (hu : x.sum.size ≤ 140737488355328) : Calls Try.prog 14 #[vnV (pv, x)] w fun e w' => e = .returned (.int .i64 (vnE x)) ∧ Below w.heap.size w w' := by
  obtain ⟨ad, cap, rfl, -⟩ := hp.form
  have HX : Hid (vnE x = if (decide (1 ≤ x.id) && decide (x.id ≤ 1099511627776) && (if x.ma = true then (decide (x.sz = 0) && decide (x.sum.size = 0) && decide (x.ps.length = 0)) else (pcsOk x.ps && decide (x.sz = pcsN x.ps) && decide (pcsN x.ps ≤ 1048576) && isDg x.sum))) = true then 0 else 1) := rfl
  have SR := hid (srow w [.int .i64 x.id, .bool x.ma, .int .i64 x.sz, .string x.sum, .slice ad x.ps.length cap] 36)
  have y0 := SR.out.cellAt (o := 0) rfl
  have y4 := SR.out.cellAt (o := 4) rfl
  have HB : Hid (∀ X, Below w.heap.size w (w.alloc X)) := fun X => below_al (Below.refl _ _) _
  have PI := hid (rpieces_any (.slice ad x.ps.length cap) x.ps _ (hp.next (HB.out (.cells #[.int .i64 x.id, .bool x.ma, .int .i64 x.sz, .string x.sum, .slice ad x.ps.length cap] 36))) hl hs)
  have DG := hid (fun W => rmay6_any x.sum W hu)
  have HE := hid (pcE_cases x.ps)
  clear hp hl hs hu
  unfold vnV
  generalize vnE x = R at *
  obtain ⟨id, ma, sz, sum, ps⟩ := x
  simp only at *
  generalize pcE ps = E at *
  generalize pcV ps = V at *
  generalize pcsOk ps = OK at *
  generalize pcsN ps = N at *
  generalize isDg sum = D at *
  generalize ps.length = n at *
  by_cases h0 : id < 1
  · have h0e : decide (id < 1) = true := decide_eq_true h0
    have hr : R = 1 := by rw [HX.out, decide_eq_false (by omega : ¬ 1 ≤ id)]; rfl
    subst hr
    clear HX h0 PI DG HE SR
    go_enter Try.func14, Try.ntmps14
    go_wp2
    go_ret
    exact ⟨rfl, HB.out _⟩
  · have h0e : decide (id < 1) = false := decide_eq_false h0
    by_cases h1 : 1099511627776 < id
    · have h1e : decide (1099511627776 < id) = true := decide_eq_true h1
      have hr : R = 1 := by rw [HX.out, decide_eq_false (by omega : ¬ id ≤ 1099511627776)]; simp
      subst hr
      clear HX h0 h1 PI DG HE SR
      go_enter Try.func14, Try.ntmps14
      go_wp2
      go_ret
      exact ⟨rfl, HB.out _⟩
    · have h1e : decide (1099511627776 < id) = false := decide_eq_false h1
      have HX2 : Hid (R = if (if ma = true then (decide (sz = 0) && decide (sum.size = 0) && decide (n = 0)) else (OK && decide (sz = N) && decide (N ≤ 1048576) && D)) = true then 0 else 1) := by
        show _ = _
        rw [HX.out, decide_eq_true (by omega : 1 ≤ id), decide_eq_true (by omega : id ≤ 1099511627776)]; rfl
      clear HX h0 h1
      go_enter Try.func14, Try.ntmps14
      go_wp2_with fail
      refine PI.out.mono ?_
      rintro e w1 ⟨rfl, b1⟩
      have R1 := hid (SR.out.keep (b1.keep (fun _ => False)) (fun h => h))
      have y1 := R1.out.cellAt (o := 1) rfl
      have y2 := R1.out.cellAt (o := 2) rfl
      have y3 := R1.out.cellAt (o := 3) rfl
      clear y0 y4
      have y4 := R1.out.cellAt (o := 4) rfl
      have HB1 := hid (below_on (HB.out _) b1)
      clear PI b1 SR HB R1 h0e h1e
      cases ma
      · have HX3 : Hid (R = if (OK && decide (sz = N) && decide (N ≤ 1048576) && D) = true then 0 else 1) := HX2.out
        clear HX2
        rcases HE.out with ⟨rfl, rfl, rfl⟩ | ⟨rfl, rfl, rfl⟩
        · clear HE
          by_cases g1 : sz = V
          · subst g1
            have g1e : (sz != sz) = false := by simp
            by_cases g2 : 1048576 < sz
            · have g2e : decide (1048576 < sz) = true := decide_eq_true g2
              have hr : R = 1 := by rw [HX3.out, decide_eq_false (by omega : ¬ sz ≤ 1048576)]; simp
              subst hr
              clear HX3 g2 DG
              go_wp2
              go_ret
              exact ⟨rfl, HB1.out⟩
            · have g2e : decide (1048576 < sz) = false := decide_eq_false g2
              have HX4 : Hid (R = if D = true then 0 else 1) := by show _ = _; rw [HX3.out, decide_eq_true rfl, decide_eq_true (by omega : sz ≤ 1048576)]; rfl
              clear HX3 g2
              go_wp2_with fail
              refine (DG.out _).mono ?_
              rintro e w2 ⟨rfl, b2⟩
              have HB2 := hid (below_on HB1.out b2)
              clear DG b2 HB1 y1 y2 y3 y4
              cases D
              · have hr : R = 1 := HX4.out
                subst hr
                clear HX4
                go_wp2
                go_ret
                exact ⟨rfl, HB2.out⟩
              · have hr : R = 0 := HX4.out
                subst hr
                clear HX4
                go_wp2
                go_ret
                exact ⟨rfl, HB2.out⟩
          · have g1e : (V != sz) = true := by rw [bne_iff_ne]; exact fun h => g1 h.symm
            have hr : R = 1 := by rw [HX3.out, decide_eq_false g1]; simp
            subst hr
            clear HX3 g1 DG
            go_wp2
            go_ret
            exact ⟨rfl, HB1.out⟩
        · have hr : R = 1 := by rw [HX3.out]; rfl
          subst hr
          clear HX3 HE DG
          go_wp2
          go_ret
          exact ⟨rfl, HB1.out⟩
      · have HX3 : Hid (R = if (decide (sz = 0) && decide (sum.size = 0) && decide (n = 0)) = true then 0 else 1) := HX2.out
        clear HX2 HE DG
        by_cases g0 : sz = 0
        · subst g0
          by_cases g1 : sum.size = 0
          · have hs := nil_str g1
            subst hs
            by_cases g2 : n = 0
            · subst g2
              have hr : R = 0 := HX3.out
              subst hr
              clear HX3 g1
              go_wp2
              go_ret
              exact ⟨rfl, HB1.out⟩
            · have hr : R = 1 := by rw [HX3.out, decide_eq_false g2]; simp
              subst hr
              have g3 : ((n : Int) != 0) = true := by rw [bne_iff_ne]; omega
              have g4 : (n == 0) = false := beq_eq_false_iff_ne.2 g2
              clear HX3 g1 g2
              go_wp2
              go_ret
              exact ⟨rfl, HB1.out⟩
          · have hr : R = 1 := by rw [HX3.out, decide_eq_false g1]; simp
            subst hr
            have g4 := str_ne g1
            clear HX3 g1
            go_wp2
            go_ret
            exact ⟨rfl, HB1.out⟩
        · have hr : R = 1 := by rw [HX3.out, decide_eq_false g0]; simp
          subst hr
          have g3 : (sz != 0) = true := by rw [bne_iff_ne]; exact g0
          clear HX3 g0
          go_wp2
          go_ret
          exact ⟨rfl, HB1.out⟩
end Go.Proofs.Ytbiapepalkdkdaa
