/- Which versions may be: both sides. -/
import Derived.Test.YtbiapepalkdkdaaCvB
namespace Go.Proofs.Ytbiapepalkdkdaa
open Go.RowKit Go.Maps
set_option linter.unusedVariables false
set_option linter.unusedSimpArgs false

theorem nil_str {s : ByteArray} (h : s.size = 0) : s = ⟨#[]⟩ := by
  apply ByteArray.ext
  exact Array.eq_empty_of_size_eq_zero h
theorem str_ne {s : ByteArray} (h : s.size ≠ 0) : ¬ s.toList = [] := by
  intro e
  rw [ByteArray.toList_eq s] at e
  have : s.data.toList.length = 0 := by rw [e]; rfl
  exact h (by simpa using this)
set_option maxRecDepth 100000 in
set_option maxHeartbeats 1000000 in
theorem isBare_any (pv : Value) (x : Vn) (w : World) (hp : PcI w pv x.ps) : Calls Try.prog 37 #[vnV (pv, x)] w fun e w' => e = .returned (.bool (vnBare x)) ∧ Below w.heap.size w w' := by
  obtain ⟨ad, cap, rfl, -⟩ := hp.form
  have HX : Hid (vnBare x = (decide (x.sz = 0) && decide (x.sum.size = 0) && decide (x.ps.length = 0))) := rfl
  have SR := srow w [.int .i64 x.id, .bool x.ma, .int .i64 x.sz, .string x.sum, .slice ad x.ps.length cap] 24
  have y2 := SR.cellAt (o := 2) rfl
  have y3 := SR.cellAt (o := 3) rfl
  have y4 := SR.cellAt (o := 4) rfl
  have HB : Hid (∀ X, Below w.heap.size w (w.alloc X)) := fun X => below_al (Below.refl _ _) _
  clear hp SR
  unfold vnV
  generalize vnBare x = R at *
  obtain ⟨id, ma, sz, sum, ps⟩ := x
  simp only at *
  generalize ps.length = n at *
  by_cases h0 : sz = 0
  · subst h0
    by_cases h1 : sum.size = 0
    · have hs := nil_str h1
      subst hs
      by_cases h2 : n = 0
      · subst h2
        have hr : R = true := HX.out
        subst hr
        clear HX h1
        go_enter Try.func37, Try.ntmps37
        go_wp2
        go_ret
        exact ⟨rfl, HB.out _⟩
      · have hr : R = false := by rw [HX.out, decide_eq_false h2]; rfl
        subst hr
        have h3 : ((n : Int) == 0) = false := beq_eq_false_iff_ne.2 (by omega)
        have h4 : (n == 0) = false := beq_eq_false_iff_ne.2 h2
        clear HX h1 h2
        go_enter Try.func37, Try.ntmps37
        go_wp2
        go_ret
        exact ⟨rfl, HB.out _⟩
    · have hr : R = false := by rw [HX.out, decide_eq_false h1]; rfl
      subst hr
      have h4 := str_ne h1
      clear HX h1
      go_enter Try.func37, Try.ntmps37
      go_wp2
      go_ret
      exact ⟨rfl, HB.out _⟩
  · have hr : R = false := by rw [HX.out, decide_eq_false h0]; rfl
    subst hr
    have h3 : (sz == 0) = false := beq_eq_false_iff_ne.2 h0
    clear HX h0
    go_enter Try.func37, Try.ntmps37
    go_wp2
    go_ret
    exact ⟨rfl, HB.out _⟩
theorem pcE_cases (l : List Pc) : (pcsOk l = true ∧ pcE l = 0 ∧ pcV l = pcsN l) ∨ (pcsOk l = false ∧ pcE l = 1 ∧ pcV l = 0) := by
  unfold pcE pcV
  cases h : pcsOk l
  · exact .inr ⟨rfl, rfl, rfl⟩
  · exact .inl ⟨rfl, rfl, rfl⟩
set_option maxRecDepth 100000 in
set_option maxHeartbeats 1000000 in
theorem isObject_any (pv : Value) (x : Vn) (w : World) (hp : PcI w pv x.ps) : Calls Try.prog 38 #[vnV (pv, x)] w fun e w' => e = .returned (.bool (vnObj x)) ∧ Below w.heap.size w w' := by
  obtain ⟨ad, cap, rfl, -⟩ := hp.form
  have HX : Hid (vnObj x = (pcsOk x.ps && decide (x.sz = pcsN x.ps) && decide (pcsN x.ps ≤ 1048576) && isDg x.sum)) := rfl
  have SR := hid (srow w [.int .i64 x.id, .bool x.ma, .int .i64 x.sz, .string x.sum, .slice ad x.ps.length cap] 24)
  have y4 := SR.out.cellAt (o := 4) rfl
  have HB : Hid (∀ X, Below w.heap.size w (w.alloc X)) := fun X => below_al (Below.refl _ _) _
  have PI := hid (pieces_any (.slice ad x.ps.length cap) x.ps _ (hp.next (HB.out (.cells #[.int .i64 x.id, .bool x.ma, .int .i64 x.sz, .string x.sum, .slice ad x.ps.length cap] 24))))
  have DG := hid (fun W => isDigest_any x.sum W)
  have HE := hid (pcE_cases x.ps)
  clear hp
  unfold vnV
  generalize vnObj x = R at *
  obtain ⟨id, ma, sz, sum, ps⟩ := x
  simp only at *
  generalize pcE ps = E at *
  generalize pcV ps = V at *
  generalize pcsOk ps = OK at *
  generalize pcsN ps = N at *
  generalize isDg sum = D at *
  generalize ps.length = n at *
  go_enter Try.func38, Try.ntmps38
  go_wp2_with fail
  refine PI.out.mono ?_
  rintro e w1 ⟨rfl, b1⟩
  have R1 := hid (SR.out.keep (b1.keep (fun _ => False)) (fun h => h))
  have y2 := R1.out.cellAt (o := 2) rfl
  have y3 := R1.out.cellAt (o := 3) rfl
  have HB1 := hid (below_on (HB.out _) b1)
  clear PI b1 y4 SR HB R1
  rcases HE.out with ⟨rfl, rfl, rfl⟩ | ⟨rfl, rfl, rfl⟩
  · clear HE
    by_cases h1 : sz = V
    · subst h1
      have h1e : (sz == sz) = true := beq_self_eq_true _
      by_cases h2 : sz ≤ 1048576
      · have h2e : decide (sz ≤ 1048576) = true := decide_eq_true h2
        have hr : R = D := by rw [HX.out, decide_eq_true rfl, h2e]; rfl
        subst hr
        clear HX h2
        go_wp2_with fail
        refine (DG.out _).mono ?_
        rintro e w2 ⟨rfl, b2⟩
        have HB2 := hid (below_on HB1.out b2)
        clear DG b2 HB1 y2 y3
        go_wp2
        go_ret
        exact ⟨rfl, HB2.out⟩
      · have h2e : decide (sz ≤ 1048576) = false := decide_eq_false h2
        have hr : R = false := by rw [HX.out, h2e]; simp
        subst hr
        clear HX h2 DG
        go_wp2
        go_ret
        exact ⟨rfl, HB1.out⟩
    · have h1e : (sz == V) = false := beq_eq_false_iff_ne.2 h1
      have hr : R = false := by rw [HX.out, decide_eq_false h1]; simp
      subst hr
      clear HX h1 DG
      go_wp2
      go_ret
      exact ⟨rfl, HB1.out⟩
  · have hr : R = false := by rw [HX.out]; rfl
    subst hr
    clear HX HE DG
    go_wp2
    go_ret
    exact ⟨rfl, HB1.out⟩
set_option maxRecDepth 100000 in
set_option maxHeartbeats 1000000 in
theorem vcheck_any (pv : Value) (x : Vn) (w : World) (hp : PcI w pv x.ps) : Calls Try.prog 13 #[vnV (pv, x)] w fun e w' => e = .returned (.int .i64 (vnE x)) ∧ Below w.heap.size w w' := by
  obtain ⟨ad, cap, rfl, -⟩ := hp.form
  have HX : Hid (vnE x = if (decide (1 ≤ x.id) && decide (x.id ≤ 1099511627776) && (if x.ma = true then vnBare x else vnObj x)) = true then 0 else 1) := rfl
  have SR := srow w [.int .i64 x.id, .bool x.ma, .int .i64 x.sz, .string x.sum, .slice ad x.ps.length cap] 24
  have y0 := SR.cellAt (o := 0) rfl
  have y1 := SR.cellAt (o := 1) rfl
  have y2 := SR.cellAt (o := 2) rfl
  have y3 := SR.cellAt (o := 3) rfl
  have y4 := SR.cellAt (o := 4) rfl
  have HB : Hid (∀ X, Below w.heap.size w (w.alloc X)) := fun X => below_al (Below.refl _ _) _
  have IB := hid (isBare_any (.slice ad x.ps.length cap) x _ (hp.next (HB.out (.cells #[.int .i64 x.id, .bool x.ma, .int .i64 x.sz, .string x.sum, .slice ad x.ps.length cap] 24))))
  have IO := hid (isObject_any (.slice ad x.ps.length cap) x _ (hp.next (HB.out (.cells #[.int .i64 x.id, .bool x.ma, .int .i64 x.sz, .string x.sum, .slice ad x.ps.length cap] 24))))
  clear hp SR
  unfold vnV at *
  generalize vnE x = R at *
  generalize vnBare x = BB at *
  generalize vnObj x = BO at *
  obtain ⟨id, ma, sz, sum, ps⟩ := x
  simp only at *
  generalize ps.length = n at *
  by_cases h0 : id < 1
  · have h0e : decide (id < 1) = true := decide_eq_true h0
    have hr : R = 1 := by rw [HX.out, decide_eq_false (by omega : ¬ 1 ≤ id)]; rfl
    subst hr
    clear HX h0 IB IO
    go_enter Try.func13, Try.ntmps13
    go_wp2
    go_ret
    exact ⟨rfl, HB.out _⟩
  · have h0e : decide (id < 1) = false := decide_eq_false h0
    by_cases h1 : 1099511627776 < id
    · have h1e : decide (1099511627776 < id) = true := decide_eq_true h1
      have hr : R = 1 := by rw [HX.out, decide_eq_false (by omega : ¬ id ≤ 1099511627776)]; simp
      subst hr
      clear HX h0 h1 IB IO
      go_enter Try.func13, Try.ntmps13
      go_wp2
      go_ret
      exact ⟨rfl, HB.out _⟩
    · have h1e : decide (1099511627776 < id) = false := decide_eq_false h1
      have HX2 : Hid (R = if (if ma = true then BB else BO) = true then 0 else 1) := by
        show _ = _
        rw [HX.out, decide_eq_true (by omega : 1 ≤ id), decide_eq_true (by omega : id ≤ 1099511627776)]; rfl
      clear HX h0 h1
      cases ma
      · have HX3 : Hid (R = if BO = true then 0 else 1) := HX2.out
        clear HX2 IB
        go_enter Try.func13, Try.ntmps13
        go_wp2_with fail
        refine IO.out.mono ?_
        rintro e w1 ⟨rfl, b1⟩
        have HB1 := hid (below_on (HB.out _) b1)
        clear IO b1 y0 y1 y2 y3 y4 HB
        cases BO
        · have hr : R = 1 := HX3.out
          subst hr
          clear HX3
          go_wp2
          go_ret
          exact ⟨rfl, HB1.out⟩
        · have hr : R = 0 := HX3.out
          subst hr
          clear HX3
          go_wp2
          go_ret
          exact ⟨rfl, HB1.out⟩
      · have HX3 : Hid (R = if BB = true then 0 else 1) := HX2.out
        clear HX2 IO
        have SR2 := hid (srow w [.int .i64 id, .bool true, .int .i64 sz, .string sum, .slice ad n cap] 24)
        go_enter Try.func13, Try.ntmps13
        go_wp2_with fail
        refine IB.out.mono ?_
        rintro e w1 ⟨rfl, b1⟩
        have HB1 := hid (below_on (HB.out _) b1)
        have z1 := (SR2.out.keep (b1.keep (fun _ => False)) (fun h => h)).cellAt (o := 1) rfl
        clear IB b1 y0 y1 y2 y3 y4 HB SR2
        cases BB
        · have hr : R = 1 := HX3.out
          subst hr
          clear HX3
          go_wp2
          go_ret
          exact ⟨rfl, HB1.out⟩
        · have hr : R = 0 := HX3.out
          subst hr
          clear HX3
          go_wp2
          go_ret
          exact ⟨rfl, HB1.out⟩
end Go.Proofs.Ytbiapepalkdkdaa
