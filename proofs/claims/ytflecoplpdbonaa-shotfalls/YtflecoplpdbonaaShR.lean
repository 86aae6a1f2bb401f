/- The reference's Check of a snapshot. -/
import Derived.Test.YtflecoplpdbonaaJoined15
import Derived.Deep.QuietTactic
namespace Go.Proofs.Ytflecoplpdbonaa
open Go.RowKit Go.Maps
set_option linter.unusedVariables false
set_option linter.unusedSimpArgs false

theorem chk_one {s : Sh} (h : (wthn s.ix && wthn s.tm && areM s.ms) = false) : chkS s = 1 := by unfold chkS; rw [h]; rfl
set_option maxRecDepth 100000 in
set_option maxHeartbeats 4000000 in
theorem rcheck_any (v : Value) (s : Sh) (w : World) (hv : IntsI w v s.ms) (hl : s.ms.length ≤ 9223372036854775807) : Calls Try.prog 11 #[shV v s] w fun e w' => e = .returned (.int .i64 (chkS s)) ∧ Below w.heap.size w w' := by
  obtain ⟨ad, cap, rfl, hcl⟩ := hv.form
  have HCL := hid hcl
  have HK1 : Hid ((wthn s.ix && wthn s.tm && areM s.ms) = false → chkS s = 1) := chk_one
  have HK : Hid (chkS s = if (wthn s.ix && wthn s.tm && areM s.ms) = true then (if 131072 < s.da.size then 2 else 0) else 1) := rfl
  generalize chkS s = R at *
  unfold shV
  obtain ⟨ix, tm, ms, da⟩ := s
  simp only at *
  clear hv hcl
  have KA : Hid (∀ q, Below w.heap.size w (World.drewN (w.alloc (.cells #[.int .i64 ix, .int .i64 tm, .slice ad ms.length cap, .string da] 33)) q)) := fun q => below_drewN ((Below.refl _ _).alloc (Nat.le_refl _) _) q
  have KA0 : Hid (Below w.heap.size w (w.alloc (.cells #[.int .i64 ix, .int .i64 tm, .slice ad ms.length cap, .string da] 33))) := (Below.refl _ _).alloc (Nat.le_refl _) _
  have y0 := (srow w [.int .i64 ix, .int .i64 tm, .slice ad ms.length cap, .string da] 33).cellAt (o := 0) rfl
  have y1 := (srow w [.int .i64 ix, .int .i64 tm, .slice ad ms.length cap, .string da] 33).cellAt (o := 1) rfl
  have y2 := (srow w [.int .i64 ix, .int .i64 tm, .slice ad ms.length cap, .string da] 33).cellAt (o := 2) rfl
  have y3 := (srow w [.int .i64 ix, .int .i64 tm, .slice ad ms.length cap, .string da] 33).cellAt (o := 3) rfl
  go_enter Try.func11, Try.ntmps11
  by_cases g0 : ix < 0
  · have HR : Hid (R = 1) := HK1.out (by
      simp [wthn]; omega)
    clear HK HK1
    go_wp2
    go_ret
    rw [HR.out]
    exact ⟨rfl, KA0.out⟩
  by_cases g1 : 1099511627776 < ix
  · have HR : Hid (R = 1) := HK1.out (by
      simp [wthn]; omega)
    clear HK HK1
    go_wp2
    go_ret
    rw [HR.out]
    exact ⟨rfl, KA0.out⟩
  by_cases g2 : tm < 0
  · have HR : Hid (R = 1) := HK1.out (by
      simp [wthn]; omega)
    clear HK HK1
    go_wp2
    go_ret
    rw [HR.out]
    exact ⟨rfl, KA0.out⟩
  by_cases g3 : 1099511627776 < tm
  · have HR : Hid (R = 1) := HK1.out (by
      simp [wthn]; omega)
    clear HK HK1
    go_wp2
    go_ret
    rw [HR.out]
    exact ⟨rfl, KA0.out⟩
  by_cases g4 : (ms.length : Int) < 1
  · have HR : Hid (R = 1) := HK1.out (by
      have h9 : areM ms = false := by
        cases h : areM ms
        · rfl
        · have := areM_len h; omega
      rw [h9]; simp)
    clear HK HK1
    go_wp2
    go_ret
    rw [HR.out]
    exact ⟨rfl, KA0.out⟩
  by_cases g5 : 7 < (ms.length : Int)
  · have HR : Hid (R = 1) := HK1.out (by
      have h9 : areM ms = false := by
        cases h : areM ms
        · rfl
        · have := areM_len h; omega
      rw [h9]; simp)
    clear HK HK1
    go_wp2
    go_ret
    rw [HR.out]
    exact ⟨rfl, KA0.out⟩
  have hwt : (wthn ix && wthn tm) = true := by simp [wthn]; omega
  have HRI : Hid (R = if rises (-1) ms = true then (if 131072 < da.size then 2 else 0) else 1) := by
    show _ = _
    rw [HK.out, hwt, Bool.true_and]
    unfold areM
    rw [decide_eq_true (show 0 < ms.length by omega), Bool.and_true]
  have HL7 : Hid (ms.length ≤ 7) := by show _ ≤ _; omega
  clear HK HK1 hwt KA
  go_wp2
  clear g0 g1 g2 g3 g4 g5 hl
  go_loopw [3] (fun i wr => ∃ (k : Nat) (x : Int), k ≤ ms.length ∧ i = .int .i64 (k : Int) ∧ Hid (HeldS w w.heap.size [.int .i64 ix, .int .i64 tm, .slice ad ms.length cap, .string da] 33 wr) ∧ Hid (rises (-1) ms = rises x (ms.drop k) ∧ -1 ≤ x ∧ (k = 0 → x = -1) ∧ ∀ (h : k - 1 < ms.length), 0 < k → x = ms[k - 1])) (fun i _ => ms.length - (intOf i).toNat)
  case atStart => exact ⟨0, -1, Nat.zero_le _, rfl, ⟨srow w _ _, KA0.out⟩, rfl, by omega, fun _ => rfl, fun _ h => absurd h (by omega)⟩
  case round =>
    clear y0 y1 y2 y3
    obtain ⟨k, x, hk, rfl, HH, HX⟩ := hrel
    obtain ⟨z0, z1, z2, z3, _⟩ := HH.out.cel
    by_cases hlt : k < ms.length
    · have hk0 : (0 : Int) ≤ (k : Int) := by omega
      have hk1 : (k : Int) < (ms.length : Int) := by omega
      have hk7 : k < 7 := by have := HL7.out; omega
      obtain ⟨b, off, rfl, hb, hc⟩ := HCL.out k hlt
      have hc1 := (HH.out.2.cell (p := ⟨b, off + k, none⟩) hb).trans hc
      clear hc hb
      have HRA := hid (rises_at (a := x) hlt)
      obtain ⟨x1, x2, x3, x4⟩ := HX.out
      have HYN : Hid (∀ y, y = ms[k] → -1 ≤ y → (∀ (h : k + 1 - 1 < ms.length), 0 < k + 1 → y = ms[k + 1 - 1])) := fun y hy _ h _ => by simp [hy]
      generalize hY : ms[k] = y at *
      by_cases a1 : y < 0
      · have HR : Hid (R = 1) := by
          show _ = _
          have h9 : decide (x < y) = false := decide_eq_false (by omega)
          rw [HRI.out, x1, HRA.out, h9]; simp
        clear HRI HRA HX x1 x2 x3 x4 HYN hY HCL
        go_wp2
        go_quiet (fail)
        go_wp2
        go_ret
        rw [HR.out]
        exact ⟨rfl, below_drewN HH.out.2 _⟩
      have b1 : decide (y < 0) = false := decide_eq_false a1
      by_cases a2 : 6 < y
      · have HR : Hid (R = 1) := by
          show _ = _
          have h9 : decide (y < 7) = false := decide_eq_false (by omega)
          rw [HRI.out, x1, HRA.out, h9]; simp
        have b2 : decide (6 < y) = true := decide_eq_true a2
        clear HRI HRA HX x1 x2 x3 x4 HYN hY HCL a1 a2
        go_wp2
        go_quiet (fail)
        go_wp2
        go_ret
        rw [HR.out]
        exact ⟨rfl, below_drewN HH.out.2 _⟩
      have b2 : decide (6 < y) = false := decide_eq_false a2
      by_cases a3 : k = 0
      · have x3 := x3 a3
        have b3 : decide (0 < k) = false := decide_eq_false (by omega)
        have HR2 : Hid (rises (-1) ms = rises y (ms.drop (k + 1)) ∧ -1 ≤ y ∧ (k + 1 = 0 → y = -1) ∧ ∀ (h : k + 1 - 1 < ms.length), 0 < k + 1 → y = ms[k + 1 - 1]) := by
          refine ⟨?_, by omega, fun h => absurd h (by omega), HYN.out y rfl (by omega)⟩
          have h8 : decide (x < y) = true := decide_eq_true (by omega)
          have h9 : decide (y < 7) = true := decide_eq_true (by omega)
          rw [x1, HRA.out, h8, h9]; rfl
        clear HRI HRA HX x1 x2 x3 x4 HYN hY HCL a1 a2 a3
        go_wp2
        go_quiet (fail)
        go_wp2
        exact ⟨⟨k + 1, y, by omega, by go_num, HH.out.next (below_drewN (Below.refl _ _) _), HR2⟩, by simp [intOf]; omega⟩
      · have hkp : (0 : Int) < (k : Int) := by omega
        obtain ⟨kk, hkk⟩ : ∃ kk, k - 1 = kk := ⟨_, rfl⟩
        have x5 := x4 (by omega) (by omega)
        simp only [hkk] at x5
        obtain ⟨b', off', he', hb', hc'⟩ := HCL.out kk (by omega)
        injection he' with he'
        injection he' with e1 e2
        subst e1 e2
        have hc2 := (HH.out.2.cell (p := ⟨b, off + kk, none⟩) hb').trans hc'
        rw [← x5] at hc2
        have hw1 : wrap64 ((k : Int) - 1) = (kk : Int) := by rw [IntWalk.wrap64_in _ (by omega)]; omega
        have hw2 : IntKind.i64.wrap ((k : Int) - 1) = (kk : Int) := by rw [IntKind.wrap_i64]; omega
        have hq0 : (0 : Int) ≤ (kk : Int) := by omega
        have hq1 : (kk : Int) < (ms.length : Int) := by omega
        clear x5 x4 hb' hc' hkk
        by_cases a4 : y ≤ x
        · have HR : Hid (R = 1) := by
            show _ = _
            have h9 : decide (x < y) = false := decide_eq_false (by omega)
            rw [HRI.out, x1, HRA.out, h9]; simp
          have b4 : decide (y ≤ x) = true := decide_eq_true a4
          have b3 : decide (0 < k) = true := decide_eq_true (by omega)
          clear HRI HRA HX x1 x2 x3 HYN hY HCL a1 a2 a4 hkp a3
          go_wp2
          go_quiet (fail)
          go_wp2
          go_ret
          rw [HR.out]
          exact ⟨rfl, below_drewN HH.out.2 _⟩
        · have HR2 : Hid (rises (-1) ms = rises y (ms.drop (k + 1)) ∧ -1 ≤ y ∧ (k + 1 = 0 → y = -1) ∧ ∀ (h : k + 1 - 1 < ms.length), 0 < k + 1 → y = ms[k + 1 - 1]) := by
            refine ⟨?_, by omega, fun h => absurd h (by omega), HYN.out y rfl (by omega)⟩
            have h8 : decide (x < y) = true := decide_eq_true (by omega)
            have h9 : decide (y < 7) = true := decide_eq_true (by omega)
            rw [x1, HRA.out, h8, h9]; rfl
          have b4 : decide (y ≤ x) = false := decide_eq_false a4
          have b3 : decide (0 < k) = true := decide_eq_true (by omega)
          clear HRI HRA HX x1 x2 x3 HYN hY HCL a1 a2 a4 hkp a3
          go_wp2
          go_quiet (fail)
          go_wp2
          exact ⟨⟨k + 1, y, by omega, by go_num, HH.out.next (below_drewN (Below.refl _ _) _), HR2⟩, by simp [intOf]; omega⟩
    · have hk9 : k = ms.length := by omega
      subst hk9
      have hdl : decide ((ms.length : Int) < (ms.length : Int)) = false := decide_eq_false (by omega)
      obtain ⟨x1, _⟩ := HX.out
      rw [List.drop_length] at x1
      have HR3 : Hid (R = if 131072 < da.size then 2 else 0) := by show _ = _; rw [HRI.out, x1]; rfl
      clear HRI HX x1 HCL
      by_cases hd : 131072 < da.size
      · have hd' : (131072 : Int) < (da.size : Int) := by omega
        have HR : Hid (R = 2) := by show _ = _; rw [HR3.out, if_pos hd]
        clear HR3
        go_wp2
        go_ret
        rw [HR.out]
        exact ⟨rfl, HH.out.2⟩
      · have hd' : ¬ (131072 : Int) < (da.size : Int) := by omega
        have HR : Hid (R = 0) := by show _ = _; rw [HR3.out, if_neg hd]
        clear HR3
        go_wp2
        go_ret
        rw [HR.out]
        exact ⟨rfl, HH.out.2⟩
end Go.Proofs.Ytflecoplpdbonaa
