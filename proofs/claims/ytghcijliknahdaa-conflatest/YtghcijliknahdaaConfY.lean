/- The reference's May. -/
import Derived.Test.YtghcijliknahdaaConfA
namespace Go.Proofs.Ytghcijliknahdaa
open Go.RowKit Go.Maps
set_option linter.unusedVariables false
set_option linter.unusedSimpArgs false

theorem below_drew0 (w : World) (q : Nat) : Below w.heap.size w (World.drewN w q) := below_drewN (Below.refl _ _) q
set_option maxRecDepth 100000 in
set_option maxHeartbeats 2000000 in
theorem may_any (v : Value) (ms : List Int) (w : World) (hv : IntsI w v ms) (hl : ms.length ≤ 9223372036854775807) : Calls Try.prog 11 #[v] w fun e w' => e = .returned (.bool (areM ms)) ∧ Below w.heap.size w w' := by
  obtain ⟨ad, cap, rfl, hcl⟩ := hv.form
  have HCL := hid hcl
  have HRI : Hid (areM ms = (rises (-1) ms && decide (0 < ms.length))) := rfl
  generalize areM ms = R at *
  have KA0 : Hid (Below w.heap.size w w) := Below.refl _ _
  clear hv hcl
  go_enter Try.func11, Try.ntmps11
  go_wp2
  have HHL := hid hl
  clear hl
  go_loopw [3] (fun i wr => ∃ (k : Nat) (x : Int), k ≤ ms.length ∧ i = .int .i64 (k : Int) ∧ Hid (Below w.heap.size w wr) ∧ Hid (rises (-1) ms = rises x (ms.drop k) ∧ -1 ≤ x ∧ (k = 0 → x = -1) ∧ ∀ (h : k - 1 < ms.length), 0 < k → x = ms[k - 1]) ∧ Hid ((k : Int) ≤ x + 1 ∧ x ≤ 6)) (fun i _ => ms.length - (intOf i).toNat)
  case atStart => exact ⟨0, -1, Nat.zero_le _, rfl, KA0, ⟨rfl, by omega, fun _ => rfl, fun _ h => absurd h (by omega)⟩, by show _ ∧ _; omega⟩
  case round =>
    obtain ⟨k, x, hk, rfl, HH, HX, HX7⟩ := hrel
    by_cases hlt : k < ms.length
    · have hk0 : (0 : Int) ≤ (k : Int) := by omega
      have hk1 : (k : Int) < (ms.length : Int) := by omega
      have hk7 : k < 8 := by have := HX7.out; omega
      obtain ⟨b, off, rfl, hb, hc⟩ := HCL.out k hlt
      have hc1 := (HH.out.cell (p := ⟨b, off + k, none⟩) hb).trans hc
      clear hc hb
      have HRA := hid (rises_at (a := x) hlt)
      obtain ⟨x1, x2, x3, x4⟩ := HX.out
      have HYN : Hid (∀ y, y = ms[k] → -1 ≤ y → (∀ (h : k + 1 - 1 < ms.length), 0 < k + 1 → y = ms[k + 1 - 1])) := fun y hy _ h _ => by simp [hy]
      generalize hY : ms[k] = y at *
      by_cases a1 : y < 0
      · have HR : Hid (R = false) := by
          show _ = _
          have h9 : decide (x < y) = false := decide_eq_false (by omega)
          rw [HRI.out, x1, HRA.out, h9]; simp
        clear HRI HRA HX x1 x2 x3 x4 HYN hY HCL HX7
        go_wp2
        go_quiet (fail)
        go_wp2
        go_ret
        rw [HR.out]
        exact ⟨rfl, below_drewN HH.out _⟩
      have b1 : decide (y < 0) = false := decide_eq_false a1
      by_cases a2 : 6 < y
      · have HR : Hid (R = false) := by
          show _ = _
          have h9 : decide (y < 7) = false := decide_eq_false (by omega)
          rw [HRI.out, x1, HRA.out, h9]; simp
        have b2 : decide (6 < y) = true := decide_eq_true a2
        clear HRI HRA HX x1 x2 x3 x4 HYN hY HCL a1 a2
        go_wp2
        go_quiet (fail)
        go_wp2
        go_ret
        rw [HR.out]
        exact ⟨rfl, below_drewN HH.out _⟩
      have b2 : decide (6 < y) = false := decide_eq_false a2
      by_cases a3 : k = 0
      · have x3 := x3 a3
        have b3 : decide (0 < k) = false := decide_eq_false (by omega)
        have HR2 : Hid (rises (-1) ms = rises y (ms.drop (k + 1)) ∧ -1 ≤ y ∧ (k + 1 = 0 → y = -1) ∧ ∀ (h : k + 1 - 1 < ms.length), 0 < k + 1 → y = ms[k + 1 - 1]) := by
          refine ⟨?_, by omega, fun h => absurd h (by omega), HYN.out y rfl (by omega)⟩
          have h8 : decide (x < y) = true := decide_eq_true (by omega)
          have h9 : decide (y < 7) = true := decide_eq_true (by omega)
          rw [x1, HRA.out, h8, h9]; rfl
        have HY7 : Hid (((k + 1 : Nat) : Int) ≤ y + 1 ∧ y ≤ 6) := by show _ ∧ _; have := HX7.out; omega
        clear HRI HRA HX x1 x2 x3 x4 HYN hY HCL a1 a2 a3
        go_wp2
        go_quiet (fail)
        go_wp2
        exact ⟨⟨k + 1, y, by omega, by go_num, HH.out.trans ((below_drew0 _ _).mono HH.out.size), HR2, HY7⟩, by simp [intOf]; omega⟩
      · have hkp : (0 : Int) < (k : Int) := by omega
        obtain ⟨kk, hkk⟩ : ∃ kk, k - 1 = kk := ⟨_, rfl⟩
        have x5 := x4 (by omega) (by omega)
        simp only [hkk] at x5
        obtain ⟨b', off', he', hb', hc'⟩ := HCL.out kk (by omega)
        injection he' with he'
        injection he' with e1 e2
        subst e1 e2
        have hc2 := (HH.out.cell (p := ⟨b, off + kk, none⟩) hb').trans hc'
        rw [← x5] at hc2
        have hw1 : wrap64 ((k : Int) - 1) = (kk : Int) := by rw [IntWalk.wrap64_in _ (by omega)]; omega
        have hw2 : IntKind.i64.wrap ((k : Int) - 1) = (kk : Int) := by rw [IntKind.wrap_i64]; omega
        have hq0 : (0 : Int) ≤ (kk : Int) := by omega
        have hq1 : (kk : Int) < (ms.length : Int) := by omega
        clear x5 x4 hb' hc' hkk
        by_cases a4 : y ≤ x
        · have HR : Hid (R = false) := by
            show _ = _
            have h9 : decide (x < y) = false := decide_eq_false (by omega)
            rw [HRI.out, x1, HRA.out, h9]; simp
          have b4 : decide (y ≤ x) = true := decide_eq_true a4
          have b3 : decide (0 < k) = true := decide_eq_true (by omega)
          clear HRI HRA HX x1 x2 x3 HYN hY HCL a1 a2 a4 hkp a3
          go_wp2
          go_quiet (fail)
          go_wp2
          go_ret
          rw [HR.out]
          exact ⟨rfl, below_drewN HH.out _⟩
        · have HR2 : Hid (rises (-1) ms = rises y (ms.drop (k + 1)) ∧ -1 ≤ y ∧ (k + 1 = 0 → y = -1) ∧ ∀ (h : k + 1 - 1 < ms.length), 0 < k + 1 → y = ms[k + 1 - 1]) := by
            refine ⟨?_, by omega, fun h => absurd h (by omega), HYN.out y rfl (by omega)⟩
            have h8 : decide (x < y) = true := decide_eq_true (by omega)
            have h9 : decide (y < 7) = true := decide_eq_true (by omega)
            rw [x1, HRA.out, h8, h9]; rfl
          have HY7 : Hid (((k + 1 : Nat) : Int) ≤ y + 1 ∧ y ≤ 6) := by show _ ∧ _; have := HX7.out; omega
          have b4 : decide (y ≤ x) = false := decide_eq_false a4
          have b3 : decide (0 < k) = true := decide_eq_true (by omega)
          clear HRI HRA HX x1 x2 x3 HYN hY HCL a1 a2 a4 hkp a3
          go_wp2
          go_quiet (fail)
          go_wp2
          exact ⟨⟨k + 1, y, by omega, by go_num, HH.out.trans ((below_drew0 _ _).mono HH.out.size), HR2, HY7⟩, by simp [intOf]; omega⟩
    · have hk9 : k = ms.length := by omega
      subst hk9
      have hdl : decide ((ms.length : Int) < (ms.length : Int)) = false := decide_eq_false (by omega)
      obtain ⟨x1, _⟩ := HX.out
      rw [List.drop_length] at x1
      have HR3 : Hid (R = decide (0 < ms.length)) := by show _ = _; rw [HRI.out, x1]; rfl
      clear HRI HX x1 HCL
      go_wp2
      go_ret
      rw [HR3.out]
      exact ⟨rfl, HH.out⟩

end Go.Proofs.Ytghcijliknahdaa
