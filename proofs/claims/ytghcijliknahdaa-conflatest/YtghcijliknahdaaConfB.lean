/- Majorities: the program's walks and the reference's. -/
import Derived.Test.YtghcijliknahdaaConfY
namespace Go.Proofs.Ytghcijliknahdaa
open Go.RowKit Go.Maps
set_option linter.unusedVariables false
set_option linter.unusedSimpArgs false

set_option maxRecDepth 100000 in
set_option maxHeartbeats 400000 in
theorem cmaj_any (v : Value) (l : List Int) (w : World) (hv : IntsI w v l) (hl : l.length ≤ 9223372036854775807) : Calls Try.prog 14 #[v] w fun e w' => e = .returned (.int .i64 (majC l : Nat)) ∧ w' = w := by
  obtain ⟨ad, cap, rfl, _⟩ := hv.form
  have C := hid (ccheck_any _ l w hv hl)
  have HM : Hid (majC l = if areM l = true then l.length / 2 + 1 else 0) := rfl
  have HL := hid (fun h : areM l = true => areM_len h)
  have HCK : Hid (chkC l = if areM l = true then 0 else 70) := rfl
  generalize chkC l = K at *
  generalize majC l = R at *
  generalize areM l = M at *
  clear hv
  go_enter Try.func14, Try.ntmps14
  cases M
  · have HR : Hid (R = 0) := HM.out
    have hkk : K = 70 := HCK.out
    subst hkk
    clear HM HL
    go_wp2_with fail
    refine C.out.mono ?_
    rintro e w1 ⟨rfl, rfl⟩
    
    go_wp2
    go_ret
    rw [HR.out]
    exact ⟨rfl, rfl⟩
  · have HR : Hid (R = l.length / 2 + 1) := HM.out
    have hl7 := (HL.out rfl).2
    have hq : ((l.length : Int)).tdiv 2 = ((l.length / 2 : Nat) : Int) := by rw [Int.tdiv_eq_ediv_of_nonneg (by omega)]; omega
    have hq2 : wrap64 (((l.length : Int)).tdiv 2) = ((l.length / 2 : Nat) : Int) := by rw [hq]; exact IntWalk.wrap64_in _ (by omega)
    have hq3 : wrap64 (((l.length / 2 : Nat) : Int) + 1) = ((l.length / 2 + 1 : Nat) : Int) := by rw [IntWalk.wrap64_in _ (by omega)]; omega
    have hkk : K = 0 := HCK.out
    subst hkk
    clear HM HL
    go_wp2_with fail
    refine C.out.mono ?_
    rintro e w1 ⟨rfl, rfl⟩
    
    go_wp2
    go_ret
    rw [HR.out]
    first | exact ⟨rfl, rfl⟩ | (refine ⟨?_, rfl⟩; first | (simp only [hq2, hq3]; done) | (rw [hq2, hq3]) | (rw [hq, hq3]) | (congr 2; omega))

set_option maxRecDepth 100000 in
set_option maxHeartbeats 400000 in
theorem rmaj_any (v : Value) (l : List Int) (w : World) (hv : IntsI w v l) (hl : l.length ≤ 9223372036854775807) : Calls Try.prog 15 #[v] w fun e w' => e = .returned (.int .i64 (majC l : Nat)) ∧ Below w.heap.size w w' := by
  obtain ⟨ad, cap, rfl, _⟩ := hv.form
  have C := hid (may_any _ l w hv hl)
  have HM : Hid (majC l = if areM l = true then l.length / 2 + 1 else 0) := rfl
  have HL := hid (fun h : areM l = true => areM_len h)
  have HCK : Hid True := trivial
  generalize majC l = R at *
  generalize areM l = M at *
  clear hv
  go_enter Try.func15, Try.ntmps15
  cases M
  · have HR : Hid (R = 0) := HM.out
    clear HCK
    clear HM HL
    go_wp2_with fail
    refine C.out.mono ?_
    rintro e w1 ⟨rfl, h1⟩
    have H1 := hid h1
    clear h1
    go_wp2
    go_ret
    rw [HR.out]
    exact ⟨rfl, H1.out⟩
  · have HR : Hid (R = l.length / 2 + 1) := HM.out
    have hl7 := (HL.out rfl).2
    have hq : ((l.length : Int)).tdiv 2 = ((l.length / 2 : Nat) : Int) := by rw [Int.tdiv_eq_ediv_of_nonneg (by omega)]; omega
    have hq2 : wrap64 (((l.length : Int)).tdiv 2) = ((l.length / 2 : Nat) : Int) := by rw [hq]; exact IntWalk.wrap64_in _ (by omega)
    have hq3 : wrap64 (((l.length / 2 : Nat) : Int) + 1) = ((l.length / 2 + 1 : Nat) : Int) := by rw [IntWalk.wrap64_in _ (by omega)]; omega
    clear HCK
    clear HM HL
    go_wp2_with fail
    refine C.out.mono ?_
    rintro e w1 ⟨rfl, h1⟩
    have H1 := hid h1
    clear h1
    go_wp2
    go_ret
    rw [HR.out]
    first | exact ⟨rfl, H1.out⟩ | (refine ⟨?_, H1.out⟩; first | (simp only [hq2, hq3]; done) | (rw [hq2, hq3]) | (rw [hq, hq3]) | (congr 2; omega))

end Go.Proofs.Ytghcijliknahdaa
