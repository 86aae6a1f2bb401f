/- Which configurations are neighbours: the program's walk and the reference's. -/
import Derived.Test.YtghcijliknahdabConfD
import Derived.Test.YtghcijliknahdabConfN
namespace Go.Proofs.Ytghcijliknahdab
open Go.RowKit Go.Maps
set_option linter.unusedVariables false
set_option linter.unusedSimpArgs false

set_option maxRecDepth 100000 in
set_option maxHeartbeats 1000000 in
theorem cnear_any (v v2 : Value) (a b : List Int) (w : World) (hv : IntsI w v a) (hv2 : IntsI w v2 b) (hl : a.length ≤ 9223372036854775807) (hl2 : b.length ≤ 9223372036854775807) : Calls Try.prog 8 #[v, v2] w fun e w' => e = .returned (.bool (nearC a b)) ∧ w' = w := by
  have C1 := hid (ccheck_any v a w hv hl)
  have C2 := hid (ccheck_any v2 b w hv2 hl2)
  have HK1 : Hid (chkC a = if areM a = true then 0 else 70) := rfl
  have HK2 : Hid (chkC b = if areM b = true then 0 else 70) := rfl
  have M1 : Hid (areM a = true → Calls Try.prog 15 #[v, v2] w fun e w' => e = .returned (.int .i64 (cmn b a : Nat)) ∧ w' = w) := fun h => common_any v v2 a b w hv hv2 (by have := areM_len h; omega) hl2
  have M2 : Hid (areM b = true → Calls Try.prog 15 #[v2, v] w fun e w' => e = .returned (.int .i64 (cmn a b : Nat)) ∧ w' = w) := fun h => common_any v2 v b a w hv2 hv (by have := areM_len h; omega) hl
  obtain ⟨ad, cap, rfl, _⟩ := hv.form
  obtain ⟨ad2, cap2, rfl, _⟩ := hv2.form
  have HN : Hid (nearC a b = (areM a && areM b && (if b.length < a.length then decide (a.length = b.length + 1) && decide (cmn a b = b.length) else decide (b.length = a.length + 1) && decide (cmn b a = a.length)))) := rfl
  generalize nearC a b = R at *
  clear hv hv2 hl hl2
  cases hA : areM a
  · have HR : Hid (R = false) := by show _ = _; rw [HN.out, hA]; rfl
    have hk : chkC a = 70 := by rw [HK1.out, hA]; rfl
    rw [hk] at C1
    clear HN HK1 HK2 C2 M1 M2 hA hk
    go_enter Try.func8, Try.ntmps8
    go_wp2_with fail
    refine C1.out.mono ?_
    rintro e w1 ⟨rfl, rfl⟩
    go_wp2
    go_ret
    rw [HR.out]
    exact ⟨rfl, rfl⟩
  have hk : chkC a = 0 := by rw [HK1.out, hA]; rfl
  rw [hk] at C1
  clear HK1 hk
  cases hB : areM b
  · have HR : Hid (R = false) := by show _ = _; rw [HN.out, hA, hB]; rfl
    have hk : chkC b = 70 := by rw [HK2.out, hB]; rfl
    rw [hk] at C2
    clear HN HK2 M1 M2 hA hB hk
    go_enter Try.func8, Try.ntmps8
    go_wp2_with fail
    refine C1.out.mono ?_
    rintro e w1 ⟨rfl, rfl⟩
    go_wp2_with fail
    refine C2.out.mono ?_
    rintro e w1 ⟨rfl, rfl⟩
    go_wp2
    go_ret
    rw [HR.out]
    exact ⟨rfl, rfl⟩
  have hk : chkC b = 0 := by rw [HK2.out, hB]; rfl
  rw [hk] at C2
  have hla := areM_len hA
  have hlb := areM_len hB
  have N1 := hid (M1.out hA)
  have N2 := hid (M2.out hB)
  rw [hA, hB, Bool.true_and, Bool.true_and] at HN
  clear HK2 M1 M2 hA hB hk
  have hwa : wrap64 ((a.length : Int) + 1) = (a.length : Int) + 1 := IntWalk.wrap64_in _ (by omega)
  have hwb : wrap64 ((b.length : Int) + 1) = (b.length : Int) + 1 := IntWalk.wrap64_in _ (by omega)
  generalize cmn b a = X at *
  generalize cmn a b = Y at *
  by_cases hlt : b.length < a.length
  · rw [if_pos hlt] at HN
    have hd : decide (b.length < a.length) = true := decide_eq_true hlt
    have hd2 : decide ((b.length : Int) < (a.length : Int)) = true := decide_eq_true (by omega)
    by_cases h1 : a.length = b.length + 1
    · have hq : ((a.length : Int) == (b.length : Int) + 1) = true := by rw [beq_iff_eq]; omega
      have HR : Hid (R = ((Y : Int) == (b.length : Int))) := by
        show _ = _
        rw [HN.out, decide_eq_true h1, Bool.true_and]
        by_cases h2 : Y = b.length
        · rw [decide_eq_true h2, h2]; simp
        · rw [decide_eq_false h2]; symm; rw [beq_eq_false_iff_ne]; omega
      clear HN h1 hlt hla hlb N1
      go_enter Try.func8, Try.ntmps8
      go_wp2_with fail
      refine C1.out.mono ?_
      rintro e w1 ⟨rfl, rfl⟩
      go_wp2_with fail
      refine C2.out.mono ?_
      rintro e w1 ⟨rfl, rfl⟩
      go_wp2_with fail
      refine N2.out.mono ?_
      rintro e w1 ⟨rfl, rfl⟩
      go_wp2
      go_ret
      rw [HR.out]
      exact ⟨rfl, rfl⟩
    · have hq : ((a.length : Int) == (b.length : Int) + 1) = false := by rw [beq_eq_false_iff_ne]; omega
      have HR : Hid (R = false) := by show _ = _; rw [HN.out, decide_eq_false h1]; rfl
      clear HN h1 hlt hla hlb N1 N2
      go_enter Try.func8, Try.ntmps8
      go_wp2_with fail
      refine C1.out.mono ?_
      rintro e w1 ⟨rfl, rfl⟩
      go_wp2_with fail
      refine C2.out.mono ?_
      rintro e w1 ⟨rfl, rfl⟩
      go_wp2
      go_ret
      rw [HR.out]
      exact ⟨rfl, rfl⟩
  · rw [if_neg hlt] at HN
    have hd : decide (b.length < a.length) = false := decide_eq_false hlt
    have hd2 : decide ((b.length : Int) < (a.length : Int)) = false := decide_eq_false (by omega)
    by_cases h1 : b.length = a.length + 1
    · have hq : ((b.length : Int) == (a.length : Int) + 1) = true := by rw [beq_iff_eq]; omega
      have HR : Hid (R = ((X : Int) == (a.length : Int))) := by
        show _ = _
        rw [HN.out, decide_eq_true h1, Bool.true_and]
        by_cases h2 : X = a.length
        · rw [decide_eq_true h2, h2]; simp
        · rw [decide_eq_false h2]; symm; rw [beq_eq_false_iff_ne]; omega
      clear HN h1 hlt hla hlb N2
      go_enter Try.func8, Try.ntmps8
      go_wp2_with fail
      refine C1.out.mono ?_
      rintro e w1 ⟨rfl, rfl⟩
      go_wp2_with fail
      refine C2.out.mono ?_
      rintro e w1 ⟨rfl, rfl⟩
      go_wp2_with fail
      refine N1.out.mono ?_
      rintro e w1 ⟨rfl, rfl⟩
      go_wp2
      go_ret
      rw [HR.out]
      exact ⟨rfl, rfl⟩
    · have hq : ((b.length : Int) == (a.length : Int) + 1) = false := by rw [beq_eq_false_iff_ne]; omega
      have HR : Hid (R = false) := by show _ = _; rw [HN.out, decide_eq_false h1]; rfl
      clear HN h1 hlt hla hlb N1 N2
      go_enter Try.func8, Try.ntmps8
      go_wp2_with fail
      refine C1.out.mono ?_
      rintro e w1 ⟨rfl, rfl⟩
      go_wp2_with fail
      refine C2.out.mono ?_
      rintro e w1 ⟨rfl, rfl⟩
      go_wp2
      go_ret
      rw [HR.out]
      exact ⟨rfl, rfl⟩
end Go.Proofs.Ytghcijliknahdab
