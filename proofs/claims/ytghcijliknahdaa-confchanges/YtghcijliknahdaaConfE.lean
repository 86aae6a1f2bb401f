/- Which configurations are neighbours: the program's walk and the reference's. -/
import Derived.Test.YtghcijliknahdaaConfD
import Derived.Test.YtghcijliknahdaaConfN
namespace Go.Proofs.Ytghcijliknahdaa
open Go.RowKit Go.Maps
set_option linter.unusedVariables false
set_option linter.unusedSimpArgs false

set_option maxRecDepth 100000 in
set_option maxHeartbeats 1000000 in
theorem cnear_any (v v2 : Value) (a b : List Int) (w : World) (hv : IntsI w v a) (hv2 : IntsI w v2 b) (hl : a.length ≤ 9223372036854775807) (hl2 : b.length ≤ 9223372036854775807) : Calls Try.prog 23 #[v, v2] w fun e w' => e = .returned (.bool (nearC a b)) ∧ w' = w := by
  have C1 := hid (ccheck_any v a w hv hl)
  have C2 := hid (ccheck_any v2 b w hv2 hl2)
  have HK1 : Hid (chkC a = if areM a = true then 0 else 70) := rfl
  have HK2 : Hid (chkC b = if areM b = true then 0 else 70) := rfl
  have M1 : Hid (areM a = true → Calls Try.prog 34 #[v, v2] w fun e w' => e = .returned (.int .i64 (cmn b a : Nat)) ∧ w' = w) := fun h => common_any v v2 a b w hv hv2 (by have := areM_len h; omega) hl2
  have M2 : Hid (areM b = true → Calls Try.prog 34 #[v2, v] w fun e w' => e = .returned (.int .i64 (cmn a b : Nat)) ∧ w' = w) := fun h => common_any v2 v b a w hv2 hv (by have := areM_len h; omega) hl
  obtain ⟨ad, cap, rfl, _⟩ := hv.form
  obtain ⟨ad2, cap2, rfl, _⟩ := hv2.form
  have HN : Hid (nearC a b = (areM a && areM b && (if b.length < a.length then decide (a.length = b.length + 1) && decide (cmn a b = b.length) else decide (b.length = a.length + 1) && decide (cmn b a = a.length)))) := rfl
  generalize nearC a b = R at *
  clear hv hv2 hl hl2
  cases hA : areM a
  · have HR : Hid (R = false) := by show _ = _; rw [HN.out, hA]; rfl
    have hk : chkC a = 70 := by rw [HK1.out, hA]; rfl
    rw [hk] at C1
    clear HN HK1 HK2 C2 M1 M2 hA hk
    go_enter Try.func23, Try.ntmps23
    go_wp2_with fail
    refine C1.out.mono ?_
    rintro e w1 ⟨rfl, rfl⟩
    go_wp2
    go_ret
    rw [HR.out]
    exact ⟨rfl, rfl⟩
  have hk : chkC a = 0 := by rw [HK1.out, hA]; rfl
  rw [hk] at C1
  clear HK1 hk
  cases hB : areM b
  · have HR : Hid (R = false) := by show _ = _; rw [HN.out, hA, hB]; rfl
    have hk : chkC b = 70 := by rw [HK2.out, hB]; rfl
    rw [hk] at C2
    clear HN HK2 M1 M2 hA hB hk
    go_enter Try.func23, Try.ntmps23
    go_wp2_with fail
    refine C1.out.mono ?_
    rintro e w1 ⟨rfl, rfl⟩
    go_wp2_with fail
    refine C2.out.mono ?_
    rintro e w1 ⟨rfl, rfl⟩
    go_wp2
    go_ret
    rw [HR.out]
    exact ⟨rfl, rfl⟩
  have hk : chkC b = 0 := by rw [HK2.out, hB]; rfl
  rw [hk] at C2
  have hla := areM_len hA
  have hlb := areM_len hB
  have N1 := hid (M1.out hA)
  have N2 := hid (M2.out hB)
  rw [hA, hB, Bool.true_and, Bool.true_and] at HN
  clear HK2 M1 M2 hA hB hk
  have hwa : wrap64 ((a.length : Int) + 1) = (a.length : Int) + 1 := IntWalk.wrap64_in _ (by omega)
  have hwb : wrap64 ((b.length : Int) + 1) = (b.length : Int) + 1 := IntWalk.wrap64_in _ (by omega)
  generalize cmn b a = X at *
  generalize cmn a b = Y at *
  by_cases hlt : b.length < a.length
  · rw [if_pos hlt] at HN
    have hd : decide (b.length < a.length) = true := decide_eq_true hlt
    have hd2 : decide ((b.length : Int) < (a.length : Int)) = true := decide_eq_true (by omega)
    by_cases h1 : a.length = b.length + 1
    · have hq : ((a.length : Int) == (b.length : Int) + 1) = true := by rw [beq_iff_eq]; omega
      have HR : Hid (R = ((Y : Int) == (b.length : Int))) := by
        show _ = _
        rw [HN.out, decide_eq_true h1, Bool.true_and]
        by_cases h2 : Y = b.length
        · rw [decide_eq_true h2, h2]; simp
        · rw [decide_eq_false h2]; symm; rw [beq_eq_false_iff_ne]; omega
      clear HN h1 hlt hla hlb N1
      go_enter Try.func23, Try.ntmps23
      go_wp2_with fail
      refine C1.out.mono ?_
      rintro e w1 ⟨rfl, rfl⟩
      go_wp2_with fail
      refine C2.out.mono ?_
      rintro e w1 ⟨rfl, rfl⟩
      go_wp2_with fail
      refine N2.out.mono ?_
      rintro e w1 ⟨rfl, rfl⟩
      go_wp2
      go_ret
      rw [HR.out]
      exact ⟨rfl, rfl⟩
    · have hq : ((a.length : Int) == (b.length : Int) + 1) = false := by rw [beq_eq_false_iff_ne]; omega
      have HR : Hid (R = false) := by show _ = _; rw [HN.out, decide_eq_false h1]; rfl
      clear HN h1 hlt hla hlb N1 N2
      go_enter Try.func23, Try.ntmps23
      go_wp2_with fail
      refine C1.out.mono ?_
      rintro e w1 ⟨rfl, rfl⟩
      go_wp2_with fail
      refine C2.out.mono ?_
      rintro e w1 ⟨rfl, rfl⟩
      go_wp2
      go_ret
      rw [HR.out]
      exact ⟨rfl, rfl⟩
  · rw [if_neg hlt] at HN
    have hd : decide (b.length < a.length) = false := decide_eq_false hlt
    have hd2 : decide ((b.length : Int) < (a.length : Int)) = false := decide_eq_false (by omega)
    by_cases h1 : b.length = a.length + 1
    · have hq : ((b.length : Int) == (a.length : Int) + 1) = true := by rw [beq_iff_eq]; omega
      have HR : Hid (R = ((X : Int) == (a.length : Int))) := by
        show _ = _
        rw [HN.out, decide_eq_true h1, Bool.true_and]
        by_cases h2 : X = a.length
        · rw [decide_eq_true h2, h2]; simp
        · rw [decide_eq_false h2]; symm; rw [beq_eq_false_iff_ne]; omega
      clear HN h1 hlt hla hlb N2
      go_enter Try.func23, Try.ntmps23
      go_wp2_with fail
      refine C1.out.mono ?_
      rintro e w1 ⟨rfl, rfl⟩
      go_wp2_with fail
      refine C2.out.mono ?_
      rintro e w1 ⟨rfl, rfl⟩
      go_wp2_with fail
      refine N1.out.mono ?_
      rintro e w1 ⟨rfl, rfl⟩
      go_wp2
      go_ret
      rw [HR.out]
      exact ⟨rfl, rfl⟩
    · have hq : ((b.length : Int) == (a.length : Int) + 1) = false := by rw [beq_eq_false_iff_ne]; omega
      have HR : Hid (R = false) := by show _ = _; rw [HN.out, decide_eq_false h1]; rfl
      clear HN h1 hlt hla hlb N1 N2
      go_enter Try.func23, Try.ntmps23
      go_wp2_with fail
      refine C1.out.mono ?_
      rintro e w1 ⟨rfl, rfl⟩
      go_wp2_with fail
      refine C2.out.mono ?_
      rintro e w1 ⟨rfl, rfl⟩
      go_wp2
      go_ret
      rw [HR.out]
      exact ⟨rfl, rfl⟩
set_option maxRecDepth 100000 in
set_option maxHeartbeats 1000000 in
theorem rnear_any (v v2 : Value) (a b : List Int) (w : World) (hv : IntsI w v a) (hv2 : IntsI w v2 b) (hl : a.length ≤ 9223372036854775807) (hl2 : b.length ≤ 9223372036854775807) : Calls Try.prog 24 #[v, v2] w fun e w' => e = .returned (.bool (nearR a b)) ∧ Below w.heap.size w w' := by
  have C1 := hid (may_any v a w hv hl)
  have C2 : Hid (∀ W, Below w.heap.size w W → Calls Try.prog 11 #[v2] W fun e w' => e = .returned (.bool (areM b)) ∧ Below w.heap.size w w') := fun W hW => (may_any v2 b W (hv2.next hW) hl2).mono fun e w' ⟨he, hb⟩ => ⟨he, below_on hW hb⟩
  have S1 : Hid (∀ x W, Below w.heap.size w W → Calls Try.prog 13 #[v, .int .i64 x] W fun e w' => e = .returned (.bool (hasI x a)) ∧ w' = W) := fun x W hW => rhas_any v a x W (hv.next hW) hl
  have S2 : Hid (∀ x W, Below w.heap.size w W → Calls Try.prog 13 #[v2, .int .i64 x] W fun e w' => e = .returned (.bool (hasI x b)) ∧ w' = W) := fun x W hW => rhas_any v2 b x W (hv2.next hW) hl2
  obtain ⟨ad, cap, rfl, _⟩ := hv.form
  obtain ⟨ad2, cap2, rfl, _⟩ := hv2.form
  have HN : Hid (nearR a b = (areM a && areM b && decide (moreC a b + moreC b a = 1))) := rfl
  generalize nearR a b = R at *
  clear hv hv2 hl hl2
  cases hA : areM a
  · have HR : Hid (R = false) := by show _ = _; rw [HN.out, hA]; rfl
    rw [hA] at C1
    clear HN C2 S1 S2 hA
    go_enter Try.func24, Try.ntmps24
    go_wp2_with fail
    refine C1.out.mono ?_
    rintro e w1 ⟨rfl, h1⟩
    have H1 := hid h1
    clear h1
    go_wp2
    go_ret
    rw [HR.out]
    exact ⟨rfl, H1.out⟩
  rw [hA] at C1
  cases hB : areM b
  · have HR : Hid (R = false) := by show _ = _; rw [HN.out, hA, hB]; rfl
    rw [hB] at C2
    clear HN S1 S2 hA hB
    go_enter Try.func24, Try.ntmps24
    go_wp2_with fail
    refine C1.out.mono ?_
    rintro e w1 ⟨rfl, h1⟩
    have H1 := hid h1
    clear h1
    go_wp2_with fail
    refine (C2.out _ H1.out).mono ?_
    rintro e w2 ⟨rfl, h1⟩
    have H2 := hid h1
    clear h1
    go_wp2
    go_ret
    rw [HR.out]
    exact ⟨rfl, H2.out⟩
  rw [hB] at C2
  rw [hA, hB, Bool.true_and, Bool.true_and] at HN
  have HP : Hid (moreC a b = 0 + cntF (fun n => hasI n a && !hasI n b) ((nodesF 7 0).drop 0) ∧ moreC b a = 0 + cntF (fun n => hasI n b && !hasI n a) ((nodesF 7 0).drop 0)) := ⟨by rw [Nat.zero_add]; rfl, by rw [Nat.zero_add]; rfl⟩
  generalize moreC a b = P1 at *
  generalize moreC b a = P2 at *
  clear hA hB
  go_enter Try.func24, Try.ntmps24
  go_wp2_with fail
  refine C1.out.mono ?_
  rintro e w1 ⟨rfl, h1⟩
  have H1 := hid h1
  clear h1
  go_wp2_with fail
  refine (C2.out _ H1.out).mono ?_
  rintro e w2 ⟨rfl, h1⟩
  have H2 := hid h1
  clear h1 H1 C1 C2
  go_wp2
  go_loopw [5, 6, 7] (fun c d i wr => ∃ (k p q : Nat), k ≤ 7 ∧ c = .int .i64 (p : Int) ∧ d = .int .i64 (q : Int) ∧ i = .int .i64 (k : Int) ∧ Hid (p ≤ k ∧ q ≤ k) ∧ w2 = wr ∧ Hid (P1 = p + cntF (fun n => hasI n a && !hasI n b) ((nodesF 7 0).drop k) ∧ P2 = q + cntF (fun n => hasI n b && !hasI n a) ((nodesF 7 0).drop k))) (fun _ _ i _ => 7 - (intOf i).toNat)
  case atStart => exact ⟨0, 0, 0, by omega, rfl, rfl, rfl, ⟨Nat.le_refl _, Nat.le_refl _⟩, rfl, HP⟩
  case round =>
    clear HP
    obtain ⟨k, p, q, hk, rfl, rfl, rfl, HQ, rfl, HR⟩ := hrel
    by_cases hlt : k < 7
    · have hk7 : (k : Int) < 7 := by omega
      have R1 := hid (cntF_at (fun n => hasI n a && !hasI n b) k hlt)
      have R2 := hid (cntF_at (fun n => hasI n b && !hasI n a) k hlt)
      have T1 := hid (S1.out (k : Int) _ H2.out)
      have T2 := hid (S2.out (k : Int) _ H2.out)
      have hwp : wrap64 ((p : Int) + 1) = ((p + 1 : Nat) : Int) := by have := HQ.out; rw [IntWalk.wrap64_in _ (by omega)]; omega
      have hwq : wrap64 ((q : Int) + 1) = ((q + 1 : Nat) : Int) := by have := HQ.out; rw [IntWalk.wrap64_in _ (by omega)]; omega
      clear S1 S2 HN
      generalize hasI (k : Int) a = G at *
      generalize hasI (k : Int) b = H at *
      cases G
      · cases H
        · have HR2 : Hid (P1 = p + cntF (fun n => hasI n a && !hasI n b) ((nodesF 7 0).drop (k + 1)) ∧ P2 = q + cntF (fun n => hasI n b && !hasI n a) ((nodesF 7 0).drop (k + 1))) := ⟨by rw [HR.out.1, R1.out]; simp, by rw [HR.out.2, R2.out]; simp⟩
          have HQ2 : Hid (p ≤ k + 1 ∧ q ≤ k + 1) := by have := HQ.out; exact ⟨by omega, by omega⟩
          clear HR R1 R2 HQ
          go_wp2_with fail
          refine T1.out.mono ?_
          rintro e w3 ⟨rfl, rfl⟩
          go_wp2_with fail
          refine T1.out.mono ?_
          rintro e w3 ⟨rfl, rfl⟩
          go_wp2_with fail
          refine T2.out.mono ?_
          rintro e w3 ⟨rfl, rfl⟩
          go_wp2
          exact ⟨⟨k + 1, p, q, by omega, rfl, rfl, by go_num, HQ2, by first | rfl | trivial, HR2⟩, by simp [intOf]; omega⟩
        · have HR2 : Hid (P1 = p + cntF (fun n => hasI n a && !hasI n b) ((nodesF 7 0).drop (k + 1)) ∧ P2 = (q + 1) + cntF (fun n => hasI n b && !hasI n a) ((nodesF 7 0).drop (k + 1))) := ⟨by rw [HR.out.1, R1.out]; simp, by rw [HR.out.2, R2.out]; simp; omega⟩
          have HQ2 : Hid (p ≤ k + 1 ∧ q + 1 ≤ k + 1) := by have := HQ.out; exact ⟨by omega, by omega⟩
          clear HR R1 R2 HQ
          go_wp2_with fail
          refine T1.out.mono ?_
          rintro e w3 ⟨rfl, rfl⟩
          go_wp2_with fail
          refine T1.out.mono ?_
          rintro e w3 ⟨rfl, rfl⟩
          go_wp2_with fail
          refine T2.out.mono ?_
          rintro e w3 ⟨rfl, rfl⟩
          go_wp2
          exact ⟨⟨k + 1, p, q + 1, by omega, rfl, by first | rw [hwq] | rfl | simp, by go_num, HQ2, by first | rfl | trivial, HR2⟩, by simp [intOf]; omega⟩
      · cases H
        · have HR2 : Hid (P1 = (p + 1) + cntF (fun n => hasI n a && !hasI n b) ((nodesF 7 0).drop (k + 1)) ∧ P2 = q + cntF (fun n => hasI n b && !hasI n a) ((nodesF 7 0).drop (k + 1))) := ⟨by rw [HR.out.1, R1.out]; simp; omega, by rw [HR.out.2, R2.out]; simp⟩
          have HQ2 : Hid (p + 1 ≤ k + 1 ∧ q ≤ k + 1) := by have := HQ.out; exact ⟨by omega, by omega⟩
          clear HR R1 R2 HQ
          go_wp2_with fail
          refine T1.out.mono ?_
          rintro e w3 ⟨rfl, rfl⟩
          go_wp2_with fail
          refine T2.out.mono ?_
          rintro e w3 ⟨rfl, rfl⟩
          go_wp2_with fail
          refine T1.out.mono ?_
          rintro e w3 ⟨rfl, rfl⟩
          go_wp2
          exact ⟨⟨k + 1, p + 1, q, by omega, by first | rw [hwp] | rfl | simp, rfl, by go_num, HQ2, by first | rfl | trivial, HR2⟩, by simp [intOf]; omega⟩
        · have HR2 : Hid (P1 = p + cntF (fun n => hasI n a && !hasI n b) ((nodesF 7 0).drop (k + 1)) ∧ P2 = q + cntF (fun n => hasI n b && !hasI n a) ((nodesF 7 0).drop (k + 1))) := ⟨by rw [HR.out.1, R1.out]; simp, by rw [HR.out.2, R2.out]; simp⟩
          have HQ2 : Hid (p ≤ k + 1 ∧ q ≤ k + 1) := by have := HQ.out; exact ⟨by omega, by omega⟩
          clear HR R1 R2 HQ
          go_wp2_with fail
          refine T1.out.mono ?_
          rintro e w3 ⟨rfl, rfl⟩
          go_wp2_with fail
          refine T2.out.mono ?_
          rintro e w3 ⟨rfl, rfl⟩
          go_wp2_with fail
          refine T1.out.mono ?_
          rintro e w3 ⟨rfl, rfl⟩
          go_wp2
          exact ⟨⟨k + 1, p, q, by omega, rfl, rfl, by go_num, HQ2, by first | rfl | trivial, HR2⟩, by simp [intOf]; omega⟩
    · have hk9 : k = 7 := by omega
      subst hk9
      obtain ⟨r1, r2⟩ := HR.out
      have e7 : ∀ f, cntF f ((nodesF 7 0).drop 7) = 0 := fun f => rfl
      rw [e7, Nat.add_zero] at r1 r2
      have hq := HQ.out
      have hws : wrap64 ((p : Int) + (q : Int)) = (p : Int) + (q : Int) := IntWalk.wrap64_in _ (by omega)
      have HF : Hid (R = ((p : Int) + (q : Int) == 1)) := by
        show _ = _
        rw [HN.out, r1, r2]
        by_cases h : p + q = 1
        · rw [decide_eq_true h]; symm; rw [beq_iff_eq]; omega
        · rw [decide_eq_false h]; symm; rw [beq_eq_false_iff_ne]; omega
      clear HN HR HQ S1 S2 r1 r2 e7 hq
      go_wp2
      go_ret
      rw [HF.out]
      exact ⟨rfl, H2.out⟩
end Go.Proofs.Ytghcijliknahdaa
