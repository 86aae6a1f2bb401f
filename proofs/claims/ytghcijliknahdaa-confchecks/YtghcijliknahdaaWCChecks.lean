/- The walk of the law ConfChecks. -/
import Derived.Test.YtghcijliknahdaaConfW
namespace Go.Proofs.Ytghcijliknahdaa
open Go.RowKit Go.Maps
set_option linter.unusedVariables false
set_option linter.unusedSimpArgs false

set_option maxRecDepth 100000 in
set_option maxHeartbeats 1000000 in
theorem confChecks_walk (v0 : Value) (l : List Int) (v1 : Value) (o : List Int) (n : Int) (w : World) (h0 : IntsI w v0 l) (_f0 : ∀ x ∈ l, (Lit.int .i64 x).wf = true) (z0 : l.length ≤ 17592186044416) (h1 : IntsI w v1 o) (_f1 : ∀ x ∈ o, (Lit.int .i64 x).wf = true) (z1 : o.length ≤ 17592186044416) (_hn : (Lit.int .i64 n).wf = true) :
    Calls Try.prog 3 #[v0, v1, .int .i64 n] w fun e w' => e = .returned (.bool true) ∧ Below w.heap.size w w' := by
  have AW := hid (awake9 w)
  have CK : Hid (∀ W, Below w.heap.size w W → Calls Try.prog 10 #[v0] W fun e w' => e = .returned (.int .i64 (chkC l)) ∧ w' = W) := fun W hW => ccheck_any v0 l W (h0.next hW) (by omega)
  have MY : Hid (∀ W, Below w.heap.size w W → Calls Try.prog 11 #[v0] W fun e w' => e = .returned (.bool (areM l)) ∧ Below w.heap.size w w') := fun W hW => (may_any v0 l W (h0.next hW) (by omega)).mono fun e w' ⟨he, hb⟩ => ⟨he, below_on hW hb⟩
  have HA : Hid (∀ W, Below w.heap.size w W → Calls Try.prog 12 #[v0, .int .i64 n] W fun e w' => e = .returned (.bool (hasI n l)) ∧ w' = W) := fun W hW => chas_any v0 l n W (h0.next hW) (by omega)
  have RA : Hid (∀ W, Below w.heap.size w W → Calls Try.prog 13 #[v0, .int .i64 n] W fun e w' => e = .returned (.bool (hasI n l)) ∧ w' = W) := fun W hW => rhas_any v0 l n W (h0.next hW) (by omega)
  have MJ : Hid (∀ W, Below w.heap.size w W → Calls Try.prog 14 #[v0] W fun e w' => e = .returned (.int .i64 (majC l : Nat)) ∧ w' = W) := fun W hW => cmaj_any v0 l W (h0.next hW) (by omega)
  have RJ : Hid (∀ W, Below w.heap.size w W → Calls Try.prog 15 #[v0] W fun e w' => e = .returned (.int .i64 (majC l : Nat)) ∧ Below w.heap.size w w') := fun W hW => (rmaj_any v0 l W (h0.next hW) (by omega)).mono fun e w' ⟨he, hb⟩ => ⟨he, below_on hW hb⟩
  have EN : Hid (∀ W, Below w.heap.size w W → Calls Try.prog 16 #[v0, v1] W fun e w' => e = .returned (.bool (engC l o)) ∧ w' = W) := fun W hW => cenough_any v0 v1 l o W (h0.next hW) (h1.next hW) (by omega) (by omega)
  have RN : Hid (∀ W, Below w.heap.size w W → Calls Try.prog 17 #[v0, v1] W fun e w' => e = .returned (.bool (engC l o)) ∧ Below w.heap.size w w') := fun W hW => (renough_any v0 v1 l o W (h0.next hW) (h1.next hW) (by omega) (by omega)).mono fun e w' ⟨he, hb⟩ => ⟨he, below_on hW hb⟩
  have HK : Hid (chkC l = if areM l = true then 0 else 70) := rfl
  generalize chkC l = K at *
  generalize areM l = A at *
  generalize hasI n l = B at *
  generalize majC l = M at *
  generalize engC l o = E at *
  have hbb : (B == B) = true := by cases B <;> rfl
  have hee : (E == E) = true := by cases E <;> rfl
  have hmm : (((M : Nat) : Int) == ((M : Nat) : Int)) = true := beq_self_eq_true _
  clear h0 h1 _f0 _f1 z0 z1 _hn
  go_enter Try.func3, Try.ntmps3
  go_wp2_with fail
  refine AW.out.mono ?_
  rintro e w1 ⟨rfl, h1⟩
  have H1 := hid h1
  clear h1 AW
  cases A
  · have hk : K = 70 := HK.out
    subst hk
    clear HK
    go_wp2_with fail
    refine (CK.out _ H1.out).mono ?_
    rintro e w2 ⟨rfl, rfl⟩
    go_wp2_with fail
    refine (MY.out _ H1.out).mono ?_
    rintro e w2 ⟨rfl, h2⟩
    have H2 := hid h2
    clear h2 H1
    go_wp2_with fail
    refine (CK.out _ H2.out).mono ?_
    rintro e w3 ⟨rfl, rfl⟩
    go_wp2_with fail
    refine (CK.out _ H2.out).mono ?_
    rintro e w3 ⟨rfl, rfl⟩
    go_wp2_with fail
    refine (HA.out _ H2.out).mono ?_
    rintro e w3 ⟨rfl, rfl⟩
    go_wp2_with fail
    refine (RA.out _ H2.out).mono ?_
    rintro e w3 ⟨rfl, rfl⟩
    go_wp2_with fail
    refine (MJ.out _ H2.out).mono ?_
    rintro e w3 ⟨rfl, rfl⟩
    go_wp2_with fail
    refine (RJ.out _ H2.out).mono ?_
    rintro e w3 ⟨rfl, h3⟩
    have H3 := hid h3
    clear h3 H2
    go_wp2_with fail
    refine (EN.out _ H3.out).mono ?_
    rintro e w4 ⟨rfl, rfl⟩
    go_wp2_with fail
    refine (RN.out _ H3.out).mono ?_
    rintro e w4 ⟨rfl, h4⟩
    have H4 := hid h4
    clear h4 H3
    go_wp2
    go_ret
    exact ⟨rfl, H4.out⟩
  · have hk : K = 0 := HK.out
    subst hk
    clear HK
    go_wp2_with fail
    refine (CK.out _ H1.out).mono ?_
    rintro e w2 ⟨rfl, rfl⟩
    go_wp2_with fail
    refine (MY.out _ H1.out).mono ?_
    rintro e w2 ⟨rfl, h2⟩
    have H2 := hid h2
    clear h2 H1
    go_wp2_with fail
    refine (CK.out _ H2.out).mono ?_
    rintro e w3 ⟨rfl, rfl⟩
    go_wp2_with fail
    refine (HA.out _ H2.out).mono ?_
    rintro e w3 ⟨rfl, rfl⟩
    go_wp2_with fail
    refine (RA.out _ H2.out).mono ?_
    rintro e w3 ⟨rfl, rfl⟩
    go_wp2_with fail
    refine (MJ.out _ H2.out).mono ?_
    rintro e w3 ⟨rfl, rfl⟩
    go_wp2_with fail
    refine (RJ.out _ H2.out).mono ?_
    rintro e w3 ⟨rfl, h3⟩
    have H3 := hid h3
    clear h3 H2
    go_wp2_with fail
    refine (EN.out _ H3.out).mono ?_
    rintro e w4 ⟨rfl, rfl⟩
    go_wp2_with fail
    refine (RN.out _ H3.out).mono ?_
    rintro e w4 ⟨rfl, h4⟩
    have H4 := hid h4
    clear h4 H3
    go_wp2
    go_ret
    exact ⟨rfl, H4.out⟩
end Go.Proofs.Ytghcijliknahdaa
