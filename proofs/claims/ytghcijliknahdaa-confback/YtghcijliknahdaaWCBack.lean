/- The walk of the law ConfBack. -/
import Derived.Test.YtghcijliknahdaaWCBytes
import Derived.Test.YtghcijliknahdaaConfK
namespace Go.Proofs.Ytghcijliknahdaa
open Go.RowKit Go.Maps
set_option linter.unusedVariables false
set_option linter.unusedSimpArgs false

set_option maxRecDepth 100000 in
set_option maxHeartbeats 2000000 in
theorem confBack_walk (v0 : Value) (l : List Int) (s : ByteArray) (w : World) (h0 : IntsI w v0 l) (_f0 : ∀ x ∈ l, (Lit.int .i64 x).wf = true) (z0 : l.length ≤ 17592186044416) (zs : s.size ≤ reachBytes) :
    Calls Try.prog 6 #[v0, .string s] w fun e w' => e = .returned (.bool true) ∧ Below w.heap.size w w' := by
  have hs : s.size ≤ 140737488355328 := Nat.le_trans zs (by decide)
  have E1 := hid (cencode_any v0 l w h0 (by omega))
  have HV := hid (fun W (hW : Below w.heap.size w W) => h0.next hW)
  have D0 : Hid (∀ W, Below w.heap.size w W → Calls Try.prog 27 #[.string (encC l)] W (GiveB w W (decV (encC l)) (decE (encC l)))) := fun W hW => (cdecode_any (encC l) W (by have := encC_size l; omega)).mono fun e w' h => give_b hW h
  have D1 : Hid (∀ W, Below w.heap.size w W → Calls Try.prog 27 #[.string s] W fun e w' => ∃ ad cap, e = .returned (.tuple #[.slice ad (decV s).length cap, .int .i64 (decE s)]) ∧ Hid (IntsI w' (.slice ad (decV s).length cap) (decV s)) ∧ Hid (Below w.heap.size w w')) := fun W hW => (cdecode_any s W hs).mono fun e w' ⟨v, he, hi, hb, _⟩ => by
    obtain ⟨ad, cap, hv, _⟩ := hi.form
    subst hv
    exact ⟨ad, cap, he, hi, below_on hW hb⟩
  have E2 : Hid (∀ (v : Value) W, Below w.heap.size w W → IntsI W v (decV s) → Calls Try.prog 25 #[v] W fun e w' => e = .returned (.tuple #[.string (encC (decV s)), .int .i64 (chkC (decV s))]) ∧ Below w.heap.size w w') := fun v W hW hv => (cencode_any v (decV s) W hv (by have := decV_len s; omega)).mono fun e w' ⟨he, hb⟩ => ⟨he, below_on hW hb⟩
  have AW := hid (fun W => awake9 W)
  have IN : Hid (∀ (x y : Value) (c : List Int) W, IntsI W x c → IntsI W y c → c.length ≤ 17592186044416 → Calls Try.prog 22 #[x, y] W fun e w' => e = .returned (.bool true) ∧ Below W.heap.size W w') := fun x y c W hx hy hc => (ints_any x y c c W hx hy (by omega)).mono fun e w' ⟨he, hb⟩ => ⟨by rw [he, eqI_refl], hb⟩
  have DI := hid (decE_iff s)
  have DO := hid (fun h => dec_one (s := s) h)
  have DE := hid (fun h => dec_enc (l := l) h)
  have HK : Hid (chkC l = if areM l = true then 0 else 70) := rfl
  have HK2 : Hid (areM (decV s) = true → chkC (decV s) = 0) := fun h => by unfold chkC; rw [if_pos h]
  have HZ := hid z0
  clear h0 _f0 z0 zs hs
  generalize encC l = X at *
  cases hA : areM l
  · have hk : chkC l = 70 := by rw [HK.out, hA]; rfl
    rw [hk] at E1
    clear D0 DE HK hk hA IN HV HZ
    rcases DI.out with ⟨d1, d2⟩ | ⟨d1, d2⟩
    · obtain ⟨q1, q2⟩ := DO.out d2
      have hk2 := HK2.out q1
      rw [d1] at D1
      rw [q2, hk2] at E2
      have hxx : (s.data.toList == s.data.toList) = true := beq_self_eq_true _
      generalize decV s = DV at *
      clear DI DO HK2 d1 d2 q1 q2 hk2
      go_enter Try.func6, Try.ntmps6
      go_wp2_with fail
      refine E1.out.mono ?_
      rintro e w1 ⟨rfl, b1⟩
      have B1 := hid b1
      clear b1 E1
      go_wp2_with fail
      refine (D1.out _ B1.out).mono ?_
      rintro e w2 ⟨ad, cap, rfl, I2, B2⟩
      clear D1 B1
      go_wp2_with fail
      refine (E2.out _ _ B2.out I2.out).mono ?_
      rintro e w3 ⟨rfl, b3⟩
      have B3 := hid b3
      clear b3 E2 B2 I2
      go_wp2_with fail
      refine (AW.out _).mono ?_
      rintro e w4 ⟨rfl, k4⟩
      have B4 := hid (below_on B3.out k4)
      clear k4 AW B3
      go_wp2
      go_ret
      exact ⟨rfl, B4.out⟩
    · rw [d1, d2] at D1
      clear DI DO HK2 d1 d2 E2
      go_enter Try.func6, Try.ntmps6
      go_wp2_with fail
      refine E1.out.mono ?_
      rintro e w1 ⟨rfl, b1⟩
      have B1 := hid b1
      clear b1 E1
      go_wp2_with fail
      refine (D1.out _ B1.out).mono ?_
      rintro e w2 ⟨ad, cap, rfl, I2, B2⟩
      clear D1 B1 I2
      go_wp2_with fail
      refine (AW.out _).mono ?_
      rintro e w4 ⟨rfl, k4⟩
      have B4 := hid (below_on B2.out k4)
      clear k4 AW B2
      go_wp2
      go_ret
      exact ⟨rfl, B4.out⟩
  · have hk : chkC l = 0 := by rw [HK.out, hA]; rfl
    rw [hk] at E1
    obtain ⟨r1, r2⟩ := DE.out hA
    rw [r1, r2] at D0
    clear DE HK hk hA r1 r2
    rcases DI.out with ⟨d1, d2⟩ | ⟨d1, d2⟩
    · obtain ⟨q1, q2⟩ := DO.out d2
      have hk2 := HK2.out q1
      rw [d1] at D1
      rw [q2, hk2] at E2
      have hxx : (s.data.toList == s.data.toList) = true := beq_self_eq_true _
      generalize decV s = DV at *
      clear DI DO HK2 d1 d2 q1 q2 hk2
      go_enter Try.func6, Try.ntmps6
      go_wp2_with fail
      refine E1.out.mono ?_
      rintro e w1 ⟨rfl, b1⟩
      have B1 := hid b1
      clear b1 E1
      go_wp2_with fail
      refine (D0.out _ B1.out).mono ?_
      rintro e wa ⟨va, rfl, Ia, Ba, _⟩
      clear D0 B1
      go_wp2_with fail
      refine (IN.out _ _ _ _ Ia.out (HV.out _ Ba.out) HZ.out).mono ?_
      rintro e wb ⟨rfl, kb⟩
      have Bb := hid (below_on Ba.out kb)
      clear kb Ia Ba IN HV HZ
      go_wp2_with fail
      refine (D1.out _ Bb.out).mono ?_
      rintro e w2 ⟨ad, cap, rfl, I2, B2⟩
      clear D1 Bb
      go_wp2_with fail
      refine (E2.out _ _ B2.out I2.out).mono ?_
      rintro e w3 ⟨rfl, b3⟩
      have B3 := hid b3
      clear b3 E2 B2 I2
      go_wp2_with fail
      refine (AW.out _).mono ?_
      rintro e w4 ⟨rfl, k4⟩
      have B4 := hid (below_on B3.out k4)
      clear k4 AW B3
      go_wp2
      go_ret
      exact ⟨rfl, B4.out⟩
    · rw [d1, d2] at D1
      clear DI DO HK2 d1 d2 E2
      go_enter Try.func6, Try.ntmps6
      go_wp2_with fail
      refine E1.out.mono ?_
      rintro e w1 ⟨rfl, b1⟩
      have B1 := hid b1
      clear b1 E1
      go_wp2_with fail
      refine (D0.out _ B1.out).mono ?_
      rintro e wa ⟨va, rfl, Ia, Ba, _⟩
      clear D0 B1
      go_wp2_with fail
      refine (IN.out _ _ _ _ Ia.out (HV.out _ Ba.out) HZ.out).mono ?_
      rintro e wb ⟨rfl, kb⟩
      have Bb := hid (below_on Ba.out kb)
      clear kb Ia Ba IN HV HZ
      go_wp2_with fail
      refine (D1.out _ Bb.out).mono ?_
      rintro e w2 ⟨ad, cap, rfl, I2, B2⟩
      clear D1 Bb I2
      go_wp2_with fail
      refine (AW.out _).mono ?_
      rintro e w4 ⟨rfl, k4⟩
      have B4 := hid (below_on B2.out k4)
      clear k4 AW B2
      go_wp2
      go_ret
      exact ⟨rfl, B4.out⟩
end Go.Proofs.Ytghcijliknahdaa
