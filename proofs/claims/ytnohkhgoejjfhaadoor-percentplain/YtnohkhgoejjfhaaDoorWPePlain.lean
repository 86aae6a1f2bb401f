/- PercentPlain, walked. -/
import Derived.Test.YtnohkhgoejjfhaaDoorPeO
namespace Go.Proofs.YtnohkhgoejjfhaaDoor
open Go.RowKit Go.Maps
set_option linter.unusedVariables false
set_option linter.unusedSimpArgs false

/-- the bytes that may stand in what is written -/
def okB (n : Nat) : Prop := n = 37 ∨ n = 45 ∨ n = 46 ∨ n = 47 ∨ (48 ≤ n ∧ n ≤ 57) ∨ (65 ≤ n ∧ n ≤ 90) ∨ n = 95 ∨ (97 ≤ n ∧ n ≤ 122) ∨ n = 126
theorem esc_ok (l : List UInt8) (k : Nat) (hk : k < (escL plP l).length) : okB ((escL plP l)[k]).toNat := by
  have h := escL_set plP l _ (List.getElem_mem hk)
  generalize (escL plP l)[k] = x at *
  unfold okB
  rcases h with h | h
  · unfold plP plB at h
    simp only [Bool.or_eq_true, decide_eq_true_eq] at h
    omega
  · omega
set_option maxRecDepth 100000 in
set_option maxHeartbeats 4000000 in
theorem percentPlain_walk (s : ByteArray) (w : World) (z0 : s.size ≤ 140737488355328) : Calls Tryd.prog 7 #[.string s] w fun e w' => e = .returned (.bool true) ∧ Below w.heap.size w w' := by
  have AW := hid (fun W => awake18 W)
  have B0 := hid (Below.refl w.heap.size w)
  by_cases h0 : 5000 < s.size
  · have g0 : (5000 : Int) < (s.size : Int) := by omega
    clear h0 z0
    go_enter Tryd.func7, Tryd.ntmps7
    go_wp2_with fail
    refine (AW.out _).mono ?_
    rintro e w1 ⟨rfl, b1⟩
    have B1 := hid (below_on B0.out b1)
    clear b1 B0
    go_wp2
    go_ret
    exact ⟨rfl, B1.out⟩
  · have g0 : ¬ (5000 : Int) < (s.size : Int) := by omega
    have PP := hid (fun W => ppath_any s W (by omega))
    have ll := escL_len plP s.data.toList
    have ls : s.data.toList.length = s.size := by simp
    have HK : Hid (∀ (T : ByteArray) (hT : T = ⟨(escL plP s.data.toList).toArray⟩) (k : Nat) (hk : k < T.size), okB (T[k]).toNat) := fun T hT k hk => by
      subst hT
      exact esc_ok s.data.toList k (by rw [ba_size] at hk; exact hk)
    have hz := ba_size (escL plP s.data.toList)
    obtain ⟨T, HT⟩ : ∃ T : ByteArray, Hid (T = ⟨(escL plP s.data.toList).toArray⟩) := ⟨_, rfl⟩
    have HK2 := hid (HK.out T HT.out)
    rw [← HT.out] at PP hz
    rw [← hz] at ll
    have l1 : (s.size : Int) ≤ (T.size : Int) := by omega
    have l2 : (T.size : Int) ≤ 3 * (s.size : Int) := by omega
    have hw3 : wrap64 (3 * (s.size : Int)) = 3 * (s.size : Int) := IntWalk.wrap64_in _ (by omega)
    have hT3 : T.size ≤ 15000 := by omega
    clear HK HT hz ll ls h0 z0
    go_enter Tryd.func7, Tryd.ntmps7
    go_wp2_with fail
    refine (PP.out _).mono ?_
    rintro e w1 ⟨rfl, b1⟩
    have B1 := hid b1
    clear b1 B0 PP
    go_wp2
    go_loopw [4] (fun i wr => ∃ k : Nat, k ≤ T.size ∧ i = .int .i64 (k : Int) ∧ wr = w1) (fun i _ => T.size - (intOf i).toNat)
    case atStart => exact ⟨0, by omega, rfl, rfl⟩
    case round =>
      obtain ⟨k, hk, rfl, rfl⟩ := hrel
      by_cases hlt : k < T.size
      · have hk0 : (0 : Int) ≤ (k : Int) := by omega
        have hk1 : (k : Int) < (T.size : Int) := by omega
        have ho := HK2.out k hlt
        generalize hc : T[k] = c at *
        generalize hcn : c.toNat = n at *
        clear HK2 AW B1 l1 l2 hw3 g0
        rename ∀ (a : Act) (w : World), Code.wp _ _ _ a w → _ => aK
        clear aK
        by_cases q0 : 37 ≤ n ∧ n ≤ 37
        · skip
          have a97 : ¬ (97 : Int) ≤ (n : Int) := by omega
          have a65 : ¬ (65 : Int) ≤ (n : Int) := by omega
          have a48 : ¬ (48 : Int) ≤ (n : Int) := by omega
          have u122 : (n : Int) ≤ 122 := by omega
          have u90 : (n : Int) ≤ 90 := by omega
          have u57 : (n : Int) ≤ 57 := by omega
          have e45 : ((n : Int) == 45) = false := by rw [beq_eq_false_iff_ne]; omega
          have e46 : ((n : Int) == 46) = false := by rw [beq_eq_false_iff_ne]; omega
          have e95 : ((n : Int) == 95) = false := by rw [beq_eq_false_iff_ne]; omega
          have e126 : ((n : Int) == 126) = false := by rw [beq_eq_false_iff_ne]; omega
          have e47 : ((n : Int) == 47) = false := by rw [beq_eq_false_iff_ne]; omega
          have e37 : ((n : Int) == 37) = true := by rw [beq_iff_eq]; omega
          clear ho q0
          go_wp2
          exact ⟨⟨k + 1, by omega, by go_num, by first | rfl | trivial⟩, by simp [intOf]; omega⟩
        by_cases q1 : 45 ≤ n ∧ n ≤ 45
        · skip
          have a97 : ¬ (97 : Int) ≤ (n : Int) := by omega
          have a65 : ¬ (65 : Int) ≤ (n : Int) := by omega
          have a48 : ¬ (48 : Int) ≤ (n : Int) := by omega
          have u122 : (n : Int) ≤ 122 := by omega
          have u90 : (n : Int) ≤ 90 := by omega
          have u57 : (n : Int) ≤ 57 := by omega
          have e45 : ((n : Int) == 45) = true := by rw [beq_iff_eq]; omega
          have e46 : ((n : Int) == 46) = false := by rw [beq_eq_false_iff_ne]; omega
          have e95 : ((n : Int) == 95) = false := by rw [beq_eq_false_iff_ne]; omega
          have e126 : ((n : Int) == 126) = false := by rw [beq_eq_false_iff_ne]; omega
          have e47 : ((n : Int) == 47) = false := by rw [beq_eq_false_iff_ne]; omega
          have e37 : ((n : Int) == 37) = false := by rw [beq_eq_false_iff_ne]; omega
          clear ho q0 q1
          go_wp2
          exact ⟨⟨k + 1, by omega, by go_num, by first | rfl | trivial⟩, by simp [intOf]; omega⟩
        by_cases q2 : 46 ≤ n ∧ n ≤ 46
        · skip
          have a97 : ¬ (97 : Int) ≤ (n : Int) := by omega
          have a65 : ¬ (65 : Int) ≤ (n : Int) := by omega
          have a48 : ¬ (48 : Int) ≤ (n : Int) := by omega
          have u122 : (n : Int) ≤ 122 := by omega
          have u90 : (n : Int) ≤ 90 := by omega
          have u57 : (n : Int) ≤ 57 := by omega
          have e45 : ((n : Int) == 45) = false := by rw [beq_eq_false_iff_ne]; omega
          have e46 : ((n : Int) == 46) = true := by rw [beq_iff_eq]; omega
          have e95 : ((n : Int) == 95) = false := by rw [beq_eq_false_iff_ne]; omega
          have e126 : ((n : Int) == 126) = false := by rw [beq_eq_false_iff_ne]; omega
          have e47 : ((n : Int) == 47) = false := by rw [beq_eq_false_iff_ne]; omega
          have e37 : ((n : Int) == 37) = false := by rw [beq_eq_false_iff_ne]; omega
          clear ho q0 q1 q2
          go_wp2
          exact ⟨⟨k + 1, by omega, by go_num, by first | rfl | trivial⟩, by simp [intOf]; omega⟩
        by_cases q3 : 47 ≤ n ∧ n ≤ 47
        · skip
          have a97 : ¬ (97 : Int) ≤ (n : Int) := by omega
          have a65 : ¬ (65 : Int) ≤ (n : Int) := by omega
          have a48 : ¬ (48 : Int) ≤ (n : Int) := by omega
          have u122 : (n : Int) ≤ 122 := by omega
          have u90 : (n : Int) ≤ 90 := by omega
          have u57 : (n : Int) ≤ 57 := by omega
          have e45 : ((n : Int) == 45) = false := by rw [beq_eq_false_iff_ne]; omega
          have e46 : ((n : Int) == 46) = false := by rw [beq_eq_false_iff_ne]; omega
          have e95 : ((n : Int) == 95) = false := by rw [beq_eq_false_iff_ne]; omega
          have e126 : ((n : Int) == 126) = false := by rw [beq_eq_false_iff_ne]; omega
          have e47 : ((n : Int) == 47) = true := by rw [beq_iff_eq]; omega
          have e37 : ((n : Int) == 37) = false := by rw [beq_eq_false_iff_ne]; omega
          clear ho q0 q1 q2 q3
          go_wp2
          exact ⟨⟨k + 1, by omega, by go_num, by first | rfl | trivial⟩, by simp [intOf]; omega⟩
        by_cases q4 : 48 ≤ n ∧ n ≤ 57
        · skip
          have a97 : ¬ (97 : Int) ≤ (n : Int) := by omega
          have a65 : ¬ (65 : Int) ≤ (n : Int) := by omega
          have a48 : (48 : Int) ≤ (n : Int) := by omega
          have u122 : (n : Int) ≤ 122 := by omega
          have u90 : (n : Int) ≤ 90 := by omega
          have u57 : (n : Int) ≤ 57 := by omega
          have e45 : ((n : Int) == 45) = false := by rw [beq_eq_false_iff_ne]; omega
          have e46 : ((n : Int) == 46) = false := by rw [beq_eq_false_iff_ne]; omega
          have e95 : ((n : Int) == 95) = false := by rw [beq_eq_false_iff_ne]; omega
          have e126 : ((n : Int) == 126) = false := by rw [beq_eq_false_iff_ne]; omega
          have e47 : ((n : Int) == 47) = false := by rw [beq_eq_false_iff_ne]; omega
          have e37 : ((n : Int) == 37) = false := by rw [beq_eq_false_iff_ne]; omega
          clear ho q0 q1 q2 q3 q4
          go_wp2
          exact ⟨⟨k + 1, by omega, by go_num, by first | rfl | trivial⟩, by simp [intOf]; omega⟩
        by_cases q5 : 65 ≤ n ∧ n ≤ 90
        · skip
          have a97 : ¬ (97 : Int) ≤ (n : Int) := by omega
          have a65 : (65 : Int) ≤ (n : Int) := by omega
          have a48 : (48 : Int) ≤ (n : Int) := by omega
          have u122 : (n : Int) ≤ 122 := by omega
          have u90 : (n : Int) ≤ 90 := by omega
          have u57 : ¬ (n : Int) ≤ 57 := by omega
          have e45 : ((n : Int) == 45) = false := by rw [beq_eq_false_iff_ne]; omega
          have e46 : ((n : Int) == 46) = false := by rw [beq_eq_false_iff_ne]; omega
          have e95 : ((n : Int) == 95) = false := by rw [beq_eq_false_iff_ne]; omega
          have e126 : ((n : Int) == 126) = false := by rw [beq_eq_false_iff_ne]; omega
          have e47 : ((n : Int) == 47) = false := by rw [beq_eq_false_iff_ne]; omega
          have e37 : ((n : Int) == 37) = false := by rw [beq_eq_false_iff_ne]; omega
          clear ho q0 q1 q2 q3 q4 q5
          go_wp2
          exact ⟨⟨k + 1, by omega, by go_num, by first | rfl | trivial⟩, by simp [intOf]; omega⟩
        by_cases q6 : 95 ≤ n ∧ n ≤ 95
        · skip
          have a97 : ¬ (97 : Int) ≤ (n : Int) := by omega
          have a65 : (65 : Int) ≤ (n : Int) := by omega
          have a48 : (48 : Int) ≤ (n : Int) := by omega
          have u122 : (n : Int) ≤ 122 := by omega
          have u90 : ¬ (n : Int) ≤ 90 := by omega
          have u57 : ¬ (n : Int) ≤ 57 := by omega
          have e45 : ((n : Int) == 45) = false := by rw [beq_eq_false_iff_ne]; omega
          have e46 : ((n : Int) == 46) = false := by rw [beq_eq_false_iff_ne]; omega
          have e95 : ((n : Int) == 95) = true := by rw [beq_iff_eq]; omega
          have e126 : ((n : Int) == 126) = false := by rw [beq_eq_false_iff_ne]; omega
          have e47 : ((n : Int) == 47) = false := by rw [beq_eq_false_iff_ne]; omega
          have e37 : ((n : Int) == 37) = false := by rw [beq_eq_false_iff_ne]; omega
          clear ho q0 q1 q2 q3 q4 q5 q6
          go_wp2
          exact ⟨⟨k + 1, by omega, by go_num, by first | rfl | trivial⟩, by simp [intOf]; omega⟩
        by_cases q7 : 97 ≤ n ∧ n ≤ 122
        · skip
          have a97 : (97 : Int) ≤ (n : Int) := by omega
          have a65 : (65 : Int) ≤ (n : Int) := by omega
          have a48 : (48 : Int) ≤ (n : Int) := by omega
          have u122 : (n : Int) ≤ 122 := by omega
          have u90 : ¬ (n : Int) ≤ 90 := by omega
          have u57 : ¬ (n : Int) ≤ 57 := by omega
          have e45 : ((n : Int) == 45) = false := by rw [beq_eq_false_iff_ne]; omega
          have e46 : ((n : Int) == 46) = false := by rw [beq_eq_false_iff_ne]; omega
          have e95 : ((n : Int) == 95) = false := by rw [beq_eq_false_iff_ne]; omega
          have e126 : ((n : Int) == 126) = false := by rw [beq_eq_false_iff_ne]; omega
          have e47 : ((n : Int) == 47) = false := by rw [beq_eq_false_iff_ne]; omega
          have e37 : ((n : Int) == 37) = false := by rw [beq_eq_false_iff_ne]; omega
          clear ho q0 q1 q2 q3 q4 q5 q6 q7
          go_wp2
          exact ⟨⟨k + 1, by omega, by go_num, by first | rfl | trivial⟩, by simp [intOf]; omega⟩
        by_cases q8 : 126 ≤ n ∧ n ≤ 126
        · skip
          have a97 : (97 : Int) ≤ (n : Int) := by omega
          have a65 : (65 : Int) ≤ (n : Int) := by omega
          have a48 : (48 : Int) ≤ (n : Int) := by omega
          have u122 : ¬ (n : Int) ≤ 122 := by omega
          have u90 : ¬ (n : Int) ≤ 90 := by omega
          have u57 : ¬ (n : Int) ≤ 57 := by omega
          have e45 : ((n : Int) == 45) = false := by rw [beq_eq_false_iff_ne]; omega
          have e46 : ((n : Int) == 46) = false := by rw [beq_eq_false_iff_ne]; omega
          have e95 : ((n : Int) == 95) = false := by rw [beq_eq_false_iff_ne]; omega
          have e126 : ((n : Int) == 126) = true := by rw [beq_iff_eq]; omega
          have e47 : ((n : Int) == 47) = false := by rw [beq_eq_false_iff_ne]; omega
          have e37 : ((n : Int) == 37) = false := by rw [beq_eq_false_iff_ne]; omega
          clear ho q0 q1 q2 q3 q4 q5 q6 q7 q8
          go_wp2
          exact ⟨⟨k + 1, by omega, by go_num, by first | rfl | trivial⟩, by simp [intOf]; omega⟩
        exact absurd ho (by unfold okB; omega)
      · have hd : decide ((k : Int) < (T.size : Int)) = false := decide_eq_false (by omega)
        have hd2 : decide (k < T.size) = false := decide_eq_false hlt
        clear HK2 hlt hk
        go_wp2_with fail
        refine (AW.out _).mono ?_
        rintro e w2 ⟨rfl, b2⟩
        have B2 := hid (below_on B1.out b2)
        clear b2 B1
        go_wp2
        go_ret
        exact ⟨rfl, B2.out⟩
end Go.Proofs.YtnohkhgoejjfhaaDoor
