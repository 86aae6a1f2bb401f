/- PercentPairs, walked. -/
import Derived.Test.YtnohkhgoejjfhaaDoorWPeM
namespace Go.Proofs.YtnohkhgoejjfhaaDoor
open Go.RowKit Go.Maps
set_option linter.unusedVariables false
set_option linter.unusedSimpArgs false

set_option maxRecDepth 100000 in
set_option maxHeartbeats 8000000 in
theorem percentPairs_walk (v : Value) (l : List Pq) (t : ByteArray) (w : World) (hv : PqI w v l) (z1 : t.size ≤ 140737488355328) (hbd : szP l + l.length + t.size ≤ 1048576) : Calls Tryd.prog 6 #[v, .string t] w fun e w' => e = .returned (.bool true) ∧ Below w.heap.size w w' := by
  have AW := hid (fun W => awake18 W)
  obtain ⟨ad, cap, rfl, hc⟩ := hv.form
  have HBD := hid hbd
  have hlt0 : t.data.toList.length = t.size := by simp
  have QY : Hid (∀ W, Below w.heap.size w W → Calls Tryd.prog 15 #[.slice ad l.length cap] W fun e w' => e = .returned (.tuple #[.string ⟨(quT l).1.toArray⟩, .int .i64 (quT l).2]) ∧ Below W.heap.size W w') := fun W hW => query_any _ l W (hv.next hW) (by omega)
  have RF : Hid (∀ W, Below w.heap.size w W → Calls Tryd.prog 17 #[.slice ad l.length cap] W (GiveR W l)) := fun W hW => refs18_any _ l W (hv.next hW) (by omega)
  have RL : Hid (∀ W u, PqI W u l → Calls Tryd.prog 17 #[u] W (GiveR W l)) := fun W u hu => refs18_any u l W hu (by omega)
  have SL : Hid (∀ W u u', PqI W u l → PqI W u' l → Calls Tryd.prog 22 #[u, u'] W fun e w' => e = .returned (.bool true) ∧ Below W.heap.size W w') := fun W u u' hu hu' => rsame18_true u u' l W hu hu' (by omega)
  have U1 : Hid (t.size + szP l ≤ 5000 → (quT l).2 = 0 → ∀ W, Calls Tryd.prog 18 #[.string ⟨(quT l).1.toArray⟩] W (GiveU W l 0)) := fun h5 h W => by
    have := unquery_any ⟨(quT l).1.toArray⟩ W (by rw [ba_size]; have := quT_len l; omega)
    rw [ba_list, un_qu l h] at this
    exact this
  have UQ := hid (fun W => unquery_any t W (by omega))
  have HER := hid (un_err t.data.toList)
  have HLM := hid (unT_len t.data.toList).2
  have Q2 : Hid (t.size + szP l ≤ 5000 → (unT t.data.toList).2 = 0 → ∀ W u, PqI W u (unT t.data.toList).1 → Calls Tryd.prog 15 #[u] W fun e w' => e = .returned (.tuple #[.string ⟨(quT (unT t.data.toList).1).1.toArray⟩, .int .i64 0]) ∧ Below W.heap.size W w') := fun h5 h W u hu => by
    have := query_any u _ W hu (by have := (unT_len t.data.toList).1; omega)
    rw [qu_un t.data.toList h] at this
    exact this
  have U3 : Hid (t.size + szP l ≤ 5000 → (unT t.data.toList).2 = 0 → ∀ W, Calls Tryd.prog 18 #[.string ⟨(quT (unT t.data.toList).1).1.toArray⟩] W (GiveU W (unT t.data.toList).1 0)) := fun h5 h W => by
    have := unquery_any ⟨(quT (unT t.data.toList).1).1.toArray⟩ W (by rw [ba_size]; have h1 := quT_len (unT t.data.toList).1; have h2 := (unT_len t.data.toList).1; omega)
    rw [ba_list, un_qu _ (qu_un t.data.toList h)] at this
    exact this
  have R2 : Hid (∀ W u, PqI W u (unT t.data.toList).1 → Calls Tryd.prog 17 #[u] W (GiveR W (unT t.data.toList).1)) := fun W u hu => refs18_any u _ W hu (by have := (unT_len t.data.toList).2; omega)
  have SM : Hid (∀ W u u', PqI W u (unT t.data.toList).1 → PqI W u' (unT t.data.toList).1 → Calls Tryd.prog 22 #[u, u'] W fun e w' => e = .returned (.bool true) ∧ Below W.heap.size W w') := fun W u u' hu hu' => rsame18_true u u' _ W hu hu' (by have := (unT_len t.data.toList).2; omega)
  obtain ⟨TS, HTS⟩ : ∃ TS : Nat, Hid (TS = t.size) := ⟨_, rfl⟩
  have HARM : Hid (∀ (k N : Nat) (wr : World), k < l.length → N = TS + szP (l.take k) → Below w.heap.size w wr → QArm l ad TS k N wr) := fun k N wr hk hN hb => q_arm l ad TS w (by rw [HTS.out]; omega) hc k N wr hk hN hb
  clear hc hv hbd z1 hlt0
  generalize (⟨(quT (unT t.data.toList).1).1.toArray⟩ : ByteArray) = QM at *
  generalize quT l = QL at *
  generalize unT t.data.toList = UT at *
  obtain ⟨ql, qe⟩ := QL
  obtain ⟨ul, ue⟩ := UT
  simp only at *
  generalize (⟨ql.toArray⟩ : ByteArray) = QA at *
  have hTS : (t.size : Int) = (TS : Int) := by rw [HTS.out]
  go_enter Tryd.func6, Tryd.ntmps6
  go_wp2
  clear hTS
  go_loopw [5, 6] (fun nn i wr => ∃ k N : Nat, k ≤ l.length ∧ nn = .int .i64 (N : Int) ∧ i = .int .i64 (k : Int) ∧ Hid (N = TS + szP (l.take k)) ∧ Hid (Below w.heap.size w wr)) (fun _ i _ => l.length - (intOf i).toNat)
  case atStart => exact ⟨0, TS, Nat.zero_le _, by first | rfl | rw [HTS.out], rfl, by show _ = _; simp [szP], Below.refl _ _⟩
  case round =>
    obtain ⟨k, N, hk, rfl, rfl, HN, HB⟩ := hrel
    rename World => wr
    by_cases hlt : k < l.length
    · obtain ⟨b, off, NA, VA, N1, N2, had, HLT, HN2, hwk, hk1, hk0, w1, w2, d0, d1⟩ := HARM.out k N wr hlt HN.out HB.out
      subst had
      have HBN : Hid (∀ n, Below w.heap.size w (wr.drewN n)) := fun n => below_drewN HB.out n
      clear HARM HN HB hlt hk AW QY RF RL SL U1 UQ HER Q2 U3 R2 SM HLM HBD HTS
      go_wp2
      go_quiet (fail)
      go_wp2
      exact ⟨⟨k + 1, N2, HLT.out, by first | rw [w2] | (simp; exact w2) | rfl, by first | rw [hwk] | rfl | simp, HN2, HBN.out _⟩, by (try rw [hwk]); have := HLT.out; simp [intOf]; omega⟩
    · have hd1 : decide ((k : Int) < (l.length : Int)) = false := decide_eq_false (by omega)
      have hd2 : decide (k < l.length) = false := decide_eq_false hlt
      have HNN : Hid (N = TS + szP l) := by show _ = _; rw [HN.out, List.take_of_length_le (by omega)]
      have B0 := HB
      clear HB HN hlt hk HARM
      by_cases h5 : 5000 < N
      · have g5 : (5000 : Int) < (N : Int) := by omega
        clear h5 QY RF RL SL U1 UQ HER Q2 U3 R2 SM HBD HLM HTS HNN
        go_wp2_with fail
        refine (AW.out _).mono ?_
        rintro e w1 ⟨rfl, b1⟩
        have B1 := hid (below_on B0.out b1)
        clear b1 B0
        go_wp2
        go_ret
        exact ⟨rfl, B1.out⟩
      · have g5 : ¬ (5000 : Int) < (N : Int) := by omega
        have h6 : t.size + szP l ≤ 5000 := by rw [← HTS.out]; have := HNN.out; omega
        have U1' := hid (U1.out h6)
        have Q2' := hid (Q2.out h6)
        have U3' := hid (U3.out h6)
        clear h6
        clear h5 HBD U1 Q2 U3 HTS HNN
        by_cases hq : qe = 0
        · have U1 := hid (U1'.out hq)
          subst hq
          by_cases hu : ue = 0
          · have Q2 := hid (Q2'.out hu)
            have U3 := hid (U3'.out hu)
            subst hu
            clear U1' Q2' U3' HER HLM
            go_wp2_with fail
            refine (QY.out _ B0.out).mono ?_
            rintro e w1 ⟨rfl, b1⟩
            have B1 := hid (below_on B0.out b1)
            clear b1 B0 QY
            go_wp2_with fail
            refine (U1.out _).mono ?_
            rintro e w2 ⟨ad2, cap2, rfl, o2, b2⟩
            have B2 := hid (below_on B1.out b2)
            have I2 := hid (pqi_own o2)
            clear b2 B1 o2 U1
            go_wp2_with fail
            refine (RL.out _ _ I2.out).mono ?_
            rintro e w3 ⟨ad3, cap3, rfl, o3, b3⟩
            have B3 := hid (below_on B2.out b3)
            have I3 := hid (pqi_own o3)
            clear b3 B2 o3 I2 RL
            go_wp2_with fail
            refine (RF.out _ B3.out).mono ?_
            rintro e w4 ⟨ad4, cap4, rfl, o4, b4⟩
            have B4 := hid (below_on B3.out b4)
            have I4 := hid (pqi_own o4)
            have I34 := hid (I3.out.next b4)
            clear b4 B3 o4 I3 RF
            go_wp2_with fail
            refine (SL.out _ _ _ I34.out I4.out).mono ?_
            rintro e w5 ⟨rfl, b5⟩
            have B5 := hid (below_on B4.out b5)
            clear b5 B4 I34 I4 SL
            go_wp2_with fail
            refine (UQ.out _).mono ?_
            rintro e w6 ⟨ad6, cap6, rfl, o6, b6⟩
            have B6 := hid (below_on B5.out b6)
            have I6 := hid (pqi_own o6)
            clear b6 B5 o6 UQ
            go_wp2_with fail
            refine (Q2.out _ _ I6.out).mono ?_
            rintro e w7 ⟨rfl, b7⟩
            have B7 := hid (below_on B6.out b7)
            have I67 := hid (I6.out.next b7)
            clear b7 B6 I6 Q2
            go_wp2_with fail
            refine (U3.out _).mono ?_
            rintro e w8 ⟨ad8, cap8, rfl, o8, b8⟩
            have B8 := hid (below_on B7.out b8)
            have I8 := hid (pqi_own o8)
            have I68 := hid (I67.out.next b8)
            clear b8 B7 o8 I67 U3
            go_wp2_with fail
            refine (AW.out _).mono ?_
            rintro e w9 ⟨rfl, b9⟩
            have B9 := hid (below_on B8.out b9)
            have I89 := hid (I8.out.next b9)
            have I69 := hid (I68.out.next b9)
            clear b9 B8 I8 I68 AW
            go_wp2_with fail
            refine (R2.out _ _ I89.out).mono ?_
            rintro e w10 ⟨ad10, cap10, rfl, o10, b10⟩
            have B10 := hid (below_on B9.out b10)
            have I10 := hid (pqi_own o10)
            have I610 := hid (I69.out.next b10)
            clear b10 B9 o10 I89 I69
            go_wp2_with fail
            refine (R2.out _ _ I610.out).mono ?_
            rintro e w11 ⟨ad11, cap11, rfl, o11, b11⟩
            have B11 := hid (below_on B10.out b11)
            have I11 := hid (pqi_own o11)
            have I1011 := hid (I10.out.next b11)
            clear b11 B10 o11 I10 I610 R2
            go_wp2_with fail
            refine (SM.out _ _ _ I1011.out I11.out).mono ?_
            rintro e w12 ⟨rfl, b12⟩
            have B12 := hid (below_on B11.out b12)
            clear b12 B11 I11 I1011 SM
            go_wp2
            go_ret
            exact ⟨rfl, B12.out⟩
          · have hub : ((ue : Int) != 0) = true := by rw [bne_iff_ne]; omega
            have hul := HER.out hu
            subst hul
            clear U1' Q2' U3' HER HLM hu R2 SM
            go_wp2_with fail
            refine (QY.out _ B0.out).mono ?_
            rintro e w1 ⟨rfl, b1⟩
            have B1 := hid (below_on B0.out b1)
            clear b1 B0 QY
            go_wp2_with fail
            refine (U1.out _).mono ?_
            rintro e w2 ⟨ad2, cap2, rfl, o2, b2⟩
            have B2 := hid (below_on B1.out b2)
            have I2 := hid (pqi_own o2)
            clear b2 B1 o2 U1
            go_wp2_with fail
            refine (RL.out _ _ I2.out).mono ?_
            rintro e w3 ⟨ad3, cap3, rfl, o3, b3⟩
            have B3 := hid (below_on B2.out b3)
            have I3 := hid (pqi_own o3)
            clear b3 B2 o3 I2 RL
            go_wp2_with fail
            refine (RF.out _ B3.out).mono ?_
            rintro e w4 ⟨ad4, cap4, rfl, o4, b4⟩
            have B4 := hid (below_on B3.out b4)
            have I4 := hid (pqi_own o4)
            have I34 := hid (I3.out.next b4)
            clear b4 B3 o4 I3 RF
            go_wp2_with fail
            refine (SL.out _ _ _ I34.out I4.out).mono ?_
            rintro e w5 ⟨rfl, b5⟩
            have B5 := hid (below_on B4.out b5)
            clear b5 B4 I34 I4 SL
            go_wp2_with fail
            refine (UQ.out _).mono ?_
            rintro e w6 ⟨ad6, cap6, rfl, o6, b6⟩
            have B6 := hid (below_on B5.out b6)
            have I6 := hid (pqi_own o6)
            clear b6 B5 o6 UQ
            go_wp2_with fail
            refine (AW.out _).mono ?_
            rintro e w7 ⟨rfl, b7⟩
            have B7 := hid (below_on B6.out b7)
            clear b7 B6 I6 AW
            go_wp2
            go_ret
            exact ⟨rfl, B7.out⟩
        · have hqb : ((qe : Int) == 0) = false := by rw [beq_eq_false_iff_ne]; omega
          by_cases hu : ue = 0
          · have Q2 := hid (Q2'.out hu)
            have U3 := hid (U3'.out hu)
            subst hu
            clear U1' Q2' U3' HER HLM hq RF RL SL
            go_wp2_with fail
            refine (QY.out _ B0.out).mono ?_
            rintro e w1 ⟨rfl, b1⟩
            have B1 := hid (below_on B0.out b1)
            clear b1 B0 QY
            have B5 := B1
            clear B1
            go_wp2_with fail
            refine (UQ.out _).mono ?_
            rintro e w6 ⟨ad6, cap6, rfl, o6, b6⟩
            have B6 := hid (below_on B5.out b6)
            have I6 := hid (pqi_own o6)
            clear b6 B5 o6 UQ
            go_wp2_with fail
            refine (Q2.out _ _ I6.out).mono ?_
            rintro e w7 ⟨rfl, b7⟩
            have B7 := hid (below_on B6.out b7)
            have I67 := hid (I6.out.next b7)
            clear b7 B6 I6 Q2
            go_wp2_with fail
            refine (U3.out _).mono ?_
            rintro e w8 ⟨ad8, cap8, rfl, o8, b8⟩
            have B8 := hid (below_on B7.out b8)
            have I8 := hid (pqi_own o8)
            have I68 := hid (I67.out.next b8)
            clear b8 B7 o8 I67 U3
            go_wp2_with fail
            refine (AW.out _).mono ?_
            rintro e w9 ⟨rfl, b9⟩
            have B9 := hid (below_on B8.out b9)
            have I89 := hid (I8.out.next b9)
            have I69 := hid (I68.out.next b9)
            clear b9 B8 I8 I68 AW
            go_wp2_with fail
            refine (R2.out _ _ I89.out).mono ?_
            rintro e w10 ⟨ad10, cap10, rfl, o10, b10⟩
            have B10 := hid (below_on B9.out b10)
            have I10 := hid (pqi_own o10)
            have I610 := hid (I69.out.next b10)
            clear b10 B9 o10 I89 I69
            go_wp2_with fail
            refine (R2.out _ _ I610.out).mono ?_
            rintro e w11 ⟨ad11, cap11, rfl, o11, b11⟩
            have B11 := hid (below_on B10.out b11)
            have I11 := hid (pqi_own o11)
            have I1011 := hid (I10.out.next b11)
            clear b11 B10 o11 I10 I610 R2
            go_wp2_with fail
            refine (SM.out _ _ _ I1011.out I11.out).mono ?_
            rintro e w12 ⟨rfl, b12⟩
            have B12 := hid (below_on B11.out b12)
            clear b12 B11 I11 I1011 SM
            go_wp2
            go_ret
            exact ⟨rfl, B12.out⟩
          · have hub : ((ue : Int) != 0) = true := by rw [bne_iff_ne]; omega
            have hul := HER.out hu
            subst hul
            clear U1' Q2' U3' HER HLM hu hq RF RL SL R2 SM
            go_wp2_with fail
            refine (QY.out _ B0.out).mono ?_
            rintro e w1 ⟨rfl, b1⟩
            have B1 := hid (below_on B0.out b1)
            clear b1 B0 QY
            have B5 := B1
            clear B1
            go_wp2_with fail
            refine (UQ.out _).mono ?_
            rintro e w6 ⟨ad6, cap6, rfl, o6, b6⟩
            have B6 := hid (below_on B5.out b6)
            have I6 := hid (pqi_own o6)
            clear b6 B5 o6 UQ
            go_wp2_with fail
            refine (AW.out _).mono ?_
            rintro e w7 ⟨rfl, b7⟩
            have B7 := hid (below_on B6.out b7)
            clear b7 B6 I6 AW
            go_wp2
            go_ret
            exact ⟨rfl, B7.out⟩
end Go.Proofs.YtnohkhgoejjfhaaDoor
