/- PercentQueries, walked. -/
import Derived.Test.YtnohkhgoejjfhaaDoorWPeM
namespace Go.Proofs.YtnohkhgoejjfhaaDoor
open Go.RowKit Go.Maps
set_option linter.unusedVariables false
set_option linter.unusedSimpArgs false

set_option maxRecDepth 100000 in
set_option maxHeartbeats 8000000 in
theorem percentQueries_walk (v : Value) (l : List Pq) (t nm : ByteArray) (w : World) (hv : PqI w v l) (z1 : t.size ≤ 140737488355328) (z2 : nm.size ≤ 140737488355328) (hbd : szP l + l.length + t.size ≤ 1048576) : Calls Tryd.prog 4 #[v, .string t, .string nm] w fun e w' => e = .returned (.bool true) ∧ Below w.heap.size w w' := by
  have AW := hid (fun W => awake18 W)
  have HV := hid hv
  obtain ⟨ad, cap, rfl, hc⟩ := hv.form
  have HBD := hid hbd
  have QY : Hid (∀ W, Below w.heap.size w W → Calls Tryd.prog 15 #[.slice ad l.length cap] W fun e w' => e = .returned (.tuple #[.string ⟨(quT l).1.toArray⟩, .int .i64 (quT l).2]) ∧ Below W.heap.size W w') := fun W hW => query_any _ l W (hv.next hW) (by omega)
  have RF : Hid (∀ W, Below w.heap.size w W → Calls Tryd.prog 17 #[.slice ad l.length cap] W (GiveR W l)) := fun W hW => refs18_any _ l W (hv.next hW) (by omega)
  have RQ : Hid (∀ W u, PqI W u l → Calls Tryd.prog 16 #[u] W fun e w' => e = .returned (.tuple #[.string ⟨(quT l).1.toArray⟩, .int .i64 (quT l).2]) ∧ Below W.heap.size W w') := fun W u hu => rquery_any u l W hu (by omega)
  have UQ := hid (fun W => unquery_any t W (by omega))
  have RU := hid (fun W => runquery_any t W (by omega))
  have PG : Hid (∀ W, Below w.heap.size w W → Calls Tryd.prog 20 #[.slice ad l.length cap, .string nm] W fun e w' => e = .returned (.tuple #[.string ⟨(getP l nm.data.toList).1.toArray⟩, .bool (getP l nm.data.toList).2]) ∧ Below W.heap.size W w') := fun W hW => pget_any _ l nm W (hv.next hW) (by omega) (by omega)
  have RG : Hid (∀ W u, PqI W u l → Calls Tryd.prog 21 #[u, .string nm] W fun e w' => e = .returned (.tuple #[.string ⟨(getP l nm.data.toList).1.toArray⟩, .bool (getP l nm.data.toList).2]) ∧ Below W.heap.size W w') := fun W u hu => rget_any u l nm W hu (by omega)
  have R2 : Hid (∀ W u, PqI W u (unT t.data.toList).1 → Calls Tryd.prog 17 #[u] W (GiveR W (unT t.data.toList).1)) := fun W u hu => refs18_any u _ W hu (by have := (unT_len t.data.toList).2; omega)
  have SM : Hid (∀ W u u', PqI W u (unT t.data.toList).1 → PqI W u' (unT t.data.toList).1 → Calls Tryd.prog 22 #[u, u'] W fun e w' => e = .returned (.bool true) ∧ Below W.heap.size W w') := fun W u u' hu hu' => rsame18_true u u' _ W hu hu' (by have := (unT_len t.data.toList).2; omega)
  obtain ⟨TS, HTS⟩ : ∃ TS : Nat, Hid (TS = t.size) := ⟨_, rfl⟩
  have HARM : Hid (∀ (k N : Nat) (wr : World), k < l.length → N = TS + szP (l.take k) → Below w.heap.size w wr → QArm l ad TS k N wr) := fun k N wr hk hN hb => q_arm l ad TS w (by rw [HTS.out]; omega) hc k N wr hk hN hb
  clear hc hv hbd z1 z2
  generalize quT l = QL at *
  generalize unT t.data.toList = UT at *
  generalize getP l nm.data.toList = GL at *
  obtain ⟨ql, qe⟩ := QL
  obtain ⟨ul, ue⟩ := UT
  obtain ⟨gl, gb⟩ := GL
  simp only at *
  generalize (⟨ql.toArray⟩ : ByteArray) = QA at *
  generalize (⟨gl.toArray⟩ : ByteArray) = GA at *
  have hTS : (t.size : Int) = (TS : Int) := by rw [HTS.out]
  go_enter Tryd.func4, Tryd.ntmps4
  go_wp2
  clear hTS
  go_loopw [7, 8] (fun nn i wr => ∃ k N : Nat, k ≤ l.length ∧ nn = .int .i64 (N : Int) ∧ i = .int .i64 (k : Int) ∧ Hid (N = TS + szP (l.take k)) ∧ Hid (Below w.heap.size w wr)) (fun _ i _ => l.length - (intOf i).toNat)
  case atStart => exact ⟨0, TS, Nat.zero_le _, by first | rfl | rw [HTS.out], rfl, by show _ = _; simp [szP], Below.refl _ _⟩
  case round =>
    obtain ⟨k, N, hk, rfl, rfl, HN, HB⟩ := hrel
    rename World => wr
    by_cases hlt : k < l.length
    · obtain ⟨b, off, NA, VA, N1, N2, had, HLT, HN2, hwk, hk1, hk0, w1, w2, d0, d1⟩ := HARM.out k N wr hlt HN.out HB.out
      subst had
      have HBN : Hid (∀ n, Below w.heap.size w (wr.drewN n)) := fun n => below_drewN HB.out n
      clear HARM HN HB hlt hk AW HV QY RF RQ UQ RU PG RG R2 SM HBD HTS
      go_wp2
      go_quiet (fail)
      go_wp2
      exact ⟨⟨k + 1, N2, HLT.out, by first | rw [w2] | (simp; exact w2) | rfl, by first | rw [hwk] | rfl | simp, HN2, HBN.out _⟩, by (try rw [hwk]); have := HLT.out; simp [intOf]; omega⟩
    · have hd1 : decide ((k : Int) < (l.length : Int)) = false := decide_eq_false (by omega)
      have hd2 : decide (k < l.length) = false := decide_eq_false hlt
      have HNN : Hid (N = TS + szP l) := by show _ = _; rw [HN.out, List.take_of_length_le (by omega)]
      have B0 := HB
      clear HB HN hlt hk HARM
      by_cases h5 : 5000 < N
      · have g5 : (5000 : Int) < (N : Int) := by omega
        clear h5 HV QY RF RQ UQ RU PG RG R2 SM HBD HTS HNN
        go_wp2_with fail
        refine (AW.out _).mono ?_
        rintro e w1 ⟨rfl, b1⟩
        have B1 := hid (below_on B0.out b1)
        clear b1 B0
        go_wp2
        go_ret
        exact ⟨rfl, B1.out⟩
      · have g5 : ¬ (5000 : Int) < (N : Int) := by omega
        clear h5 HBD HTS HNN
        go_wp2_with fail
        refine (QY.out _ B0.out).mono ?_
        rintro e w1 ⟨rfl, b1⟩
        have B1 := hid (below_on B0.out b1)
        clear b1 B0 QY
        go_wp2_with fail
        refine (RF.out _ B1.out).mono ?_
        rintro e w2 ⟨ad2, cap2, rfl, o2, b2⟩
        have B2 := hid (below_on B1.out b2)
        have I2 := hid (pqi_own o2)
        clear b2 B1 o2
        go_wp2_with fail
        refine (RQ.out _ _ I2.out).mono ?_
        rintro e w3 ⟨rfl, b3⟩
        have B3 := hid (below_on B2.out b3)
        clear b3 B2 I2 RQ
        go_wp2_with fail
        refine (UQ.out _).mono ?_
        rintro e w4 ⟨ad4, cap4, rfl, o4, b4⟩
        have B4 := hid (below_on B3.out b4)
        have I4 := hid (pqi_own o4)
        clear b4 B3 o4 UQ
        go_wp2_with fail
        refine (RU.out _).mono ?_
        rintro e w5 ⟨ad5, cap5, rfl, o5, b5⟩
        have B5 := hid (below_on B4.out b5)
        have I5 := hid (pqi_own o5)
        have I4' := hid (I4.out.next b5)
        clear b5 B4 o5 RU I4
        go_wp2_with fail
        refine (PG.out _ B5.out).mono ?_
        rintro e w6 ⟨rfl, b6⟩
        have B6 := hid (below_on B5.out b6)
        have I46 := hid (I4'.out.next b6)
        have I56 := hid (I5.out.next b6)
        clear b6 B5 I4' I5 PG
        go_wp2_with fail
        refine (RF.out _ B6.out).mono ?_
        rintro e w7 ⟨ad7, cap7, rfl, o7, b7⟩
        have B7 := hid (below_on B6.out b7)
        have I7 := hid (pqi_own o7)
        have I47 := hid (I46.out.next b7)
        have I57 := hid (I56.out.next b7)
        clear b7 B6 o7 I46 I56 RF
        go_wp2_with fail
        refine (RG.out _ _ I7.out).mono ?_
        rintro e w8 ⟨rfl, b8⟩
        have B8 := hid (below_on B7.out b8)
        have I48 := hid (I47.out.next b8)
        have I58 := hid (I57.out.next b8)
        clear b8 B7 I7 I47 I57 RG
        go_wp2_with fail
        refine (AW.out _).mono ?_
        rintro e w9 ⟨rfl, b9⟩
        have B9 := hid (below_on B8.out b9)
        have I49 := hid (I48.out.next b9)
        have I59 := hid (I58.out.next b9)
        clear b9 B8 I48 I58 AW
        go_wp2_with fail
        refine (R2.out _ _ I49.out).mono ?_
        rintro e w10 ⟨ad10, cap10, rfl, o10, b10⟩
        have B10 := hid (below_on B9.out b10)
        have I10 := hid (pqi_own o10)
        have I510 := hid (I59.out.next b10)
        clear b10 B9 o10 I49 I59 R2
        go_wp2_with fail
        refine (SM.out _ _ _ I10.out I510.out).mono ?_
        rintro e w11 ⟨rfl, b11⟩
        have B11 := hid (below_on B10.out b11)
        clear b11 B10 I10 I510 SM
        go_wp2
        go_ret
        exact ⟨rfl, B11.out⟩
end Go.Proofs.YtnohkhgoejjfhaaDoor
