/- The walk of the law ChainBytes. -/
import Derived.Test.YtbiapepalkdkdaaJoined11
import Derived.Test.YtbiapepalkdkdaaJoined17
import Derived.Test.YtbiapepalkdkdaaWVPuts
namespace Go.Proofs.Ytbiapepalkdkdaa
open Go.RowKit Go.Maps
set_option linter.unusedVariables false
set_option linter.unusedSimpArgs false

theorem few_cd (t : ByteArray) : Few (cdV t) := by
  unfold cdV
  split
  · rename_i h
    unfold cdOk at h
    rw [Bool.and_eq_true] at h
    have h1 := isCh_len h.2
    exact ⟨by omega, fun v hv => isCh_all h.2 v hv⟩
  · exact Few.nil
set_option maxRecDepth 100000 in
set_option maxHeartbeats 2000000 in
theorem chainBytes_walk (v0 : Value) (q : List (Value × Vn)) (s : ByteArray) (w : World) (hv : VnI w v0 q) (hz : q.length * 64 ≤ 140737488355328) (hy : ∀ y ∈ q, ibulk.SzB y.2) (hs : s.size ≤ reachBytes) :
    Calls Try.prog 6 #[v0, .string s] w fun e w' => e = .returned (.bool true) ∧ Below w.heap.size w w' := by
  have hsz : SzQ q := ⟨by omega, fun y hy' => by obtain ⟨h1, h2, h3⟩ := hy y hy'; exact ⟨h1, by omega, h3⟩⟩
  have hs2 : s.size ≤ 140737488355328 := Nat.le_trans hs (Nat.le_of_lt reachBytes_lt)
  obtain ⟨av, cv, rfl, -⟩ := hv.form
  have EN := hid (vencode_any (.slice av q.length cv) q w hv)
  have LR : Hid (∀ W, Below w.heap.size w W → Calls Try.prog 18 #[.slice av q.length cv] W fun e w' => ∃ ad n cap q', e = .returned (.slice ad n cap) ∧ Hid (VnI w' (.slice ad n cap) q' ∧ vqL q' = vqL q) ∧ Hid (Below W.heap.size W w')) := fun W hW => (lrefs_any _ q W (hv.next hW) hz (fun y hy' => (hy y hy').2.1)).mono fun e w' ⟨ad, cap, q', h1, h2, h3, h4⟩ => ⟨ad, _, cap, q', h1, ⟨h3.vn, h2⟩, h4⟩
  have RN : Hid (∀ W v q', (VnI W v q' ∧ vqL q' = vqL q) → Calls Try.prog 31 #[v] W fun e w' => e = .returned (.tuple #[.string (chT (vqL q)), .int .i64 (chTE (vqL q))]) ∧ Below W.heap.size W w') := fun W v q' hI => by
    have := rvencode_any v q' W hI.1 (hsz.of hI.2)
    rw [hI.2] at this
    exact this
  have DC := hid (fun W => vdecode_any s W hs2)
  have RC := hid (fun W => rvdecode_any s W hs2)
  have FD := hid (few_cd s)
  have AW := hid (fun W => awake13 W)
  clear hv hz hy hs hs2 hsz
  generalize chT (vqL q) = CT at *
  generalize chTE (vqL q) = CE at *
  generalize cdV s = DL at *
  generalize cdE s = DE at *
  have e2 : (CE == CE) = true := beq_self_eq_true _
  have e3 : (DE == DE) = true := beq_self_eq_true _
  go_enter Try.func6, Try.ntmps6
  go_wp2_with fail
  refine EN.out.mono ?_
  rintro e w1 ⟨rfl, b1⟩
  have B1 := hid b1
  clear EN b1
  go_wp2_with fail
  refine (LR.out _ B1.out).mono ?_
  rintro e w2 ⟨ad2, n2, cap2, q2, rfl, I2, K2⟩
  have B2 := hid (below_on B1.out K2.out)
  clear B1 K2 LR
  go_wp2_with fail
  refine (RN.out _ _ _ I2.out).mono ?_
  rintro e w3 ⟨rfl, b3⟩
  have B3 := hid (below_on B2.out b3)
  clear b3 B2 RN I2
  go_wp2_with fail
  refine (DC.out _).mono ?_
  rintro e w4 ⟨ad4, n4, cap4, q4, rfl, e4, i4, b4⟩
  have E4 := hid e4
  have I4 := hid i4
  have B4 := hid (below_on B3.out b4)
  clear e4 i4 b4 B3 DC
  go_wp2_with fail
  refine (RC.out _).mono ?_
  rintro e w5 ⟨ad5, n5, cap5, q5, rfl, e5, i5, b5⟩
  have E5 := hid e5
  have I5 := hid i5
  have I45 := hid (I4.out.next b5)
  have B5 := hid (below_on B4.out b5)
  clear e5 i5 b5 B4 RC I4
  go_wp2_with fail
  refine (AW.out _).mono ?_
  rintro e w6 ⟨rfl, b6⟩
  have I46 := hid (I45.out.next b6)
  have I56 := hid (I5.out.next b6)
  have B6 := hid (below_on B5.out b6)
  have R6 := hid (refs_few _ _ DL _ I46.out E4.out FD.out)
  clear I45 I5 B5 b6 AW I46
  go_wp2_with fail
  refine R6.out.mono ?_
  rintro e w7 ⟨ad7, n7, cap7, q7, rfl, I7, K7⟩
  have B7 := hid (below_on B6.out K7.out)
  have A7 := hid (alike_few _ _ _ _ DL _ I7.out.1 (I56.out.next K7.out) I7.out.2 E5.out FD.out)
  clear R6 I56 B6 K7 I7
  go_wp2_with fail
  refine A7.out.mono ?_
  rintro e w8 ⟨rfl, b8⟩
  have B8 := hid (below_on B7.out b8)
  clear A7 b8 B7
  go_wp2
  go_ret
  exact ⟨rfl, B8.out⟩
end Go.Proofs.Ytbiapepalkdkdaa
