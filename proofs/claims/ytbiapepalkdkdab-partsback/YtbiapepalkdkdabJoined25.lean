/- Joined: The walk of the law PartsBytes. The walk of the law PartsBack. -/
import Derived.Test.YtbiapepalkdkdabFwT
import Derived.Test.YtbiapepalkdkdabPmA
import Derived.Test.YtbiapepalkdkdabJoined24
namespace Go.Proofs.Ytbiapepalkdkdab
open Go.RowKit Go.Maps
set_option linter.unusedVariables false
set_option linter.unusedSimpArgs false

theorem few_pd (t : ByteArray) : FewT (pdV t) := by
  unfold pdV
  split
  · rename_i h
    unfold pdOk at h
    rw [Bool.and_eq_true] at h
    have h1 := arePt_len h.2
    exact ⟨by omega, fun v hv => arePt_all h.2 v hv⟩
  · exact FewT.nil
set_option maxRecDepth 100000 in
set_option maxHeartbeats 2000000 in
theorem partsBytes_walk (v0 : Value) (q : List (Value × Pt)) (s : ByteArray) (w : World) (hv : PtI w v0 q) (hz : q.length * 56 ≤ 140737488355328) (hy : ∀ y ∈ q, ibulk.SzTb y.2) (hs : s.size ≤ reachBytes) :
    Calls Try.prog 5 #[v0, .string s] w fun e w' => e = .returned (.bool true) ∧ Below w.heap.size w w' := by
  have hsz : ∀ q' : List (Value × Pt), tqL q' = tqL q → q'.length ≤ 8796093022208 ∧ ∀ y ∈ q', y.2.sum.size ≤ 140737488355328 ∧ y.2.ps.length ≤ 8796093022208 ∧ ∀ p ∈ y.2.ps, p.id.size ≤ 140737488355328 := fun q' e => ⟨by rw [tm_len e, tqL_len]; omega, fun y hy' => by
    obtain ⟨z, hz', hzy⟩ := List.mem_map.1 (tm_mem e hy')
    obtain ⟨h1, h2, h3⟩ := hy z hz'
    rw [hzy] at h1 h2 h3
    exact ⟨h1, by omega, h3⟩⟩
  have hs2 : s.size ≤ 140737488355328 := Nat.le_trans hs (Nat.le_of_lt reachBytes_lt)
  obtain ⟨av, cv, rfl, -⟩ := hv.form
  have EN := hid (ptencode_any (.slice av q.length cv) q w hv (by omega))
  have LR : Hid (∀ W, Below w.heap.size w W → Calls Try.prog 11 #[.slice av q.length cv] W fun e w' => ∃ ad n cap q', e = .returned (.slice ad n cap) ∧ Hid (PtI w' (.slice ad n cap) q' ∧ tqL q' = tqL q) ∧ Hid (Below W.heap.size W w')) := fun W hW => (trefs_any _ q W (hv.next hW) hz (fun y hy' => (hy y hy').2.1)).mono fun e w' ⟨ad, cap, q', h1, h2, h3, h4⟩ => ⟨ad, _, cap, q', h1, ⟨h3.pt, h2⟩, h4⟩
  have RN : Hid (∀ W v q', (PtI W v q' ∧ tqL q' = tqL q) → Calls Try.prog 25 #[v] W fun e w' => e = .returned (.tuple #[.string (ptTx (tqL q)), .int .i64 (ptTxE (tqL q))]) ∧ Below W.heap.size W w') := fun W v q' hI => by
    have := rptencode_any v q' W hI.1 (hsz q' hI.2)
    rw [hI.2] at this
    exact this
  have DC := hid (fun W => pdecode_any s W hs2)
  have RC := hid (fun W => rpdecode_any s W hs2)
  have FD := hid (few_pd s)
  have AW := hid (fun W => awake14 W)
  clear hv hz hy hs hs2 hsz
  generalize ptTx (tqL q) = CT at *
  generalize ptTxE (tqL q) = CE at *
  generalize pdV s = DL at *
  generalize pdE s = DE at *
  have e2 : (CE == CE) = true := beq_self_eq_true _
  have e3 : (DE == DE) = true := beq_self_eq_true _
  go_enter Try.func5, Try.ntmps5
  go_wp2_with fail
  refine EN.out.mono ?_
  rintro e w1 ⟨rfl, b1⟩
  have B1 := hid b1
  clear EN b1
  go_wp2_with fail
  refine (LR.out _ B1.out).mono ?_
  rintro e w2 ⟨ad2, n2, cap2, q2, rfl, I2, K2⟩
  have B2 := hid (below_on B1.out K2.out)
  clear B1 K2 LR
  go_wp2_with fail
  refine (RN.out _ _ _ I2.out).mono ?_
  rintro e w3 ⟨rfl, b3⟩
  have B3 := hid (below_on B2.out b3)
  clear b3 B2 RN I2
  go_wp2_with fail
  refine (DC.out _).mono ?_
  rintro e w4 ⟨ad4, n4, cap4, q4, rfl, e4, i4, b4⟩
  have E4 := hid e4
  have I4 := hid i4
  have B4 := hid (below_on B3.out b4)
  clear e4 i4 b4 B3 DC
  go_wp2_with fail
  refine (RC.out _).mono ?_
  rintro e w5 ⟨ad5, n5, cap5, q5, rfl, e5, i5, b5⟩
  have E5 := hid e5
  have I5 := hid i5
  have I45 := hid (I4.out.next b5)
  have B5 := hid (below_on B4.out b5)
  clear e5 i5 b5 B4 RC I4
  go_wp2_with fail
  refine (AW.out _).mono ?_
  rintro e w6 ⟨rfl, b6⟩
  have I46 := hid (I45.out.next b6)
  have I56 := hid (I5.out.next b6)
  have B6 := hid (below_on B5.out b6)
  have R6 := hid (trefs_few2 _ _ DL _ I46.out E4.out FD.out)
  clear I45 I5 B5 b6 AW I46
  go_wp2_with fail
  refine R6.out.mono ?_
  rintro e w7 ⟨ad7, n7, cap7, q7, rfl, I7, K7⟩
  have B7 := hid (below_on B6.out K7.out)
  have A7 := hid (tsame_few _ _ _ _ DL _ I7.out.1 (I56.out.next K7.out) I7.out.2 E5.out FD.out)
  clear R6 I56 B6 K7 I7
  go_wp2_with fail
  refine A7.out.mono ?_
  rintro e w8 ⟨rfl, b8⟩
  have B8 := hid (below_on B7.out b8)
  clear A7 b8 B7
  go_wp2
  go_ret
  exact ⟨rfl, B8.out⟩
end Go.Proofs.Ytbiapepalkdkdab
namespace Go.Proofs.Ytbiapepalkdkdab
open Go.RowKit Go.Maps
set_option linter.unusedVariables false
set_option linter.unusedSimpArgs false

theorem ptTx_size (l : List Pt) : (ptTx l).size ≤ 4312810 := by
  unfold ptTx
  split
  · rename_i h
    show (tsB l).toArray.size ≤ _
    have := tsB_len h
    simpa using this
  · show (0 : Nat) ≤ _
    omega
theorem pdE_iff (t : ByteArray) : (pdE t = 0 ∧ pdOk t = true) ∨ (pdE t = 3 ∧ pdV t = []) := by
  unfold pdE pdV
  cases h : pdOk t
  · exact .inr ⟨rfl, rfl⟩
  · exact .inl ⟨rfl, rfl⟩
theorem pti_len {W : World} {ad : Option Addr} {n cap : Nat} {q : List (Value × Pt)} (h : PtI W (.slice ad n cap) q) : n = q.length := by
  obtain ⟨ad', cap', e, -⟩ := h.form
  injection e
set_option maxRecDepth 100000 in
set_option maxHeartbeats 2000000 in
theorem partsBack_walk (v0 : Value) (q : List (Value × Pt)) (s : ByteArray) (w : World) (hv : PtI w v0 q) (hz : q.length * 56 ≤ 140737488355328) (hy : ∀ y ∈ q, ibulk.SzTb y.2) (hs : s.size ≤ reachBytes) :
    Calls Try.prog 6 #[v0, .string s] w fun e w' => e = .returned (.bool true) ∧ Below w.heap.size w w' := by
  have hs2 : s.size ≤ 140737488355328 := Nat.le_trans hs (Nat.le_of_lt reachBytes_lt)
  obtain ⟨av, cv, rfl, -⟩ := hv.form
  have EN := hid (ptencode_any (.slice av q.length cv) q w hv (by omega))
  have DC := hid (fun W => pdecode_any s W hs2)
  have HIV := hid hv
  have EN2 : Hid (pdE s = 0 → ∀ (v : Value) (q' : List (Value × Pt)) W, PtI W v q' → tqL q' = pdV s → Calls Try.prog 24 #[v] W fun e w' => e = .returned (.tuple #[.string s, .int .i64 0]) ∧ Below W.heap.size W w') := fun h0 v q' W hI hq => by
    have hok : pdOk s = true := by
      rcases pdE_iff s with h | h
      · exact h.2
      · rw [h0] at h; exact absurd h.1 (by decide)
    have := ptencode_any v q' W hI (by have h9 := tm_len hq; have h8 := (few_pd s).1; omega)
    rw [hq, (pd_one hok).2, show ptTxE (pdV s) = 0 by unfold ptTxE; rw [if_pos (pd_one hok).1]] at this
    exact this
  have HN : Hid (pdE s = 3 → ∀ (ad : Option Addr) (n cap : Nat) (q' : List (Value × Pt)) W, PtI W (.slice ad n cap) q' → tqL q' = pdV s → n = 0) := fun h3 ad n cap q' W hI hq => by
    have hnil : pdV s = [] := by
      rcases pdE_iff s with h | h
      · rw [h3] at h; exact absurd h.1 (by decide)
      · exact h.2
    have h1 := pti_len hI
    have h2 := tqL_len q'
    rw [hq, hnil] at h2
    simp at h2
    omega
  have HG : Hid (pdE s = 0 ∨ pdE s = 3) := by
    rcases pdE_iff s with h | h
    · exact .inl h.1
    · exact .inr h.1
  have AW := hid (fun W => awake14 W)
  have HTE : Hid (ptTxE (tqL q) = if arePt (tqL q) = true then 0 else 1) := rfl
  have D1 : Hid (arePt (tqL q) = true → ∀ W, Calls Try.prog 26 #[.string (ptTx (tqL q))] W (GiveQ W (tqL q) 0)) := fun hc W => by
    have := pdecode_any (ptTx (tqL q)) W (by have := ptTx_size (tqL q); omega)
    rw [(pd_enc hc).1, (pd_enc hc).2] at this
    exact this
  have FW : Hid (arePt (tqL q) = true → FewT (tqL q)) := fun hc => ⟨by have := arePt_len hc; omega, arePt_all hc⟩
  clear hv hz hy hs hs2
  generalize ptTx (tqL q) = CT at *
  generalize ptTxE (tqL q) = CE at *
  generalize pdV s = DL at *
  generalize pdE s = DE at *
  have e1 : (s.data.toList == s.data.toList) = true := beq_self_eq_true _
  go_enter Try.func6, Try.ntmps6
  go_wp2_with fail
  refine EN.out.mono ?_
  rintro e w1 ⟨rfl, b1⟩
  have B1 := hid b1
  have I1 := hid (HIV.out.next b1)
  clear EN b1 HIV
  by_cases hIS : arePt (tqL q) = true
  · have hCE : CE = 0 := by rw [HTE.out, if_pos hIS]
    subst hCE
    have DD := hid (D1.out hIS)
    have FQ := hid (FW.out hIS)
    clear HTE D1 FW hIS
    go_wp2_with fail
    refine (DD.out _).mono ?_
    rintro e w2 ⟨ad2, n2, cap2, q2, rfl, e2, i2, b2⟩
    have E2 := hid e2
    have B2 := hid (below_on B1.out b2)
    have I2 := hid (I1.out.next b2)
    have R2 := hid (trefs_few2 _ _ _ _ i2 e2 FQ.out)
    clear e2 i2 b2 B1 I1 DD
    go_wp2_with fail
    refine R2.out.mono ?_
    rintro e w3 ⟨ad3, n3, cap3, q3, rfl, J3, K3⟩
    have B3 := hid (below_on B2.out K3.out)
    have R3 := hid (trefs_few2 _ _ (tqL q) _ (I2.out.next K3.out) rfl FQ.out)
    clear B2 I2 R2 K3
    go_wp2_with fail
    refine R3.out.mono ?_
    rintro e w7 ⟨ad7, n7, cap7, q7, rfl, J7, K7⟩
    have B7 := hid (below_on B3.out K7.out)
    have A7 := hid (tsame_few _ _ _ _ _ _ (J3.out.1.next K7.out) J7.out.1 J3.out.2 J7.out.2 FQ.out)
    clear R3 K7 B3 J3 J7 E2
    go_wp2_with fail
    refine A7.out.mono ?_
    rintro e w8 ⟨rfl, b8⟩
    have BX := hid (below_on B7.out b8)
    clear A7 b8 B7 FQ
    go_wp2_with fail
    refine (DC.out _).mono ?_
    rintro e w4 ⟨ad4, n4, cap4, q4, rfl, e4, i4, b4⟩
    have E4 := hid e4
    have I4 := hid i4
    have B4 := hid (below_on BX.out b4)
    clear e4 i4 b4 BX DC
    rcases HG.out with hd | hd
    · subst hd
      have N4 := hid (EN2.out rfl _ _ _ I4.out E4.out)
      clear EN2 HG HN
      go_wp2_with fail
      refine N4.out.mono ?_
      rintro e w5 ⟨rfl, b5⟩
      have B5 := hid (below_on B4.out b5)
      clear N4 b5 B4 I4 E4
      go_wp2_with fail
      refine (AW.out _).mono ?_
      rintro e w6 ⟨rfl, b6⟩
      have B6 := hid (below_on B5.out b6)
      clear b6 B5 AW
      go_wp2
      go_ret
      exact ⟨rfl, B6.out⟩
    · subst hd
      have hn := HN.out rfl _ _ _ _ _ I4.out E4.out
      subst hn
      clear EN2 HG HN I4 E4
      go_wp2_with fail
      refine (AW.out _).mono ?_
      rintro e w6 ⟨rfl, b6⟩
      have B6 := hid (below_on B4.out b6)
      clear b6 B4 AW
      go_wp2
      go_ret
      exact ⟨rfl, B6.out⟩
  · have hCE : CE = 1 := by rw [HTE.out, if_neg hIS]
    subst hCE
    have BX := B1
    clear HTE D1 FW hIS B1 I1
    go_wp2_with fail
    refine (DC.out _).mono ?_
    rintro e w4 ⟨ad4, n4, cap4, q4, rfl, e4, i4, b4⟩
    have E4 := hid e4
    have I4 := hid i4
    have B4 := hid (below_on BX.out b4)
    clear e4 i4 b4 BX DC
    rcases HG.out with hd | hd
    · subst hd
      have N4 := hid (EN2.out rfl _ _ _ I4.out E4.out)
      clear EN2 HG HN
      go_wp2_with fail
      refine N4.out.mono ?_
      rintro e w5 ⟨rfl, b5⟩
      have B5 := hid (below_on B4.out b5)
      clear N4 b5 B4 I4 E4
      go_wp2_with fail
      refine (AW.out _).mono ?_
      rintro e w6 ⟨rfl, b6⟩
      have B6 := hid (below_on B5.out b6)
      clear b6 B5 AW
      go_wp2
      go_ret
      exact ⟨rfl, B6.out⟩
    · subst hd
      have hn := HN.out rfl _ _ _ _ _ I4.out E4.out
      subst hn
      clear EN2 HG HN I4 E4
      go_wp2_with fail
      refine (AW.out _).mono ?_
      rintro e w6 ⟨rfl, b6⟩
      have B6 := hid (below_on B4.out b6)
      clear b6 B4 AW
      go_wp2
      go_ret
      exact ⟨rfl, B6.out⟩
end Go.Proofs.Ytbiapepalkdkdab
