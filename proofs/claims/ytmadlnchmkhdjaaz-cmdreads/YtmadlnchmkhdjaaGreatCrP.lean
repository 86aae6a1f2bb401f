/- What the document's Decode of a command reads, held against what the program's reads. -/
import Derived.Test.YtmadlnchmkhdjaaGreatCmP
import Derived.Test.YtmadlnchmkhdjaaGreatJoined23
import Derived.Test.YtmadlnchmkhdjaaGreatCmZ
namespace Go.Proofs.YtmadlnchmkhdjaaGreat
open Go.RowKit Go.Maps
set_option linter.unusedVariables false
set_option linter.unusedSimpArgs false

def q1 (s : ByteArray) (h : Int) (r : CrR) : CrR := if hasF h 1 = true then ⟨(tS s r.a r.e 64).a, (tS s r.a r.e 64).e, { r.c with tk := (tS s r.a r.e 64).x }⟩ else r
def q2 (s : ByteArray) (h : Int) (r : CrR) : CrR := if hasF h 2 = true then ⟨(tS s r.a r.e 63).a, (tS s r.a r.e 63).e, { r.c with bk := (tS s r.a r.e 63).x }⟩ else r
def rdQ (s : ByteArray) : CrR :=
  let h := flN ((dcN s 10 0 0).n : Int)
  s8 s h (s7 s h (s6 s h (s5 s h (s4 s h (s3 s h (q2 s h (q1 s h (r0 s 0 0))))))))
def qcOk (s : ByteArray) : Bool := (endE s (rdQ s).a (rdQ s).e == 0) && cmOk (rdQ s).c
def qcC (s : ByteArray) : Cm := if qcOk s = true then (rdQ s).c else cm0
def qcE (s : ByteArray) : Int := if qcOk s = true then 0 else 3
theorem tS_two (s : ByteArray) (a e m M : Int) (h : m ≤ M) : tS s a e m = tS s a e M ∨ ((tS s a e m).e ≠ 0 ∧ m < ((tS s a e M).x.size : Int)) ∨ ((tS s a e m).e ≠ 0 ∧ (tS s a e M).e ≠ 0) := by
  unfold tS
  by_cases h1 : e = 0
  · rw [if_pos h1, if_pos h1]
    by_cases h2 : (txtAt s a).e = 0
    · rw [if_pos h2, if_pos h2]
      by_cases h3 : ((txtAt s a).x.size : Int) ≤ m
      · rw [if_pos h3, if_pos (by omega)]; exact .inl rfl
      · rw [if_neg h3]
        by_cases h4 : ((txtAt s a).x.size : Int) ≤ M
        · rw [if_pos h4]; exact .inr (.inl ⟨by simp, by simp only; omega⟩)
        · rw [if_neg h4]; exact .inl rfl
    · rw [if_neg h2, if_neg h2]; exact .inl rfl
  · rw [if_neg h1, if_neg h1]; exact .inl rfl
theorem q1_two (s : ByteArray) (h : Int) (r : CrR) : q1 s h r = s1 s h r ∨ ((q1 s h r).e ≠ 0 ∧ hasF h 1 = true ∧ 64 < (s1 s h r).c.tk.size) ∨ ((q1 s h r).e ≠ 0 ∧ (s1 s h r).e ≠ 0) := by
  unfold q1 s1
  by_cases hf : hasF h 1 = true
  · rw [if_pos hf, if_pos hf]
    rcases tS_two s r.a r.e 64 1024 (by omega) with h1 | ⟨h1, h2⟩ | ⟨h1, h2⟩
    · left; rw [h1]
    · exact .inr (.inl ⟨h1, hf, by simp only; omega⟩)
    · exact .inr (.inr ⟨h1, h2⟩)
  · rw [if_neg hf, if_neg hf]; exact .inl rfl
theorem q2_two (s : ByteArray) (h : Int) (r : CrR) : q2 s h r = s2 s h r ∨ ((q2 s h r).e ≠ 0 ∧ hasF h 2 = true ∧ 63 < (s2 s h r).c.bk.size) ∨ ((q2 s h r).e ≠ 0 ∧ (s2 s h r).e ≠ 0) := by
  unfold q2 s2
  by_cases hf : hasF h 2 = true
  · rw [if_pos hf, if_pos hf]
    rcases tS_two s r.a r.e 63 1024 (by omega) with h1 | ⟨h1, h2⟩ | ⟨h1, h2⟩
    · left; rw [h1]
    · exact .inr (.inl ⟨h1, hf, by simp only; omega⟩)
    · exact .inr (.inr ⟨h1, h2⟩)
  · rw [if_neg hf, if_neg hf]; exact .inl rfl
theorem erq2 (s : ByteArray) (h : Int) (r : CrR) (he : (q2 s h r).e = 0) : r.e = 0 := by
  unfold q2 at he
  split at he
  · simp only at he
    exact st_T he
  · exact he
/-- the steps that both have -/
def sR (s : ByteArray) (h : Int) (r : CrR) : CrR := s8 s h (s7 s h (s6 s h (s5 s h (s4 s h (s3 s h r)))))
theorem sR_e (s : ByteArray) (h : Int) (r : CrR) (he : r.e ≠ 0) : (sR s h r).e ≠ 0 := fun h8 =>
  he (er3 _ _ _ (er4 _ _ _ (er5 _ _ _ (er6 _ _ _ (er7 _ _ _ (er8 _ _ _ h8))))))
theorem sR_c (s : ByteArray) (h : Int) (r : CrR) : (sR s h r).c.kd = r.c.kd ∧ (sR s h r).c.tk = r.c.tk ∧ (sR s h r).c.bk = r.c.bk := by
  unfold sR
  obtain ⟨a8, b8, c8, -⟩ := keep8 s h (s7 s h (s6 s h (s5 s h (s4 s h (s3 s h r)))))
  obtain ⟨a7, b7, c7, -⟩ := keep7 s h (s6 s h (s5 s h (s4 s h (s3 s h r))))
  obtain ⟨a6, b6, c6, -⟩ := keep6 s h (s5 s h (s4 s h (s3 s h r)))
  obtain ⟨a5, b5, c5, -⟩ := keep5 s h (s4 s h (s3 s h r))
  obtain ⟨a4, b4, c4, -⟩ := keep4 s h (s3 s h r)
  obtain ⟨a3, b3, c3, -⟩ := keep3 s h r
  exact ⟨by rw [a8, a7, a6, a5, a4, a3], by rw [b8, b7, b6, b5, b4, b3], by rw [c8, c7, c6, c5, c4, c3]⟩
theorem end_no (s : ByteArray) (a e : Int) (he : e ≠ 0) : (endE s a e == 0) = false := by
  unfold endE
  rw [if_neg (fun h => he h.1)]
  exact beq_eq_false_iff_ne.2 he
theorem sz_list (b : ByteArray) : b.data.toList.length = b.size := rfl
theorem ok_tk {c : Cm} (hf : hasF (flN c.kd) 1 = true) (hs : 64 < c.tk.size) : cmOk c = false := by
  have hl := sz_list c.tk
  have h1 : emB c.tk = false := by unfold emB; exact decide_eq_false (by omega)
  have h2 : tokOk c.tk.data.toList = false := by
    unfold tokOk
    have h3 : decide (c.tk.data.toList.length ≤ 64) = false := decide_eq_false (by omega)
    rw [h3, Bool.and_false, Bool.false_and]
  have h4 : nfB (flN c.kd) c.tk c.bk c.ky = false := by
    unfold nfB
    have h5 : fitB (flN c.kd) 1 (emB c.tk || tokOk c.tk.data.toList) (emB c.tk) = false := by unfold fitB; rw [if_pos hf, h1, h2]; rfl
    rw [h5, Bool.false_and, Bool.false_and]
  unfold cmOk
  rw [h4, Bool.and_false, Bool.false_and, Bool.false_and]
theorem ok_bk {c : Cm} (hf : hasF (flN c.kd) 2 = true) (hs : 63 < c.bk.size) : cmOk c = false := by
  have hl := sz_list c.bk
  have h2 : bktOk c.bk.data.toList = false := by
    unfold bktOk
    have h3 : decide (3 ≤ c.bk.data.toList.length ∧ c.bk.data.toList.length ≤ 63) = false := decide_eq_false (by omega)
    rw [h3, Bool.false_and]
  have h4 : nfB (flN c.kd) c.tk c.bk c.ky = false := by
    unfold nfB
    have h5 : fitB (flN c.kd) 2 (bktOk c.bk.data.toList) (emB c.bk) = false := by unfold fitB; rw [if_pos hf, h2]
    rw [h5, Bool.and_false, Bool.false_and]
  unfold cmOk
  rw [h4, Bool.and_false, Bool.false_and, Bool.false_and]
theorem qc_eq (s : ByteArray) : (qcOk s = ccOk s) ∧ (qcOk s = true → rdQ s = rdC s 0 0) := by
  have hQ : rdQ s = sR s (flN ((dcN s 10 0 0).n : Int)) (q2 s (flN ((dcN s 10 0 0).n : Int)) (q1 s (flN ((dcN s 10 0 0).n : Int)) (r0 s 0 0))) := rfl
  have hC : rdC s 0 0 = sR s (flN ((dcN s 10 0 0).n : Int)) (s2 s (flN ((dcN s 10 0 0).n : Int)) (s1 s (flN ((dcN s 10 0 0).n : Int)) (r0 s 0 0))) := rfl
  have hk : (rdC s 0 0).c.kd = ((dcN s 10 0 0).n : Int) := by
    rw [hC, (sR_c _ _ _).1, (keep2 _ _ _).1, (keep1 _ _ _).1]; rfl
  have both : ∀ (h1 : (rdQ s).e ≠ 0), ((rdC s 0 0).e ≠ 0 ∨ cmOk (rdC s 0 0).c = false) → (qcOk s = ccOk s) ∧ (qcOk s = true → rdQ s = rdC s 0 0) := fun h1 h2 => by
    have e1 : qcOk s = false := by unfold qcOk; rw [end_no _ _ _ h1]; rfl
    have e2 : ccOk s = false := by
      unfold ccOk
      rcases h2 with h2 | h2
      · rw [end_no _ _ _ h2]; rfl
      · rw [h2]; simp
    exact ⟨by rw [e1, e2], fun h => by rw [e1] at h; cases h⟩
  rcases q1_two s (flN ((dcN s 10 0 0).n : Int)) (r0 s 0 0) with h1 | ⟨h1, hf, hz⟩ | ⟨h1, hz⟩
  · rw [h1] at hQ
    rcases q2_two s (flN ((dcN s 10 0 0).n : Int)) (s1 s (flN ((dcN s 10 0 0).n : Int)) (r0 s 0 0)) with h2 | ⟨h2, hf, hz⟩ | ⟨h2, hz⟩
    · rw [h2] at hQ
      have : rdQ s = rdC s 0 0 := hQ.trans hC.symm
      exact ⟨by unfold qcOk ccOk; rw [this], fun _ => this⟩
    · refine both (by rw [hQ]; exact sR_e _ _ _ h2) (.inr (ok_bk (by rw [hk]; exact hf) ?_))
      rw [hC, (sR_c _ _ _).2.2]; exact hz
    · exact both (by rw [hQ]; exact sR_e _ _ _ h2) (.inl (by rw [hC]; exact sR_e _ _ _ hz))
  · refine both (by rw [hQ]; exact sR_e _ _ _ (fun h => h1 (erq2 _ _ _ h))) (.inr (ok_tk (by rw [hk]; exact hf) ?_))
    rw [hC, (sR_c _ _ _).2.1, (keep2 _ _ _).2.1]; exact hz
  · exact both (by rw [hQ]; exact sR_e _ _ _ (fun h => h1 (erq2 _ _ _ h))) (.inl (by rw [hC]; exact sR_e _ _ _ (fun h => hz (er2 _ _ _ h))))
theorem qc_same (s : ByteArray) : qcC s = cdC s ∧ qcE s = cdCE s := by
  obtain ⟨h1, h2⟩ := qc_eq s
  unfold qcC cdC qcE cdCE
  rw [← h1]
  by_cases h : qcOk s = true
  · rw [if_pos h, if_pos h, if_pos h, h2 h]; exact ⟨rfl, rfl⟩
  · rw [if_neg h, if_neg h, if_neg h]; exact ⟨rfl, rfl⟩
theorem dcK_su (s : ByteArray) : ∀ (j : Nat) (a e : Int), ∀ k ∈ (dcK s j a e).l, k.su.size ≤ 64
  | 0, _, _, k, hk => by simp [dcK] at hk
  | j + 1, a, e, k, hk => by
    simp only [dcK, List.mem_cons] at hk
    rcases hk with rfl | hk
    · have := tS_len s (dcN s 100 a e).a (dcN s 100 a e).e 64 (by omega); simp only; omega
    · exact dcK_su s j _ _ k hk
/-- what is read is small -/
structure SmQ (c : Cm) : Prop where
  tk : c.tk.size ≤ 1024
  bk : c.bk.size ≤ 1024
  ky : c.ky.size ≤ 1024
  sm : c.sm.size ≤ 1024
  ps : c.ps.length ≤ 512 ∧ ∀ p ∈ c.ps, p.id.size ≤ 64
  ks : c.ks.length ≤ 100 ∧ ∀ k ∈ c.ks, k.su.size ≤ 64
theorem SmQ.sz {c : Cm} (h : SmQ c) : ibulk.SzMb c :=
  ⟨by have := h.tk; omega, by have := h.bk; omega, by have := h.ky; omega, by have := h.sm; omega, fun p hp => by have := h.ps.2 p hp; omega, by have := h.ps.1; omega, fun p hp => by have := h.ks.2 p hp; omega, by have := h.ks.1; omega⟩
theorem rdQ_sm (s : ByteArray) : SmQ (rdQ s).c := by
  unfold rdQ
  simp only
  generalize flN ((dcN s 10 0 0).n : Int) = h
  have e0 : SmQ (r0 s 0 0).c := ⟨Nat.zero_le _, Nat.zero_le _, Nat.zero_le _, Nat.zero_le _, ⟨Nat.zero_le _, fun p hp => by cases hp⟩, ⟨Nat.zero_le _, fun p hp => by cases hp⟩⟩
  have e1 : SmQ (q1 s h (r0 s 0 0)).c := by
    unfold q1; split
    · exact ⟨by have := tS_len s (r0 s 0 0).a (r0 s 0 0).e 64 (by omega); simp only; omega, e0.bk, e0.ky, e0.sm, e0.ps, e0.ks⟩
    · exact e0
  generalize q1 s h (r0 s 0 0) = x1 at *
  have e2 : SmQ (q2 s h x1).c := by
    unfold q2; split
    · exact ⟨e1.tk, by have := tS_len s x1.a x1.e 63 (by omega); simp only; omega, e1.ky, e1.sm, e1.ps, e1.ks⟩
    · exact e1
  generalize q2 s h x1 = x2 at *
  have e3 : SmQ (s3 s h x2).c := by
    unfold s3; split
    · exact ⟨e2.tk, e2.bk, by have := tS_len s x2.a x2.e 1024 (by omega); simp only; omega, e2.sm, e2.ps, e2.ks⟩
    · exact e2
  generalize s3 s h x2 = x3 at *
  have e4 : SmQ (s4 s h x3).c := by
    unfold s4; split
    · exact ⟨e3.tk, e3.bk, e3.ky, e3.sm, e3.ps, e3.ks⟩
    · exact e3
  generalize s4 s h x3 = x4 at *
  have e5 : SmQ (s5 s h x4).c := by
    unfold s5; split
    · exact ⟨e4.tk, e4.bk, e4.ky, e4.sm, e4.ps, e4.ks⟩
    · exact e4
  generalize s5 s h x4 = x5 at *
  have e6 : SmQ (s6 s h x5).c := by
    unfold s6; split
    · exact ⟨e5.tk, e5.bk, e5.ky, by have := tS_len s x5.a x5.e 64 (by omega); simp only; omega, e5.ps, e5.ks⟩
    · exact e5
  generalize s6 s h x5 = x6 at *
  have e7 : SmQ (s7 s h x6).c := by
    unfold s7; split
    · exact ⟨e6.tk, e6.bk, e6.ky, e6.sm, ⟨rdP_len _ _ _, rdP_ids _ _ _⟩, e6.ks⟩
    · exact e6
  generalize s7 s h x6 = x7 at *
  unfold s8; split
  · exact ⟨e7.tk, e7.bk, e7.ky, e7.sm, e7.ps, ⟨rdK_len _ _ _, dcK_su s _ _ _⟩⟩
  · exact e7
end Go.Proofs.YtmadlnchmkhdjaaGreat
