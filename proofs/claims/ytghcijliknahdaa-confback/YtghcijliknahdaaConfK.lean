/- What is told is read again, and in one form alone: a configuration's text. -/
import Derived.Test.YtghcijliknahdaaConfH
import Derived.Test.YtghcijliknahdaaConfI
import Derived.Test.YtghcijliknahdaaBackM
namespace Go.Proofs.Ytghcijliknahdaa
open Go.RowKit Go.Maps
set_option linter.unusedVariables false
set_option linter.unusedSimpArgs false

theorem dcN_put (s : ByteArray) (p r : List UInt8) (n : Nat) (m : Int) (hs : s.data.toList = p ++ (put n ++ r)) (hn : (n : Int) ≤ m) (hm : m ≤ 9223372036854775807) : dcN s m (p.length : Int) 0 = ⟨(((p ++ put n).length : Nat) : Int), 0, n⟩ := by
  have hr := rdAt_put s p r n hs (by omega)
  unfold dcN nS
  rw [hr]
  have hf : fitI m n = true := decide_eq_true ⟨by omega, hn⟩
  rw [if_pos rfl, if_pos rfl, if_pos hf]
  simp [endAt]
theorem dcI_put (s : ByteArray) : ∀ (l : List Int) (p r : List UInt8), s.data.toList = p ++ (msB l ++ r) → (∀ x ∈ l, 0 ≤ x ∧ x < 7) → dcI s 6 l.length (p.length : Int) 0 = ⟨(((p ++ msB l).length : Nat) : Int), 0, l⟩
  | [], p, r, hs, _ => by simp [dcI, msB]
  | x :: t, p, r, hs, hb => by
    have hx := hb x (by simp)
    obtain ⟨n, rfl⟩ : ∃ n : Nat, x = (n : Int) := ⟨x.toNat, by omega⟩
    have hm : msB ((n : Int) :: t) = put n ++ msB t := by simp [msB]
    rw [hm] at hs
    have h1 := dcN_put s p (msB t ++ r) n 6 (by rw [hs]; simp) (by omega) (by omega)
    have h2 := dcI_put s t (p ++ put n) r (by rw [hs]; simp) (fun y hy => hb y (List.mem_cons_of_mem _ hy))
    simp only [List.length_cons, dcI]
    rw [h1]
    simp only
    rw [h2, hm]
    simp only [List.append_assoc]
theorem dec_enc {l : List Int} (h : areM l = true) : decE (encC l) = 0 ∧ decV (encC l) = l := by
  have hl := areM_len h
  have hb := areM_bd h
  have he : encC l = ⟨(encCB l).toArray⟩ := by unfold encC; rw [if_pos h]
  have hs : (encC l).data.toList = encCB l := by rw [he]
  have h1 := dcN_put (encC l) [] (msB l) l.length 7 (by rw [hs]; rfl) (by omega) (by omega)
  have h2 := dcI_put (encC l) l (put l.length) [] (by rw [hs]; simp [encCB]) hb
  have hz : (encC l).size = (put l.length ++ msB l).length := by rw [he]; show (encCB l).toArray.size = _; simp [encCB]
  have h1' : dcN (encC l) 7 0 0 = ⟨(((put l.length).length : Nat) : Int), 0, l.length⟩ := h1
  have hT : dcT (encC l) = ⟨(((put l.length ++ msB l).length : Nat) : Int), 0, l⟩ := by
    unfold dcT
    rw [h1']
    exact h2
  have hok : decOk (encC l) = true := by
    unfold decOk
    rw [hT]
    simp only
    have : endE (encC l) (((put l.length ++ msB l).length : Nat) : Int) 0 = 0 := by
      unfold endE
      rw [if_neg]
      intro hc
      rw [hz] at hc
      omega
    rw [this, h]
    rfl
  unfold decE decV
  rw [hok, hT]
  exact ⟨rfl, rfl⟩
theorem dcN_one (s : ByteArray) (m e : Int) (a : Nat) (h : (dcN s m (a : Int) e).e = 0) : e = 0 ∧ ∃ len, (dcN s m (a : Int) e).a = ((a + len : Nat) : Int) ∧ a + len ≤ s.size ∧ (s.data.toList.drop a).take len = put (dcN s m (a : Int) e).n := by
  unfold dcN nS at *
  split at h
  · rename_i he
    subst he
    split at h
    · rename_i hr
      split at h
      · rename_i hf
        refine ⟨rfl, (rdAt s a).len, ?_, ?_, ?_⟩
        · rw [if_pos rfl, if_pos hr, if_pos hf]
          simp [endAt, hr]
        · have := rdAt_bounds s a hr
          omega
        · rw [if_pos rfl, if_pos hr, if_pos hf]
          exact rdAt_one s a hr
      · simp at h
    · rename_i hr
      exact absurd (by simpa using h) hr
  · rename_i he
    exact absurd (by simpa using h) he
theorem dcI_one (s : ByteArray) (m : Int) : ∀ (j a : Nat) (e : Int), (dcI s m j (a : Int) e).e = 0 → a ≤ s.size → e = 0 ∧ (dcI s m j (a : Int) e).l.length = j ∧ ∃ t : Nat, (dcI s m j (a : Int) e).a = (t : Int) ∧ a ≤ t ∧ t ≤ s.size ∧ (s.data.toList.drop a).take (t - a) = msB (dcI s m j (a : Int) e).l
  | 0, a, e, h, ha => ⟨h, rfl, a, rfl, Nat.le_refl _, ha, by simp [dcI, msB]⟩
  | j + 1, a, e, h, ha => by
    simp only [dcI] at h ⊢
    have hn := dcN_one s m e a
    generalize dcN s m (a : Int) e = S at *
    obtain ⟨a1, e1, n1⟩ := S
    simp only at *
    have h1 : e1 = 0 := by
      cases j with
      | zero => simpa [dcI] using h
      | succ j =>
        by_cases h0 : e1 = 0
        · exact h0
        · exfalso
          exact (dcI_stuck s m (j + 1) a1 e1 h0) h
    obtain ⟨g1, len, g2, g3, g4⟩ := hn h1
    rw [g2] at h ⊢
    obtain ⟨k1, k2, t, k3, k4, k5, k6⟩ := dcI_one s m j (a + len) e1 h g3
    refine ⟨g1, by rw [List.length_cons, k2], t, k3, by omega, k5, ?_⟩
    have e0 : t - a = len + (t - (a + len)) := by omega
    rw [e0, List.take_add, g4, List.drop_drop, k6]
    simp [msB]
where
  dcI_stuck (s : ByteArray) (m : Int) : ∀ (j : Nat) (a e : Int), e ≠ 0 → (dcI s m j a e).e ≠ 0
  | 0, a, e, h => h
  | j + 1, a, e, h => by
    simp only [dcI]
    refine dcI_stuck s m j _ _ ?_
    unfold dcN nS
    rw [if_neg h]
    exact h
theorem dec_one {s : ByteArray} (h : decOk s = true) : areM (decV s) = true ∧ encC (decV s) = s := by
  have hv : decV s = (dcT s).l := by unfold decV; rw [if_pos h]
  unfold decOk at h
  rw [Bool.and_eq_true] at h
  obtain ⟨h1, h2⟩ := h
  have h1 := beq_iff_eq.1 h1
  unfold endE at h1
  split at h1
  · cases h1
  · rename_i hc
    rw [hv]
    refine ⟨h2, ?_⟩
    have hT : dcT s = dcI s 6 (dcN s 7 0 0).n (dcN s 7 0 0).a (dcN s 7 0 0).e := rfl
    have hn := dcN_one s 7 0 0
    have hcast : ((0 : Nat) : Int) = 0 := rfl
    rw [hcast] at hn
    generalize dcN s 7 0 0 = S at *
    obtain ⟨a1, e1, n1⟩ := S
    simp only at *
    rw [hT] at h1 hc h2 ⊢
    have he1 : e1 = 0 := by
      by_cases h0 : e1 = 0
      · exact h0
      · exact absurd h1 (dcI_one.dcI_stuck s 6 n1 a1 e1 h0)
    obtain ⟨_, len, g2, g3, g4⟩ := hn he1
    rw [Nat.zero_add] at g2 g3
    rw [g2] at h1 hc h2 ⊢
    obtain ⟨k1, k2, t, k3, k4, k5, k6⟩ := dcI_one s 6 n1 len e1 h1 g3
    rw [k3, h1] at hc
    have ht : t = s.size := by
      have : ¬ (t : Int) < (s.size : Int) := fun h => hc ⟨rfl, h⟩
      omega
    have hall : s.data.toList = put n1 ++ msB (dcI s 6 n1 (len : Int) e1).l := by
      have e0 : s.data.toList = (s.data.toList.take len) ++ (s.data.toList.drop len) := (List.take_append_drop _ _).symm
      have e1' : s.data.toList.take len = put n1 := by simpa using g4
      have e2 : s.data.toList.drop len = msB (dcI s 6 n1 (len : Int) e1).l := by
        rw [← k6, ht]
        symm
        apply List.take_of_length_le
        rw [List.length_drop]
        have : s.data.toList.length = s.size := by rw [Array.length_toList]; rfl
        omega
      rw [e0, e1', e2]
    unfold encC
    rw [if_pos h2]
    unfold encCB
    rw [k2, ← hall]
theorem decE_iff (s : ByteArray) : (decE s = 0 ∧ decOk s = true) ∨ (decE s = 3 ∧ decV s = []) := by
  unfold decE decV
  cases h : decOk s
  · exact .inr ⟨rfl, rfl⟩
  · exact .inl ⟨rfl, rfl⟩
theorem encC_size (l : List Int) : (encC l).size ≤ 1000 := by
  unfold encC
  split
  · rename_i h
    show (encCB l).toArray.size ≤ _
    simp [encCB]
    have := (put_len l.length).2
    have := msB_len l
    have := areM_len h
    omega
  · decide
end Go.Proofs.Ytghcijliknahdaa
