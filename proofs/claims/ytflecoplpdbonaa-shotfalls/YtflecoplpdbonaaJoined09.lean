/- Joined: Numbers that a reader takes, one behind the other. Numbers that were put are taken again, and in one form alone. -/
import Derived.Test.YtflecoplpdbonaaJoined04
import Derived.Test.YtflecoplpdbonaaJoined08
import Derived.Test.YtflecoplpdbonaaJoined10
namespace Go.Proofs.Ytflecoplpdbonaa
open Go.RowKit Go.Maps
set_option linter.unusedVariables false
set_option linter.unusedSimpArgs false

/-- a reader behind some numbers, and these -/
structure DcR where
  a : Int
  e : Int
  l : List Int
def dcN (s : ByteArray) (m a e : Int) : St := nS s a e (fitI m (rdAt s a).n) 2
def dcI (s : ByteArray) (m : Int) : Nat → Int → Int → DcR
  | 0, a, e => ⟨a, e, []⟩
  | j + 1, a, e => ⟨(dcI s m j (dcN s m a e).a (dcN s m a e).e).a, (dcI s m j (dcN s m a e).a (dcN s m a e).e).e, ((dcN s m a e).n : Int) :: (dcI s m j (dcN s m a e).a (dcN s m a e).e).l⟩
theorem dcN_le (s : ByteArray) (m a e : Int) (hm : 0 ≤ m) : ((dcN s m a e).n : Int) ≤ m := by
  unfold dcN nS
  split
  · split
    · split
      · next h => have := of_decide_eq_true (show decide (0 ≤ m ∧ ((rdAt s a).n : Int) ≤ m) = true from h); exact this.2
      · exact hm
    · exact hm
  · exact hm
theorem Only.keep {g : Nat} {w w' : World} (h : Only g w w') : Keep (· = g) w w' := ⟨h.os, h.tape, h.output, h.size, h.block⟩
theorem RdAt.same {w w' : World} {g : Nat} {s : ByteArray} {a e : Int} (h : RdAt w g s a e) (hb : w'.heap[g]? = w.heap[g]?) : RdAt w' g s a e := by
  have hc : ∀ o, w'.cell? ⟨g, o, none⟩ = w.cell? ⟨g, o, none⟩ := fun o => by simp [World.cell?, hb]
  have hf : ∀ o, w'.frozen? ⟨g, o, none⟩ = w.frozen? ⟨g, o, none⟩ := fun o => by simp [World.frozen?, hb]
  obtain ⟨h0, h1, h2, h3, h4⟩ := h
  exact ⟨(hc 0).trans h0, (hc 1).trans h1, (hc 2).trans h2, (hf 1).trans h3, (hf 2).trans h4⟩
end Go.Proofs.Ytflecoplpdbonaa
namespace Go.Proofs.Ytflecoplpdbonaa
open Go.RowKit Go.Maps
set_option linter.unusedVariables false
set_option linter.unusedSimpArgs false

theorem dcN_put (s : ByteArray) (p r : List UInt8) (n : Nat) (m : Int) (hs : s.data.toList = p ++ (put n ++ r)) (hn : (n : Int) ≤ m) (hm : m ≤ 9223372036854775807) : dcN s m (p.length : Int) 0 = ⟨(((p ++ put n).length : Nat) : Int), 0, n⟩ := by
  have hr := rdAt_put s p r n hs (by omega)
  unfold dcN nS
  rw [hr]
  have hf : fitI m n = true := decide_eq_true ⟨by omega, hn⟩
  rw [if_pos rfl, if_pos rfl, if_pos hf]
  simp [endAt]
theorem dcI_put (s : ByteArray) : ∀ (l : List Int) (p r : List UInt8), s.data.toList = p ++ (msB l ++ r) → (∀ x ∈ l, 0 ≤ x ∧ x < 7) → dcI s 6 l.length (p.length : Int) 0 = ⟨(((p ++ msB l).length : Nat) : Int), 0, l⟩
  | [], p, r, hs, _ => by simp [dcI, msB]
  | x :: t, p, r, hs, hb => by
    have hx := hb x (by simp)
    obtain ⟨n, rfl⟩ : ∃ n : Nat, x = (n : Int) := ⟨x.toNat, by omega⟩
    have hm : msB ((n : Int) :: t) = put n ++ msB t := by simp [msB]
    rw [hm] at hs
    have h1 := dcN_put s p (msB t ++ r) n 6 (by rw [hs]; simp) (by omega) (by omega)
    have h2 := dcI_put s t (p ++ put n) r (by rw [hs]; simp) (fun y hy => hb y (List.mem_cons_of_mem _ hy))
    simp only [List.length_cons, dcI]
    rw [h1]
    simp only
    rw [h2, hm]
    simp only [List.append_assoc]
theorem dcN_one (s : ByteArray) (m e : Int) (a : Nat) (h : (dcN s m (a : Int) e).e = 0) : e = 0 ∧ ∃ len, (dcN s m (a : Int) e).a = ((a + len : Nat) : Int) ∧ a + len ≤ s.size ∧ (s.data.toList.drop a).take len = put (dcN s m (a : Int) e).n := by
  unfold dcN nS at *
  split at h
  · rename_i he
    subst he
    split at h
    · rename_i hr
      split at h
      · rename_i hf
        refine ⟨rfl, (rdAt s a).len, ?_, ?_, ?_⟩
        · rw [if_pos rfl, if_pos hr, if_pos hf]
          simp [endAt, hr]
        · have := rdAt_bounds s a hr
          omega
        · rw [if_pos rfl, if_pos hr, if_pos hf]
          exact rdAt_one s a hr
      · simp at h
    · rename_i hr
      exact absurd (by simpa using h) hr
  · rename_i he
    exact absurd (by simpa using h) he
theorem dcI_one (s : ByteArray) (m : Int) : ∀ (j a : Nat) (e : Int), (dcI s m j (a : Int) e).e = 0 → a ≤ s.size → e = 0 ∧ (dcI s m j (a : Int) e).l.length = j ∧ ∃ t : Nat, (dcI s m j (a : Int) e).a = (t : Int) ∧ a ≤ t ∧ t ≤ s.size ∧ (s.data.toList.drop a).take (t - a) = msB (dcI s m j (a : Int) e).l
  | 0, a, e, h, ha => ⟨h, rfl, a, rfl, Nat.le_refl _, ha, by simp [dcI, msB]⟩
  | j + 1, a, e, h, ha => by
    simp only [dcI] at h ⊢
    have hn := dcN_one s m e a
    generalize dcN s m (a : Int) e = S at *
    obtain ⟨a1, e1, n1⟩ := S
    simp only at *
    have h1 : e1 = 0 := by
      cases j with
      | zero => simpa [dcI] using h
      | succ j =>
        by_cases h0 : e1 = 0
        · exact h0
        · exfalso
          exact (dcI_stuck s m (j + 1) a1 e1 h0) h
    obtain ⟨g1, len, g2, g3, g4⟩ := hn h1
    rw [g2] at h ⊢
    obtain ⟨k1, k2, t, k3, k4, k5, k6⟩ := dcI_one s m j (a + len) e1 h g3
    refine ⟨g1, by rw [List.length_cons, k2], t, k3, by omega, k5, ?_⟩
    have e0 : t - a = len + (t - (a + len)) := by omega
    rw [e0, List.take_add, g4, List.drop_drop, k6]
    simp [msB]
where
  dcI_stuck (s : ByteArray) (m : Int) : ∀ (j : Nat) (a e : Int), e ≠ 0 → (dcI s m j a e).e ≠ 0
  | 0, a, e, h => h
  | j + 1, a, e, h => by
    simp only [dcI]
    refine dcI_stuck s m j _ _ ?_
    unfold dcN nS
    rw [if_neg h]
    exact h
end Go.Proofs.Ytflecoplpdbonaa
