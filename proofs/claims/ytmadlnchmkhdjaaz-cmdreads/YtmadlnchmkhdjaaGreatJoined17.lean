/- Joined: Numbers that a reader takes, one behind the other. How long a text is that a reader takes. Numbers that were put are taken again, and in one form alone. What a reader takes, byte by byte. -/
import Derived.Test.YtmadlnchmkhdjaaGreatJoined03
import Derived.Test.YtmadlnchmkhdjaaGreatJoined16
import Derived.Test.YtmadlnchmkhdjaaGreatJoined15
import Derived.Test.YtmadlnchmkhdjaaGreatJoined24
namespace Go.Proofs.YtmadlnchmkhdjaaGreat
open Go.RowKit Go.Maps
set_option linter.unusedVariables false
set_option linter.unusedSimpArgs false

/-- a reader behind some numbers, and these -/
structure DcR where
  a : Int
  e : Int
  l : List Int
def dcN (s : ByteArray) (m a e : Int) : St := nS s a e (fitI m (rdAt s a).n) 2
def dcI (s : ByteArray) (m : Int) : Nat → Int → Int → DcR
  | 0, a, e => ⟨a, e, []⟩
  | j + 1, a, e => ⟨(dcI s m j (dcN s m a e).a (dcN s m a e).e).a, (dcI s m j (dcN s m a e).a (dcN s m a e).e).e, ((dcN s m a e).n : Int) :: (dcI s m j (dcN s m a e).a (dcN s m a e).e).l⟩
theorem dcN_le (s : ByteArray) (m a e : Int) (hm : 0 ≤ m) : ((dcN s m a e).n : Int) ≤ m := by
  unfold dcN nS
  split
  · split
    · split
      · next h => have := of_decide_eq_true (show decide (0 ≤ m ∧ ((rdAt s a).n : Int) ≤ m) = true from h); exact this.2
      · exact hm
    · exact hm
  · exact hm
theorem Only.keep {g : Nat} {w w' : World} (h : Only g w w') : Keep (· = g) w w' := ⟨h.os, h.tape, h.output, h.size, h.block⟩
theorem RdAt.same {w w' : World} {g : Nat} {s : ByteArray} {a e : Int} (h : RdAt w g s a e) (hb : w'.heap[g]? = w.heap[g]?) : RdAt w' g s a e := by
  have hc : ∀ o, w'.cell? ⟨g, o, none⟩ = w.cell? ⟨g, o, none⟩ := fun o => by simp [World.cell?, hb]
  have hf : ∀ o, w'.frozen? ⟨g, o, none⟩ = w.frozen? ⟨g, o, none⟩ := fun o => by simp [World.frozen?, hb]
  obtain ⟨h0, h1, h2, h3, h4⟩ := h
  exact ⟨(hc 0).trans h0, (hc 1).trans h1, (hc 2).trans h2, (hf 1).trans h3, (hf 2).trans h4⟩
end Go.Proofs.YtmadlnchmkhdjaaGreat
namespace Go.Proofs.YtmadlnchmkhdjaaGreat
open Go.RowKit Go.Maps
set_option linter.unusedVariables false
set_option linter.unusedSimpArgs false

theorem tS_len (s : ByteArray) (a e m : Int) (hm : 0 ≤ m) : ((tS s a e m).x.size : Int) ≤ m := by
  unfold tS
  split
  · split
    · split
      · assumption
      · exact hm
    · exact hm
  · exact hm
end Go.Proofs.YtmadlnchmkhdjaaGreat
namespace Go.Proofs.YtmadlnchmkhdjaaGreat
open Go.RowKit Go.Maps
set_option linter.unusedVariables false
set_option linter.unusedSimpArgs false

theorem dcN_put (s : ByteArray) (p r : List UInt8) (n : Nat) (m : Int) (hs : s.data.toList = p ++ (put n ++ r)) (hn : (n : Int) ≤ m) (hm : m ≤ 9223372036854775807) : dcN s m (p.length : Int) 0 = ⟨(((p ++ put n).length : Nat) : Int), 0, n⟩ := by
  have hr := rdAt_put s p r n hs (by omega)
  unfold dcN nS
  rw [hr]
  have hf : fitI m n = true := decide_eq_true ⟨by omega, hn⟩
  rw [if_pos rfl, if_pos rfl, if_pos hf]
  simp [endAt]
theorem dcI_put (s : ByteArray) : ∀ (l : List Int) (p r : List UInt8), s.data.toList = p ++ (msB l ++ r) → (∀ x ∈ l, 0 ≤ x ∧ x < 7) → dcI s 6 l.length (p.length : Int) 0 = ⟨(((p ++ msB l).length : Nat) : Int), 0, l⟩
  | [], p, r, hs, _ => by simp [dcI, msB]
  | x :: t, p, r, hs, hb => by
    have hx := hb x (by simp)
    obtain ⟨n, rfl⟩ : ∃ n : Nat, x = (n : Int) := ⟨x.toNat, by omega⟩
    have hm : msB ((n : Int) :: t) = put n ++ msB t := by simp [msB]
    rw [hm] at hs
    have h1 := dcN_put s p (msB t ++ r) n 6 (by rw [hs]; simp) (by omega) (by omega)
    have h2 := dcI_put s t (p ++ put n) r (by rw [hs]; simp) (fun y hy => hb y (List.mem_cons_of_mem _ hy))
    simp only [List.length_cons, dcI]
    rw [h1]
    simp only
    rw [h2, hm]
    simp only [List.append_assoc]
theorem dcN_one (s : ByteArray) (m e : Int) (a : Nat) (h : (dcN s m (a : Int) e).e = 0) : e = 0 ∧ ∃ len, (dcN s m (a : Int) e).a = ((a + len : Nat) : Int) ∧ a + len ≤ s.size ∧ (s.data.toList.drop a).take len = put (dcN s m (a : Int) e).n := by
  unfold dcN nS at *
  split at h
  · rename_i he
    subst he
    split at h
    · rename_i hr
      split at h
      · rename_i hf
        refine ⟨rfl, (rdAt s a).len, ?_, ?_, ?_⟩
        · rw [if_pos rfl, if_pos hr, if_pos hf]
          simp [endAt, hr]
        · have := rdAt_bounds s a hr
          omega
        · rw [if_pos rfl, if_pos hr, if_pos hf]
          exact rdAt_one s a hr
      · simp at h
    · rename_i hr
      exact absurd (by simpa using h) hr
  · rename_i he
    exact absurd (by simpa using h) he
theorem dcI_one (s : ByteArray) (m : Int) : ∀ (j a : Nat) (e : Int), (dcI s m j (a : Int) e).e = 0 → a ≤ s.size → e = 0 ∧ (dcI s m j (a : Int) e).l.length = j ∧ ∃ t : Nat, (dcI s m j (a : Int) e).a = (t : Int) ∧ a ≤ t ∧ t ≤ s.size ∧ (s.data.toList.drop a).take (t - a) = msB (dcI s m j (a : Int) e).l
  | 0, a, e, h, ha => ⟨h, rfl, a, rfl, Nat.le_refl _, ha, by simp [dcI, msB]⟩
  | j + 1, a, e, h, ha => by
    simp only [dcI] at h ⊢
    have hn := dcN_one s m e a
    generalize dcN s m (a : Int) e = S at *
    obtain ⟨a1, e1, n1⟩ := S
    simp only at *
    have h1 : e1 = 0 := by
      cases j with
      | zero => simpa [dcI] using h
      | succ j =>
        by_cases h0 : e1 = 0
        · exact h0
        · exfalso
          exact (dcI_stuck s m (j + 1) a1 e1 h0) h
    obtain ⟨g1, len, g2, g3, g4⟩ := hn h1
    rw [g2] at h ⊢
    obtain ⟨k1, k2, t, k3, k4, k5, k6⟩ := dcI_one s m j (a + len) e1 h g3
    refine ⟨g1, by rw [List.length_cons, k2], t, k3, by omega, k5, ?_⟩
    have e0 : t - a = len + (t - (a + len)) := by omega
    rw [e0, List.take_add, g4, List.drop_drop, k6]
    simp [msB]
where
  dcI_stuck (s : ByteArray) (m : Int) : ∀ (j : Nat) (a e : Int), e ≠ 0 → (dcI s m j a e).e ≠ 0
  | 0, a, e, h => h
  | j + 1, a, e, h => by
    simp only [dcI]
    refine dcI_stuck s m j _ _ ?_
    unfold dcN nS
    rw [if_neg h]
    exact h
end Go.Proofs.YtmadlnchmkhdjaaGreat
namespace Go.Proofs.YtmadlnchmkhdjaaGreat
open Go.RowKit Go.Maps
set_option linter.unusedVariables false
set_option linter.unusedSimpArgs false

theorem tS_put (s : ByteArray) (p r : List UInt8) (x : ByteArray) (m : Int) (hs : s.data.toList = p ++ (ptx x ++ r)) (hx : (x.size : Int) ≤ m) (hm : m ≤ 9223372036854775807) : tS s (p.length : Int) 0 m = ⟨(((p ++ ptx x).length : Nat) : Int), 0, x⟩ := by
  unfold tS
  rw [txtAt_put s p r x hs (by omega), if_pos rfl, if_pos rfl, if_pos hx, List.length_append]
/-- what lies from a place on to another -/
def Tok (s : ByteArray) (a : Nat) (r : Int) (L : List UInt8) : Prop := ∃ t : Nat, r = (t : Int) ∧ a ≤ t ∧ t ≤ s.size ∧ (s.data.toList.drop a).take (t - a) = L
theorem Tok.refl (s : ByteArray) (a : Nat) (h : a ≤ s.size) : Tok s a (a : Int) [] := ⟨a, rfl, Nat.le_refl _, h, by simp⟩
theorem Tok.trans {s : ByteArray} {a b : Nat} {r : Int} {L M : List UInt8} (h : Tok s a (b : Int) L) (k : Tok s b r M) : Tok s a r (L ++ M) := by
  obtain ⟨t, e, h1, h2, h3⟩ := h
  obtain rfl : b = t := by omega
  obtain ⟨u, rfl, k1, k2, k3⟩ := k
  refine ⟨u, rfl, by omega, k2, ?_⟩
  rw [show u - a = (b - a) + (u - b) by omega, List.take_add, h3, List.drop_drop, show a + (b - a) = b by omega, k3]
theorem st_N {s : ByteArray} {m a e : Int} (h : (dcN s m a e).e = 0) : e = 0 := by
  by_cases he : e = 0
  · exact he
  · unfold dcN nS at h; rw [if_neg he] at h; exact absurd h he
theorem st_T {s : ByteArray} {a e m : Int} (h : (tS s a e m).e = 0) : e = 0 := by
  by_cases he : e = 0
  · exact he
  · unfold tS at h; rw [if_neg he] at h; exact absurd h he
theorem tok_N (s : ByteArray) (m e : Int) (a : Nat) (h : (dcN s m (a : Int) e).e = 0) : Tok s a (dcN s m (a : Int) e).a (put (dcN s m (a : Int) e).n) := by
  obtain ⟨_, len, h1, h2, h3⟩ := dcN_one s m e a h
  exact ⟨a + len, h1, by omega, h2, by rw [show a + len - a = len by omega]; exact h3⟩
theorem tok_T (s : ByteArray) (m e : Int) (a : Nat) (h : (tS s (a : Int) e m).e = 0) : Tok s a (tS s (a : Int) e m).a (ptx (tS s (a : Int) e m).x) := by
  have he := st_T h
  subst he
  unfold tS at h ⊢
  rw [if_pos rfl] at h ⊢
  by_cases h1 : (txtAt s a).e = 0
  · rw [if_pos h1] at h ⊢
    by_cases h2 : ((txtAt s a).x.size : Int) ≤ m
    · rw [if_pos h2]
      obtain ⟨to, g1, g2, g3, g4⟩ := txtAt_one s a h1
      exact ⟨to, g1, g2, g3, g4⟩
    · rw [if_neg h2] at h
      simp at h
  · rw [if_neg h1] at h
    exact absurd (by simpa using h) h1
end Go.Proofs.YtmadlnchmkhdjaaGreat
