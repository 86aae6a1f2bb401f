/- How far a majority is: the middle one of a sorted list is the greatest that a majority has reached. -/
import Derived.Test.YtghcijliknahdaaConfT
namespace Go.Proofs.Ytghcijliknahdaa
open Go.RowKit Go.Maps
set_option linter.unusedVariables false
set_option linter.unusedSimpArgs false

/-- how many are not less than x -/
def cge (x : Int) : List Int → Nat
  | [] => 0
  | z :: r => (if x ≤ z then 1 else 0) + cge x r
theorem cge_at {x : Int} {l : List Int} {k : Nat} (hk : k < l.length) : cge x (l.drop k) = (if x ≤ l[k] then 1 else 0) + cge x (l.drop (k + 1)) := by
  rw [List.drop_eq_getElem_cons hk]; rfl
theorem cge_count (x : Int) (l : List Int) : cge x l = l.countP (fun z => decide (x ≤ z)) := by
  induction l with
  | nil => rfl
  | cons z r ih =>
    rw [List.countP_cons, ← ih]
    by_cases h : x ≤ z
    · simp [cge, h]; omega
    · simp [cge, h]
theorem cge_le (x : Int) (l : List Int) : cge x l ≤ l.length := by rw [cge_count]; exact List.countP_le_length
theorem cge_perm {x : Int} {l m : List Int} (h : l.Perm m) : cge x l = cge x m := by rw [cge_count, cge_count]; exact h.countP_eq _
theorem cge_app (x : Int) (a b : List Int) : cge x (a ++ b) = cge x a + cge x b := by simp only [cge_count, List.countP_append]
theorem cge_all {x : Int} {l : List Int} (h : ∀ z ∈ l, x ≤ z) : cge x l = l.length := by
  rw [cge_count, List.countP_eq_length]; intro z hz; exact decide_eq_true (h z hz)
theorem cge_none {x : Int} {l : List Int} (h : ∀ z ∈ l, z < x) : cge x l = 0 := by
  rw [cge_count, List.countP_eq_zero]; intro z hz; have := h z hz; simp; omega
theorem srt_perm (l : List Int) : (srt l).Perm l := List.mergeSort_perm l _
theorem srt_le (l : List Int) {i j : Nat} (hi : i ≤ j) (hj : j < (srt l).length) : (srt l)[i]'(by omega) ≤ (srt l)[j] := by
  have hp : (srt l).Pairwise (fun x y => decide (x ≤ y) = true) := List.pairwise_mergeSort (le := fun x y => decide (x ≤ y)) (by intro a b c h1 h2; simp at h1 h2 ⊢; omega) (by intro a b; simp; omega) l
  rcases Nat.lt_or_eq_of_le hi with h | h
  · have := (List.pairwise_iff_getElem.1 hp) i j (by omega) hj h
    exact of_decide_eq_true this
  · subst h; omega
theorem mid_ge (l : List Int) (i : Nat) (hi : i < (srt l).length) : l.length - i ≤ cge (srt l)[i] l := by
  rw [← cge_perm (srt_perm l)]
  obtain ⟨t, ht⟩ : ∃ t, t = (srt l)[i] := ⟨_, rfl⟩
  rw [← ht]
  have h1 : cge t (srt l) = cge t ((srt l).take i) + cge t ((srt l).drop i) := by rw [← cge_app, List.take_append_drop]
  have h2 : cge t ((srt l).drop i) = ((srt l).drop i).length := cge_all fun z hz => by
    obtain ⟨k, hk, rfl⟩ := List.mem_iff_getElem.1 hz
    rw [List.getElem_drop, ht]
    exact srt_le l (by omega) _
  rw [h1, h2, List.length_drop, srt_len]
  omega
theorem mid_lt (l : List Int) (i : Nat) (hi : i < (srt l).length) (x : Int) (hx : (srt l)[i] < x) : cge x l ≤ l.length - (i + 1) := by
  rw [← cge_perm (srt_perm l)]
  have h1 : cge x (srt l) = cge x ((srt l).take (i + 1)) + cge x ((srt l).drop (i + 1)) := by rw [← cge_app, List.take_append_drop]
  have h2 : cge x ((srt l).take (i + 1)) = 0 := cge_none fun z hz => by
    obtain ⟨k, hk, rfl⟩ := List.mem_iff_getElem.1 hz
    rw [List.getElem_take]
    have hk2 : k < i + 1 := by rw [List.length_take] at hk; omega
    have := srt_le l (by omega : k ≤ i) hi
    omega
  have h3 := cge_le x ((srt l).drop (i + 1))
  rw [List.length_drop, srt_len] at h3
  omega
/-- the least of a list, and of b -/
def lst (b : Int) : List Int → Int
  | [] => b
  | x :: r => lst (min b x) r
theorem lst_le (b : Int) (l : List Int) : lst b l ≤ b ∧ ∀ x ∈ l, lst b l ≤ x := by
  induction l generalizing b with
  | nil => exact ⟨Int.le_refl _, fun x h => by cases h⟩
  | cons y r ih =>
    have h := ih (min b y)
    refine ⟨Int.le_trans h.1 (Int.min_le_left _ _), fun x hx => ?_⟩
    rcases List.mem_cons.1 hx with e | e
    · subst e; exact Int.le_trans h.1 (Int.min_le_right _ _)
    · exact h.2 x e
theorem lst_at {l : List Int} {k : Nat} {b : Int} (hk : k < l.length) : lst b (l.drop k) = lst (min b l[k]) (l.drop (k + 1)) := by
  rw [List.drop_eq_getElem_cons hk]; rfl
def stpB (zs : List Int) (b x : Int) : Int := if zs.length < 2 * cge x zs ∧ b < x then x else b
/-- the greatest that a majority has reached -/
def bst (zs : List Int) (b : Int) : List Int → Int
  | [] => b
  | x :: r => bst zs (stpB zs b x) r
theorem bst_at {zs l : List Int} {k : Nat} {b : Int} (hk : k < l.length) : bst zs b (l.drop k) = bst zs (stpB zs b l[k]) (l.drop (k + 1)) := by
  rw [List.drop_eq_getElem_cons hk]; rfl
theorem bst_eq (zs : List Int) (t : Int) (h2 : zs.length < 2 * cge t zs) (h3 : ∀ x, t < x → ¬ zs.length < 2 * cge x zs) : ∀ (l : List Int) (b : Int), b ≤ t → (b = t ∨ t ∈ l) → bst zs b l = t
  | [], b, hb, h => by rcases h with h | h; exact h; cases h
  | x :: r, b, hb, h => by
    have hs : stpB zs b x ≤ t := by
      unfold stpB
      split
      · rename_i hc
        by_cases hx : t < x
        · exact absurd hc.1 (h3 x hx)
        · omega
      · exact hb
    refine bst_eq zs t h2 h3 r _ hs ?_
    by_cases hm : t ∈ r
    · exact .inr hm
    · left
      rcases h with h | h
      · subst h
        unfold stpB
        rw [if_neg (fun hc => h3 x hc.2 hc.1)]
      · rcases List.mem_cons.1 h with e | e
        · subst e
          unfold stpB
          split
          · rfl
          · rename_i hc
            by_cases hb2 : b < t
            · exact absurd ⟨h2, hb2⟩ hc
            · omega
        · exact absurd e hm
def refR (zs : List Int) : Int := bst zs (lst (zs.getD 0 0) zs) zs
theorem mid_eq (zs : List Int) (hz : 0 < zs.length) : (srt zs).getD (zs.length - (zs.length / 2 + 1)) 0 = refR zs := by
  have hi : zs.length - (zs.length / 2 + 1) < (srt zs).length := by rw [srt_len]; omega
  rw [List.getD_eq_getElem?_getD, List.getElem?_eq_getElem hi]
  have g := mid_ge zs _ hi
  have lt := mid_lt zs _ hi
  have hmem : (srt zs)[zs.length - (zs.length / 2 + 1)] ∈ zs := (srt_perm zs).mem_iff.1 (List.getElem_mem hi)
  show (srt zs)[zs.length - (zs.length / 2 + 1)] = _
  generalize (srt zs)[zs.length - (zs.length / 2 + 1)] = t at *
  refine (bst_eq zs t (by omega) (fun x hx => ?_) zs _ ((lst_le _ zs).2 t hmem) (.inr hmem)).symm
  have := lt x hx
  omega
theorem rch_eq (l o : List Int) : rchC l o = if areM l = true then refR (l.map (vAt o)) else 0 := by
  unfold rchC
  split
  · rename_i h
    have := areM_len h
    have hz := mid_eq (l.map (vAt o)) (by rw [List.length_map]; omega)
    rw [List.length_map] at hz
    unfold majC
    rw [if_pos h]
    exact hz
  · rfl
theorem cge_mono (x : Int) : ∀ (a b : List Int), a.length = b.length → (∀ k (h : k < a.length) (h' : k < b.length), a[k] ≤ b[k]) → cge x a ≤ cge x b
  | [], [], _, _ => Nat.le_refl _
  | a :: r, b :: s, hl, h => by
    have h0 := h 0 (by simp) (by simp)
    simp at h0
    have ih := cge_mono x r s (by simpa using hl) (fun k h1 h2 => by have := h (k + 1) (by simpa using h1) (by simpa using h2); simpa using this)
    simp only [cge]
    split <;> split <;> omega
  | [], _ :: _, hl, _ => by simp at hl
  | _ :: _, [], hl, _ => by simp at hl
theorem rch_mono (l o o' : List Int) (h : ∀ x, vAt o x ≤ vAt o' x) : rchC l o ≤ rchC l o' := by
  unfold rchC
  split
  · rename_i hm
    have h7 := areM_len hm
    unfold majC
    rw [if_pos hm]
    have e1 : (l.map (vAt o)).length = l.length := by simp
    have e2 : (l.map (vAt o')).length = l.length := by simp
    have hi : l.length - (l.length / 2 + 1) < (srt (l.map (vAt o))).length := by rw [srt_len, e1]; omega
    have hi' : l.length - (l.length / 2 + 1) < (srt (l.map (vAt o'))).length := by rw [srt_len, e2]; omega
    have g := mid_ge (l.map (vAt o)) _ hi
    have lt := mid_lt (l.map (vAt o')) _ hi'
    have mo := fun x => cge_mono x (l.map (vAt o)) (l.map (vAt o')) (by rw [e1, e2]) (fun k h1 h2 => by simp; exact h _)
    rw [List.getD_eq_getElem?_getD, List.getElem?_eq_getElem hi, List.getD_eq_getElem?_getD, List.getElem?_eq_getElem hi']
    show (srt (l.map (vAt o)))[l.length - (l.length / 2 + 1)] ≤ (srt (l.map (vAt o')))[l.length - (l.length / 2 + 1)]
    generalize (srt (l.map (vAt o)))[l.length - (l.length / 2 + 1)] = t at *
    generalize (srt (l.map (vAt o')))[l.length - (l.length / 2 + 1)] = t' at *
    by_cases hc : t' < t
    · have := lt t hc
      have := mo t
      rw [e1] at g
      rw [e2] at *
      omega
    · omega
  · omega
end Go.Proofs.Ytghcijliknahdaa
