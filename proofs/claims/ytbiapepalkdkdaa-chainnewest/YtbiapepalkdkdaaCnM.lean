/- For the law ChainNewest: a chain is what was put, the newest first. -/
import Derived.Test.YtbiapepalkdkdaaCvQ
namespace Go.Proofs.Ytbiapepalkdkdaa
open Go.RowKit Go.Maps
set_option linter.unusedVariables false
set_option linter.unusedSimpArgs false

theorem chF_of : ∀ {l : List Vn} {p : Option Int}, (∀ v ∈ l, vnOk v = true) → l.Pairwise (fun a b => b.id < a.id) → (∀ y, p = some y → ∀ v ∈ l, v.id < y) → chF p l = true
  | [], _, _, _, _ => rfl
  | x :: r, p, hk, hf, hp => by
    rw [List.pairwise_cons] at hf
    simp only [chF, Bool.and_eq_true]
    refine ⟨⟨hk x (by simp), ?_⟩, chF_of (fun v hv => hk v (List.mem_cons_of_mem _ hv)) hf.2 (fun y hy v hv => by injection hy with hy; rw [← hy]; exact hf.1 v hv)⟩
    cases p with
    | none => rfl
    | some y => exact decide_eq_true (hp y rfl x (by simp))
theorem isCh_of {l : List Vn} (hl : l.length ≤ 32) (hk : ∀ v ∈ l, vnOk v = true) (hf : l.Pairwise (fun a b => b.id < a.id)) : isCh l = true := by
  simp only [isCh, Bool.and_eq_true, decide_eq_true_eq]
  exact ⟨hl, chF_of hk hf (fun y hy => by cases hy)⟩
theorem isCh_put {l : List Vn} {v : Vn} (h : putE l v = 0) : isCh (v :: l) = true ∧ putL l v = v :: l := by
  refine ⟨?_, by unfold putL; rw [if_pos h]⟩
  unfold putE at h
  split at h
  · rename_i hh
    split at h
    · cases h
    · rename_i hg
      split at h
      · cases h
      · rename_i h32
        have h1 := isCh_len hh.1
        refine isCh_of (by simp; omega) (fun u hu => ?_) ?_
        · rcases List.mem_cons.1 hu with e | e
          · rw [e]; exact hh.2
          · exact isCh_all hh.1 u e
        · have hf := isCh_falls hh.1
          refine List.pairwise_cons.2 ⟨fun u hu => ?_, hf⟩
          cases l with
          | nil => cases hu
          | cons y r =>
            have hy : ¬ v.id ≤ y.id := fun e => hg (decide_eq_true e)
            rcases List.mem_cons.1 hu with e | e
            · rw [e]; omega
            · have := (List.pairwise_cons.1 hf).1 u e
              omega
  · cases h
theorem idxF_of : ∀ {l : List Vn} {j k : Nat} (hf : l.Pairwise (fun a b => b.id < a.id)) (hj : j < l.length), idxF l[j].id l k = some (k + j)
  | [], _, _, _, hj => by simp at hj
  | x :: r, 0, k, hf, hj => by simp [idxF]
  | x :: r, j + 1, k, hf, hj => by
    have hj' : j < r.length := by simpa using hj
    have h1 := List.pairwise_cons.1 hf
    have h2 := h1.1 r[j] (List.getElem_mem hj')
    have h3 := idxF_of (k := k + 1) h1.2 hj'
    simp only [List.getElem_cons_succ]
    unfold idxF
    rw [if_neg (by omega), h3]
    congr 1
    omega
theorem plO_of {l : List Vn} (h : isCh l = true) {j : Nat} (hj : j < l.length) : plO l l[j].id = some j ∧ plE l l[j].id = 0 := by
  have := idxF_of (k := 0) (isCh_falls h) hj
  rw [Nat.zero_add] at this
  unfold plO plE
  rw [if_pos h, if_pos h, this]
  exact ⟨rfl, rfl⟩
theorem isCh_sub {l m : List Vn} (h : isCh l = true) (hs : m.Sublist l) : isCh m = true := by
  have h1 := isCh_len h
  have h2 := hs.length_le
  exact isCh_of (by omega) (fun v hv => isCh_all h v (hs.subset hv)) ((isCh_falls h).sublist hs)
theorem rev_cut {α : Type} (m : List α) (k : Nat) (hk : k < m.length) : m.reverse.take (m.length - 1 - k) ++ m.reverse.drop (m.length - 1 - k + 1) = (m.take k ++ m.drop (k + 1)).reverse := by
  rw [List.reverse_append, List.take_reverse, List.drop_reverse]
  congr 2
  · congr 1; omega
  · congr 1; omega
theorem rev_get {m : List Vn} {k : Nat} (hk : k < m.length) : ∃ h : m.length - 1 - k < m.reverse.length, m.reverse[m.length - 1 - k] = m[k] := by
  refine ⟨by simp; omega, ?_⟩
  rw [List.getElem_reverse]
  congr 1
  omega
theorem drL_rev {m : List Vn} (h : isCh m.reverse = true) {k : Nat} (hk : k < m.length) : drL m.reverse m[k].id = (m.take k ++ m.drop (k + 1)).reverse ∧ plE m.reverse m[k].id = 0 ∧ isCh (m.take k ++ m.drop (k + 1)).reverse = true ∧ fdV m.reverse m[k].id = m[k] := by
  obtain ⟨h1, h2⟩ := rev_get hk
  obtain ⟨p1, p2⟩ := plO_of h h1
  rw [h2] at p1 p2
  have hd : drL m.reverse m[k].id = (m.take k ++ m.drop (k + 1)).reverse := by
    unfold drL
    rw [p1]
    exact rev_cut m k hk
  refine ⟨hd, p2, ?_, ?_⟩
  · refine isCh_sub h (List.Sublist.reverse ?_)
    have e : m = m.take k ++ m.drop k := (List.take_append_drop k m).symm
    have s : (m.drop (k + 1)).Sublist (m.drop k) := by
      rw [show k + 1 = k + 1 from rfl, ← List.drop_drop]
      exact List.drop_sublist _ _
    conv => rhs; rw [e]
    exact List.Sublist.append (List.Sublist.refl _) s
  · unfold fdV
    rw [p1]
    show m.reverse.getD (m.length - 1 - k) vn0 = m[k]
    rw [List.getD_eq_getElem?_getD, List.getElem?_eq_getElem h1, h2]
    rfl
theorem lat_none : latE [] = 4 := rfl
theorem lat_rev {m : List Vn} (h : isCh m.reverse = true) (hm : 0 < m.length) : latE m.reverse = (if m[m.length - 1].ma = true then 130 else 0) ∧ latV m.reverse = (if m[m.length - 1].ma = true then vn0 else m[m.length - 1]) := by
  have e : m.reverse = m[m.length - 1] :: (m.take (m.length - 1)).reverse := by
    have h1 : m = m.take (m.length - 1) ++ [m[m.length - 1]] := by
      have := List.take_append_getElem (l := m) (i := m.length - 1) (by omega)
      rw [this, List.take_of_length_le (by omega)]
    conv => lhs; rw [h1]
    rw [List.reverse_append]
    rfl
  unfold latE latV
  rw [if_pos h, if_pos h, e]
  exact ⟨rfl, rfl⟩
end Go.Proofs.Ytbiapepalkdkdaa
