/- Few parts. -/
import Derived.Test.YtbiapepalkdkdabPtZ
import Derived.Test.YtbiapepalkdkdabPkC
import Derived.Test.YtbiapepalkdkdabJoined07
import Derived.Test.YtbiapepalkdkdabJoined14
namespace Go.Proofs.Ytbiapepalkdkdab
open Go.RowKit Go.Maps
set_option linter.unusedVariables false
set_option linter.unusedSimpArgs false

/-- parts that may be, at most 101 -/
def FewT (l : List Pt) : Prop := l.length ≤ 101 ∧ ∀ v ∈ l, ptOk v = true
theorem FewT.nil : FewT [] := ⟨by simp, fun v hv => by cases hv⟩
theorem few_tput (l : List Pt) (x : Pt) : FewT (tputL l x) := by
  unfold tputL
  split
  · rename_i h
    unfold tputE at h
    split at h
    · rename_i hh
      have h1 := arePt_len hh.1
      refine ⟨?_, fun v hv => ?_⟩
      · unfold insT
        have h2 := plT_sk l x.n
        simp only [List.length_append, List.length_take, List.length_cons, List.length_drop]
        omega
      · rcases List.mem_append.1 hv with e | e
        · exact arePt_all hh.1 v (List.mem_of_mem_take e)
        · rcases List.mem_cons.1 e with e | e
          · rw [e]; exact hh.2
          · exact arePt_all hh.1 v (List.mem_of_mem_drop e)
    · cases h
  · exact FewT.nil
theorem tm_mem {q : List (Value × Pt)} {l : List Pt} (h : tqL q = l) {y : Value × Pt} (hy : y ∈ q) : y.2 ∈ l := by rw [← h]; exact tq_mem hy
theorem tm_len {q : List (Value × Pt)} {l : List Pt} (h : tqL q = l) : q.length = l.length := by rw [← h, tqL_len]
/-- the law's copy of few parts -/
theorem trefs_few (v : Value) (q : List (Value × Pt)) (l : List Pt) (w : World) (hv : PtI w v q) (he : tqL q = l) (hf : FewT l) : Calls Try.prog 11 #[v] w (fun e w' => (∃ ad n cap q', e = .returned (.slice ad n cap) ∧ Hid (PtI w' (.slice ad n cap) q' ∧ tqL q' = l)) ∧ Below w.heap.size w w') :=
  (trefs_any v q w hv (by rw [tm_len he]; have := hf.1; omega) (fun y hy => by have := (ptOk_b (hf.2 _ (tm_mem he hy))).2.2.1; omega)).mono fun e w' ⟨ad, cap, q', h1, h2, h3, h4⟩ => ⟨⟨ad, _, cap, q', h1, h3.pt, by rw [h2, he]⟩, h4⟩
theorem tsame_few (v1 v2 : Value) (q1 q2 : List (Value × Pt)) (l : List Pt) (w : World) (h1 : PtI w v1 q1) (h2 : PtI w v2 q2) (e1 : tqL q1 = l) (e2 : tqL q2 = l) (hf : FewT l) : Calls Try.prog 15 #[v1, v2] w (fun e w' => e = .returned (.bool true) ∧ Below w.heap.size w w') :=
  rtsame_true v1 v2 q1 q2 w h1 h2 (by rw [e1, e2]) (by rw [tm_len e1]; have := hf.1; omega) (fun y hy => by have := (ptOk_b (hf.2 _ (tm_mem e1 hy))).2.2.1; omega)
theorem ptIs_len (l : List Pt) : (ptIs l).length ≤ 51200 := by
  unfold ptIs
  split
  · rename_i h
    have h1 : ∀ m : List Pt, (∀ x ∈ m, ptOk x = true) → (idsT m).length ≤ 512 * m.length := by
      intro m
      induction m with
      | nil => intro _; simp [idsT]
      | cons x r ih =>
        intro hm
        have a := (ptOk_b (hm x (by simp))).2.2.1
        have b := ih (fun y hy => hm y (List.mem_cons_of_mem _ hy))
        have e : idsT (x :: r) = pcI9 x.ps ++ idsT r := by simp [idsT]
        rw [e, List.length_append, List.length_cons]
        have c : (pcI9 x.ps).length = x.ps.length := by simp [pcI9]
        omega
    have := h1 l (arePt_all h)
    have h2 := arePt_len h
    omega
  · simp
theorem trefs_few2 (v : Value) (q : List (Value × Pt)) (l : List Pt) (w : World) (hv : PtI w v q) (he : tqL q = l) (hf : FewT l) : Calls Try.prog 11 #[v] w (fun e w' => ∃ ad n cap q', e = .returned (.slice ad n cap) ∧ Hid (PtI w' (.slice ad n cap) q' ∧ tqL q' = l) ∧ Hid (Below w.heap.size w w')) :=
  (trefs_few v q l w hv he hf).mono fun e w' ⟨⟨ad, n, cap, q', h1, h2⟩, h3⟩ => ⟨ad, n, cap, q', h1, h2, h3⟩
end Go.Proofs.Ytbiapepalkdkdab
