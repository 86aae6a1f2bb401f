/- Joined: Versions held against each other. A version is put ahead of a chain, by the document. -/
import Derived.Test.YtmadlnchmkhdjaaGreatJoined13
import Derived.Laws.StructEq
namespace Go.Proofs.YtmadlnchmkhdjaaGreat
open Go.RowKit Go.Maps
set_option linter.unusedVariables false
set_option linter.unusedSimpArgs false

theorem guardPc : Tryz.prog.eqGuardType Tryz.prog.depth 90 = false := by kernel_rfl
theorem eqlPc (X : ByteArray) (a : Int) (W : World) : (binOp .eql 90 (.agg #[.string X, .int .i64 a]) (.agg #[.string X, .int .i64 a])).run Tryz.prog W = .ok (.bool true) W := by
  have u9 := Tryz.underlying9
  have u4 := Tryz.underlying3
  have z9 := Tryz.sizeOf9
  have z4 := Tryz.sizeOf3
  have a9 := Tryz.isAgg9
  have a4 := Tryz.isAgg3
  have hS : Tryz.prog.underlying 90 = some (.struct (Tryz.prog.fieldsOf 90)) := by kernel_rfl
  have hp : Tryz.prog.stoodInHeld 90 = false := by kernel_rfl
  rw [run_eql_struct, show (10000 : Nat) = 9999 + 1 from rfl, run_equalIn_agg W 9999 90 _ _ hS hp]
  simp only [Program.fieldsOf, Tryz.underlying90]
  go_simp
theorem neqPc (X : ByteArray) (a : Int) (W : World) : (binOp .neq 90 (.agg #[.string X, .int .i64 a]) (.agg #[.string X, .int .i64 a])).run Tryz.prog W = .ok (.bool false) W := by
  have h := eqlPc X a W
  rw [run_eql_struct] at h
  rw [run_neq_struct]
  generalize (Op.equalIn 10000 90 (.agg #[.string X, .int .i64 a]) (.agg #[.string X, .int .i64 a])).run Tryz.prog W = R at *
  cases R with
  | ok r W1 =>
    simp only [Result.andThen_ok] at h ⊢
    injection h with h1 h2
    injection h1 with h1
    rw [h1, h2]
    rfl
  | _ => cases h
theorem Tb.drewN {w W : World} {cs zs : List Value} {t1 t2 : TypeId} (h : Tb w cs zs t1 t2 W) (n : Nat) : Tb w cs zs t1 t2 (W.drewN n) := ⟨h.row, h.res, below_drewN h.b n⟩
end Go.Proofs.YtmadlnchmkhdjaaGreat
namespace Go.Proofs.YtmadlnchmkhdjaaGreat
open Go.RowKit Go.Maps
set_option linter.unusedVariables false
set_option linter.unusedSimpArgs false

theorem chF_lt {p : Option Int} {l : List Vn} (h : chF p l = true) : (∀ y, p = some y → ∀ v ∈ l, v.id < y) ∧ l.Pairwise (fun a b => b.id < a.id) := by
  induction l generalizing p with
  | nil => exact ⟨(fun _ _ v hv => by cases hv), List.Pairwise.nil⟩
  | cons x r ih =>
    simp only [chF, Bool.and_eq_true] at h
    obtain ⟨i1, i2⟩ := ih h.2
    refine ⟨fun y hy v hv => ?_, .cons (fun v hv => i1 _ rfl v hv) i2⟩
    have hx : x.id < y := by have := h.1.2; rw [hy] at this; simpa [vnBelow] using this
    rcases List.mem_cons.1 hv with e | e
    · rw [e]; exact hx
    · have := i1 _ rfl v e; omega
theorem isCh_falls {l : List Vn} (h : isCh l = true) : l.Pairwise (fun a b => b.id < a.id) := by
  simp only [isCh, Bool.and_eq_true] at h
  exact (chF_lt h.2).2
theorem hdGe_of {l : List Vn} (h : isCh l = true) {k : Nat} (hk : k < l.length) {v : Vn} (hv : v.id ≤ l[k].id) : hdGe l v = true := by
  cases l with
  | nil => simp at hk
  | cons y r =>
    have hp := isCh_falls h
    simp only [hdGe]
    cases k with
    | zero => exact decide_eq_true (by simpa using hv)
    | succ k =>
      have hk' : k < r.length := by simpa using hk
      have := (List.pairwise_cons.1 hp).1 r[k] (List.getElem_mem hk')
      simp only [List.getElem_cons_succ] at hv
      exact decide_eq_true (by omega)
theorem hdGe_no {l : List Vn} {v : Vn} (h : ∀ y ∈ l, y.id < v.id) : hdGe l v = false := by
  cases l with
  | nil => rfl
  | cons y r => simp only [hdGe]; have := h y (by simp); exact decide_eq_false (by omega)
/-- what bounds versions -/
def SzQ (q : List (Value × Vn)) : Prop := q.length ≤ 8796093022208 ∧ ∀ y ∈ q, y.2.sum.size ≤ 140737488355328 ∧ y.2.ps.length ≤ 8796093022208 ∧ ∀ p ∈ y.2.ps, p.id.size ≤ 140737488355328
def noId (n : Int) (v : Vn) : Bool := v.id != n
theorem fil_none {n : Int} : ∀ {l : List Vn} {k : Nat}, idxF n l k = none → l.filter (noId n) = l
  | [], _, _ => rfl
  | v :: r, k, h => by
    unfold idxF at h
    split at h
    · cases h
    · rename_i hv
      have : noId n v = true := by unfold noId; rw [bne_iff_ne]; exact hv
      rw [List.filter_cons_of_pos this, fil_none h]
theorem fil_some {n : Int} : ∀ {l : List Vn} {k j : Nat}, l.Pairwise (fun a b => b.id < a.id) → idxF n l k = some j → l.filter (noId n) = l.take (j - k) ++ l.drop (j - k + 1)
  | [], _, _, _, h => by simp [idxF] at h
  | v :: r, k, j, hp, h => by
    unfold idxF at h
    obtain ⟨hp1, hp2⟩ := List.pairwise_cons.1 hp
    split at h
    · rename_i hv
      injection h with h
      subst h
      have : ¬ noId n v = true := by unfold noId; rw [bne_iff_ne]; exact fun h => h hv
      rw [List.filter_cons_of_neg this, Nat.sub_self]
      simp only [List.take_zero, List.nil_append, Nat.zero_add, List.drop_succ_cons, List.drop_zero]
      rw [List.filter_eq_self]
      intro y hy
      have := hp1 y hy
      unfold noId
      rw [bne_iff_ne]
      omega
    · rename_i hv
      have : noId n v = true := by unfold noId; rw [bne_iff_ne]; exact hv
      have hj := (idxF_some h).1
      rw [List.filter_cons_of_pos this, fil_some hp2 h, show j - k = (j - (k + 1)) + 1 by omega]
      simp
theorem fil_q (n : Int) (q : List (Value × Vn)) : vqL (q.filter (fun y => noId n y.2)) = (vqL q).filter (noId n) := by
  unfold vqL
  rw [List.filter_map]
  rfl
end Go.Proofs.YtmadlnchmkhdjaaGreat
