/- Joined: Versions held against each other. A version is put ahead of a chain, by the document. -/
import Derived.Test.YtbiapepalkdkdabJoined16
import Derived.Laws.StructEq
namespace Go.Proofs.Ytbiapepalkdkdab
open Go.RowKit Go.Maps
set_option linter.unusedVariables false
set_option linter.unusedSimpArgs false

theorem guardPc : Try.prog.eqGuardType Try.prog.depth 88 = false := by kernel_rfl
theorem eqlPc (X : ByteArray) (a : Int) (W : World) : (binOp .eql 88 (.agg #[.string X, .int .i64 a]) (.agg #[.string X, .int .i64 a])).run Try.prog W = .ok (.bool true) W := by
  have u9 := Try.underlying9
  have u4 := Try.underlying3
  have z9 := Try.sizeOf9
  have z4 := Try.sizeOf3
  have a9 := Try.isAgg9
  have a4 := Try.isAgg3
  have hS : Try.prog.underlying 88 = some (.struct (Try.prog.fieldsOf 88)) := by kernel_rfl
  have hp : Try.prog.stoodInHeld 88 = false := by kernel_rfl
  rw [run_eql_struct, show (10000 : Nat) = 9999 + 1 from rfl, run_equalIn_agg W 9999 88 _ _ hS hp]
  simp only [Program.fieldsOf, Try.underlying88]
  go_simp
theorem neqPc (X : ByteArray) (a : Int) (W : World) : (binOp .neq 88 (.agg #[.string X, .int .i64 a]) (.agg #[.string X, .int .i64 a])).run Try.prog W = .ok (.bool false) W := by
  have h := eqlPc X a W
  rw [run_eql_struct] at h
  rw [run_neq_struct]
  generalize (Op.equalIn 10000 88 (.agg #[.string X, .int .i64 a]) (.agg #[.string X, .int .i64 a])).run Try.prog W = R at *
  cases R with
  | ok r W1 =>
    simp only [Result.andThen_ok] at h ⊢
    injection h with h1 h2
    injection h1 with h1
    rw [h1, h2]
    rfl
  | _ => cases h
theorem Tb.drewN {w W : World} {cs zs : List Value} {t1 t2 : TypeId} (h : Tb w cs zs t1 t2 W) (n : Nat) : Tb w cs zs t1 t2 (W.drewN n) := ⟨h.row, h.res, below_drewN h.b n⟩
set_option maxRecDepth 100000 in
set_option maxHeartbeats 2000000 in
theorem rsame_true (p1 p2 : Value) (x : Vn) (w : World) (h1 : PcI w p1 x.ps) (h2 : PcI w p2 x.ps) (hl : x.ps.length ≤ 8796093022208) : Calls Try.prog 22 #[vnV (p1, x), vnV (p2, x)] w fun e w' => e = .returned (.bool true) ∧ Below w.heap.size w w' := by
  obtain ⟨a1, c1, rfl, g1⟩ := h1.form
  obtain ⟨a2, c2, rfl, g2⟩ := h2.form
  have HC : Hid (∀ (k : Nat) (hk : k < x.ps.length) (W : World), Below w.heap.size w W → ∃ b1 o1 b2 o2 X F, a1 = some ⟨b1, o1, none⟩ ∧ a2 = some ⟨b2, o2, none⟩ ∧ W.cell? ⟨b1, o1 + k * 2, none⟩ = some (.string X) ∧ W.cell? ⟨b1, o1 + k * 2 + 1, none⟩ = some (.int .i64 F) ∧ W.cell? ⟨b2, o2 + k * 2, none⟩ = some (.string X) ∧ W.cell? ⟨b2, o2 + k * 2 + 1, none⟩ = some (.int .i64 F)) := fun k hk W hW => by
    obtain ⟨b1, o1, e1, hb1, p1, p2⟩ := g1 k hk
    obtain ⟨b2, o2, e2, hb2, q1, q2⟩ := g2 k hk
    exact ⟨b1, o1, b2, o2, _, _, e1, e2, (hW.cell (p := ⟨b1, o1 + k * 2, none⟩) hb1).trans p1, (hW.cell (p := ⟨b1, o1 + k * 2 + 1, none⟩) hb1).trans p2, (hW.cell (p := ⟨b2, o2 + k * 2, none⟩) hb2).trans q1, (hW.cell (p := ⟨b2, o2 + k * 2 + 1, none⟩) hb2).trans q2⟩
  have TM := hid (Tb.made w [.int .i64 x.id, .bool x.ma, .int .i64 x.sz, .string x.sum, .slice a1 x.ps.length c1] [.int .i64 x.id, .bool x.ma, .int .i64 x.sz, .string x.sum, .slice a2 x.ps.length c2] 51 51)
  clear h1 h2 g1 g2
  unfold vnV
  obtain ⟨id, ma, sz, sum, ps⟩ := x
  simp only at *
  generalize ps.length = n at *
  obtain ⟨y0, y1, y2, y3, y4⟩ := TM.out.five
  obtain ⟨⟨z0, z1, z2, z3, z4⟩, -⟩ := TM.out.may
  have e1 : (id != id) = false := by simp
  have e2 : (ma != ma) = false := by simp
  have e3 : (sz != sz) = false := by simp
  have e4 : (sum.toList != sum.toList) = false := by simp
  have e5 : ((n : Int) != (n : Int)) = false := by simp
  have hg := guardPc
  go_enter Try.func22, Try.ntmps22
  go_wp2
  clear y0 y1 y2 y3 y4 z0 z1 z2 z3 z4 e1 e2 e3 e4 e5
  go_loopw [5] (fun i wr => ∃ k : Nat, k ≤ n ∧ i = .int .i64 k ∧ Hid (Tb w [.int .i64 id, .bool ma, .int .i64 sz, .string sum, .slice a1 n c1] [.int .i64 id, .bool ma, .int .i64 sz, .string sum, .slice a2 n c2] 51 51 wr)) (fun i _ => n - (intOf i).toNat)
  case atStart => exact ⟨0, by omega, rfl, TM⟩
  case round =>
    clear TM
    obtain ⟨k, hk, rfl, HT⟩ := hrel
    have y4 := HT.out.row.cellAt (o := 4) rfl
    by_cases hlt : k < n
    · have hk0 : (0 : Int) ≤ (k : Int) := by omega
      have hk1 : (k : Int) < (n : Int) := by omega
      have z4 := HT.out.res.cellAt (o := 4) rfl
      obtain ⟨b1, o1, b2, o2, X, F, e1, e2, p1, p2, q1, q2⟩ := HC.out k hlt wr HT.out.b
      subst e1 e2
      have hq := fun W => neqPc X F W
      clear HC
      go_wp2
      go_quiet (fail)
      have HT2 := hid (HT.out.drewN nq)
      clear HT y4 z4 p1 p2 q1 q2
      go_wp2
      exact ⟨⟨k + 1, by omega, by go_num, HT2⟩, by simp [intOf]; omega⟩
    · have hd : decide ((k : Int) < (n : Int)) = false := decide_eq_false (by omega)
      have hd2 : decide (k < n) = false := decide_eq_false hlt
      clear HC
      go_wp2
      go_ret
      exact ⟨rfl, HT.out.b⟩
end Go.Proofs.Ytbiapepalkdkdab
namespace Go.Proofs.Ytbiapepalkdkdab
open Go.RowKit Go.Maps
set_option linter.unusedVariables false
set_option linter.unusedSimpArgs false

theorem chF_lt {p : Option Int} {l : List Vn} (h : chF p l = true) : (∀ y, p = some y → ∀ v ∈ l, v.id < y) ∧ l.Pairwise (fun a b => b.id < a.id) := by
  induction l generalizing p with
  | nil => exact ⟨(fun _ _ v hv => by cases hv), List.Pairwise.nil⟩
  | cons x r ih =>
    simp only [chF, Bool.and_eq_true] at h
    obtain ⟨i1, i2⟩ := ih h.2
    refine ⟨fun y hy v hv => ?_, .cons (fun v hv => i1 _ rfl v hv) i2⟩
    have hx : x.id < y := by have := h.1.2; rw [hy] at this; simpa [vnBelow] using this
    rcases List.mem_cons.1 hv with e | e
    · rw [e]; exact hx
    · have := i1 _ rfl v e; omega
theorem isCh_falls {l : List Vn} (h : isCh l = true) : l.Pairwise (fun a b => b.id < a.id) := by
  simp only [isCh, Bool.and_eq_true] at h
  exact (chF_lt h.2).2
theorem hdGe_of {l : List Vn} (h : isCh l = true) {k : Nat} (hk : k < l.length) {v : Vn} (hv : v.id ≤ l[k].id) : hdGe l v = true := by
  cases l with
  | nil => simp at hk
  | cons y r =>
    have hp := isCh_falls h
    simp only [hdGe]
    cases k with
    | zero => exact decide_eq_true (by simpa using hv)
    | succ k =>
      have hk' : k < r.length := by simpa using hk
      have := (List.pairwise_cons.1 hp).1 r[k] (List.getElem_mem hk')
      simp only [List.getElem_cons_succ] at hv
      exact decide_eq_true (by omega)
theorem hdGe_no {l : List Vn} {v : Vn} (h : ∀ y ∈ l, y.id < v.id) : hdGe l v = false := by
  cases l with
  | nil => rfl
  | cons y r => simp only [hdGe]; have := h y (by simp); exact decide_eq_false (by omega)
/-- what bounds versions -/
def SzQ (q : List (Value × Vn)) : Prop := q.length ≤ 8796093022208 ∧ ∀ y ∈ q, y.2.sum.size ≤ 140737488355328 ∧ y.2.ps.length ≤ 8796093022208 ∧ ∀ p ∈ y.2.ps, p.id.size ≤ 140737488355328
def noId (n : Int) (v : Vn) : Bool := v.id != n
theorem fil_none {n : Int} : ∀ {l : List Vn} {k : Nat}, idxF n l k = none → l.filter (noId n) = l
  | [], _, _ => rfl
  | v :: r, k, h => by
    unfold idxF at h
    split at h
    · cases h
    · rename_i hv
      have : noId n v = true := by unfold noId; rw [bne_iff_ne]; exact hv
      rw [List.filter_cons_of_pos this, fil_none h]
theorem fil_some {n : Int} : ∀ {l : List Vn} {k j : Nat}, l.Pairwise (fun a b => b.id < a.id) → idxF n l k = some j → l.filter (noId n) = l.take (j - k) ++ l.drop (j - k + 1)
  | [], _, _, _, h => by simp [idxF] at h
  | v :: r, k, j, hp, h => by
    unfold idxF at h
    obtain ⟨hp1, hp2⟩ := List.pairwise_cons.1 hp
    split at h
    · rename_i hv
      injection h with h
      subst h
      have : ¬ noId n v = true := by unfold noId; rw [bne_iff_ne]; exact fun h => h hv
      rw [List.filter_cons_of_neg this, Nat.sub_self]
      simp only [List.take_zero, List.nil_append, Nat.zero_add, List.drop_succ_cons, List.drop_zero]
      rw [List.filter_eq_self]
      intro y hy
      have := hp1 y hy
      unfold noId
      rw [bne_iff_ne]
      omega
    · rename_i hv
      have : noId n v = true := by unfold noId; rw [bne_iff_ne]; exact hv
      have hj := (idxF_some h).1
      rw [List.filter_cons_of_pos this, fil_some hp2 h, show j - k = (j - (k + 1)) + 1 by omega]
      simp
theorem fil_q (n : Int) (q : List (Value × Vn)) : vqL (q.filter (fun y => noId n y.2)) = (vqL q).filter (noId n) := by
  unfold vqL
  rw [List.filter_map]
  rfl
end Go.Proofs.Ytbiapepalkdkdab
