/- Joined: Rows that a call owns, over worlds that are alike but for some blocks. Numbers in memory: a slice of whole numbers; those that rise. 'append' on rows of whatever elements, from whatever rows. Rows of numbers: as cells, grown by append. -/
import Derived.Test.YtflecoplpdbonaaJoined03
import Derived.Maps.AppendAt
import Derived.Test.YtflecoplpdbonaaJoined01
namespace Go.Proofs.Ytflecoplpdbonaa
open Go.RowKit Go.Maps
set_option linter.unusedVariables false
set_option linter.unusedSimpArgs false

theorem Keep.ownsRow {S : Nat → Prop} {w w' : World} {base e size n : Nat} {v : Value} {xs : List Value} (k : Keep S w w') (h : w.ownsRow base e size v n xs) (hS : ∀ g, v.ownBlock = some g → ¬ S g) : w'.ownsRow base e size v n xs := by
  obtain ⟨h1, h2⟩ := h
  refine ⟨h1, h2.imp id ?_⟩
  rintro ⟨g, cap, cur, rfl, hg, hb, r⟩
  exact ⟨g, cap, cur, rfl, hg, (k.block g (Array.getElem?_eq_some_iff.1 hb).1 (hS g rfl)).trans hb, r⟩
theorem ownsRow_lt {w : World} {base e size n : Nat} {v : Value} {xs : List Value} (h : w.ownsRow base e size v n xs) {g : Nat} (hg : v.ownBlock = some g) : g < w.heap.size := by
  obtain ⟨_, h2⟩ := h
  rcases h2 with ⟨rfl, _⟩ | ⟨g', cap, cur, rfl, _, hb, _⟩
  · simp [Value.ownBlock] at hg
  · simp [Value.ownBlock] at hg; subst hg; exact (Array.getElem?_eq_some_iff.1 hb).1
theorem row_form {w : World} {B e size n : Nat} {v : Value} {xs : List Value} (h : w.ownsRow B e size v n xs) : ∃ ad cap, v = .slice ad n cap := by
  rcases h.2 with ⟨e, h0⟩ | ⟨g, cap, cur, e, _⟩
  · exact ⟨none, 0, by rw [e, h0]⟩
  · exact ⟨_, _, e⟩
theorem ownsRow_base {w : World} {B B' e size n : Nat} {v : Value} {xs : List Value} (h : w.ownsRow B e size v n xs) (hB : B' ≤ B) : w.ownsRow B' e size v n xs := by
  refine ⟨h.1, h.2.imp id ?_⟩
  rintro ⟨g, cap, cur, e, hg, r⟩
  exact ⟨g, cap, cur, e, Nat.le_trans hB hg, r⟩
theorem ownsRow_ge {w : World} {B e size n : Nat} {v : Value} {xs : List Value} (h : w.ownsRow B e size v n xs) {g : Nat} (hg : v.ownBlock = some g) : B ≤ g := by
  rcases h.2 with ⟨e, _⟩ | ⟨g', cap, cur, e, hb, _⟩
  · rw [e] at hg; simp [Value.ownBlock] at hg
  · rw [e] at hg; simp [Value.ownBlock] at hg; omega
end Go.Proofs.Ytflecoplpdbonaa
namespace Go.Proofs.Ytflecoplpdbonaa
open Go.RowKit Go.Maps
set_option linter.unusedVariables false
set_option linter.unusedSimpArgs false

/-- numbers in memory -/
def IntsI (w : World) (v : Value) (l : List Int) : Prop :=
  (∃ ad cap, v = .slice ad 0 cap ∧ l = []) ∨ ∃ b off cap, v = .slice (some ⟨b, off, none⟩) l.length cap ∧ b < w.heap.size ∧ ∀ j (hj : j < l.length), w.cell? ⟨b, off + j, none⟩ = some (.int .i64 l[j])
theorem IntsI.form {w : World} {v : Value} {l : List Int} (h : IntsI w v l) : ∃ ad cap, v = .slice ad l.length cap ∧ ∀ k (hk : k < l.length), ∃ b off, ad = some ⟨b, off, none⟩ ∧ b < w.heap.size ∧ w.cell? ⟨b, off + k, none⟩ = some (.int .i64 l[k]) := by
  rcases h with ⟨ad, cap, rfl, rfl⟩ | ⟨b, off, cap, rfl, hb, hc⟩
  · exact ⟨ad, cap, rfl, fun k hk => absurd hk (by simp)⟩
  · exact ⟨_, cap, rfl, fun k hk => ⟨b, off, rfl, hb, hc k hk⟩⟩
theorem IntsI.next {w w' : World} {v : Value} {l : List Int} (h : IntsI w v l) (hB : Below w.heap.size w w') : IntsI w' v l := by
  rcases h with ⟨ad, cap, rfl, rfl⟩ | ⟨b, off, cap, rfl, hb, hc⟩
  · exact .inl ⟨ad, cap, rfl, rfl⟩
  · exact .inr ⟨b, off, cap, rfl, Nat.lt_of_lt_of_le hb hB.size, fun j hj => by rw [← hc j hj]; exact hB.cell hb⟩
/-- numbers that rise, above a and below 7 -/
def rises : Int → List Int → Bool
  | _, [] => true
  | a, x :: r => decide (a < x) && decide (x < 7) && rises x r
def areM (l : List Int) : Bool := rises (-1) l && decide (0 < l.length)
theorem rises_at {a : Int} {l : List Int} {k : Nat} (hk : k < l.length) : rises a (l.drop k) = (decide (a < l[k]) && decide (l[k] < 7) && rises l[k] (l.drop (k + 1))) := by
  rw [List.drop_eq_getElem_cons hk]; rfl
theorem srow (w : World) (cs : List Value) (t : TypeId) : RowIs (w.alloc (.cells cs.toArray t)) w.heap.size cs t := heap_alloc_new _ _
theorem rises_bd {a : Int} {l : List Int} (h : rises a l = true) (ha : -1 ≤ a) : ∀ x ∈ l, 0 ≤ x ∧ x < 7 := by
  induction l generalizing a with
  | nil => intro x hx; cases hx
  | cons y r ih =>
    simp [rises] at h
    intro x hx
    rcases List.mem_cons.1 hx with e | e
    · subst e; omega
    · exact ih h.2 (by omega) x e
theorem rises_len {a : Int} {l : List Int} (h : rises a l = true) (ha : a < 7) : (l.length : Int) + a ≤ 6 := by
  induction l generalizing a with
  | nil => simp; omega
  | cons y r ih =>
    simp [rises] at h
    have := ih h.2 h.1.2
    simp; omega
theorem areM_len {l : List Int} (h : areM l = true) : 1 ≤ l.length ∧ l.length ≤ 7 := by
  simp [areM] at h
  have := rises_len h.1 (by omega)
  omega
/-- the members' bytes -/
def msB (l : List Int) : List UInt8 := l.flatMap fun x => put x.toNat
theorem msB_take (l : List Int) (k : Nat) (hk : k < l.length) : msB (l.take (k + 1)) = msB (l.take k) ++ put l[k].toNat := by
  unfold msB
  rw [List.take_succ_eq_append_getElem hk, List.flatMap_append]
  simp
theorem msB_len (l : List Int) : (msB l).length ≤ 10 * l.length := by
  unfold msB
  induction l with
  | nil => simp
  | cons x r ih =>
    have := (put_len x.toNat).2
    rw [List.flatMap_cons, List.length_append, List.length_cons]
    omega
theorem add_ls (a b : List UInt8) (W : World) (h : a.length + b.length ≤ 1073741824) : (Op.stringOp .add ⟨a.toArray⟩ ⟨b.toArray⟩).run Try.prog W = .ok (.string ⟨(a ++ b).toArray⟩) W := by
  have e : (⟨(a ++ b).toArray⟩ : ByteArray) = ⟨a.toArray⟩ ++ ⟨b.toArray⟩ := by
    apply ByteArray.ext
    simp [ByteArray.data_append]
  rw [e]
  exact run_string_add_sum (P := Try.prog) (w := W) _ _ (by show a.toArray.size + b.toArray.size ≤ _; simp; omega)
end Go.Proofs.Ytflecoplpdbonaa
namespace Go.Proofs.Ytflecoplpdbonaa
open Go.RowKit Go.Maps
set_option linter.unusedVariables false
set_option linter.unusedSimpArgs false

/-- a slice's type, its elements' type, their cells and bytes -/
structure ElT (st e size bytes : Nat) : Prop where
  und : Try.prog.underlying st = some (.slice e)
  inf : ∃ z, (Try.prog.info? e).map (fun i => (i.zero, i.size, i.bytes)) = some (some z, size, bytes) ∧ z.cells.size = size
  pos : 0 < size
/-- cells that are read from a slice -/
def GSrc (w : World) (x : Value) (m : Nat) (cs : List Value) : Prop := (∃ c, x = .slice none 0 c ∧ m = 0 ∧ cs = []) ∨ ∃ g off c, x = .slice (some ⟨g, off, none⟩) m c ∧ g < w.heap.size ∧ ∀ j u, cs[j]? = some u → w.cell? ⟨g, off + j, none⟩ = some u
theorem GSrc.keep {w w' : World} {x : Value} {m : Nat} {cs : List Value} (h : GSrc w x m cs) (S : Nat → Prop) (k : Keep S w w') (hS : ∀ g, g < w.heap.size → ¬ S g) : GSrc w' x m cs := by
  rcases h with h | ⟨g, off, c, e, hg, hc⟩
  · exact .inl h
  · exact .inr ⟨g, off, c, e, Nat.lt_of_lt_of_le hg k.size, fun j u hu => (k.cell hg (hS g hg)).trans (hc j u hu)⟩
theorem grow_at {w : World} {B e size n g cap k : Nat} {xs : List Value} {u : Value} (h : w.ownsRow B e size (.slice (some ⟨g, 0, none⟩) n cap) n xs) (hk : xs[k]? = some u) : w.cell? ⟨g, k, none⟩ = some u := by
  obtain ⟨h1, h2⟩ := h
  rcases h2 with ⟨e0, _⟩ | ⟨g', cap', cur, e0, hg, hb, hn, hm, hs, ht⟩
  · injection e0 with e0; cases e0
  · injection e0 with e1 e2 e3
    injection e1 with e1
    injection e1 with e1
    subst e1
    have hkl : k < xs.length := (List.getElem?_eq_some_iff.1 hk).1
    rw [cell_of_row _ _ _ _ _ _ hb, ← hk, ← ht, List.getElem?_take_of_lt (by omega)]
    simp
theorem gsrc_all {w : World} {B e size n : Nat} {v : Value} {xs : List Value} (h : w.ownsRow B e size v n xs) : GSrc w v n xs := by
  rcases h.2 with ⟨e0, h0⟩ | ⟨g, cap, cur, e0, _, hb, hn, _⟩
  · exact .inl ⟨0, e0, h0, List.length_eq_zero_iff.1 (by rw [h.1, h0, Nat.zero_mul])⟩
  · refine .inr ⟨g, 0, cap, e0, (Array.getElem?_eq_some_iff.1 hb).1, fun j u hu => ?_⟩
    rw [Nat.zero_add]
    exact grow_at (e0 ▸ h) hu
theorem gsrc_to {st e size bytes : Nat} (T : ElT st e size bytes) {w : World} {v : Value} {xs : List Value} {B n : Nat} (h : w.ownsRow B e size v n xs) (k : Nat) (hk : k ≤ n) : ∃ x, GSrc w x k (xs.take (k * size)) ∧ ∀ W : World, (Instr.slice st v none (some (.int .i64 (k : Int))) none).run Try.prog W = .ok x W := by
  obtain ⟨z, hz, _⟩ := T.inf
  obtain ⟨i0, hi, _⟩ := Option.map_eq_some_iff.1 hz
  rcases h.2 with ⟨e0, h0⟩ | ⟨g, cap, cur, e0, _, hb, hn, _⟩
  · have hk0 : k = 0 := by omega
    subst hk0 e0
    refine ⟨.slice none 0 0, .inl ⟨0, rfl, rfl, by simp⟩, fun W => ?_⟩
    simp [Instr.slice, Instr.sliceBounds, Instr.sliceBound, asIntOf, run_underlying T.und, sizeOf, typeInfo, hi, Result.andThen]
  · refine ⟨.slice (some ⟨g, 0, none⟩) k cap, .inr ⟨g, 0, cap, rfl, (Array.getElem?_eq_some_iff.1 hb).1, fun j u hu => ?_⟩, fun W => ?_⟩
    · have hr := h
      rw [e0] at hr
      rw [Nat.zero_add]
      refine grow_at hr ?_
      have hj := (List.getElem?_eq_some_iff.1 hu).1
      rw [List.length_take] at hj
      rw [List.getElem?_take_of_lt (by omega)] at hu
      exact hu
    · have e1 : (0 : Int) ≤ (k : Int) := by omega
      have e2 : k ≤ cap := by omega
      have e3 : (⟨g, 0, none⟩ : Addr).add 0 = ⟨g, 0, none⟩ := rfl
      simp [Instr.slice, Instr.sliceBounds, Instr.sliceBound, asIntOf, run_underlying T.und, sizeOf, typeInfo, hi, Result.andThen, e0, e1, e2, e3]
theorem gsrc_from {st e size bytes : Nat} (T : ElT st e size bytes) {w : World} {v : Value} {xs : List Value} {B n : Nat} (h : w.ownsRow B e size v n xs) (k : Nat) (hk : k ≤ n) : ∃ x, GSrc w x (n - k) (xs.drop (k * size)) ∧ ∀ W : World, (Instr.slice st v (some (.int .i64 (k : Int))) none none).run Try.prog W = .ok x W := by
  obtain ⟨z, hz, _⟩ := T.inf
  obtain ⟨i0, hi, hi2⟩ := Option.map_eq_some_iff.1 hz
  simp only [Prod.mk.injEq] at hi2
  obtain ⟨_, hi3, _⟩ := hi2
  rcases h.2 with ⟨e0, h0⟩ | ⟨g, cap, cur, e0, _, hb, hn, _⟩
  · have hk0 : k = 0 := by omega
    subst hk0 e0
    refine ⟨.slice none 0 0, .inl ⟨0, rfl, by omega, List.length_eq_zero_iff.1 (by rw [List.length_drop, h.1, h0]; omega)⟩, fun W => ?_⟩
    simp [Instr.slice, Instr.sliceBounds, Instr.sliceBound, asIntOf, run_underlying T.und, sizeOf, typeInfo, hi, Result.andThen]
  · have e1 : (0 : Int) ≤ (k : Int) := by omega
    have hlt := (Array.getElem?_eq_some_iff.1 hb).1
    by_cases hc : cap = k
    · have hkA : k = n := by omega
      refine ⟨.slice (some ⟨g, 0, none⟩) (n - k) (cap - k), .inr ⟨g, 0, _, rfl, hlt, fun j u hu => ?_⟩, fun W => ?_⟩
      · have hj := (List.getElem?_eq_some_iff.1 hu).1
        rw [List.length_drop, h.1, hkA] at hj
        omega
      · simp [Instr.slice, Instr.sliceBounds, Instr.sliceBound, asIntOf, run_underlying T.und, sizeOf, typeInfo, hi, Result.andThen, e0, e1, hk, hc]
    · refine ⟨.slice (some ⟨g, k * size, none⟩) (n - k) (cap - k), .inr ⟨g, k * size, _, rfl, hlt, fun j u hu => ?_⟩, fun W => ?_⟩
      · have hr := h
        rw [e0] at hr
        refine grow_at hr ?_
        rw [List.getElem?_drop] at hu
        exact hu
      · have e3 : (⟨g, 0, none⟩ : Addr).add (k * size) = ⟨g, k * size, none⟩ := by rw [Addr.add_lit, Nat.zero_add]
        simp [Instr.slice, Instr.sliceBounds, Instr.sliceBound, asIntOf, run_underlying T.und, sizeOf, typeInfo, hi, Result.andThen, e0, e1, hk, hc, hi3, e3]
theorem gappL {st e size bytes : Nat} (T : ElT st e size bytes) {w : World} {B n m : Nat} {v x : Value} {xs cs : List Value} (ty : TypeId) (h0 : w.ownsRow B e size v n xs) (hB : B ≤ w.heap.size) (hx : GSrc w x m cs) (hcs : cs.length = m * size) (h1 : ∀ u ∈ cs, u.oneCell' = true) (hm : n + m ≤ 4611686018427387904) (hl : (n + m) * bytes ≤ 140737488355328) :
    ∃ ad' cap' w', (Builtin.append_ #[st, st] ty #[v, x]).run Try.prog w = .ok (.slice ad' (n + m) cap') w' ∧ w'.ownsRow B e size (.slice ad' (n + m) cap') (n + m) (xs ++ cs) ∧ Keep (fun k => v.ownBlock = some k) w w' := by
  obtain ⟨z, hz, hzc⟩ := T.inf
  obtain ⟨i0, hi, hz0, hz1, hz2⟩ := info_parts hz
  rcases hx with ⟨c, rfl, rfl, rfl⟩ | ⟨g, off, c, rfl, hg, hc⟩
  · obtain ⟨ad, cap, rfl⟩ := row_form h0
    have hle : n ≤ cap := by
      rcases h0.2 with ⟨e0, h⟩ | ⟨g, cap', cur, e0, _, _, h, _⟩
      · omega
      · injection e0 with _ _ e3; omega
    refine ⟨ad, cap, w, ?_, by simpa using h0, Keep.refl _ _⟩
    cases ad <;> simp [Builtin.append_, run_underlying T.und, sizeOf, typeInfo, hi, Builtin.lenOf, Builtin.firstCells, hle, storeCells]
  · obtain ⟨v', w', hr, h2, h3, h4, h5⟩ := run_append_own_at (P := Try.prog) w B st ty e i0 _ size bytes T.und hi hz0 hz1 hz2 hzc T.pos v n xs h0 ⟨g, off, none⟩ m c cs hcs
      (fun j u hu => by rw [Addr.add_lit]; exact hc j u hu) h1 (by unfold maxLen; omega) hl hB
    obtain ⟨ad', cap', rfl⟩ := row_form h2
    exact ⟨ad', cap', w', hr, h2, ⟨h3.os, h3.tape, h3.output, h3.size, fun k hk hn => h3.block k hk (fun e => hn e.symm)⟩⟩
theorem gapp {st e size bytes : Nat} (T : ElT st e size bytes) {w : World} {B n m : Nat} {v x : Value} {xs cs : List Value} (ty : TypeId) (h0 : w.ownsRow B e size v n xs) (hB : B ≤ w.heap.size) (hx : GSrc w x m cs) (hcs : cs.length = m * size) (h1 : ∀ u ∈ cs, u.oneCell' = true) (hm : n + m ≤ 70368744177) (hl : (n + m) * bytes ≤ 140737488355328) :
    ∃ ad' cap' w', (Builtin.append_ #[st, st] ty #[v, x]).run Try.prog w = .ok (.slice ad' (n + m) cap') w' ∧ w'.ownsRow B e size (.slice ad' (n + m) cap') (n + m) (xs ++ cs) ∧ Keep (fun k => v.ownBlock = some k) w w' :=
  gappL T ty h0 hB hx hcs h1 (by omega) hl
theorem wpl_gapp {w : World} {ops : Array Oper} {rest : List Oper} {o : Oper} {a : Act} {Q : Exit → Act → World → Prop} (hgd : o.guard = none) (sl x : Operand) {st e size bytes : Nat} (T : ElT st e size bytes)
    (ho : o.op = .call { callee := .builtin .append, args := #[sl, x], argTypes := #[st, st] }) (B : Nat) (v xv : Value) (xs cs : List Value) (n m nm : Nat) (hnm : n + m = nm)
    (hs : a.eval sl = v) (hx : a.eval x = xv) (h0 : w.ownsRow B e size v n xs) (hB : B ≤ w.heap.size) (hX : GSrc w xv m cs) (hcs : cs.length = m * size) (h1 : ∀ u ∈ cs, u.oneCell' = true) (hl : nm ≤ 70368744177) (hby : nm * bytes ≤ 140737488355328)
    (h : ∀ ad' cap' w', w'.ownsRow B e size (.slice ad' nm cap') nm (xs ++ cs) → Keep (fun k => v.ownBlock = some k) w w' → wpList Try.prog ops Q rest (a.put o.dst (.slice ad' nm cap')) w') : wpList Try.prog ops Q (o :: rest) a w := by
  subst hnm
  refine wpList_plain hgd fun K hK => ?_
  obtain ⟨ad', cap', w', hr, h2, h3⟩ := gapp T o.type h0 hB hX hcs h1 hl hby
  unfold Oper.wp execOp
  simp only [ho, resolve, invoke, builtin, Sem.run_bind, Sem.run_pure, Result.andThen_ok, List.map_toArray, List.map_cons, List.map_nil, hs, hx, hr]
  exact hK _ _ (h ad' cap' w' h2 h3)
/-- the same in a region that draws its order -/
theorem step_gapp {w w0 : World} {ops : Array Oper} {o : Oper} {a : Act} {K : Act → World → Prop} {Q : Exit → Act → World → Prop} {E : Prop} (hgd : o.guard = none) (sl x : Operand) {st e size bytes : Nat} (T : ElT st e size bytes)
    (ho : o.op = .call { callee := .builtin .append, args := #[sl, x], argTypes := #[st, st] }) (B : Nat) (v xv : Value) (xs cs : List Value) (n m nm : Nat) (hnm : n + m = nm) (hk : Keep (fun _ => False) w0 w)
    (hs : a.eval sl = v) (hx : a.eval x = xv) (h0 : w0.ownsRow B e size v n xs) (hB : B ≤ w0.heap.size) (hX : GSrc w0 xv m cs) (hcs : cs.length = m * size) (h1 : ∀ u ∈ cs, u.oneCell' = true) (hl : nm ≤ 70368744177) (hby : nm * bytes ≤ 140737488355328)
    (h : ∀ ad' cap' w', w'.ownsRow B e size (.slice ad' nm cap') nm (xs ++ cs) → Keep (fun k => v.ownBlock = some k) w0 w' → K (a.put o.dst (.slice ad' nm cap')) w') : if Region.wanted o (yielded ops a.tmps) = true then Oper.wp Try.prog o a w K Q else E := by
  subst hnm
  have hwn : Region.wanted o (yielded ops a.tmps) = true := by simp [Region.wanted, hgd]
  rw [if_pos hwn]
  obtain ⟨ad', cap', w', hr, h2, h3⟩ := gapp T o.type (hk.ownsRow h0 (fun _ _ h => h)) (Nat.le_trans hB hk.size) (hX.keep _ hk (fun _ _ h => h)) hcs h1 hl hby
  unfold Oper.wp execOp
  simp only [ho, resolve, invoke, builtin, Sem.run_bind, Sem.run_pure, Result.andThen_ok, List.map_toArray, List.map_cons, List.map_nil, hs, hx, hr, Oper.upon]
  exact h ad' cap' w' h2 ((hk.mono (fun _ _ h => h.elim)).trans h3)
/-- a row without cells, of the call's own -/
theorem own_empty {W : World} {g B e size : Nat} (hb : W.heap[g]? = some (.cells #[] e (0, 0))) (hB : B ≤ g) : W.ownsRow B e size (.slice (some ⟨g, 0, none⟩) 0 0) 0 [] :=
  ⟨by simp, .inr ⟨g, 0, #[], rfl, hB, hb, Nat.le_refl _, by simp⟩⟩
theorem gsrc_block {W : World} {g m c e : Nat} {cs : List Value} (hb : W.heap[g]? = some (.cells cs.toArray e (0, 0))) : GSrc W (.slice (some ⟨g, 0, none⟩) m c) m cs :=
  .inr ⟨g, 0, c, rfl, (Array.getElem?_eq_some_iff.1 hb).1, fun j u hu => by rw [Nat.zero_add, cell_of_row _ _ _ _ _ _ hb]; simpa using hu⟩
end Go.Proofs.Ytflecoplpdbonaa
namespace Go.Proofs.Ytflecoplpdbonaa
open Go.RowKit Go.Maps
set_option linter.unusedVariables false
set_option linter.unusedSimpArgs false

/-- numbers as cells -/
def isC (l : List Int) : List Value := l.map (Value.int .i64)
theorem isC_len (l : List Int) : (isC l).length = l.length := List.length_map ..
theorem isC_get (l : List Int) (k : Nat) (hk : k < l.length) : (isC l)[k]? = some (.int .i64 l[k]) := by simp [isC, hk]
theorem isC_set (l : List Int) (k : Nat) (x : Int) : (isC l).set k (.int .i64 x) = isC (l.set k x) := by simp [isC, List.map_set]
theorem info3 : (Try.prog.info? 3).map (fun i => (i.zero, i.size, i.bytes)) = some (some (.int .i64 0), 1, 8) := by kernel_rfl
theorem below_drew0 (w : World) (q : Nat) : Below w.heap.size w (World.drewN w q) := below_drewN (Below.refl _ _) q
theorem row_ints {w : World} {g cap : Nat} {t : TypeId} {l : List Int} (h : RowIs w g (isC l) t) : IntsI w (.slice (some ⟨g, 0, none⟩) l.length cap) l :=
  .inr ⟨g, 0, cap, rfl, h.lt, fun j hj => by rw [Nat.zero_add]; exact h.cellAt (isC_get l j hj)⟩
theorem row_last (w : World) (cs : List Value) (t : TypeId) (n : Nat) (hn : n = w.heap.size) : RowIs (w.alloc (.cells cs.toArray t)) n cs t := by subst hn; exact srow w cs t
theorem row_old {w : World} {g : Nat} {cs : List Value} {t : TypeId} (h : RowIs w g cs t) (o : Obj) : RowIs (w.alloc o) g cs t := h.keep (keep_alloc (fun _ => False) _ _) (fun h => h)
theorem below_al {w W : World} (h : Below w.heap.size w W) (o : Obj) : Below w.heap.size w (W.alloc o) := h.alloc h.size o
theorem below_on {w W W' : World} (h : Below w.heap.size w W) (k : Below W.heap.size W W') : Below w.heap.size w W' := h.trans (k.mono h.size)
theorem ints_none (w : World) : IntsI w (.slice none 0 0) [] := .inl ⟨none, 0, rfl, rfl⟩
theorem elInt : ElT 31 3 1 8 := ⟨Try.underlying31, ⟨.int .i64 0, by kernel_rfl, rfl⟩, by decide⟩
/-- numbers in a row that the call owns -/
def OwnI (w : World) (B : Nat) (v : Value) (l : List Int) : Prop := w.ownsRow B 3 1 v l.length (isC l)
theorem ownI_nil (w : World) (B : Nat) : OwnI w B (.slice none 0 0) [] := ⟨rfl, .inl ⟨rfl, rfl⟩⟩
theorem OwnI.form {w : World} {B : Nat} {v : Value} {l : List Int} (h : OwnI w B v l) : ∃ ad cap, v = .slice ad l.length cap := row_form h
theorem OwnI.ints {w : World} {B : Nat} {v : Value} {l : List Int} (h : OwnI w B v l) : IntsI w v l := by
  rcases gsrc_all h with ⟨c, e, h0, h1⟩ | ⟨g, off, c, e, hg, hc⟩
  · have hl : l = [] := List.length_eq_zero_iff.1 h0
    subst hl
    exact .inl ⟨none, c, e, rfl⟩
  · exact .inr ⟨g, off, c, e, hg, fun j hj => hc j _ (isC_get l j hj)⟩
theorem OwnI.next {w w' : World} {B : Nat} {v : Value} {l : List Int} (h : OwnI w B v l) (hB : Below w.heap.size w w') : OwnI w' B v l :=
  (hB.keep (fun _ => False)).ownsRow h (fun _ _ h => h)
theorem wpl_iapp {w : World} {ops : Array Oper} {rest : List Oper} {o : Oper} {a : Act} {Q : Exit → Act → World → Prop} (hgd : o.guard = none) (sl x : Operand)
    (ho : o.op = .call { callee := .builtin .append, args := #[sl, x], argTypes := #[31, 31] }) (B g n : Nat) (v : Value) (l : List Int) (y : Int) (hn : l.length = n)
    (hs : a.eval sl = v) (hx : a.eval x = .slice (some ⟨g, 0, none⟩) 1 1) (h0 : OwnI w B v l) (hB : B ≤ w.heap.size) (hg : RowIs w g [.int .i64 y] 3) (hl : l.length + 1 ≤ 70368744177)
    (h : ∀ ad' cap' w', OwnI w' B (.slice ad' (n + 1) cap') (l ++ [y]) → Below B w w' → wpList Try.prog ops Q rest (a.put o.dst (.slice ad' (n + 1) cap')) w') : wpList Try.prog ops Q (o :: rest) a w := by
  subst hn
  refine wpl_gapp hgd sl x elInt ho B v _ (isC l) [.int .i64 y] l.length 1 (l.length + 1) rfl hs hx h0 hB (gsrc_block hg) rfl (fun u hu => by simp at hu; subst hu; rfl) (by omega) (by omega) ?_
  intro ad' cap' w' ho' hk'
  refine h ad' cap' w' ?_ (keep_below hk' (fun k hk e => ?_) hB)
  · unfold OwnI
    rw [show isC (l ++ [y]) = isC l ++ [.int .i64 y] by simp [isC], show (l ++ [y]).length = l.length + 1 by simp]
    exact ho'
  · have := ownsRow_ge h0 e
    omega
theorem own_new {w : World} {B : Nat} {v : Value} {l : List Int} (h : OwnI w B v l) (o : Obj) : OwnI (w.alloc o) B v l := h.next ((Below.refl _ _).alloc (Nat.le_refl _) o)
end Go.Proofs.Ytflecoplpdbonaa
