/- Joined: Rows that a call owns, over worlds that are alike but for some blocks. Numbers in memory: a slice of whole numbers; those that rise. 'append' on rows of whatever elements, from whatever rows. Rows of numbers: as cells, grown by append. Pieces, versions and chains: which may be; what they are in memory. A box of the call's own. 64 noughts. -/
import Derived.Test.YtmadlnchmkhdjaaGreatKeepM
import Derived.Maps.AppendAt
import Derived.Test.YtmadlnchmkhdjaaGreatJoined01
import Derived.Test.YtmadlnchmkhdjaaGreatJoined00
import Derived.Test.YtmadlnchmkhdjaaGreatJoined02
namespace Go.Proofs.YtmadlnchmkhdjaaGreat
open Go.RowKit Go.Maps
set_option linter.unusedVariables false
set_option linter.unusedSimpArgs false

theorem Keep.ownsRow {S : Nat → Prop} {w w' : World} {base e size n : Nat} {v : Value} {xs : List Value} (k : Keep S w w') (h : w.ownsRow base e size v n xs) (hS : ∀ g, v.ownBlock = some g → ¬ S g) : w'.ownsRow base e size v n xs := by
  obtain ⟨h1, h2⟩ := h
  refine ⟨h1, h2.imp id ?_⟩
  rintro ⟨g, cap, cur, rfl, hg, hb, r⟩
  exact ⟨g, cap, cur, rfl, hg, (k.block g (Array.getElem?_eq_some_iff.1 hb).1 (hS g rfl)).trans hb, r⟩
theorem ownsRow_lt {w : World} {base e size n : Nat} {v : Value} {xs : List Value} (h : w.ownsRow base e size v n xs) {g : Nat} (hg : v.ownBlock = some g) : g < w.heap.size := by
  obtain ⟨_, h2⟩ := h
  rcases h2 with ⟨rfl, _⟩ | ⟨g', cap, cur, rfl, _, hb, _⟩
  · simp [Value.ownBlock] at hg
  · simp [Value.ownBlock] at hg; subst hg; exact (Array.getElem?_eq_some_iff.1 hb).1
theorem row_form {w : World} {B e size n : Nat} {v : Value} {xs : List Value} (h : w.ownsRow B e size v n xs) : ∃ ad cap, v = .slice ad n cap := by
  rcases h.2 with ⟨e, h0⟩ | ⟨g, cap, cur, e, _⟩
  · exact ⟨none, 0, by rw [e, h0]⟩
  · exact ⟨_, _, e⟩
theorem ownsRow_base {w : World} {B B' e size n : Nat} {v : Value} {xs : List Value} (h : w.ownsRow B e size v n xs) (hB : B' ≤ B) : w.ownsRow B' e size v n xs := by
  refine ⟨h.1, h.2.imp id ?_⟩
  rintro ⟨g, cap, cur, e, hg, r⟩
  exact ⟨g, cap, cur, e, Nat.le_trans hB hg, r⟩
theorem ownsRow_ge {w : World} {B e size n : Nat} {v : Value} {xs : List Value} (h : w.ownsRow B e size v n xs) {g : Nat} (hg : v.ownBlock = some g) : B ≤ g := by
  rcases h.2 with ⟨e, _⟩ | ⟨g', cap, cur, e, hb, _⟩
  · rw [e] at hg; simp [Value.ownBlock] at hg
  · rw [e] at hg; simp [Value.ownBlock] at hg; omega
end Go.Proofs.YtmadlnchmkhdjaaGreat
namespace Go.Proofs.YtmadlnchmkhdjaaGreat
open Go.RowKit Go.Maps
set_option linter.unusedVariables false
set_option linter.unusedSimpArgs false

/-- numbers in memory -/
def IntsI (w : World) (v : Value) (l : List Int) : Prop :=
  (∃ ad cap, v = .slice ad 0 cap ∧ l = []) ∨ ∃ b off cap, v = .slice (some ⟨b, off, none⟩) l.length cap ∧ b < w.heap.size ∧ ∀ j (hj : j < l.length), w.cell? ⟨b, off + j, none⟩ = some (.int .i64 l[j])
theorem IntsI.form {w : World} {v : Value} {l : List Int} (h : IntsI w v l) : ∃ ad cap, v = .slice ad l.length cap ∧ ∀ k (hk : k < l.length), ∃ b off, ad = some ⟨b, off, none⟩ ∧ b < w.heap.size ∧ w.cell? ⟨b, off + k, none⟩ = some (.int .i64 l[k]) := by
  rcases h with ⟨ad, cap, rfl, rfl⟩ | ⟨b, off, cap, rfl, hb, hc⟩
  · exact ⟨ad, cap, rfl, fun k hk => absurd hk (by simp)⟩
  · exact ⟨_, cap, rfl, fun k hk => ⟨b, off, rfl, hb, hc k hk⟩⟩
theorem IntsI.next {w w' : World} {v : Value} {l : List Int} (h : IntsI w v l) (hB : Below w.heap.size w w') : IntsI w' v l := by
  rcases h with ⟨ad, cap, rfl, rfl⟩ | ⟨b, off, cap, rfl, hb, hc⟩
  · exact .inl ⟨ad, cap, rfl, rfl⟩
  · exact .inr ⟨b, off, cap, rfl, Nat.lt_of_lt_of_le hb hB.size, fun j hj => by rw [← hc j hj]; exact hB.cell hb⟩
/-- numbers that rise, above a and below 7 -/
def rises : Int → List Int → Bool
  | _, [] => true
  | a, x :: r => decide (a < x) && decide (x < 7) && rises x r
def areM (l : List Int) : Bool := rises (-1) l && decide (0 < l.length)
theorem rises_at {a : Int} {l : List Int} {k : Nat} (hk : k < l.length) : rises a (l.drop k) = (decide (a < l[k]) && decide (l[k] < 7) && rises l[k] (l.drop (k + 1))) := by
  rw [List.drop_eq_getElem_cons hk]; rfl
theorem srow (w : World) (cs : List Value) (t : TypeId) : RowIs (w.alloc (.cells cs.toArray t)) w.heap.size cs t := heap_alloc_new _ _
theorem rises_bd {a : Int} {l : List Int} (h : rises a l = true) (ha : -1 ≤ a) : ∀ x ∈ l, 0 ≤ x ∧ x < 7 := by
  induction l generalizing a with
  | nil => intro x hx; cases hx
  | cons y r ih =>
    simp [rises] at h
    intro x hx
    rcases List.mem_cons.1 hx with e | e
    · subst e; omega
    · exact ih h.2 (by omega) x e
theorem rises_len {a : Int} {l : List Int} (h : rises a l = true) (ha : a < 7) : (l.length : Int) + a ≤ 6 := by
  induction l generalizing a with
  | nil => simp; omega
  | cons y r ih =>
    simp [rises] at h
    have := ih h.2 h.1.2
    simp; omega
theorem areM_len {l : List Int} (h : areM l = true) : 1 ≤ l.length ∧ l.length ≤ 7 := by
  simp [areM] at h
  have := rises_len h.1 (by omega)
  omega
/-- the members' bytes -/
def msB (l : List Int) : List UInt8 := l.flatMap fun x => put x.toNat
theorem msB_take (l : List Int) (k : Nat) (hk : k < l.length) : msB (l.take (k + 1)) = msB (l.take k) ++ put l[k].toNat := by
  unfold msB
  rw [List.take_succ_eq_append_getElem hk, List.flatMap_append]
  simp
theorem msB_len (l : List Int) : (msB l).length ≤ 10 * l.length := by
  unfold msB
  induction l with
  | nil => simp
  | cons x r ih =>
    have := (put_len x.toNat).2
    rw [List.flatMap_cons, List.length_append, List.length_cons]
    omega
theorem add_ls (a b : List UInt8) (W : World) (h : a.length + b.length ≤ 1073741824) : (Op.stringOp .add ⟨a.toArray⟩ ⟨b.toArray⟩).run Tryz.prog W = .ok (.string ⟨(a ++ b).toArray⟩) W := by
  have e : (⟨(a ++ b).toArray⟩ : ByteArray) = ⟨a.toArray⟩ ++ ⟨b.toArray⟩ := by
    apply ByteArray.ext
    simp [ByteArray.data_append]
  rw [e]
  exact run_string_add_sum (P := Tryz.prog) (w := W) _ _ (by show a.toArray.size + b.toArray.size ≤ _; simp; omega)
end Go.Proofs.YtmadlnchmkhdjaaGreat
namespace Go.Proofs.YtmadlnchmkhdjaaGreat
open Go.RowKit Go.Maps
set_option linter.unusedVariables false
set_option linter.unusedSimpArgs false

/-- a slice's type, its elements' type, their cells and bytes -/
structure ElT (st e size bytes : Nat) : Prop where
  und : Tryz.prog.underlying st = some (.slice e)
  inf : ∃ z, (Tryz.prog.info? e).map (fun i => (i.zero, i.size, i.bytes)) = some (some z, size, bytes) ∧ z.cells.size = size
  pos : 0 < size
/-- cells that are read from a slice -/
def GSrc (w : World) (x : Value) (m : Nat) (cs : List Value) : Prop := (∃ c, x = .slice none 0 c ∧ m = 0 ∧ cs = []) ∨ ∃ g off c, x = .slice (some ⟨g, off, none⟩) m c ∧ g < w.heap.size ∧ ∀ j u, cs[j]? = some u → w.cell? ⟨g, off + j, none⟩ = some u
theorem GSrc.keep {w w' : World} {x : Value} {m : Nat} {cs : List Value} (h : GSrc w x m cs) (S : Nat → Prop) (k : Keep S w w') (hS : ∀ g, g < w.heap.size → ¬ S g) : GSrc w' x m cs := by
  rcases h with h | ⟨g, off, c, e, hg, hc⟩
  · exact .inl h
  · exact .inr ⟨g, off, c, e, Nat.lt_of_lt_of_le hg k.size, fun j u hu => (k.cell hg (hS g hg)).trans (hc j u hu)⟩
theorem grow_at {w : World} {B e size n g cap k : Nat} {xs : List Value} {u : Value} (h : w.ownsRow B e size (.slice (some ⟨g, 0, none⟩) n cap) n xs) (hk : xs[k]? = some u) : w.cell? ⟨g, k, none⟩ = some u := by
  obtain ⟨h1, h2⟩ := h
  rcases h2 with ⟨e0, _⟩ | ⟨g', cap', cur, e0, hg, hb, hn, hm, hs, ht⟩
  · injection e0 with e0; cases e0
  · injection e0 with e1 e2 e3
    injection e1 with e1
    injection e1 with e1
    subst e1
    have hkl : k < xs.length := (List.getElem?_eq_some_iff.1 hk).1
    rw [cell_of_row _ _ _ _ _ _ hb, ← hk, ← ht, List.getElem?_take_of_lt (by omega)]
    simp
theorem gsrc_all {w : World} {B e size n : Nat} {v : Value} {xs : List Value} (h : w.ownsRow B e size v n xs) : GSrc w v n xs := by
  rcases h.2 with ⟨e0, h0⟩ | ⟨g, cap, cur, e0, _, hb, hn, _⟩
  · exact .inl ⟨0, e0, h0, List.length_eq_zero_iff.1 (by rw [h.1, h0, Nat.zero_mul])⟩
  · refine .inr ⟨g, 0, cap, e0, (Array.getElem?_eq_some_iff.1 hb).1, fun j u hu => ?_⟩
    rw [Nat.zero_add]
    exact grow_at (e0 ▸ h) hu
theorem gsrc_to {st e size bytes : Nat} (T : ElT st e size bytes) {w : World} {v : Value} {xs : List Value} {B n : Nat} (h : w.ownsRow B e size v n xs) (k : Nat) (hk : k ≤ n) : ∃ x, GSrc w x k (xs.take (k * size)) ∧ ∀ W : World, (Instr.slice st v none (some (.int .i64 (k : Int))) none).run Tryz.prog W = .ok x W := by
  obtain ⟨z, hz, _⟩ := T.inf
  obtain ⟨i0, hi, _⟩ := Option.map_eq_some_iff.1 hz
  rcases h.2 with ⟨e0, h0⟩ | ⟨g, cap, cur, e0, _, hb, hn, _⟩
  · have hk0 : k = 0 := by omega
    subst hk0 e0
    refine ⟨.slice none 0 0, .inl ⟨0, rfl, rfl, by simp⟩, fun W => ?_⟩
    simp [Instr.slice, Instr.sliceBounds, Instr.sliceBound, asIntOf, run_underlying T.und, sizeOf, typeInfo, hi, Result.andThen]
  · refine ⟨.slice (some ⟨g, 0, none⟩) k cap, .inr ⟨g, 0, cap, rfl, (Array.getElem?_eq_some_iff.1 hb).1, fun j u hu => ?_⟩, fun W => ?_⟩
    · have hr := h
      rw [e0] at hr
      rw [Nat.zero_add]
      refine grow_at hr ?_
      have hj := (List.getElem?_eq_some_iff.1 hu).1
      rw [List.length_take] at hj
      rw [List.getElem?_take_of_lt (by omega)] at hu
      exact hu
    · have e1 : (0 : Int) ≤ (k : Int) := by omega
      have e2 : k ≤ cap := by omega
      have e3 : (⟨g, 0, none⟩ : Addr).add 0 = ⟨g, 0, none⟩ := rfl
      simp [Instr.slice, Instr.sliceBounds, Instr.sliceBound, asIntOf, run_underlying T.und, sizeOf, typeInfo, hi, Result.andThen, e0, e1, e2, e3]
theorem gsrc_from {st e size bytes : Nat} (T : ElT st e size bytes) {w : World} {v : Value} {xs : List Value} {B n : Nat} (h : w.ownsRow B e size v n xs) (k : Nat) (hk : k ≤ n) : ∃ x, GSrc w x (n - k) (xs.drop (k * size)) ∧ ∀ W : World, (Instr.slice st v (some (.int .i64 (k : Int))) none none).run Tryz.prog W = .ok x W := by
  obtain ⟨z, hz, _⟩ := T.inf
  obtain ⟨i0, hi, hi2⟩ := Option.map_eq_some_iff.1 hz
  simp only [Prod.mk.injEq] at hi2
  obtain ⟨_, hi3, _⟩ := hi2
  rcases h.2 with ⟨e0, h0⟩ | ⟨g, cap, cur, e0, _, hb, hn, _⟩
  · have hk0 : k = 0 := by omega
    subst hk0 e0
    refine ⟨.slice none 0 0, .inl ⟨0, rfl, by omega, List.length_eq_zero_iff.1 (by rw [List.length_drop, h.1, h0]; omega)⟩, fun W => ?_⟩
    simp [Instr.slice, Instr.sliceBounds, Instr.sliceBound, asIntOf, run_underlying T.und, sizeOf, typeInfo, hi, Result.andThen]
  · have e1 : (0 : Int) ≤ (k : Int) := by omega
    have hlt := (Array.getElem?_eq_some_iff.1 hb).1
    by_cases hc : cap = k
    · have hkA : k = n := by omega
      refine ⟨.slice (some ⟨g, 0, none⟩) (n - k) (cap - k), .inr ⟨g, 0, _, rfl, hlt, fun j u hu => ?_⟩, fun W => ?_⟩
      · have hj := (List.getElem?_eq_some_iff.1 hu).1
        rw [List.length_drop, h.1, hkA] at hj
        omega
      · simp [Instr.slice, Instr.sliceBounds, Instr.sliceBound, asIntOf, run_underlying T.und, sizeOf, typeInfo, hi, Result.andThen, e0, e1, hk, hc]
    · refine ⟨.slice (some ⟨g, k * size, none⟩) (n - k) (cap - k), .inr ⟨g, k * size, _, rfl, hlt, fun j u hu => ?_⟩, fun W => ?_⟩
      · have hr := h
        rw [e0] at hr
        refine grow_at hr ?_
        rw [List.getElem?_drop] at hu
        exact hu
      · have e3 : (⟨g, 0, none⟩ : Addr).add (k * size) = ⟨g, k * size, none⟩ := by rw [Addr.add_lit, Nat.zero_add]
        simp [Instr.slice, Instr.sliceBounds, Instr.sliceBound, asIntOf, run_underlying T.und, sizeOf, typeInfo, hi, Result.andThen, e0, e1, hk, hc, hi3, e3]
theorem gappL {st e size bytes : Nat} (T : ElT st e size bytes) {w : World} {B n m : Nat} {v x : Value} {xs cs : List Value} (ty : TypeId) (h0 : w.ownsRow B e size v n xs) (hB : B ≤ w.heap.size) (hx : GSrc w x m cs) (hcs : cs.length = m * size) (h1 : ∀ u ∈ cs, u.oneCell' = true) (hm : n + m ≤ 4611686018427387904) (hl : (n + m) * bytes ≤ 140737488355328) :
    ∃ ad' cap' w', (Builtin.append_ #[st, st] ty #[v, x]).run Tryz.prog w = .ok (.slice ad' (n + m) cap') w' ∧ w'.ownsRow B e size (.slice ad' (n + m) cap') (n + m) (xs ++ cs) ∧ Keep (fun k => v.ownBlock = some k) w w' := by
  obtain ⟨z, hz, hzc⟩ := T.inf
  obtain ⟨i0, hi, hz0, hz1, hz2⟩ := info_parts hz
  rcases hx with ⟨c, rfl, rfl, rfl⟩ | ⟨g, off, c, rfl, hg, hc⟩
  · obtain ⟨ad, cap, rfl⟩ := row_form h0
    have hle : n ≤ cap := by
      rcases h0.2 with ⟨e0, h⟩ | ⟨g, cap', cur, e0, _, _, h, _⟩
      · omega
      · injection e0 with _ _ e3; omega
    refine ⟨ad, cap, w, ?_, by simpa using h0, Keep.refl _ _⟩
    cases ad <;> simp [Builtin.append_, run_underlying T.und, sizeOf, typeInfo, hi, Builtin.lenOf, Builtin.firstCells, hle, storeCells]
  · obtain ⟨v', w', hr, h2, h3, h4, h5⟩ := run_append_own_at (P := Tryz.prog) w B st ty e i0 _ size bytes T.und hi hz0 hz1 hz2 hzc T.pos v n xs h0 ⟨g, off, none⟩ m c cs hcs
      (fun j u hu => by rw [Addr.add_lit]; exact hc j u hu) h1 (by unfold maxLen; omega) hl hB
    obtain ⟨ad', cap', rfl⟩ := row_form h2
    exact ⟨ad', cap', w', hr, h2, ⟨h3.os, h3.tape, h3.output, h3.size, fun k hk hn => h3.block k hk (fun e => hn e.symm)⟩⟩
theorem gapp {st e size bytes : Nat} (T : ElT st e size bytes) {w : World} {B n m : Nat} {v x : Value} {xs cs : List Value} (ty : TypeId) (h0 : w.ownsRow B e size v n xs) (hB : B ≤ w.heap.size) (hx : GSrc w x m cs) (hcs : cs.length = m * size) (h1 : ∀ u ∈ cs, u.oneCell' = true) (hm : n + m ≤ 70368744177) (hl : (n + m) * bytes ≤ 140737488355328) :
    ∃ ad' cap' w', (Builtin.append_ #[st, st] ty #[v, x]).run Tryz.prog w = .ok (.slice ad' (n + m) cap') w' ∧ w'.ownsRow B e size (.slice ad' (n + m) cap') (n + m) (xs ++ cs) ∧ Keep (fun k => v.ownBlock = some k) w w' :=
  gappL T ty h0 hB hx hcs h1 (by omega) hl
theorem wpl_gapp {w : World} {ops : Array Oper} {rest : List Oper} {o : Oper} {a : Act} {Q : Exit → Act → World → Prop} (hgd : o.guard = none) (sl x : Operand) {st e size bytes : Nat} (T : ElT st e size bytes)
    (ho : o.op = .call { callee := .builtin .append, args := #[sl, x], argTypes := #[st, st] }) (B : Nat) (v xv : Value) (xs cs : List Value) (n m nm : Nat) (hnm : n + m = nm)
    (hs : a.eval sl = v) (hx : a.eval x = xv) (h0 : w.ownsRow B e size v n xs) (hB : B ≤ w.heap.size) (hX : GSrc w xv m cs) (hcs : cs.length = m * size) (h1 : ∀ u ∈ cs, u.oneCell' = true) (hl : nm ≤ 70368744177) (hby : nm * bytes ≤ 140737488355328)
    (h : ∀ ad' cap' w', w'.ownsRow B e size (.slice ad' nm cap') nm (xs ++ cs) → Keep (fun k => v.ownBlock = some k) w w' → wpList Tryz.prog ops Q rest (a.put o.dst (.slice ad' nm cap')) w') : wpList Tryz.prog ops Q (o :: rest) a w := by
  subst hnm
  refine wpList_plain hgd fun K hK => ?_
  obtain ⟨ad', cap', w', hr, h2, h3⟩ := gapp T o.type h0 hB hX hcs h1 hl hby
  unfold Oper.wp execOp
  simp only [ho, resolve, invoke, builtin, Sem.run_bind, Sem.run_pure, Result.andThen_ok, List.map_toArray, List.map_cons, List.map_nil, hs, hx, hr]
  exact hK _ _ (h ad' cap' w' h2 h3)
/-- the same in a region that draws its order -/
theorem step_gapp {w w0 : World} {ops : Array Oper} {o : Oper} {a : Act} {K : Act → World → Prop} {Q : Exit → Act → World → Prop} {E : Prop} (hgd : o.guard = none) (sl x : Operand) {st e size bytes : Nat} (T : ElT st e size bytes)
    (ho : o.op = .call { callee := .builtin .append, args := #[sl, x], argTypes := #[st, st] }) (B : Nat) (v xv : Value) (xs cs : List Value) (n m nm : Nat) (hnm : n + m = nm) (hk : Keep (fun _ => False) w0 w)
    (hs : a.eval sl = v) (hx : a.eval x = xv) (h0 : w0.ownsRow B e size v n xs) (hB : B ≤ w0.heap.size) (hX : GSrc w0 xv m cs) (hcs : cs.length = m * size) (h1 : ∀ u ∈ cs, u.oneCell' = true) (hl : nm ≤ 70368744177) (hby : nm * bytes ≤ 140737488355328)
    (h : ∀ ad' cap' w', w'.ownsRow B e size (.slice ad' nm cap') nm (xs ++ cs) → Keep (fun k => v.ownBlock = some k) w0 w' → K (a.put o.dst (.slice ad' nm cap')) w') : if Region.wanted o (yielded ops a.tmps) = true then Oper.wp Tryz.prog o a w K Q else E := by
  subst hnm
  have hwn : Region.wanted o (yielded ops a.tmps) = true := by simp [Region.wanted, hgd]
  rw [if_pos hwn]
  obtain ⟨ad', cap', w', hr, h2, h3⟩ := gapp T o.type (hk.ownsRow h0 (fun _ _ h => h)) (Nat.le_trans hB hk.size) (hX.keep _ hk (fun _ _ h => h)) hcs h1 hl hby
  unfold Oper.wp execOp
  simp only [ho, resolve, invoke, builtin, Sem.run_bind, Sem.run_pure, Result.andThen_ok, List.map_toArray, List.map_cons, List.map_nil, hs, hx, hr, Oper.upon]
  exact h ad' cap' w' h2 ((hk.mono (fun _ _ h => h.elim)).trans h3)
/-- a row without cells, of the call's own -/
theorem own_empty {W : World} {g B e size : Nat} (hb : W.heap[g]? = some (.cells #[] e (0, 0))) (hB : B ≤ g) : W.ownsRow B e size (.slice (some ⟨g, 0, none⟩) 0 0) 0 [] :=
  ⟨by simp, .inr ⟨g, 0, #[], rfl, hB, hb, Nat.le_refl _, by simp⟩⟩
theorem gsrc_block {W : World} {g m c e : Nat} {cs : List Value} (hb : W.heap[g]? = some (.cells cs.toArray e (0, 0))) : GSrc W (.slice (some ⟨g, 0, none⟩) m c) m cs :=
  .inr ⟨g, 0, c, rfl, (Array.getElem?_eq_some_iff.1 hb).1, fun j u hu => by rw [Nat.zero_add, cell_of_row _ _ _ _ _ _ hb]; simpa using hu⟩
end Go.Proofs.YtmadlnchmkhdjaaGreat
namespace Go.Proofs.YtmadlnchmkhdjaaGreat
open Go.RowKit Go.Maps
set_option linter.unusedVariables false
set_option linter.unusedSimpArgs false

/-- numbers as cells -/
def isC (l : List Int) : List Value := l.map (Value.int .i64)
theorem isC_len (l : List Int) : (isC l).length = l.length := List.length_map ..
theorem isC_get (l : List Int) (k : Nat) (hk : k < l.length) : (isC l)[k]? = some (.int .i64 l[k]) := by simp [isC, hk]
theorem isC_set (l : List Int) (k : Nat) (x : Int) : (isC l).set k (.int .i64 x) = isC (l.set k x) := by simp [isC, List.map_set]
theorem info3 : (Tryz.prog.info? 3).map (fun i => (i.zero, i.size, i.bytes)) = some (some (.int .i64 0), 1, 8) := by kernel_rfl
theorem below_drew0 (w : World) (q : Nat) : Below w.heap.size w (World.drewN w q) := below_drewN (Below.refl _ _) q
theorem row_ints {w : World} {g cap : Nat} {t : TypeId} {l : List Int} (h : RowIs w g (isC l) t) : IntsI w (.slice (some ⟨g, 0, none⟩) l.length cap) l :=
  .inr ⟨g, 0, cap, rfl, h.lt, fun j hj => by rw [Nat.zero_add]; exact h.cellAt (isC_get l j hj)⟩
theorem row_last (w : World) (cs : List Value) (t : TypeId) (n : Nat) (hn : n = w.heap.size) : RowIs (w.alloc (.cells cs.toArray t)) n cs t := by subst hn; exact srow w cs t
theorem row_old {w : World} {g : Nat} {cs : List Value} {t : TypeId} (h : RowIs w g cs t) (o : Obj) : RowIs (w.alloc o) g cs t := h.keep (keep_alloc (fun _ => False) _ _) (fun h => h)
theorem below_al {w W : World} (h : Below w.heap.size w W) (o : Obj) : Below w.heap.size w (W.alloc o) := h.alloc h.size o
theorem below_on {w W W' : World} (h : Below w.heap.size w W) (k : Below W.heap.size W W') : Below w.heap.size w W' := h.trans (k.mono h.size)
theorem ints_none (w : World) : IntsI w (.slice none 0 0) [] := .inl ⟨none, 0, rfl, rfl⟩
/-- numbers in a row that the call owns -/
def OwnI (w : World) (B : Nat) (v : Value) (l : List Int) : Prop := w.ownsRow B 3 1 v l.length (isC l)
theorem ownI_nil (w : World) (B : Nat) : OwnI w B (.slice none 0 0) [] := ⟨rfl, .inl ⟨rfl, rfl⟩⟩
theorem OwnI.form {w : World} {B : Nat} {v : Value} {l : List Int} (h : OwnI w B v l) : ∃ ad cap, v = .slice ad l.length cap := row_form h
theorem OwnI.ints {w : World} {B : Nat} {v : Value} {l : List Int} (h : OwnI w B v l) : IntsI w v l := by
  rcases gsrc_all h with ⟨c, e, h0, h1⟩ | ⟨g, off, c, e, hg, hc⟩
  · have hl : l = [] := List.length_eq_zero_iff.1 h0
    subst hl
    exact .inl ⟨none, c, e, rfl⟩
  · exact .inr ⟨g, off, c, e, hg, fun j hj => hc j _ (isC_get l j hj)⟩
theorem OwnI.next {w w' : World} {B : Nat} {v : Value} {l : List Int} (h : OwnI w B v l) (hB : Below w.heap.size w w') : OwnI w' B v l :=
  (hB.keep (fun _ => False)).ownsRow h (fun _ _ h => h)
theorem own_new {w : World} {B : Nat} {v : Value} {l : List Int} (h : OwnI w B v l) (o : Obj) : OwnI (w.alloc o) B v l := h.next ((Below.refl _ _).alloc (Nat.le_refl _) o)
end Go.Proofs.YtmadlnchmkhdjaaGreat
namespace Go.Proofs.YtmadlnchmkhdjaaGreat
open Go.RowKit Go.Maps
set_option linter.unusedVariables false
set_option linter.unusedSimpArgs false

/-- a piece -/
structure Pc where
  id : ByteArray
  sz : Int
/-- a version -/
structure Vn where
  id : Int
  ma : Bool
  sz : Int
  sum : ByteArray
  ps : List Pc
def dgC (c : UInt8) : Bool := decide (0 ≤ halfN c.toNat)
/-- 64 digits -/
def isDg (s : ByteArray) : Bool := decide (s.size = 64) && s.data.toList.all dgC
def pcOk (p : Pc) : Bool := isDg p.id && decide (1 ≤ p.sz) && decide (p.sz ≤ 4096)
def pcsN : List Pc → Int
  | [] => 0
  | p :: r => p.sz + pcsN r
def pcsOk (l : List Pc) : Bool := decide (l.length ≤ 512) && l.all pcOk
def pcE (l : List Pc) : Int := if pcsOk l = true then 0 else 1
def pcV (l : List Pc) : Int := if pcsOk l = true then pcsN l else 0
def vnBare (v : Vn) : Bool := decide (v.sz = 0) && decide (v.sum.size = 0) && decide (v.ps.length = 0)
def vnObj (v : Vn) : Bool := pcsOk v.ps && decide (v.sz = pcsN v.ps) && decide (pcsN v.ps ≤ 1048576) && isDg v.sum
def vnOk (v : Vn) : Bool := decide (1 ≤ v.id) && decide (v.id ≤ 1099511627776) && (if v.ma = true then vnBare v else vnObj v)
def vnE (v : Vn) : Int := if vnOk v = true then 0 else 1
/-- versions whose numbers fall, below some number -/
def vnBelow (p : Option Int) (x : Int) : Bool := match p with | none => true | some y => decide (x < y)
def chF : Option Int → List Vn → Bool
  | _, [] => true
  | p, v :: r => vnOk v && vnBelow p v.id && chF (some v.id) r
def isCh (l : List Vn) : Bool := decide (l.length ≤ 32) && chF none l
def prevI (l : List Vn) (k : Nat) : Option Int := if k = 0 then none else (l[k - 1]?).map (·.id)
theorem prevI_succ (l : List Vn) (k : Nat) (hk : k < l.length) : prevI l (k + 1) = some l[k].id := by simp [prevI, hk]
theorem chF_at (l : List Vn) (k : Nat) (hk : k < l.length) : chF (prevI l k) (l.drop k) = (vnOk l[k] && vnBelow (prevI l k) l[k].id && chF (prevI l (k + 1)) (l.drop (k + 1))) := by
  rw [List.drop_eq_getElem_cons hk, prevI_succ l k hk]; rfl
theorem chF_all {p : Option Int} {l : List Vn} (h : chF p l = true) : ∀ v ∈ l, vnOk v = true := by
  induction l generalizing p with
  | nil => intro v hv; cases hv
  | cons x r ih =>
    simp only [chF, Bool.and_eq_true] at h
    intro v hv
    rcases List.mem_cons.1 hv with e | e
    · rw [e]; exact h.1.1
    · exact ih h.2 v e
theorem isCh_len {l : List Vn} (h : isCh l = true) : l.length ≤ 32 := by simp [isCh] at h; exact h.1
theorem isCh_all {l : List Vn} (h : isCh l = true) : ∀ v ∈ l, vnOk v = true := by
  simp only [isCh, Bool.and_eq_true] at h
  exact chF_all h.2
theorem vnOk_ps {v : Vn} (h : vnOk v = true) : v.ps.length ≤ 512 ∧ (∀ p ∈ v.ps, pcOk p = true) ∧ (v.ma = true → v.ps = []) := by
  simp only [vnOk, Bool.and_eq_true] at h
  obtain ⟨_, h⟩ := h
  split at h
  · simp only [vnBare, Bool.and_eq_true, decide_eq_true_eq] at h
    have : v.ps = [] := List.length_eq_zero_iff.1 h.2
    rw [this]
    exact ⟨by simp, by simp, fun _ => rfl⟩
  · rename_i hm
    simp only [vnObj, Bool.and_eq_true, pcsOk, decide_eq_true_eq, List.all_eq_true] at h
    exact ⟨h.1.1.1.1, h.1.1.1.2, fun e => absurd e hm⟩
theorem vnOk_sum {v : Vn} (h : vnOk v = true) : v.sum.size ≤ 64 := by
  simp only [vnOk, Bool.and_eq_true] at h
  obtain ⟨_, h⟩ := h
  split at h
  · simp only [vnBare, Bool.and_eq_true, decide_eq_true_eq] at h
    omega
  · simp only [vnObj, Bool.and_eq_true, isDg, decide_eq_true_eq] at h
    have := h.2.1
    omega
theorem pcOk_id {p : Pc} (h : pcOk p = true) : p.id.size = 64 ∧ 1 ≤ p.sz ∧ p.sz ≤ 4096 := by
  simp only [pcOk, Bool.and_eq_true, isDg, decide_eq_true_eq] at h
  exact ⟨h.1.1.1, h.1.2, h.2⟩
theorem pcsN_take (l : List Pc) (k : Nat) (hk : k < l.length) : pcsN (l.take (k + 1)) = pcsN (l.take k) + l[k].sz := by
  induction l generalizing k with
  | nil => simp at hk
  | cons p r ih =>
    cases k with
    | zero => simp [pcsN]
    | succ k =>
      simp only [List.take_succ_cons, pcsN, List.getElem_cons_succ]
      rw [ih k (by simpa using hk)]
      omega
theorem pcsN_bd (l : List Pc) (h : ∀ p ∈ l, pcOk p = true) : 0 ≤ pcsN l ∧ pcsN l ≤ 4096 * (l.length : Int) := by
  induction l with
  | nil => simp [pcsN]
  | cons p r ih =>
    have h1 := pcOk_id (h p (by simp))
    have h2 := ih (fun q hq => h q (List.mem_cons_of_mem _ hq))
    simp only [pcsN, List.length_cons]
    omega
theorem halfN_neg (c : Nat) : halfN c < 0 ↔ ¬ (0 ≤ halfN c) := by omega
theorem unh_all : ∀ (n : Nat) (l acc : List UInt8), l.length ≤ n → l.length % 2 = 0 → ((unh l acc).2 = 0 ↔ l.all dgC = true)
  | _, [], acc, _, _ => by simp [unh]
  | _, [_], acc, _, h => by simp at h
  | n, a :: b :: r, acc, hn, hp => by
    simp only [List.length_cons] at hn hp
    rw [unh]
    by_cases h : halfN a.toNat < 0 ∨ halfN b.toNat < 0
    · rw [if_pos h]
      simp only [List.all_cons, Bool.and_eq_true, dgC, decide_eq_true_eq]
      constructor
      · intro h3; cases h3
      · intro h3; omega
    · rw [if_neg h, unh_all (n - 2) r _ (by omega) (by omega)]
      simp only [List.all_cons, Bool.and_eq_true, dgC, decide_eq_true_eq]
      constructor
      · intro h3; exact ⟨by omega, by omega, h3⟩
      · intro h3; exact h3.2.2
theorem isDg_unh (s : ByteArray) : isDg s = ((((unh s.data.toList []).2 : Int) == 0) && decide (s.size = 64)) := by
  have hz : s.data.toList.length = s.size := by simp
  unfold isDg
  by_cases h : s.size = 64
  · have := unh_all _ s.data.toList [] (Nat.le_refl _) (by omega)
    rw [decide_eq_true h, Bool.true_and, Bool.and_true]
    cases h2 : s.data.toList.all dgC
    · have h3 : ¬ (unh s.data.toList []).2 = 0 := fun h4 => by rw [this.1 h4] at h2; cases h2
      rw [eq_comm, beq_eq_false_iff_ne]; omega
    · have h3 := this.2 h2
      rw [h3]; rfl
  · rw [decide_eq_false h, Bool.false_and, Bool.and_false]
/-- cells that are read from a slice, of whatever place where there are none -/
def RowC (w : World) (v : Value) (n : Nat) (cs : List Value) : Prop :=
  (∃ ad cap, v = .slice ad 0 cap ∧ n = 0 ∧ cs = []) ∨ ∃ b off cap, v = .slice (some ⟨b, off, none⟩) n cap ∧ n ≤ cap ∧ b < w.heap.size ∧ ∀ j u, cs[j]? = some u → w.cell? ⟨b, off + j, none⟩ = some u
theorem RowC.form {w : World} {v : Value} {n : Nat} {cs : List Value} (h : RowC w v n cs) : ∃ ad cap, v = .slice ad n cap ∧ ∀ j u, cs[j]? = some u → ∃ b off, ad = some ⟨b, off, none⟩ ∧ b < w.heap.size ∧ w.cell? ⟨b, off + j, none⟩ = some u := by
  rcases h with ⟨ad, cap, rfl, rfl, rfl⟩ | ⟨b, off, cap, rfl, _, hb, hc⟩
  · exact ⟨ad, cap, rfl, fun j u hu => by simp at hu⟩
  · exact ⟨_, cap, rfl, fun j u hu => ⟨b, off, rfl, hb, hc j u hu⟩⟩
theorem RowC.next {w w' : World} {v : Value} {n : Nat} {cs : List Value} (h : RowC w v n cs) (hB : Below w.heap.size w w') : RowC w' v n cs := by
  rcases h with h | ⟨b, off, cap, rfl, hn, hb, hc⟩
  · exact .inl h
  · exact .inr ⟨b, off, cap, rfl, hn, Nat.lt_of_lt_of_le hb hB.size, fun j u hu => (hB.cell (p := ⟨b, off + j, none⟩) hb).trans (hc j u hu)⟩
theorem RowC.keep {S : Nat → Prop} {w w' : World} {v : Value} {n : Nat} {cs : List Value} (h : RowC w v n cs) (k : Keep S w w') (hS : ∀ g, g < w.heap.size → ¬ S g) : RowC w' v n cs :=
  h.next (keep_below k hS (Nat.le_refl _))
/-- the row stays where what is changed lies above what it was made of -/
theorem RowC.own {w : World} {B e size n : Nat} {v : Value} {xs : List Value} (h : w.ownsRow B e size v n xs) : RowC w v n xs := by
  rcases h.2 with ⟨e0, h0⟩ | ⟨g, cap, cur, e0, _, hb, hn, _⟩
  · exact .inl ⟨none, 0, by rw [e0], h0, List.length_eq_zero_iff.1 (by rw [h.1, h0, Nat.zero_mul])⟩
  · refine .inr ⟨g, 0, cap, e0, hn, (Array.getElem?_eq_some_iff.1 hb).1, fun j u hu => ?_⟩
    rw [Nat.zero_add]
    exact grow_at (e0 ▸ h) hu
def pcC (p : Pc) : List Value := [.string p.id, .int .i64 p.sz]
def pcsC (l : List Pc) : List Value := l.flatMap pcC
theorem pcsC_len (l : List Pc) : (pcsC l).length = l.length * 2 := by
  induction l with
  | nil => rfl
  | cons p r ih => simp only [pcsC, List.flatMap_cons, List.length_append, List.length_cons] at ih ⊢; rw [ih]; simp [pcC]; omega
theorem flat_get {α : Type} (f : α → List Value) (n : Nat) (l : List α) (hf : ∀ x ∈ l, (f x).length = n) (k : Nat) (hk : k < l.length) (i : Nat) (hi : i < n) : (l.flatMap f)[k * n + i]? = (f l[k])[i]? := by
  induction l generalizing k with
  | nil => simp at hk
  | cons x r ih =>
    have hx := hf x (by simp)
    rw [List.flatMap_cons]
    cases k with
    | zero =>
      rw [List.getElem?_append_left (by omega)]
      simp
    | succ k =>
      rw [List.getElem?_append_right (by rw [hx, Nat.succ_mul]; omega)]
      have e : (k + 1) * n + i - (f x).length = k * n + i := by rw [hx, Nat.succ_mul]; omega
      rw [e, ih (fun y hy => hf y (List.mem_cons_of_mem _ hy)) k (by simpa using hk)]
      simp
theorem pcsC_get (l : List Pc) (k : Nat) (hk : k < l.length) (i : Nat) (hi : i < 2) : (pcsC l)[k * 2 + i]? = (pcC l[k])[i]? := flat_get pcC 2 l (fun _ _ => rfl) k hk i hi
theorem pcsC_take (l : List Pc) (k : Nat) (hk : k < l.length) : pcsC (l.take (k + 1)) = pcsC (l.take k) ++ pcC l[k] := by
  unfold pcsC
  rw [List.take_succ_eq_append_getElem hk, List.flatMap_append]
  simp
/-- pieces in memory -/
def PcI (w : World) (v : Value) (l : List Pc) : Prop := RowC w v l.length (pcsC l)
theorem PcI.next {w w' : World} {v : Value} {l : List Pc} (h : PcI w v l) (hB : Below w.heap.size w w') : PcI w' v l := RowC.next h hB
theorem PcI.form {w : World} {v : Value} {l : List Pc} (h : PcI w v l) : ∃ ad cap, v = .slice ad l.length cap ∧ ∀ k (hk : k < l.length), ∃ b off, ad = some ⟨b, off, none⟩ ∧ b < w.heap.size ∧ w.cell? ⟨b, off + k * 2, none⟩ = some (.string l[k].id) ∧ w.cell? ⟨b, off + k * 2 + 1, none⟩ = some (.int .i64 l[k].sz) := by
  obtain ⟨ad, cap, e, hc⟩ := RowC.form h
  refine ⟨ad, cap, e, fun k hk => ?_⟩
  obtain ⟨b, off, e1, hb, c0⟩ := hc (k * 2 + 0) _ (pcsC_get l k hk 0 (by omega))
  obtain ⟨b', off', e1', _, c1⟩ := hc (k * 2 + 1) _ (pcsC_get l k hk 1 (by omega))
  rw [e1] at e1'
  injection e1' with e2
  injection e2 with e3 e4
  subst e3 e4
  exact ⟨b, off, e1, hb, c0, c1⟩
theorem PcI.sl {w : World} {v : Value} {l : List Pc} (h : PcI w v l) : ∃ ad cap, v = .slice ad l.length cap := by
  obtain ⟨ad, cap, e, _⟩ := h.form
  exact ⟨ad, cap, e⟩
theorem pci_none (w : World) : PcI w (.slice none 0 0) [] := .inl ⟨none, 0, rfl, rfl, rfl⟩
def vnC (y : Value × Vn) : List Value := [.int .i64 y.2.id, .bool y.2.ma, .int .i64 y.2.sz, .string y.2.sum, y.1]
def vnV (y : Value × Vn) : Value := .agg #[.int .i64 y.2.id, .bool y.2.ma, .int .i64 y.2.sz, .string y.2.sum, y.1]
def vqC (q : List (Value × Vn)) : List Value := q.flatMap vnC
def vqL (q : List (Value × Vn)) : List Vn := q.map (·.2)
theorem vqL_len (q : List (Value × Vn)) : (vqL q).length = q.length := List.length_map ..
theorem vqC_get (q : List (Value × Vn)) (k : Nat) (hk : k < q.length) (i : Nat) (hi : i < 5) : (vqC q)[k * 5 + i]? = (vnC q[k])[i]? := flat_get vnC 5 q (fun _ _ => rfl) k hk i hi
theorem vqC_len (q : List (Value × Vn)) : (vqC q).length = q.length * 5 := by
  induction q with
  | nil => rfl
  | cons p r ih => simp only [vqC, List.flatMap_cons, List.length_append, List.length_cons] at ih ⊢; rw [ih]; simp [vnC]; omega
theorem vqC_app (q r : List (Value × Vn)) : vqC (q ++ r) = vqC q ++ vqC r := List.flatMap_append
theorem vqC_one (y : Value × Vn) : vqC [y] = vnC y := by simp [vqC]
theorem vqL_app (q r : List (Value × Vn)) : vqL (q ++ r) = vqL q ++ vqL r := List.map_append
theorem vqL_get (q : List (Value × Vn)) (k : Nat) (hk : k < q.length) : (vqL q)[k]'(by rw [vqL_len]; exact hk) = q[k].2 := by simp [vqL]
/-- the pieces of each lie in memory -/
def VqP (w : World) (q : List (Value × Vn)) : Prop := ∀ y ∈ q, PcI w y.1 y.2.ps
theorem VqP.next {w w' : World} {q : List (Value × Vn)} (h : VqP w q) (hB : Below w.heap.size w w') : VqP w' q := fun y hy => (h y hy).next hB
/-- versions in memory -/
def VnI (w : World) (v : Value) (q : List (Value × Vn)) : Prop := RowC w v q.length (vqC q) ∧ VqP w q
theorem VnI.next {w w' : World} {v : Value} {q : List (Value × Vn)} (h : VnI w v q) (hB : Below w.heap.size w w') : VnI w' v q := ⟨RowC.next h.1 hB, h.2.next hB⟩
theorem VnI.form {w : World} {v : Value} {q : List (Value × Vn)} (h : VnI w v q) : ∃ ad cap, v = .slice ad q.length cap ∧ ∀ k (hk : k < q.length), ∃ b off, ad = some ⟨b, off, none⟩ ∧ b < w.heap.size ∧ w.cell? ⟨b, off + k * 5, none⟩ = some (.int .i64 q[k].2.id) ∧ w.cell? ⟨b, off + k * 5 + 1, none⟩ = some (.bool q[k].2.ma) ∧ w.cell? ⟨b, off + k * 5 + 2, none⟩ = some (.int .i64 q[k].2.sz) ∧ w.cell? ⟨b, off + k * 5 + 3, none⟩ = some (.string q[k].2.sum) ∧ w.cell? ⟨b, off + k * 5 + 4, none⟩ = some q[k].1 ∧ PcI w q[k].1 q[k].2.ps := by
  obtain ⟨h1, h2⟩ := h
  rcases h1 with ⟨ad, cap, rfl, h0, _⟩ | ⟨b, off, cap, rfl, _, hb, hc⟩
  · exact ⟨ad, cap, by rw [h0], fun k hk => by omega⟩
  · refine ⟨_, cap, rfl, fun k hk => ⟨b, off, rfl, hb, ?_, ?_, ?_, ?_, ?_, h2 _ (List.getElem_mem hk)⟩⟩
    · have := hc (k * 5 + 0) _ (vqC_get q k hk 0 (by omega)); exact this
    · have := hc (k * 5 + 1) _ (vqC_get q k hk 1 (by omega)); rw [← Nat.add_assoc] at this; exact this
    · have := hc (k * 5 + 2) _ (vqC_get q k hk 2 (by omega)); rw [← Nat.add_assoc] at this; exact this
    · have := hc (k * 5 + 3) _ (vqC_get q k hk 3 (by omega)); rw [← Nat.add_assoc] at this; exact this
    · have := hc (k * 5 + 4) _ (vqC_get q k hk 4 (by omega)); rw [← Nat.add_assoc] at this; exact this
theorem vni_none (w : World) : VnI w (.slice none 0 0) [] := ⟨.inl ⟨none, 0, rfl, rfl, rfl⟩, fun y hy => by cases hy⟩
end Go.Proofs.YtmadlnchmkhdjaaGreat
namespace Go.Proofs.YtmadlnchmkhdjaaGreat
open Go.RowKit Go.Maps
set_option linter.unusedVariables false
set_option linter.unusedSimpArgs false

/-- a box of the call's own, and what lies below -/
structure Bx (w : World) (g : Nat) (cs : List Value) (t : TypeId) (W : World) : Prop where
  row : RowIs W g cs t
  b : Below w.heap.size w W
theorem Bx.next {w W W' : World} {g : Nat} {cs : List Value} {t : TypeId} (h : Bx w g cs t W) (hb : Below W.heap.size W W') : Bx w g cs t W' :=
  ⟨h.row.keep (hb.keep (fun _ => False)) (fun h => h), below_on h.b hb⟩
theorem Bx.drew {w W : World} {g : Nat} {cs : List Value} {t : TypeId} (h : Bx w g cs t W) : Bx w g cs t W.drew := ⟨h.row, h.b.drew⟩
theorem Bx.al {w W : World} {g : Nat} {cs : List Value} {t : TypeId} (h : Bx w g cs t W) (o : Obj) : Bx w g cs t (W.alloc o) := h.next ((Below.refl _ _).alloc (Nat.le_refl _) o)
theorem Bx.made {w W : World} (h : Below w.heap.size w W) (cs : List Value) (t : TypeId) : Bx w W.heap.size cs t (W.alloc (.cells cs.toArray t)) := ⟨srow W cs t, below_al h _⟩
theorem Bx.put1 {w W : World} {g : Nat} {cs : List Value} {t : TypeId} (h : Bx w g cs t W) (hg : w.heap.size ≤ g) (i : Nat) (x : Value) : Bx w g (cs.set i x) t (W.setCell ⟨g, i, none⟩ x) ∧ Keep (· = g) W (W.setCell ⟨g, i, none⟩ x) := by
  have kS := keep_setCell W g i x
  exact ⟨⟨h.row.set i x, h.b.trans (keep_below kS (fun k hk e => by omega) h.b.size)⟩, kS⟩
theorem Bx.drewN {w W : World} {g : Nat} {cs : List Value} {t : TypeId} (h : Bx w g cs t W) (n : Nat) : Bx w g cs t (W.drewN n) := ⟨h.row, below_drewN h.b n⟩
end Go.Proofs.YtmadlnchmkhdjaaGreat
namespace Go.Proofs.YtmadlnchmkhdjaaGreat
open Go.RowKit Go.Maps
set_option linter.unusedVariables false
set_option linter.unusedSimpArgs false

def zb (k : Nat) : List UInt8 := List.replicate k 48 ++ List.replicate (64 - k) 0
def ZS : ByteArray := ⟨(List.replicate 64 (48 : UInt8)).toArray⟩
theorem zb_len (k : Nat) (h : k ≤ 64) : (zb k).length = 64 := by simp [zb]; omega
theorem zb_set (k : Nat) (h : k < 64) : (bs (zb k)).set k (.int .u8 48) = bs (zb (k + 1)) := by
  unfold bs zb
  rw [show 64 - k = (64 - (k + 1)) + 1 by omega, List.replicate_succ, List.map_append, List.map_cons, List.set_append_right _ _ (by simp)]
  simp [List.replicate_succ', List.append_assoc]
theorem made64 (W : World) : (Instr.makeSlice 95 (.int .i64 64) (.int .i64 64)).run Tryz.prog W = .ok (.slice (some ⟨W.heap.size, 0, none⟩) 64 64) (W.alloc (.cells (bs (zb 0)).toArray 5)) := by
  obtain ⟨i0, hi, hz0, hz1, hz2⟩ := info_parts info8
  have := run_make (P := Tryz.prog) W 95 5 i0 (.int .u8 0) Tryz.underlying95 hi hz0 .i64 .i64 64 64 (by omega) (by omega) (by rw [hz2]; decide) (by omega)
  have e : madeCells (Value.int .u8 0).cells 64 = (bs (zb 0)).toArray := by kernel_rfl
  rw [this, hz1, ← e]
  rfl
theorem row_own {W : World} {g : Nat} {l : List UInt8} {B : Nat} (h : RowIs W g (bs l) 5) (hB : B ≤ g) (hl : l.length ≤ 1048576) : W.ownsRow B 5 1 (.slice (some ⟨g, 0, none⟩) l.length l.length) l.length (bs l) :=
  ⟨by rw [bs_len]; omega, .inr ⟨g, l.length, (bs l).toArray, rfl, hB, h, Nat.le_refl _, by unfold maxLen; omega, by simp [bs_len], by
    simp only [Nat.mul_one, List.toList_toArray]
    exact List.take_of_length_le (by rw [bs_len]; omega)⟩⟩
end Go.Proofs.YtmadlnchmkhdjaaGreat
