/- Joined: Rows that a call owns, over worlds that are alike but for some blocks. 'append' on rows of whatever elements, from whatever rows. -/
import Derived.Test.YtedogofeibdjiaaGreatJoined03
import Derived.Maps.AppendAt
namespace Go.Proofs.YtedogofeibdjiaaGreat
open Go.RowKit Go.Maps
set_option linter.unusedVariables false
set_option linter.unusedSimpArgs false

theorem Keep.ownsRow {S : Nat → Prop} {w w' : World} {base e size n : Nat} {v : Value} {xs : List Value} (k : Keep S w w') (h : w.ownsRow base e size v n xs) (hS : ∀ g, v.ownBlock = some g → ¬ S g) : w'.ownsRow base e size v n xs := by
  obtain ⟨h1, h2⟩ := h
  refine ⟨h1, h2.imp id ?_⟩
  rintro ⟨g, cap, cur, rfl, hg, hb, r⟩
  exact ⟨g, cap, cur, rfl, hg, (k.block g (Array.getElem?_eq_some_iff.1 hb).1 (hS g rfl)).trans hb, r⟩
theorem ownsRow_lt {w : World} {base e size n : Nat} {v : Value} {xs : List Value} (h : w.ownsRow base e size v n xs) {g : Nat} (hg : v.ownBlock = some g) : g < w.heap.size := by
  obtain ⟨_, h2⟩ := h
  rcases h2 with ⟨rfl, _⟩ | ⟨g', cap, cur, rfl, _, hb, _⟩
  · simp [Value.ownBlock] at hg
  · simp [Value.ownBlock] at hg; subst hg; exact (Array.getElem?_eq_some_iff.1 hb).1
theorem row_form {w : World} {B e size n : Nat} {v : Value} {xs : List Value} (h : w.ownsRow B e size v n xs) : ∃ ad cap, v = .slice ad n cap := by
  rcases h.2 with ⟨e, h0⟩ | ⟨g, cap, cur, e, _⟩
  · exact ⟨none, 0, by rw [e, h0]⟩
  · exact ⟨_, _, e⟩
theorem ownsRow_base {w : World} {B B' e size n : Nat} {v : Value} {xs : List Value} (h : w.ownsRow B e size v n xs) (hB : B' ≤ B) : w.ownsRow B' e size v n xs := by
  refine ⟨h.1, h.2.imp id ?_⟩
  rintro ⟨g, cap, cur, e, hg, r⟩
  exact ⟨g, cap, cur, e, Nat.le_trans hB hg, r⟩
theorem ownsRow_ge {w : World} {B e size n : Nat} {v : Value} {xs : List Value} (h : w.ownsRow B e size v n xs) {g : Nat} (hg : v.ownBlock = some g) : B ≤ g := by
  rcases h.2 with ⟨e, _⟩ | ⟨g', cap, cur, e, hb, _⟩
  · rw [e] at hg; simp [Value.ownBlock] at hg
  · rw [e] at hg; simp [Value.ownBlock] at hg; omega
end Go.Proofs.YtedogofeibdjiaaGreat
namespace Go.Proofs.YtedogofeibdjiaaGreat
open Go.RowKit Go.Maps
set_option linter.unusedVariables false
set_option linter.unusedSimpArgs false

/-- a slice's type, its elements' type, their cells and bytes -/
structure ElT (st e size bytes : Nat) : Prop where
  und : Tryz.prog.underlying st = some (.slice e)
  inf : ∃ z, (Tryz.prog.info? e).map (fun i => (i.zero, i.size, i.bytes)) = some (some z, size, bytes) ∧ z.cells.size = size
  pos : 0 < size
/-- cells that are read from a slice -/
def GSrc (w : World) (x : Value) (m : Nat) (cs : List Value) : Prop := (∃ c, x = .slice none 0 c ∧ m = 0 ∧ cs = []) ∨ ∃ g off c, x = .slice (some ⟨g, off, none⟩) m c ∧ g < w.heap.size ∧ ∀ j u, cs[j]? = some u → w.cell? ⟨g, off + j, none⟩ = some u
theorem GSrc.keep {w w' : World} {x : Value} {m : Nat} {cs : List Value} (h : GSrc w x m cs) (S : Nat → Prop) (k : Keep S w w') (hS : ∀ g, g < w.heap.size → ¬ S g) : GSrc w' x m cs := by
  rcases h with h | ⟨g, off, c, e, hg, hc⟩
  · exact .inl h
  · exact .inr ⟨g, off, c, e, Nat.lt_of_lt_of_le hg k.size, fun j u hu => (k.cell hg (hS g hg)).trans (hc j u hu)⟩
theorem grow_at {w : World} {B e size n g cap k : Nat} {xs : List Value} {u : Value} (h : w.ownsRow B e size (.slice (some ⟨g, 0, none⟩) n cap) n xs) (hk : xs[k]? = some u) : w.cell? ⟨g, k, none⟩ = some u := by
  obtain ⟨h1, h2⟩ := h
  rcases h2 with ⟨e0, _⟩ | ⟨g', cap', cur, e0, hg, hb, hn, hm, hs, ht⟩
  · injection e0 with e0; cases e0
  · injection e0 with e1 e2 e3
    injection e1 with e1
    injection e1 with e1
    subst e1
    have hkl : k < xs.length := (List.getElem?_eq_some_iff.1 hk).1
    rw [cell_of_row _ _ _ _ _ _ hb, ← hk, ← ht, List.getElem?_take_of_lt (by omega)]
    simp
theorem gsrc_all {w : World} {B e size n : Nat} {v : Value} {xs : List Value} (h : w.ownsRow B e size v n xs) : GSrc w v n xs := by
  rcases h.2 with ⟨e0, h0⟩ | ⟨g, cap, cur, e0, _, hb, hn, _⟩
  · exact .inl ⟨0, e0, h0, List.length_eq_zero_iff.1 (by rw [h.1, h0, Nat.zero_mul])⟩
  · refine .inr ⟨g, 0, cap, e0, (Array.getElem?_eq_some_iff.1 hb).1, fun j u hu => ?_⟩
    rw [Nat.zero_add]
    exact grow_at (e0 ▸ h) hu
theorem gsrc_to {st e size bytes : Nat} (T : ElT st e size bytes) {w : World} {v : Value} {xs : List Value} {B n : Nat} (h : w.ownsRow B e size v n xs) (k : Nat) (hk : k ≤ n) : ∃ x, GSrc w x k (xs.take (k * size)) ∧ ∀ W : World, (Instr.slice st v none (some (.int .i64 (k : Int))) none).run Tryz.prog W = .ok x W := by
  obtain ⟨z, hz, _⟩ := T.inf
  obtain ⟨i0, hi, _⟩ := Option.map_eq_some_iff.1 hz
  rcases h.2 with ⟨e0, h0⟩ | ⟨g, cap, cur, e0, _, hb, hn, _⟩
  · have hk0 : k = 0 := by omega
    subst hk0 e0
    refine ⟨.slice none 0 0, .inl ⟨0, rfl, rfl, by simp⟩, fun W => ?_⟩
    simp [Instr.slice, Instr.sliceBounds, Instr.sliceBound, asIntOf, run_underlying T.und, sizeOf, typeInfo, hi, Result.andThen]
  · refine ⟨.slice (some ⟨g, 0, none⟩) k cap, .inr ⟨g, 0, cap, rfl, (Array.getElem?_eq_some_iff.1 hb).1, fun j u hu => ?_⟩, fun W => ?_⟩
    · have hr := h
      rw [e0] at hr
      rw [Nat.zero_add]
      refine grow_at hr ?_
      have hj := (List.getElem?_eq_some_iff.1 hu).1
      rw [List.length_take] at hj
      rw [List.getElem?_take_of_lt (by omega)] at hu
      exact hu
    · have e1 : (0 : Int) ≤ (k : Int) := by omega
      have e2 : k ≤ cap := by omega
      have e3 : (⟨g, 0, none⟩ : Addr).add 0 = ⟨g, 0, none⟩ := rfl
      simp [Instr.slice, Instr.sliceBounds, Instr.sliceBound, asIntOf, run_underlying T.und, sizeOf, typeInfo, hi, Result.andThen, e0, e1, e2, e3]
theorem gsrc_from {st e size bytes : Nat} (T : ElT st e size bytes) {w : World} {v : Value} {xs : List Value} {B n : Nat} (h : w.ownsRow B e size v n xs) (k : Nat) (hk : k ≤ n) : ∃ x, GSrc w x (n - k) (xs.drop (k * size)) ∧ ∀ W : World, (Instr.slice st v (some (.int .i64 (k : Int))) none none).run Tryz.prog W = .ok x W := by
  obtain ⟨z, hz, _⟩ := T.inf
  obtain ⟨i0, hi, hi2⟩ := Option.map_eq_some_iff.1 hz
  simp only [Prod.mk.injEq] at hi2
  obtain ⟨_, hi3, _⟩ := hi2
  rcases h.2 with ⟨e0, h0⟩ | ⟨g, cap, cur, e0, _, hb, hn, _⟩
  · have hk0 : k = 0 := by omega
    subst hk0 e0
    refine ⟨.slice none 0 0, .inl ⟨0, rfl, by omega, List.length_eq_zero_iff.1 (by rw [List.length_drop, h.1, h0]; omega)⟩, fun W => ?_⟩
    simp [Instr.slice, Instr.sliceBounds, Instr.sliceBound, asIntOf, run_underlying T.und, sizeOf, typeInfo, hi, Result.andThen]
  · have e1 : (0 : Int) ≤ (k : Int) := by omega
    have hlt := (Array.getElem?_eq_some_iff.1 hb).1
    by_cases hc : cap = k
    · have hkA : k = n := by omega
      refine ⟨.slice (some ⟨g, 0, none⟩) (n - k) (cap - k), .inr ⟨g, 0, _, rfl, hlt, fun j u hu => ?_⟩, fun W => ?_⟩
      · have hj := (List.getElem?_eq_some_iff.1 hu).1
        rw [List.length_drop, h.1, hkA] at hj
        omega
      · simp [Instr.slice, Instr.sliceBounds, Instr.sliceBound, asIntOf, run_underlying T.und, sizeOf, typeInfo, hi, Result.andThen, e0, e1, hk, hc]
    · refine ⟨.slice (some ⟨g, k * size, none⟩) (n - k) (cap - k), .inr ⟨g, k * size, _, rfl, hlt, fun j u hu => ?_⟩, fun W => ?_⟩
      · have hr := h
        rw [e0] at hr
        refine grow_at hr ?_
        rw [List.getElem?_drop] at hu
        exact hu
      · have e3 : (⟨g, 0, none⟩ : Addr).add (k * size) = ⟨g, k * size, none⟩ := by rw [Addr.add_lit, Nat.zero_add]
        simp [Instr.slice, Instr.sliceBounds, Instr.sliceBound, asIntOf, run_underlying T.und, sizeOf, typeInfo, hi, Result.andThen, e0, e1, hk, hc, hi3, e3]
theorem gappL {st e size bytes : Nat} (T : ElT st e size bytes) {w : World} {B n m : Nat} {v x : Value} {xs cs : List Value} (ty : TypeId) (h0 : w.ownsRow B e size v n xs) (hB : B ≤ w.heap.size) (hx : GSrc w x m cs) (hcs : cs.length = m * size) (h1 : ∀ u ∈ cs, u.oneCell' = true) (hm : n + m ≤ 4611686018427387904) (hl : (n + m) * bytes ≤ 140737488355328) :
    ∃ ad' cap' w', (Builtin.append_ #[st, st] ty #[v, x]).run Tryz.prog w = .ok (.slice ad' (n + m) cap') w' ∧ w'.ownsRow B e size (.slice ad' (n + m) cap') (n + m) (xs ++ cs) ∧ Keep (fun k => v.ownBlock = some k) w w' := by
  obtain ⟨z, hz, hzc⟩ := T.inf
  obtain ⟨i0, hi, hz0, hz1, hz2⟩ := info_parts hz
  rcases hx with ⟨c, rfl, rfl, rfl⟩ | ⟨g, off, c, rfl, hg, hc⟩
  · obtain ⟨ad, cap, rfl⟩ := row_form h0
    have hle : n ≤ cap := by
      rcases h0.2 with ⟨e0, h⟩ | ⟨g, cap', cur, e0, _, _, h, _⟩
      · omega
      · injection e0 with _ _ e3; omega
    refine ⟨ad, cap, w, ?_, by simpa using h0, Keep.refl _ _⟩
    cases ad <;> simp [Builtin.append_, run_underlying T.und, sizeOf, typeInfo, hi, Builtin.lenOf, Builtin.firstCells, hle, storeCells]
  · obtain ⟨v', w', hr, h2, h3, h4, h5⟩ := run_append_own_at (P := Tryz.prog) w B st ty e i0 _ size bytes T.und hi hz0 hz1 hz2 hzc T.pos v n xs h0 ⟨g, off, none⟩ m c cs hcs
      (fun j u hu => by rw [Addr.add_lit]; exact hc j u hu) h1 (by unfold maxLen; omega) hl hB
    obtain ⟨ad', cap', rfl⟩ := row_form h2
    exact ⟨ad', cap', w', hr, h2, ⟨h3.os, h3.tape, h3.output, h3.size, fun k hk hn => h3.block k hk (fun e => hn e.symm)⟩⟩
theorem gapp {st e size bytes : Nat} (T : ElT st e size bytes) {w : World} {B n m : Nat} {v x : Value} {xs cs : List Value} (ty : TypeId) (h0 : w.ownsRow B e size v n xs) (hB : B ≤ w.heap.size) (hx : GSrc w x m cs) (hcs : cs.length = m * size) (h1 : ∀ u ∈ cs, u.oneCell' = true) (hm : n + m ≤ 70368744177) (hl : (n + m) * bytes ≤ 140737488355328) :
    ∃ ad' cap' w', (Builtin.append_ #[st, st] ty #[v, x]).run Tryz.prog w = .ok (.slice ad' (n + m) cap') w' ∧ w'.ownsRow B e size (.slice ad' (n + m) cap') (n + m) (xs ++ cs) ∧ Keep (fun k => v.ownBlock = some k) w w' :=
  gappL T ty h0 hB hx hcs h1 (by omega) hl
theorem wpl_gapp {w : World} {ops : Array Oper} {rest : List Oper} {o : Oper} {a : Act} {Q : Exit → Act → World → Prop} (hgd : o.guard = none) (sl x : Operand) {st e size bytes : Nat} (T : ElT st e size bytes)
    (ho : o.op = .call { callee := .builtin .append, args := #[sl, x], argTypes := #[st, st] }) (B : Nat) (v xv : Value) (xs cs : List Value) (n m nm : Nat) (hnm : n + m = nm)
    (hs : a.eval sl = v) (hx : a.eval x = xv) (h0 : w.ownsRow B e size v n xs) (hB : B ≤ w.heap.size) (hX : GSrc w xv m cs) (hcs : cs.length = m * size) (h1 : ∀ u ∈ cs, u.oneCell' = true) (hl : nm ≤ 70368744177) (hby : nm * bytes ≤ 140737488355328)
    (h : ∀ ad' cap' w', w'.ownsRow B e size (.slice ad' nm cap') nm (xs ++ cs) → Keep (fun k => v.ownBlock = some k) w w' → wpList Tryz.prog ops Q rest (a.put o.dst (.slice ad' nm cap')) w') : wpList Tryz.prog ops Q (o :: rest) a w := by
  subst hnm
  refine wpList_plain hgd fun K hK => ?_
  obtain ⟨ad', cap', w', hr, h2, h3⟩ := gapp T o.type h0 hB hX hcs h1 hl hby
  unfold Oper.wp execOp
  simp only [ho, resolve, invoke, builtin, Sem.run_bind, Sem.run_pure, Result.andThen_ok, List.map_toArray, List.map_cons, List.map_nil, hs, hx, hr]
  exact hK _ _ (h ad' cap' w' h2 h3)
/-- the same in a region that draws its order -/
theorem step_gapp {w w0 : World} {ops : Array Oper} {o : Oper} {a : Act} {K : Act → World → Prop} {Q : Exit → Act → World → Prop} {E : Prop} (hgd : o.guard = none) (sl x : Operand) {st e size bytes : Nat} (T : ElT st e size bytes)
    (ho : o.op = .call { callee := .builtin .append, args := #[sl, x], argTypes := #[st, st] }) (B : Nat) (v xv : Value) (xs cs : List Value) (n m nm : Nat) (hnm : n + m = nm) (hk : Keep (fun _ => False) w0 w)
    (hs : a.eval sl = v) (hx : a.eval x = xv) (h0 : w0.ownsRow B e size v n xs) (hB : B ≤ w0.heap.size) (hX : GSrc w0 xv m cs) (hcs : cs.length = m * size) (h1 : ∀ u ∈ cs, u.oneCell' = true) (hl : nm ≤ 70368744177) (hby : nm * bytes ≤ 140737488355328)
    (h : ∀ ad' cap' w', w'.ownsRow B e size (.slice ad' nm cap') nm (xs ++ cs) → Keep (fun k => v.ownBlock = some k) w0 w' → K (a.put o.dst (.slice ad' nm cap')) w') : if Region.wanted o (yielded ops a.tmps) = true then Oper.wp Tryz.prog o a w K Q else E := by
  subst hnm
  have hwn : Region.wanted o (yielded ops a.tmps) = true := by simp [Region.wanted, hgd]
  rw [if_pos hwn]
  obtain ⟨ad', cap', w', hr, h2, h3⟩ := gapp T o.type (hk.ownsRow h0 (fun _ _ h => h)) (Nat.le_trans hB hk.size) (hX.keep _ hk (fun _ _ h => h)) hcs h1 hl hby
  unfold Oper.wp execOp
  simp only [ho, resolve, invoke, builtin, Sem.run_bind, Sem.run_pure, Result.andThen_ok, List.map_toArray, List.map_cons, List.map_nil, hs, hx, hr, Oper.upon]
  exact h ad' cap' w' h2 ((hk.mono (fun _ _ h => h.elim)).trans h3)
/-- a row without cells, of the call's own -/
theorem own_empty {W : World} {g B e size : Nat} (hb : W.heap[g]? = some (.cells #[] e (0, 0))) (hB : B ≤ g) : W.ownsRow B e size (.slice (some ⟨g, 0, none⟩) 0 0) 0 [] :=
  ⟨by simp, .inr ⟨g, 0, #[], rfl, hB, hb, Nat.le_refl _, by simp⟩⟩
theorem gsrc_block {W : World} {g m c e : Nat} {cs : List Value} (hb : W.heap[g]? = some (.cells cs.toArray e (0, 0))) : GSrc W (.slice (some ⟨g, 0, none⟩) m c) m cs :=
  .inr ⟨g, 0, c, rfl, (Array.getElem?_eq_some_iff.1 hb).1, fun j u hu => by rw [Nat.zero_add, cell_of_row _ _ _ _ _ _ hb]; simpa using hu⟩
end Go.Proofs.YtedogofeibdjiaaGreat
