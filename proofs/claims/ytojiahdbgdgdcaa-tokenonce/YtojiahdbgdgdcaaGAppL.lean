/- 'append' on rows of whatever elements, and where the new row lies. -/
import Derived.Test.YtojiahdbgdgdcaaGApp
namespace Go.Proofs.Ytojiahdbgdgdcaa
open Go.RowKit Go.Maps
set_option linter.unusedVariables false
set_option linter.unusedSimpArgs false

/-- the new row lies where the old one lay, or is new -/
def LocG (w : World) (v v' : Value) : Prop := v'.ownBlock = v.ownBlock ∨ ∃ g, v'.ownBlock = some g ∧ w.heap.size ≤ g
def LocN (w : World) (v v' : Value) : Prop := ∀ g, v'.ownBlock = some g → v.ownBlock = some g ∨ w.heap.size ≤ g
theorem LocG.n {w : World} {v v' : Value} (h : LocG w v v') : LocN w v v' := fun g e => by
  rcases h with h1 | ⟨g', h1, h2⟩
  · exact .inl (by rw [← h1]; exact e)
  · rw [e] at h1; injection h1 with h1; exact .inr (by omega)
theorem gapp_at {st e size bytes : Nat} (T : ElT st e size bytes) {w : World} {B n m : Nat} {v x : Value} {xs cs : List Value} (ty : TypeId) (h0 : w.ownsRow B e size v n xs) (hB : B ≤ w.heap.size) (hx : GSrc w x m cs) (hcs : cs.length = m * size) (h1 : ∀ u ∈ cs, u.oneCell' = true) (hm : n + m ≤ 70368744177) (hl : (n + m) * bytes ≤ 140737488355328) :
    ∃ ad' cap' w', (Builtin.append_ #[st, st] ty #[v, x]).run Try.prog w = .ok (.slice ad' (n + m) cap') w' ∧ w'.ownsRow B e size (.slice ad' (n + m) cap') (n + m) (xs ++ cs) ∧ Keep (fun k => v.ownBlock = some k) w w' ∧ LocG w v (.slice ad' (n + m) cap') := by
  obtain ⟨z, hz, hzc⟩ := T.inf
  obtain ⟨i0, hi, hz0, hz1, hz2⟩ := info_parts hz
  rcases hx with ⟨c, rfl, rfl, rfl⟩ | ⟨g, off, c, rfl, hg, hc⟩
  · obtain ⟨ad, cap, rfl⟩ := row_form h0
    have hle : n ≤ cap := by
      rcases h0.2 with ⟨e0, h⟩ | ⟨g, cap', cur, e0, _, _, h, _⟩
      · omega
      · injection e0 with _ _ e3; omega
    refine ⟨ad, cap, w, ?_, by simpa using h0, Keep.refl _ _, .inl rfl⟩
    cases ad <;> simp [Builtin.append_, run_underlying T.und, sizeOf, typeInfo, hi, Builtin.lenOf, Builtin.firstCells, hle, storeCells]
  · obtain ⟨v', w', hr, h2, h3, h4, h5⟩ := run_append_own_at (P := Try.prog) w B st ty e i0 _ size bytes T.und hi hz0 hz1 hz2 hzc T.pos v n xs h0 ⟨g, off, none⟩ m c cs hcs
      (fun j u hu => by rw [Addr.add_lit]; exact hc j u hu) h1 (by unfold maxLen; omega) hl hB
    obtain ⟨ad', cap', rfl⟩ := row_form h2
    exact ⟨ad', cap', w', hr, h2, ⟨h3.os, h3.tape, h3.output, h3.size, fun k hk hn => h3.block k hk (fun e => hn e.symm)⟩, h5.imp id (fun e => ⟨_, e, Nat.le_refl _⟩)⟩
theorem wpl_gapp_at {w : World} {ops : Array Oper} {rest : List Oper} {o : Oper} {a : Act} {Q : Exit → Act → World → Prop} (hgd : o.guard = none) (sl x : Operand) {st e size bytes : Nat} (T : ElT st e size bytes)
    (ho : o.op = .call { callee := .builtin .append, args := #[sl, x], argTypes := #[st, st] }) (B : Nat) (v xv : Value) (xs cs : List Value) (n m nm : Nat) (hnm : n + m = nm)
    (hs : a.eval sl = v) (hx : a.eval x = xv) (h0 : w.ownsRow B e size v n xs) (hB : B ≤ w.heap.size) (hX : GSrc w xv m cs) (hcs : cs.length = m * size) (h1 : ∀ u ∈ cs, u.oneCell' = true) (hl : nm ≤ 70368744177) (hby : nm * bytes ≤ 140737488355328)
    (h : ∀ ad' cap' w', w'.ownsRow B e size (.slice ad' nm cap') nm (xs ++ cs) → Keep (fun k => v.ownBlock = some k) w w' → LocG w v (.slice ad' nm cap') → wpList Try.prog ops Q rest (a.put o.dst (.slice ad' nm cap')) w') : wpList Try.prog ops Q (o :: rest) a w := by
  subst hnm
  refine wpList_plain hgd fun K hK => ?_
  obtain ⟨ad', cap', w', hr, h2, h3, h4⟩ := gapp_at T o.type h0 hB hX hcs h1 hl hby
  unfold Oper.wp execOp
  simp only [ho, resolve, invoke, builtin, Sem.run_bind, Sem.run_pure, Result.andThen_ok, List.map_toArray, List.map_cons, List.map_nil, hs, hx, hr]
  exact hK _ _ (h ad' cap' w' h2 h3 h4)
/-- the same in a region that draws its order -/
theorem step_gapp_at {w w0 : World} {ops : Array Oper} {o : Oper} {a : Act} {K : Act → World → Prop} {Q : Exit → Act → World → Prop} {E : Prop} (hgd : o.guard = none) (sl x : Operand) {st e size bytes : Nat} (T : ElT st e size bytes)
    (ho : o.op = .call { callee := .builtin .append, args := #[sl, x], argTypes := #[st, st] }) (B : Nat) (v xv : Value) (xs cs : List Value) (n m nm : Nat) (hnm : n + m = nm) (hk : Keep (fun _ => False) w0 w)
    (hs : a.eval sl = v) (hx : a.eval x = xv) (h0 : w0.ownsRow B e size v n xs) (hB : B ≤ w0.heap.size) (hX : GSrc w0 xv m cs) (hcs : cs.length = m * size) (h1 : ∀ u ∈ cs, u.oneCell' = true) (hl : nm ≤ 70368744177) (hby : nm * bytes ≤ 140737488355328)
    (h : ∀ ad' cap' w', w'.ownsRow B e size (.slice ad' nm cap') nm (xs ++ cs) → Keep (fun k => v.ownBlock = some k) w0 w' → LocG w0 v (.slice ad' nm cap') → K (a.put o.dst (.slice ad' nm cap')) w') : if Region.wanted o (yielded ops a.tmps) = true then Oper.wp Try.prog o a w K Q else E := by
  subst hnm
  have hwn : Region.wanted o (yielded ops a.tmps) = true := by simp [Region.wanted, hgd]
  rw [if_pos hwn]
  obtain ⟨ad', cap', w', hr, h2, h3, h4⟩ := gapp_at T o.type (hk.ownsRow h0 (fun _ _ h => h)) (Nat.le_trans hB hk.size) (hX.keep _ hk (fun _ _ h => h)) hcs h1 hl hby
  unfold Oper.wp execOp
  simp only [ho, resolve, invoke, builtin, Sem.run_bind, Sem.run_pure, Result.andThen_ok, List.map_toArray, List.map_cons, List.map_nil, hs, hx, hr, Oper.upon]
  exact h ad' cap' w' h2 ((hk.mono (fun _ _ h => h.elim)).trans h3) (h4.imp id (fun ⟨g, e, hg⟩ => ⟨g, e, Nat.le_trans hk.size hg⟩))
end Go.Proofs.Ytojiahdbgdgdcaa
