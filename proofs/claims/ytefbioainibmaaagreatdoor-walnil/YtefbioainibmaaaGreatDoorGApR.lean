/- 'append' to a row that the call owns, of whatever row. -/
import Derived.Test.YtefbioainibmaaaGreatDoorJoined05
import Derived.ArgAppend
namespace Go.Proofs.YtefbioainibmaaaGreatDoor
open Go.RowKit Go.Maps
set_option linter.unusedVariables false
set_option linter.unusedSimpArgs false

/-- blocks of rows of unlike elements are not the same -/
theorem rows_apart2 {w : World} {B B' e e' s s' n n' g : Nat} {v v' : Value} {xs ys : List Value} (h : w.ownsRow B e s v n xs) (h' : w.ownsRow B' e' s' v' n' ys) (hne : e ≠ e') (hg : v.ownBlock = some g) : ¬ v'.ownBlock = some g := by
  intro hg'
  rcases h.2 with ⟨e0, _⟩ | ⟨g1, c1, cur1, e0, _, hb, _⟩
  · rw [e0] at hg; simp [Value.ownBlock] at hg
  · rcases h'.2 with ⟨e1, _⟩ | ⟨g2, c2, cur2, e1, _, hb', _⟩
    · rw [e1] at hg'; simp [Value.ownBlock] at hg'
    · rw [e0] at hg
      rw [e1] at hg'
      simp [Value.ownBlock] at hg hg'
      subst hg hg'
      rw [hb] at hb'
      injection hb' with hb'
      injection hb' with _ hb' _
      exact hne hb'
theorem gappR {st e size bytes : Nat} (T : ElT st e size bytes) {w : World} {B n m : Nat} {v x : Value} {xs cs : List Value} (ty : TypeId) (h0 : w.ownsRow B e size v n xs) (hB : B ≤ w.heap.size) (hx : RowC w x m cs) (hcs : cs.length = m * size) (h1 : ∀ u ∈ cs, u.oneCell' = true) (hm : n + m ≤ 4611686018427387904) (hl : (n + m) * bytes ≤ 140737488355328) :
    ∃ ad' cap' w', (Builtin.append_ #[st, st] ty #[v, x]).run Tryz.prog w = .ok (.slice ad' (n + m) cap') w' ∧ w'.ownsRow B e size (.slice ad' (n + m) cap') (n + m) (xs ++ cs) ∧ Keep (fun k => v.ownBlock = some k) w w' := by
  rcases hx with ⟨ad, cap, rfl, rfl, rfl⟩ | ⟨b, off, cap, rfl, _, hb, hc⟩
  · cases ad with
    | none => exact gappL T ty h0 hB (.inl ⟨cap, rfl, rfl, rfl⟩) hcs h1 hm hl
    | some a =>
      obtain ⟨z, hz, hzc⟩ := T.inf
      obtain ⟨i0, hi, hz0, hz1, hz2⟩ := info_parts hz
      obtain ⟨v', w', hr, h2, h3, h4, h5⟩ := run_append_own_at (P := Tryz.prog) w B st ty e i0 _ size bytes T.und hi hz0 hz1 hz2 hzc T.pos v n xs h0 a 0 cap [] (by simp)
        (fun j u hu => by simp at hu) (fun u hu => by simp at hu) (by unfold maxLen; omega) hl hB
      obtain ⟨ad', cap', rfl⟩ := row_form h2
      exact ⟨ad', cap', w', hr, h2, ⟨h3.os, h3.tape, h3.output, h3.size, fun k hk hn => h3.block k hk (fun e => hn e.symm)⟩⟩
  · exact gappL T ty h0 hB (.inr ⟨b, off, cap, rfl, hb, hc⟩) hcs h1 hm hl
theorem wpl_gappR {w : World} {ops : Array Oper} {rest : List Oper} {o : Oper} {a : Act} {Q : Exit → Act → World → Prop} (hgd : o.guard = none) (sl x : Operand) {st e size bytes : Nat} (T : ElT st e size bytes)
    (ho : o.op = .call { callee := .builtin .append, args := #[sl, x], argTypes := #[st, st] }) (B : Nat) (v xv : Value) (xs cs : List Value) (n m nm : Nat) (hnm : n + m = nm)
    (hs : a.eval sl = v) (hx : a.eval x = xv) (h0 : w.ownsRow B e size v n xs) (hB : B ≤ w.heap.size) (hX : RowC w xv m cs) (hcs : cs.length = m * size) (h1 : ∀ u ∈ cs, u.oneCell' = true) (hl : nm ≤ 4611686018427387904) (hby : nm * bytes ≤ 140737488355328)
    (h : ∀ ad' cap' w', w'.ownsRow B e size (.slice ad' nm cap') nm (xs ++ cs) → Keep (fun k => v.ownBlock = some k) w w' → wpList Tryz.prog ops Q rest (a.put o.dst (.slice ad' nm cap')) w') : wpList Tryz.prog ops Q (o :: rest) a w := by
  subst hnm
  refine wpList_plain hgd fun K hK => ?_
  obtain ⟨ad', cap', w', hr, h2, h3⟩ := gappR T o.type h0 hB hX hcs h1 hl hby
  unfold Oper.wp execOp
  simp only [ho, resolve, invoke, builtin, Sem.run_bind, Sem.run_pure, Result.andThen_ok, List.map_toArray, List.map_cons, List.map_nil, hs, hx, hr]
  exact hK _ _ (h ad' cap' w' h2 h3)
theorem own_made (W : World) (cs : List Value) (t size n B : Nat) (hB : B ≤ W.heap.size) (hc : cs.length = n * size) (hn : n ≤ 1048576) : (W.alloc (.cells cs.toArray t)).ownsRow B t size (.slice (some ⟨W.heap.size, 0, none⟩) n n) n cs :=
  ⟨hc, .inr ⟨W.heap.size, n, cs.toArray, rfl, hB, heap_alloc_new _ _, Nat.le_refl _, by unfold maxLen; omega, by simp [hc], by simp [← hc]⟩⟩
end Go.Proofs.YtefbioainibmaaaGreatDoor
