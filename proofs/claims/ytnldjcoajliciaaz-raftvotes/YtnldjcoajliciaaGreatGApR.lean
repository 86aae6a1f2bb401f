/- 'append' to a row that the call owns, of whatever row. -/
import Derived.Test.YtnldjcoajliciaaGreatJoined04
import Derived.ArgAppend
namespace Go.Proofs.YtnldjcoajliciaaGreat
open Go.RowKit Go.Maps
set_option linter.unusedVariables false
set_option linter.unusedSimpArgs false

theorem wpl_gappL {w : World} {ops : Array Oper} {rest : List Oper} {o : Oper} {a : Act} {Q : Exit → Act → World → Prop} (hgd : o.guard = none) (sl x : Operand) {st e size bytes : Nat} (T : ElT st e size bytes)
    (ho : o.op = .call { callee := .builtin .append, args := #[sl, x], argTypes := #[st, st] }) (B : Nat) (v xv : Value) (xs cs : List Value) (n m nm : Nat) (hnm : n + m = nm)
    (hs : a.eval sl = v) (hx : a.eval x = xv) (h0 : w.ownsRow B e size v n xs) (hB : B ≤ w.heap.size) (hX : GSrc w xv m cs) (hcs : cs.length = m * size) (h1 : ∀ u ∈ cs, u.oneCell' = true) (hl : nm ≤ 4611686018427387904) (hby : nm * bytes ≤ 140737488355328)
    (h : ∀ ad' cap' w', w'.ownsRow B e size (.slice ad' nm cap') nm (xs ++ cs) → Keep (fun k => v.ownBlock = some k) w w' → wpList Tryz.prog ops Q rest (a.put o.dst (.slice ad' nm cap')) w') : wpList Tryz.prog ops Q (o :: rest) a w := by
  subst hnm
  refine wpList_plain hgd fun K hK => ?_
  obtain ⟨ad', cap', w', hr, h2, h3⟩ := gappL T o.type h0 hB hX hcs h1 hl hby
  unfold Oper.wp execOp
  simp only [ho, resolve, invoke, builtin, Sem.run_bind, Sem.run_pure, Result.andThen_ok, List.map_toArray, List.map_cons, List.map_nil, hs, hx, hr]
  exact hK _ _ (h ad' cap' w' h2 h3)
/-- blocks of rows of unlike elements are not the same -/
theorem rows_apart2 {w : World} {B B' e e' s s' n n' g : Nat} {v v' : Value} {xs ys : List Value} (h : w.ownsRow B e s v n xs) (h' : w.ownsRow B' e' s' v' n' ys) (hne : e ≠ e') (hg : v.ownBlock = some g) : ¬ v'.ownBlock = some g := by
  intro hg'
  rcases h.2 with ⟨e0, _⟩ | ⟨g1, c1, cur1, e0, _, hb, _⟩
  · rw [e0] at hg; simp [Value.ownBlock] at hg
  · rcases h'.2 with ⟨e1, _⟩ | ⟨g2, c2, cur2, e1, _, hb', _⟩
    · rw [e1] at hg'; simp [Value.ownBlock] at hg'
    · rw [e0] at hg
      rw [e1] at hg'
      simp [Value.ownBlock] at hg hg'
      subst hg hg'
      rw [hb] at hb'
      injection hb' with hb'
      injection hb' with _ hb' _
      exact hne hb'
end Go.Proofs.YtnldjcoajliciaaGreat
