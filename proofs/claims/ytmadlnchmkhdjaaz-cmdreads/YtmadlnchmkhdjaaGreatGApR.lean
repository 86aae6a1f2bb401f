/- 'append' to a row that the call owns, of whatever row. -/
import Derived.Test.YtmadlnchmkhdjaaGreatJoined03
import Derived.ArgAppend
namespace Go.Proofs.YtmadlnchmkhdjaaGreat
open Go.RowKit Go.Maps
set_option linter.unusedVariables false
set_option linter.unusedSimpArgs false

theorem wpl_gappL {w : World} {ops : Array Oper} {rest : List Oper} {o : Oper} {a : Act} {Q : Exit → Act → World → Prop} (hgd : o.guard = none) (sl x : Operand) {st e size bytes : Nat} (T : ElT st e size bytes)
    (ho : o.op = .call { callee := .builtin .append, args := #[sl, x], argTypes := #[st, st] }) (B : Nat) (v xv : Value) (xs cs : List Value) (n m nm : Nat) (hnm : n + m = nm)
    (hs : a.eval sl = v) (hx : a.eval x = xv) (h0 : w.ownsRow B e size v n xs) (hB : B ≤ w.heap.size) (hX : GSrc w xv m cs) (hcs : cs.length = m * size) (h1 : ∀ u ∈ cs, u.oneCell' = true) (hl : nm ≤ 4611686018427387904) (hby : nm * bytes ≤ 140737488355328)
    (h : ∀ ad' cap' w', w'.ownsRow B e size (.slice ad' nm cap') nm (xs ++ cs) → Keep (fun k => v.ownBlock = some k) w w' → wpList Tryz.prog ops Q rest (a.put o.dst (.slice ad' nm cap')) w') : wpList Tryz.prog ops Q (o :: rest) a w := by
  subst hnm
  refine wpList_plain hgd fun K hK => ?_
  obtain ⟨ad', cap', w', hr, h2, h3⟩ := gappL T o.type h0 hB hX hcs h1 hl hby
  unfold Oper.wp execOp
  simp only [ho, resolve, invoke, builtin, Sem.run_bind, Sem.run_pure, Result.andThen_ok, List.map_toArray, List.map_cons, List.map_nil, hs, hx, hr]
  exact hK _ _ (h ad' cap' w' h2 h3)
/-- blocks of rows of unlike elements are not the same -/
theorem rows_apart2 {w : World} {B B' e e' s s' n n' g : Nat} {v v' : Value} {xs ys : List Value} (h : w.ownsRow B e s v n xs) (h' : w.ownsRow B' e' s' v' n' ys) (hne : e ≠ e') (hg : v.ownBlock = some g) : ¬ v'.ownBlock = some g := by
  intro hg'
  rcases h.2 with ⟨e0, _⟩ | ⟨g1, c1, cur1, e0, _, hb, _⟩
  · rw [e0] at hg; simp [Value.ownBlock] at hg
  · rcases h'.2 with ⟨e1, _⟩ | ⟨g2, c2, cur2, e1, _, hb', _⟩
    · rw [e1] at hg'; simp [Value.ownBlock] at hg'
    · rw [e0] at hg
      rw [e1] at hg'
      simp [Value.ownBlock] at hg hg'
      subst hg hg'
      rw [hb] at hb'
      injection hb' with hb'
      injection hb' with _ hb' _
      exact hne hb'
theorem gappR {st e size bytes : Nat} (T : ElT st e size bytes) {w : World} {B n m : Nat} {v x : Value} {xs cs : List Value} (ty : TypeId) (h0 : w.ownsRow B e size v n xs) (hB : B ≤ w.heap.size) (hx : RowC w x m cs) (hcs : cs.length = m * size) (h1 : ∀ u ∈ cs, u.oneCell' = true) (hm : n + m ≤ 4611686018427387904) (hl : (n + m) * bytes ≤ 140737488355328) :
    ∃ ad' cap' w', (Builtin.append_ #[st, st] ty #[v, x]).run Tryz.prog w = .ok (.slice ad' (n + m) cap') w' ∧ w'.ownsRow B e size (.slice ad' (n + m) cap') (n + m) (xs ++ cs) ∧ Keep (fun k => v.ownBlock = some k) w w' := by
  rcases hx with ⟨ad, cap, rfl, rfl, rfl⟩ | ⟨b, off, cap, rfl, _, hb, hc⟩
  · cases ad with
    | none => exact gappL T ty h0 hB (.inl ⟨cap, rfl, rfl, rfl⟩) hcs h1 hm hl
    | some a =>
      obtain ⟨z, hz, hzc⟩ := T.inf
      obtain ⟨i0, hi, hz0, hz1, hz2⟩ := info_parts hz
      obtain ⟨v', w', hr, h2, h3, h4, h5⟩ := run_append_own_at (P := Tryz.prog) w B st ty e i0 _ size bytes T.und hi hz0 hz1 hz2 hzc T.pos v n xs h0 a 0 cap [] (by simp)
        (fun j u hu => by simp at hu) (fun u hu => by simp at hu) (by unfold maxLen; omega) hl hB
      obtain ⟨ad', cap', rfl⟩ := row_form h2
      exact ⟨ad', cap', w', hr, h2, ⟨h3.os, h3.tape, h3.output, h3.size, fun k hk hn => h3.block k hk (fun e => hn e.symm)⟩⟩
  · exact gappL T ty h0 hB (.inr ⟨b, off, cap, rfl, hb, hc⟩) hcs h1 hm hl
theorem wpl_gappR {w : World} {ops : Array Oper} {rest : List Oper} {o : Oper} {a : Act} {Q : Exit → Act → World → Prop} (hgd : o.guard = none) (sl x : Operand) {st e size bytes : Nat} (T : ElT st e size bytes)
    (ho : o.op = .call { callee := .builtin .append, args := #[sl, x], argTypes := #[st, st] }) (B : Nat) (v xv : Value) (xs cs : List Value) (n m nm : Nat) (hnm : n + m = nm)
    (hs : a.eval sl = v) (hx : a.eval x = xv) (h0 : w.ownsRow B e size v n xs) (hB : B ≤ w.heap.size) (hX : RowC w xv m cs) (hcs : cs.length = m * size) (h1 : ∀ u ∈ cs, u.oneCell' = true) (hl : nm ≤ 4611686018427387904) (hby : nm * bytes ≤ 140737488355328)
    (h : ∀ ad' cap' w', w'.ownsRow B e size (.slice ad' nm cap') nm (xs ++ cs) → Keep (fun k => v.ownBlock = some k) w w' → wpList Tryz.prog ops Q rest (a.put o.dst (.slice ad' nm cap')) w') : wpList Tryz.prog ops Q (o :: rest) a w := by
  subst hnm
  refine wpList_plain hgd fun K hK => ?_
  obtain ⟨ad', cap', w', hr, h2, h3⟩ := gappR T o.type h0 hB hX hcs h1 hl hby
  unfold Oper.wp execOp
  simp only [ho, resolve, invoke, builtin, Sem.run_bind, Sem.run_pure, Result.andThen_ok, List.map_toArray, List.map_cons, List.map_nil, hs, hx, hr]
  exact hK _ _ (h ad' cap' w' h2 h3)
theorem own_made (W : World) (cs : List Value) (t size n B : Nat) (hB : B ≤ W.heap.size) (hc : cs.length = n * size) (hn : n ≤ 1048576) : (W.alloc (.cells cs.toArray t)).ownsRow B t size (.slice (some ⟨W.heap.size, 0, none⟩) n n) n cs :=
  ⟨hc, .inr ⟨W.heap.size, n, cs.toArray, rfl, hB, heap_alloc_new _ _, Nat.le_refl _, by unfold maxLen; omega, by simp [hc], by simp [← hc]⟩⟩
/-- 'append' to a slice that has no room, of whatever memory -/
theorem rapp {st e size bytes : Nat} (T : ElT st e size bytes) {w : World} {b off n m : Nat} {x : Value} {olds news : List Value} (ty : TypeId) (hlo : olds.length = n * size) (holds : ∀ j u, olds[j]? = some u → w.cell? ⟨b, off + j, none⟩ = some u) (hb : b < w.heap.size) (hx : RowC w x m news) (hl : news.length = m * size) (h1 : ∀ u ∈ news, u.oneCell' = true) (hm : n + m ≤ 1048576) (hby : (n + m) * bytes ≤ 140737488355328) :
    ∃ ad' cap' w', (Builtin.append_ #[st, st] ty #[.slice (some ⟨b, off, none⟩) n n, x]).run Tryz.prog w = .ok (.slice ad' (n + m) cap') w' ∧ RowC w' (.slice ad' (n + m) cap') (n + m) (olds ++ news) ∧ Below w.heap.size w w' := by
  obtain ⟨z, hz, hzc⟩ := T.inf
  obtain ⟨i0, hi, hz0, hz1, hz2⟩ := info_parts hz
  have same : m = 0 → news = [] := fun h => List.length_eq_zero_iff.1 (by rw [hl, h, Nat.zero_mul])
  have room : ∀ (a : Addr) (c : Nat), m = 0 → (Builtin.append_ #[st, st] ty #[.slice (some ⟨b, off, none⟩) n n, .slice (some a) 0 c]).run Tryz.prog w = .ok (.slice (some ⟨b, off, none⟩) n n) w := fun a c h => by
    have := run_append_room_cells (P := Tryz.prog) w st ty e i0 T.und hi b off n n a 0 c [] (by simp) (fun j u hu => by simp at hu) (fun u hu => by simp at hu) (by omega) (fun j hj => by simp at hj) (fun j hj => by simp at hj)
    simpa [World.setCells] using this
  rcases hx with ⟨ad, cap, rfl, rfl, rfl⟩ | ⟨b2, off2, cap, rfl, _, hb2, hc⟩
  · refine ⟨some ⟨b, off, none⟩, n, w, ?_, ?_, Below.refl _ _⟩
    · cases ad with
      | none => simp [Builtin.append_, run_underlying T.und, sizeOf, typeInfo, hi, Builtin.lenOf, Builtin.firstCells, storeCells]
      | some a => exact room a cap rfl
    · rw [List.append_nil]; exact .inr ⟨b, off, n, rfl, Nat.le_refl _, hb, holds⟩
  · by_cases h0 : m = 0
    · have hn := same h0
      subst h0 hn
      exact ⟨some ⟨b, off, none⟩, n, w, room _ cap rfl, by rw [List.append_nil]; exact .inr ⟨b, off, n, rfl, Nat.le_refl _, hb, holds⟩, Below.refl _ _⟩
    · obtain ⟨v', w', hr, ho, hg⟩ := run_append_arg_grows (P := Tryz.prog) w st ty e i0 _ size bytes T.und hi hz0 hz1 hz2 hzc T.pos ⟨b, off, none⟩ n n olds hlo (fun j u hu => by rw [Addr.add_lit]; exact holds j u hu) ⟨b2, off2, none⟩ m cap news hl (fun j u hu => by rw [Addr.add_lit]; exact hc j u hu) (by omega) (by unfold maxLen; omega) hby
      obtain ⟨ad', cap', rfl⟩ := row_form ho
      exact ⟨ad', cap', w', hr, RowC.own ho, ⟨hg.os, hg.tape, hg.output, hg.size, fun k hk => hg.block k hk (fun e => by cases e)⟩⟩
end Go.Proofs.YtmadlnchmkhdjaaGreat
