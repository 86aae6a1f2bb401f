/- The walk of the law ConfReached. -/
import Derived.Test.YtnldjcoajliciaaGreatJoined12
import Derived.OpenShut
namespace Go.Proofs.YtnldjcoajliciaaGreat
open Go.RowKit Go.Maps
set_option linter.unusedVariables false
set_option linter.unusedSimpArgs false

theorem wpl_iall {w : World} {ops : Array Oper} {rest : List Oper} {o : Oper} {a : Act} {Q : Exit → Act → World → Prop} (hgd : o.guard = none) (sl x : Operand)
    (ho : o.op = .call { callee := .builtin .append, args := #[sl, x], argTypes := #[26, 26] }) (B g n : Nat) (v : Value) (l : List Int) (hn : l.length = n)
    (hs : a.eval sl = .slice (some ⟨g, 0, none⟩) 0 0) (hx : a.eval x = v) (hg : w.heap[g]? = some (.cells #[] 3 (0, 0))) (hB : B ≤ g) (hv : IntsI w v l) (hl : l.length * 8 ≤ 140737488355328)
    (h : ∀ ad' cap' w', OwnI w' B (.slice ad' n cap') l → Below B w w' → wpList Tryz.prog ops Q rest (a.put o.dst (.slice ad' n cap')) w') : wpList Tryz.prog ops Q (o :: rest) a w := by
  subst hn
  refine wpList_plain hgd fun K hK => ?_
  have h0 : w.ownsRow B 3 1 (.slice (some ⟨g, 0, none⟩) 0 0) 0 [] := own_empty hg hB
  have hlt : g < w.heap.size := (Array.getElem?_eq_some_iff.1 hg).1
  have hX : ∃ v', v = v' ∧ (GSrc w v l.length (isC l) ∨ (l = [] ∧ ∃ ad c, v = .slice ad 0 c)) := by
    refine ⟨v, rfl, ?_⟩
    rcases hv with ⟨ad, cap, rfl, rfl⟩ | ⟨b, off, cap, rfl, hb, hc⟩
    · exact .inr ⟨rfl, ad, cap, rfl⟩
    · refine .inl (.inr ⟨b, off, cap, rfl, hb, fun j u hu => ?_⟩)
      have hj := (List.getElem?_eq_some_iff.1 hu).1
      rw [isC_len] at hj
      rw [isC_get l j hj] at hu
      rw [hc j hj, hu]
  have hA : ∃ ad' cap' w', (Builtin.append_ #[26, 26] o.type #[.slice (some ⟨g, 0, none⟩) 0 0, v]).run Tryz.prog w = .ok (.slice ad' l.length cap') w' ∧ OwnI w' B (.slice ad' l.length cap') l ∧ Below B w w' := by
    obtain ⟨_, _, hX | ⟨rfl, ad, c, rfl⟩⟩ := hX
    · obtain ⟨ad', cap', w', hr, h2, h3⟩ := gappL elInt o.type h0 (by omega) hX (by rw [isC_len, Nat.mul_one]) (fun u hu => by obtain ⟨y, _, rfl⟩ := List.mem_map.1 hu; rfl) (by omega) (by omega)
      rw [Nat.zero_add] at hr h2
      rw [List.nil_append] at h2
      refine ⟨ad', cap', w', hr, h2, keep_below h3 (fun k hk e => ?_) (by omega)⟩
      simp [Value.ownBlock] at e
      omega
    · refine ⟨some ⟨g, 0, none⟩, 0, w, ?_, h0, Below.refl _ _⟩
      obtain ⟨i0, hi, _⟩ := info_parts info3
      cases ad <;> simp [Builtin.append_, run_underlying Tryz.underlying26, sizeOf, typeInfo, hi, Builtin.lenOf, Builtin.firstCells, storeCells, loadCells, loadCellsFrom]
  obtain ⟨ad', cap', w', hr, h2, h3⟩ := hA
  unfold Oper.wp execOp
  simp only [ho, resolve, invoke, builtin, Sem.run_bind, Sem.run_pure, Result.andThen_ok, List.map_toArray, List.map_cons, List.map_nil, hs, hx, hr]
  exact hK _ _ (h ad' cap' w' h2 h3)
end Go.Proofs.YtnldjcoajliciaaGreat
