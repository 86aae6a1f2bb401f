/- What comes in: a slice of entries. -/
import Derived.Test.YtlkidnfgodficaaGreatIBulk
import Derived.Test.YtlkidnfgodficaaGreatJoined04
import Derived.Deep.Strs
namespace Go.Proofs.YtlkidnfgodficaaGreat.ibulk
open Go.ChangeShapes Go.WideShapes Go.ChangeAt Go.RowKit
set_option linter.unusedVariables false

instance : Inhabited En := ⟨⟨0, 0, ⟨#[]⟩⟩⟩
theorem wgt_allE {H : Type} {P : Program} {e : TypeId} : ∀ {ds : List (DataW H)} {d : DataW H}, d ∈ ds → ∀ n ∈ d.weights P e, n ∈ DataW.weightsAll P e ds
  | d0 :: r, d, hd, n, hn => by
    simp only [DataW.weightsAll, List.mem_append]
    rcases List.mem_cons.1 hd with rfl | h
    · exact .inl hn
    · exact .inr (wgt_allE h n hn)
  | [], _, hd, _, _ => by simp at hd
theorem wgt_sliceE {H : Type} {P : Program} {t e : TypeId} {elems spare : List (DataW H)} (hu : P.underlying t = some (.slice e)) {d : DataW H} (hd : d ∈ elems) {n : Nat} (hn : n ∈ d.weights P e) : n ∈ (DataW.slice elems spare).weights P t := by
  simp only [DataW.weights, hu, List.mem_cons, List.mem_append]
  exact .inr (.inl (wgt_allE hd n hn))
set_option maxRecDepth 100000 in
/-- one entry's cells -/
theorem ent_of {H : Type} {enc : TypeId × Value → H} {W : World} {base : Nat} {sp : Nat → Bool} {hd : Bool} {e : TypeId} {f0 f1 f2 : Field} {cs : List Value} {m : Nat} {x : DataW H × List MemPlace}
    (he : Tryz.prog.underlying e = some (.struct #[f0, f1, f2])) (ce : Tryz.prog.cellsOf e = 3)
    (o0 : f0.offset = 0 ∧ Tryz.prog.cellsOf f0.type = 1 ∧ Tryz.prog.underlying f0.type = some (.int .i64))
    (o1 : f1.offset = 1 ∧ Tryz.prog.cellsOf f1.type = 1 ∧ Tryz.prog.underlying f1.type = some (.int .i64))
    (o2 : f2.offset = 2 ∧ Tryz.prog.cellsOf f2.type = 1 ∧ Tryz.prog.underlying f2.type = some .string)
    (h : DataW.trod enc Tryz.prog W base sp hd m e cs = some x) :
    ∃ a : En, cs = enC a ∧ a.da.size ∈ x.1.weights Tryz.prog e := by
  obtain ⟨xs, n, _, rfl, hl, hlen, hf⟩ := DataW.trod_struct he h
  rw [ce] at hl
  match xs, hlen with
  | [y0, y1, y2], _ =>
  match cs, hl with
  | [c0, c1, c2], _ =>
  have g0 := hf 0 f0 rfl
  have g1 := hf 1 f1 rfl
  have g2 := hf 2 f2 rfl
  rw [o0.1, o0.2.1] at g0
  rw [o1.1, o1.2.1] at g1
  rw [o2.1, o2.2.1] at g2
  obtain ⟨a0, e0, _, w0⟩ := DataW.trod_int o0.2.2 (g0 : _ = some y0)
  obtain ⟨a1, e1, _, w1⟩ := DataW.trod_int o1.2.2 (g1 : _ = some y1)
  obtain ⟨s, e2, r2, _⟩ := DataW.trod_string o2.2.2 (g2 : _ = some y2)
  simp at e0 e1 e2
  subst e0 e1 e2
  refine ⟨⟨a0, a1, s⟩, rfl, ?_⟩
  subst r2
  simp only [DataW.weights, he, List.map_cons, List.map_nil, DataW.weightsEach, List.mem_append]
  exact .inr (.inr (.inl (by simp)))
end Go.Proofs.YtlkidnfgodficaaGreat.ibulk
