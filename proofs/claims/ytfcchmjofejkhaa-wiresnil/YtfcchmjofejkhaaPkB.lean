/- A packet that came in. -/
import Derived.Test.YtfcchmjofejkhaaWgtB
import Derived.Test.YtfcchmjofejkhaaNetM
import Derived.Lib.SmallJoins
namespace Go.Proofs.Ytfcchmjofejkhaa.wgts
open Go.ChangeShapes Go.WideShapes Go.ChangeAt Go.RowKit
set_option linter.unusedVariables false

set_option maxRecDepth 100000 in
theorem pk_of {H : Type} {enc : TypeId × Value → H} {W : World} {base : Nat} {t : TypeId} {f0 f1 f2 : Field} {v : Value} {d : DataW H} {p : List MemPlace} (hs : Try.prog.underlying t = some (.struct #[f0, f1, f2])) (hone : Go.Deep.oneCellFields Try.prog #[f0, f1, f2] = true) (hC : Try.prog.cellsOf t = 3)
    (h0 : Try.prog.underlying f0.type = some (.int .i64)) (h1 : Try.prog.underlying f1.type = some (.int .i64)) (h2 : Try.prog.underlying f2.type = some .string)
    (hv : Value.okWide Try.prog W .any base t v) (h : DataW.Trod enc Try.prog W 0 (fun _ => true) true t v d p) :
    ∃ x : Pk, v = pkV x ∧ x.s.size ∈ d.weights Try.prog t := by
  obtain ⟨v0, v1, v2, y0, y1, y2, n, rfl, rfl, _, t0, t1, t2⟩ := Go.Joins.open_agg3 (P := Try.prog) hs hone hC hv h
  obtain ⟨a, e0, _, wa⟩ := DataW.trod_int h0 t0
  obtain ⟨b, e1, _, wb⟩ := DataW.trod_int h1 t1
  obtain ⟨s, e2, r2, _⟩ := DataW.trod_string h2 t2
  simp at e0 e1 e2
  subst e0 e1 e2
  refine ⟨⟨a, b, s⟩, rfl, ?_⟩
  subst r2
  have he : s.data.toList.length = s.size := by simp
  simp [DataW.weights, DataW.weightsEach, hs]
end Go.Proofs.Ytfcchmjofejkhaa.wgts
