/- An array of two numbers that came in as an argument. -/
import Derived.Test.YtnldjcoajliciaaGreatRows
import Derived.ProofKit
import Derived.OpenShut
import Derived.SizedLaws
namespace Go.Proofs.YtnldjcoajliciaaGreat.arri
open Go.ChangeShapes Go.WideShapes Go.ChangeAt Go.RowKit
set_option linter.unusedVariables false

set_option maxRecDepth 100000 in
theorem arr_of {H : Type} {enc : TypeId × Value → H} {W : World} {base : Nat} {t : TypeId} {v : Value} {d : DataW H} {p : List MemPlace}
    (ht : Tryz.prog.underlying t = some (.array 2 3)) (he : Tryz.prog.underlying 3 = some (.int .i64)) (hc : Tryz.prog.cellsOf 3 = 1) (hC : Tryz.prog.cellsOf t = 2)
    (hv : Value.okWide Tryz.prog W .any base t v) (h : DataW.Trod enc Tryz.prog W 0 (fun _ => true) true t v d p) :
    ∃ a b : Int, v = .agg #[.int .i64 a, .int .i64 b] := by
  have hag : ∃ cs : Array Value, v = .agg cs := by
    simp only [Value.okWide, ht] at hv
    cases v <;> simp_all
  obtain ⟨cs, rfl⟩ := hag
  obtain ⟨fuel, hf⟩ := h
  obtain ⟨xs, m, _, hx, hl, hn, hall⟩ := DataW.trod_array ht hf
  simp only [Prod.mk.injEq] at hx
  obtain ⟨rfl, rfl⟩ := hx
  have h0 := hall 0 (by omega)
  have h1 := hall 1 (by omega)
  rw [hc] at h0 h1
  match xs, hn with
  | [x0, x1], _ =>
    simp at h0 h1
    obtain ⟨a, e0, rfl, _⟩ := DataW.trod_int he h0
    obtain ⟨b, e1, rfl, _⟩ := DataW.trod_int he h1
    rw [hC] at hl
    simp [Value.cells] at hl e0 e1
    refine ⟨a, b, ?_⟩
    obtain ⟨l⟩ := cs
    match l, hl with
    | [c0, c1], _ =>
      simp at e0 e1
      subst e0 e1
      rfl
end Go.Proofs.YtnldjcoajliciaaGreat.arri
