/- An array of two bytes that came in. -/
import Derived.Test.YtnlodlpjokkepaaSBulk
import Derived.Test.YtnlodlpjokkepaaWParts
namespace Go.Proofs.Ytnlodlpjokkepaa.bulks
open Go.ChangeShapes Go.WideShapes Go.ChangeAt Go.RowKit
set_option linter.unusedVariables false

/-- an array of two bytes -/
theorem arr8_of {H : Type} {enc : TypeId × Value → H} {W : World} {base : Nat} {t e : TypeId} {v : Value} {d : DataW H} {p : List MemPlace} (ht : Try.prog.underlying t = some (.array 2 e)) (he : Try.prog.underlying e = some (.int .u8)) (hc : Try.prog.cellsOf e = 1) (hC : Try.prog.cellsOf t = 2)
    (hv : Value.okWide Try.prog W .any base t v) (h : DataW.Trod enc Try.prog W 0 (fun _ => true) true t v d p) :
    ∃ a b : UInt8, v = .agg #[.int .u8 (a.toNat : Int), .int .u8 (b.toNat : Int)] := by
  have hag : ∃ cs : Array Value, v = .agg cs := by
    simp only [Value.okWide, ht] at hv
    cases v <;> simp_all
  obtain ⟨cs, rfl⟩ := hag
  obtain ⟨fuel, hf⟩ := h
  obtain ⟨xs, m, _, hx, hl, hn, hall⟩ := DataW.trod_array ht hf
  simp only [Prod.mk.injEq] at hx
  obtain ⟨rfl, rfl⟩ := hx
  have h0 := hall 0 (by omega)
  have h1 := hall 1 (by omega)
  rw [hc] at h0 h1
  match xs, hn with
  | [x0, x1], _ =>
    simp at h0 h1
    obtain ⟨a, e0, rfl, wa⟩ := DataW.trod_int he h0
    obtain ⟨b, e1, rfl, wb⟩ := DataW.trod_int he h1
    rw [hC] at hl
    simp [Value.cells] at hl e0 e1
    obtain ⟨a, rfl⟩ := u8_of wa
    obtain ⟨b, rfl⟩ := u8_of wb
    refine ⟨a, b, ?_⟩
    obtain ⟨l⟩ := cs
    match l, hl with
    | [c0, c1], _ =>
      simp at e0 e1
      subst e0 e1
      rfl
end Go.Proofs.Ytnlodlpjokkepaa.bulks
