/- An array of two texts that came in as an argument, each of a size that a machine's memory holds. -/
import Derived.Test.YtfdhaedpnjlpiabRows
import Derived.ProofKit
import Derived.OpenShut
import Derived.SizedLaws
namespace Go.Proofs.Ytfdhaedpnjlpiab.arrs
open Go.ChangeShapes Go.WideShapes Go.ChangeAt Go.RowKit
set_option linter.unusedVariables false

theorem arr_of {H : Type} {enc : TypeId × Value → H} {W : World} {base : Nat} {t : TypeId} {v : Value} {d : DataW H} {p : List MemPlace} {ts : List TypeId} {ds : List (DataW H)} {j : Nat}
    (ht : Try.prog.underlying t = some (.array 2 9)) (he : Try.prog.underlying 9 = some .string) (hc : Try.prog.cellsOf 9 = 1) (hC : Try.prog.cellsOf t = 2)
    (hsz : (DataW.weightsEach Try.prog ts ds).all (· ≤ reachBytes) = true) (hj : ts[j]? = some t) (hd : ds[j]? = some d)
    (hv : Value.okWide Try.prog W .any base t v) (h : DataW.Trod enc Try.prog W 0 (fun _ => true) true t v d p) :
    ∃ a b : ByteArray, v = .agg #[.string a, .string b] ∧ a.size ≤ reachBytes ∧ b.size ≤ reachBytes := by
  have hag : ∃ cs : Array Value, v = .agg cs := by
    simp only [Value.okWide, ht] at hv
    cases v <;> simp_all
  obtain ⟨cs, rfl⟩ := hag
  obtain ⟨fuel, hf⟩ := h
  obtain ⟨xs, m, _, hx, hl, hn, hall⟩ := DataW.trod_array ht hf
  simp only [Prod.mk.injEq] at hx
  obtain ⟨rfl, rfl⟩ := hx
  have h0 := hall 0 (by omega)
  have h1 := hall 1 (by omega)
  rw [hc] at h0 h1
  match xs, hn with
  | [x0, x1], _ =>
    simp at h0 h1
    obtain ⟨a, e0, rfl, _⟩ := DataW.trod_string he h0
    obtain ⟨b, e1, rfl, _⟩ := DataW.trod_string he h1
    rw [hC] at hl
    simp [Value.cells] at hl e0 e1
    have hw : ∀ n, n = a.data.toList.length ∨ n = b.data.toList.length → n ≤ reachBytes := by
      intro n hn
      have hm := DataW.weights_mem_each (P := Try.prog) hj hd n (by
        simp only [List.map_cons, List.map_nil, DataW.weights, ht, DataW.weightsAll, List.append_nil, List.mem_append, List.mem_singleton]
        exact hn)
      exact of_decide_eq_true (List.all_eq_true.1 hsz n hm)
    have ea : a.data.toList.length = a.size := by simp
    have eb : b.data.toList.length = b.size := by simp
    refine ⟨a, b, ?_, ea ▸ hw _ (.inl rfl), eb ▸ hw _ (.inr rfl)⟩
    obtain ⟨l⟩ := cs
    match l, hl with
    | [c0, c1], _ =>
      simp at e0 e1
      subst e0 e1
      rfl
end Go.Proofs.Ytfdhaedpnjlpiab.arrs
