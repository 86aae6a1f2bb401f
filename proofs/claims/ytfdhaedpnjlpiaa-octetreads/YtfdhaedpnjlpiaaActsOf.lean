/- A slice of pairs of two numbers that came in as an argument, as the walk of OctetReads takes it. -/
import Derived.Test.YtfdhaedpnjlpiaaRows
import Derived.Test.YtfdhaedpnjlpiaaWRdM
import Derived.ProofKit
import Derived.OpenShut
import Derived.Deep.SlicePairs
namespace Go.Proofs.Ytfdhaedpnjlpiaa.acts
open Go.ChangeShapes Go.WideShapes Go.ChangeAt Go.RowKit
set_option linter.unusedVariables false

theorem acts_of {H : Type} {enc : TypeId × Value → H} {W : World} {base : Nat} {t e : TypeId} {f0 f1 : Field} {v : Value} {d : DataW H} {p : List MemPlace}
    (ht : Try.prog.underlying t = some (.slice e)) (he : Try.prog.underlying e = some (.struct #[f0, f1])) (ce : Try.prog.cellsOf e = 2) (o0 : f0.offset = 0) (o1 : f1.offset = 1)
    (t0 : f0.type = 3) (t1 : f1.type = 3) (h3 : Try.prog.underlying 3 = some (.int .i64)) (c3 : Try.prog.cellsOf 3 = 1)
    (hv : Value.okWide Try.prog W .any base t v) (h : DataW.Trod enc Try.prog W 0 (fun _ => true) true t v d p) :
    ∃ n K M, Acts W v n K M := by
  obtain ⟨a, len, cap, rfl⟩ := okWide_slice ht hv
  obtain ⟨fuel, hf⟩ := h
  rcases Go.Deep.open_slice_pairs ht he ce o0 o1 (by rw [t0]; exact c3) (by rw [t1]; exact c3) hf with ⟨hcs, hx⟩ | ⟨ad, l, c, m, q, V0, V1, D0, D1, P0, P1, hcs, _, hl, hm, hmm, hx, hall⟩
  · simp [Value.cells] at hcs
    obtain ⟨rfl, rfl, rfl⟩ := hcs
    exact ⟨0, fun _ => 0, fun _ => 0, none, 0, rfl, by decide, .inl rfl⟩
  · simp [Value.cells] at hcs
    obtain ⟨rfl, rfl, rfl⟩ := hcs
    rw [if_pos rfl] at hmm
    subst hmm
    rw [t0, t1] at hall
    have each : ∀ i, i < len → ∃ q : Int × Int, W.cell? (ad.add (i * 2)) = some (.int .i64 q.1) ∧ W.cell? (ad.add (i * 2 + 1)) = some (.int .i64 q.2) ∧ (-9223372036854775808 ≤ q.2 ∧ q.2 ≤ 9223372036854775807) := by
      intro i hi
      obtain ⟨g0, g1, g2, g3⟩ := hall i (by omega)
      obtain ⟨k, e0, _, s0⟩ := DataW.trod_int h3 g2
      obtain ⟨n, e1, _, s1⟩ := DataW.trod_int h3 g3
      simp at e0 e1
      refine ⟨(k, n), e0 ▸ g0, e1 ▸ g1, ?_⟩
      exact Go.bounds_i64 s1
    obtain ⟨Q, hQ⟩ := Go.Deep.choose_lt each
    refine ⟨len, fun i => (Q i).1, fun i => (Q i).2, _, _, rfl, by omega, ?_⟩
    by_cases h0 : len = 0
    · exact .inl h0
    obtain ⟨b, off, spot⟩ := ad
    have h1 := (hQ 0 (by omega)).1
    have hspot : spot = none := by simpa [Addr.add] using World.cell?_spot h1
    subst hspot
    have hlt := World.block_lt_of_cell? W _ h1
    have hbl : b < W.heap.size := by simpa [Addr.add_lit] using hlt
    refine .inr ⟨b, off, rfl, hbl, fun j hj => ?_⟩
    have hj2 := hQ j hj
    rw [Addr.add_lit, Addr.add_lit] at hj2
    exact hj2
end Go.Proofs.Ytfdhaedpnjlpiaa.acts
