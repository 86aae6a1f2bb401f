/- What a bound on each part of an argument gives: a slice of texts. -/
import Derived.Test.YtfcchmjofejkhaaRows
import Derived.Test.YtfcchmjofejkhaaStrsM
import Derived.ProofKit
import Derived.OpenShut
import Derived.SliceStrings
import Derived.SizedLaws
namespace Go.Proofs.Ytfcchmjofejkhaa.wgts
open Go.ChangeShapes Go.WideShapes Go.ChangeAt Go.RowKit
set_option linter.unusedVariables false

theorem wgt_all {H : Type} {P : Program} {e : TypeId} : ∀ {ds : List (DataW H)} {d : DataW H}, d ∈ ds → ∀ n ∈ d.weights P e, n ∈ DataW.weightsAll P e ds
  | d0 :: r, d, hd, n, hn => by
    simp only [DataW.weightsAll, List.mem_append]
    rcases List.mem_cons.1 hd with rfl | h
    · exact .inl hn
    · exact .inr (wgt_all h n hn)
  | [], _, hd, _, _ => by simp at hd
theorem wgt_slice {H : Type} {P : Program} {t e : TypeId} {elems spare : List (DataW H)} (hu : P.underlying t = some (.slice e)) {d : DataW H} (hd : d ∈ elems) {n : Nat} (hn : n ∈ d.weights P e) : n ∈ (DataW.slice elems spare).weights P t := by
  simp only [DataW.weights, hu, List.mem_cons, List.mem_append]
  exact .inr (.inl (wgt_all hd n hn))
theorem wgt_le {H : Type} {P : Program} {ts : List TypeId} {ds : List (DataW H)} (h : (DataW.weightsEach P ts ds).all (· ≤ reachBytes) = true) {j : Nat} {t : TypeId} {d : DataW H} (ht : ts[j]? = some t) (hd : ds[j]? = some d) {n : Nat} (hn : n ∈ d.weights P t) : n ≤ reachBytes := by
  have := List.all_eq_true.1 h _ (DataW.weights_mem_each ht hd n hn)
  simpa using this
/-- a slice of texts that came in -/
theorem strs_of {H : Type} {enc : TypeId × Value → H} {W : World} {base : Nat} {t : TypeId} {v : Value} {d : DataW H} {p : List MemPlace} (ht : Try.prog.underlying t = some (.slice 9)) (he : Try.prog.underlying 9 = some .string) (hc : Try.prog.cellsOf 9 = 1)
    (hv : Value.okWide Try.prog W .any base t v) (h : DataW.Trod enc Try.prog W 0 (fun _ => true) true t v d p) :
    ∃ xs, Strs W v xs ∧ (∀ x ∈ xs, x.size ∈ d.weights Try.prog t) ∧ xs.length ≤ 9223372036854775807 := by
  obtain ⟨a, len, cap, rfl⟩ := okWide_slice ht hv
  obtain ⟨fuel, hf⟩ := h
  rcases open_strings ht he hc hf with ⟨hcs, hx⟩ | ⟨ad, l, c, ss, hcs, _, hl, hm, hz, hx, hcell, hws⟩
  · simp [Value.cells] at hcs
    obtain ⟨rfl, rfl, rfl⟩ := hcs
    exact ⟨[], .inl ⟨rfl, none, 0, rfl⟩, by simp, by simp⟩
  · simp [Value.cells] at hcs
    obtain ⟨rfl, rfl, rfl⟩ := hcs
    simp only [Prod.mk.injEq] at hx
    obtain ⟨rfl, rfl⟩ := hx
    simp at hz
    refine ⟨ss.take len, ?_, ?_, by unfold maxLen at hm; simp; omega⟩
    · by_cases h0 : len = 0
      · subst h0; exact .inl ⟨by simp, _, _, rfl⟩
      · obtain ⟨b, off, spot⟩ := ad
        have h1 := hcell 0 (by omega)
        have hspot : spot = none := by simpa [Addr.add] using World.cell?_spot h1
        subst hspot
        have hlt := World.block_lt_of_cell? W _ h1
        have hbl : b < W.heap.size := by simpa [Addr.add_lit] using hlt
        have hln : (ss.take len).length = len := by simp; omega
        refine .inr ⟨b, off, cap, by rw [hln], hbl, fun j hj => ?_⟩
        rw [hln] at hj
        have h2 := hcell j (by omega)
        rw [Addr.add_lit] at h2
        rw [h2]
        congr 2
        simp [List.getD, hj]
        rfl
    · intro x hx
      refine wgt_slice ht (d := .lit (.string x.data.toList)) (List.mem_map.2 ⟨x, hx, rfl⟩) ?_
      simp [DataW.weights]
end Go.Proofs.Ytfcchmjofejkhaa.wgts
