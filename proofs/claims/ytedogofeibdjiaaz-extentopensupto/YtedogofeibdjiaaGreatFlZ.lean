/- What comes in: files. -/
import Derived.Test.YtedogofeibdjiaaGreatRows
import Derived.Test.YtedogofeibdjiaaGreatJoined17
import Derived.ProofKit
import Derived.OpenShut
import Derived.SliceStrings
import Derived.SizedLaws
import Derived.Deep.Strs
namespace Go.Proofs.YtedogofeibdjiaaGreat
open Go.RowKit Go.Maps
set_option linter.unusedVariables false
/-- files in memory, as they came in -/
def FlsI (w : World) (v : Value) (q : List (Bs × Bs)) : Prop :=
  (∃ ad cap, v = .slice ad 0 cap ∧ q = []) ∨ ∃ g off cap, v = .slice (some ⟨g, off, none⟩) q.length cap ∧ g < w.heap.size ∧ ∀ k (h : k < q.length) j, j < 2 → w.cell? ⟨g, off + k * 2 + j, none⟩ = (fC1 q[k])[j]?
end Go.Proofs.YtedogofeibdjiaaGreat
namespace Go.Proofs.YtedogofeibdjiaaGreat.bulks
open Go.ChangeShapes Go.WideShapes Go.ChangeAt Go.RowKit
set_option linter.unusedVariables false
theorem flz_mem {H : Type} (xs : List (DataW H)) : ∀ d ∈ xs, Rows.uptoBulk d ≤ Rows.uptoBulkAll xs := by
  induction xs with
  | nil => simp
  | cons x r ih =>
    intro d hd
    simp only [Rows.uptoBulkAll]
    rcases List.mem_cons.1 hd with rfl | h
    · omega
    · have := ih d h; omega
set_option maxRecDepth 100000 in
theorem file_of {H : Type} {enc : TypeId × Value → H} {W : World} {base : Nat} {sp : Nat → Bool} {hd : Bool} {e : TypeId} {f0 f1 : Field} {cs : List Value} {m : Nat} {x : DataW H × List MemPlace}
    (he : Tryz.prog.underlying e = some (.struct #[f0, f1])) (ce : Tryz.prog.cellsOf e = 2)
    (o0 : f0.offset = 0 ∧ Tryz.prog.cellsOf f0.type = 1 ∧ Tryz.prog.underlying f0.type = some .string)
    (o1 : f1.offset = 1 ∧ Tryz.prog.cellsOf f1.type = 1 ∧ Tryz.prog.underlying f1.type = some .string)
    (h : DataW.trod enc Tryz.prog W base sp hd m e cs = some x) :
    ∃ y : Bs × Bs, cs = fC1 y ∧ y.1.length + y.2.length ≤ Rows.uptoBulk x.1 := by
  obtain ⟨xs, n, _, rfl, hl, hlen, hf⟩ := DataW.trod_struct he h
  rw [ce] at hl
  match xs, hlen with
  | [y0, y1], _ =>
  match cs, hl with
  | [c0, c1], _ =>
  have g0 := hf 0 f0 rfl
  have g1 := hf 1 f1 rfl
  rw [o0.1, o0.2.1] at g0
  rw [o1.1, o1.2.1] at g1
  obtain ⟨s0, e0, r0, _⟩ := DataW.trod_string o0.2.2 (g0 : _ = some y0)
  obtain ⟨s1, e1, r1, _⟩ := DataW.trod_string o1.2.2 (g1 : _ = some y1)
  simp at e0 e1
  subst e0 e1
  refine ⟨(s0.data.toList, s1.data.toList), ?_, ?_⟩
  · simp only [fC1, tx_of]
  · subst r0 r1
    simp only [List.map_cons, List.map_nil, Rows.uptoBulk, Rows.uptoBulkAll]
    omega
set_option maxRecDepth 100000 in
/-- files that came in -/
theorem files_of {H : Type} {enc : TypeId × Value → H} {W : World} {base : Nat} {t e : TypeId} {f0 f1 : Field} {v : Value} {d : DataW H} {p : List MemPlace}
    (ht : Tryz.prog.underlying t = some (.slice e)) (he : Tryz.prog.underlying e = some (.struct #[f0, f1])) (ce : Tryz.prog.cellsOf e = 2)
    (o0 : f0.offset = 0 ∧ Tryz.prog.cellsOf f0.type = 1 ∧ Tryz.prog.underlying f0.type = some .string)
    (o1 : f1.offset = 1 ∧ Tryz.prog.cellsOf f1.type = 1 ∧ Tryz.prog.underlying f1.type = some .string)
    (hv : Value.okWide Tryz.prog W .any base t v) (h : DataW.Trod enc Tryz.prog W 0 (fun _ => true) true t v d p) :
    ∃ q, FlsI W v q ∧ ∀ y ∈ q, y.1.length + y.2.length ≤ Rows.uptoBulk d := by
  obtain ⟨a, len, cap, rfl⟩ := okWide_slice ht hv
  obtain ⟨fuel, hf⟩ := h
  rcases DataW.trod_slice ht hf with ⟨hcs, hx⟩ | ⟨ad, l, c, elems, rest, m, _, hcs, hx, _, hl, hm, hlen, hall, _, _⟩
  · simp [Value.cells] at hcs
    obtain ⟨rfl, rfl, rfl⟩ := hcs
    exact ⟨[], .inl ⟨none, 0, rfl, rfl⟩, by simp⟩
  · simp [Value.cells] at hcs
    obtain ⟨rfl, rfl, rfl⟩ := hcs
    simp only [Prod.mk.injEq] at hx
    obtain ⟨rfl, _⟩ := hx
    rw [ce] at hall
    have each : ∀ i, i < len → ∃ q : Bs × Bs, (∀ j, j < 2 → W.cell? ((ad.add (i * 2)).add j) = (fC1 q)[j]?) ∧ ∃ x, elems[i]? = some x ∧ q.1.length + q.2.length ≤ Rows.uptoBulk x.1 := by
      intro i hi
      have h1 := hall i hi
      rw [List.getElem?_eq_getElem (show i < elems.length by omega)] at h1
      rw [Option.bind_eq_some_iff] at h1
      obtain ⟨cs, h2, h3⟩ := h1
      obtain ⟨_, _, h4⟩ := World.cells?_some h2
      obtain ⟨q, rfl, hq⟩ := file_of he ce o0 o1 h3
      exact ⟨q, h4, _, List.getElem?_eq_getElem _, hq⟩
    obtain ⟨Q, hQ⟩ := Go.Deep.choose_lt each
    refine ⟨(List.range len).map Q, ?_, ?_⟩
    · by_cases h0 : len = 0
      · subst h0; exact .inl ⟨_, _, rfl, by simp⟩
      · obtain ⟨b, off, spot⟩ := ad
        have h1 := (hQ 0 (by omega)).1 0 (by omega)
        have h1' : W.cell? ((Addr.mk b off spot).add (0 * 2) |>.add 0) = some (.string (tx (Q 0).1)) := h1
        have hspot : spot = none := by simpa [Addr.add] using World.cell?_spot h1'
        subst hspot
        have hlt := World.block_lt_of_cell? W _ h1'
        have hbl : b < W.heap.size := by simpa [Addr.add_lit] using hlt
        refine .inr ⟨b, off, cap, by simp, hbl, fun j hj i hi => ?_⟩
        have hj' : j < len := by simpa using hj
        have h2 := (hQ j hj').1 i hi
        rw [Addr.add_lit, Addr.add_lit] at h2
        rw [h2]
        simp
    · intro a ha
      obtain ⟨i, hi, rfl⟩ := List.mem_map.1 ha
      obtain ⟨_, x, hx, hq⟩ := hQ i (List.mem_range.1 hi)
      have h5 := flz_mem (elems.map (·.1)) x.1 (List.mem_map.2 ⟨x, List.mem_of_getElem? hx, rfl⟩)
      simp only [Rows.uptoBulk]
      omega
end Go.Proofs.YtedogofeibdjiaaGreat.bulks
