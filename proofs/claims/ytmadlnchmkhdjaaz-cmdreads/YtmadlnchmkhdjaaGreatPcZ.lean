/- What comes in: pieces. -/
import Derived.Test.YtmadlnchmkhdjaaGreatRows
import Derived.Test.YtmadlnchmkhdjaaGreatJoined03
import Derived.ProofKit
import Derived.OpenShut
import Derived.SliceStrings
import Derived.SizedLaws
import Derived.Deep.Strs
namespace Go.Proofs.YtmadlnchmkhdjaaGreat.ibulk
open Go.ChangeShapes Go.WideShapes Go.ChangeAt Go.RowKit
set_option linter.unusedVariables false

theorem wgt_allV {H : Type} {P : Program} {e : TypeId} : ∀ {ds : List (DataW H)} {d : DataW H}, d ∈ ds → ∀ n ∈ d.weights P e, n ∈ DataW.weightsAll P e ds
  | d0 :: r, d, hd, n, hn => by
    simp only [DataW.weightsAll, List.mem_append]
    rcases List.mem_cons.1 hd with rfl | h
    · exact .inl hn
    · exact .inr (wgt_allV h n hn)
  | [], _, hd, _, _ => by simp at hd
theorem wgt_sliceV {H : Type} {P : Program} {t e : TypeId} {elems spare : List (DataW H)} (hu : P.underlying t = some (.slice e)) {d : DataW H} (hd : d ∈ elems) {n : Nat} (hn : n ∈ d.weights P e) : n ∈ (DataW.slice elems spare).weights P t := by
  simp only [DataW.weights, hu, List.mem_cons, List.mem_append]
  exact .inr (.inl (wgt_allV hd n hn))
theorem wgt_leV {H : Type} {P : Program} {ts : List TypeId} {ds : List (DataW H)} (h : (DataW.weightsEach P ts ds).all (· ≤ reachBytes) = true) {j : Nat} {t : TypeId} {d : DataW H} (ht : ts[j]? = some t) (hd : ds[j]? = some d) {n : Nat} (hn : n ∈ d.weights P t) : n ≤ reachBytes := by
  have := List.all_eq_true.1 h _ (DataW.weights_mem_each ht hd n hn)
  simpa using this
instance : Inhabited Pc := ⟨⟨⟨#[]⟩, 0⟩⟩
set_option maxRecDepth 100000 in
/-- one piece's cells -/
theorem pc_of {H : Type} {enc : TypeId × Value → H} {W : World} {base : Nat} {sp : Nat → Bool} {hd : Bool} {e : TypeId} {f0 f1 : Field} {cs : List Value} {m : Nat} {x : DataW H × List MemPlace}
    (he : Tryz.prog.underlying e = some (.struct #[f0, f1])) (ce : Tryz.prog.cellsOf e = 2)
    (o0 : f0.offset = 0 ∧ Tryz.prog.cellsOf f0.type = 1 ∧ Tryz.prog.underlying f0.type = some .string)
    (o1 : f1.offset = 1 ∧ Tryz.prog.cellsOf f1.type = 1 ∧ Tryz.prog.underlying f1.type = some (.int .i64))
    (h : DataW.trod enc Tryz.prog W base sp hd m e cs = some x) :
    ∃ a : Pc, cs = pcC a ∧ a.id.size ∈ x.1.weights Tryz.prog e := by
  obtain ⟨xs, n, _, rfl, hl, hlen, hf⟩ := DataW.trod_struct he h
  rw [ce] at hl
  match xs, hlen with
  | [y0, y1], _ =>
  match cs, hl with
  | [c0, c1], _ =>
  have g0 := hf 0 f0 rfl
  have g1 := hf 1 f1 rfl
  rw [o0.1, o0.2.1] at g0
  rw [o1.1, o1.2.1] at g1
  obtain ⟨s, e0, r0, _⟩ := DataW.trod_string o0.2.2 (g0 : _ = some y0)
  obtain ⟨a1, e1, _, w1⟩ := DataW.trod_int o1.2.2 (g1 : _ = some y1)
  simp at e0 e1
  subst e0 e1
  refine ⟨⟨s, a1⟩, rfl, ?_⟩
  subst r0
  simp only [DataW.weights, he, List.map_cons, List.map_nil, DataW.weightsEach, List.mem_append]
  exact .inl (by simp)
set_option maxRecDepth 100000 in
/-- pieces in a cell -/
theorem pcs_of {H : Type} {enc : TypeId × Value → H} {W : World} {base : Nat} {sp : Nat → Bool} {hd : Bool} {t e : TypeId} {f0 f1 : Field} {v : Value} {m : Nat} {x : DataW H × List MemPlace}
    (ht : Tryz.prog.underlying t = some (.slice e)) (he : Tryz.prog.underlying e = some (.struct #[f0, f1])) (ce : Tryz.prog.cellsOf e = 2) (hb : Tryz.prog.bytesOf e = 24)
    (o0 : f0.offset = 0 ∧ Tryz.prog.cellsOf f0.type = 1 ∧ Tryz.prog.underlying f0.type = some .string)
    (o1 : f1.offset = 1 ∧ Tryz.prog.cellsOf f1.type = 1 ∧ Tryz.prog.underlying f1.type = some (.int .i64))
    (h : DataW.trod enc Tryz.prog W base sp hd m t [v] = some x) :
    ∃ l : List Pc, PcI W v l ∧ (∀ p ∈ l, p.id.size ∈ x.1.weights Tryz.prog t) ∧ (l.length = 0 ∨ ∃ n ∈ x.1.weights Tryz.prog t, l.length * 24 ≤ n) := by
  rcases DataW.trod_slice ht h with ⟨hcs, hx⟩ | ⟨ad, len, cap, elems, rest, m, _, hcs, hx, _, hl, hm, hlen, hall, _, _⟩
  · simp at hcs
    subst hcs
    exact ⟨[], .inl ⟨none, 0, rfl, rfl, rfl⟩, by simp, .inl rfl⟩
  · simp at hcs
    subst hcs
    subst hx
    rw [ce] at hall
    have each : ∀ i, i < len → ∃ q : Pc, (∀ j, j < 2 → W.cell? ((ad.add (i * 2)).add j) = (pcC q)[j]?) ∧ ∃ x, elems[i]? = some x ∧ q.id.size ∈ x.1.weights Tryz.prog e := by
      intro i hi
      have h1 := hall i hi
      rw [List.getElem?_eq_getElem (show i < elems.length by omega)] at h1
      rw [Option.bind_eq_some_iff] at h1
      obtain ⟨cs, h2, h3⟩ := h1
      obtain ⟨_, _, h4⟩ := World.cells?_some h2
      obtain ⟨q, rfl, hq⟩ := pc_of he ce o0 o1 h3
      exact ⟨q, h4, _, List.getElem?_eq_getElem _, hq⟩
    obtain ⟨Q, hQ⟩ := Go.Deep.choose_lt each
    have hml : ((List.range len).map Q).length = len := by simp
    refine ⟨(List.range len).map Q, ?_, ?_, .inr ⟨((elems.map (·.1)).length + (rest.map (·.1)).length) * Tryz.prog.bytesOf e, by simp [DataW.weights, ht], ?_⟩⟩
    · by_cases h0 : len = 0
      · subst h0; exact .inl ⟨_, _, rfl, by simp, by simp [pcsC]⟩
      · obtain ⟨b, off, spot⟩ := ad
        have h1 := (hQ 0 (by omega)).1 0 (by omega)
        have h1' : W.cell? ((Addr.mk b off spot).add (0 * 2) |>.add 0) = some (.string (Q 0).id) := h1
        have hspot : spot = none := by simpa [Addr.add] using World.cell?_spot h1'
        subst hspot
        have hlt := World.block_lt_of_cell? W _ h1'
        have hbl : b < W.heap.size := by simpa [Addr.add_lit] using hlt
        refine .inr ⟨b, off, cap, by rw [hml], by rw [hml]; exact hl, hbl, fun j u hu => ?_⟩
        have hj : j < len * 2 := by
          have := (List.getElem?_eq_some_iff.1 hu).1
          rw [pcsC_len, hml] at this
          exact this
        have hk : j / 2 < len := by omega
        have hg := pcsC_get ((List.range len).map Q) (j / 2) (by rw [hml]; exact hk) (j % 2) (by omega)
        rw [show j / 2 * 2 + j % 2 = j by omega, hu] at hg
        have h2 := (hQ (j / 2) hk).1 (j % 2) (by omega)
        rw [Addr.add_lit, Addr.add_lit] at h2
        rw [show off + j / 2 * 2 + j % 2 = off + j by omega] at h2
        rw [h2, hg]
        simp
    · intro a ha
      obtain ⟨i, hi, rfl⟩ := List.mem_map.1 ha
      obtain ⟨_, x, hx, hq⟩ := hQ i (List.mem_range.1 hi)
      exact wgt_sliceV ht (d := x.1) (List.mem_map.2 ⟨x, List.mem_of_getElem? hx, rfl⟩) hq
    · rw [hb]
      simp
      omega
end Go.Proofs.YtmadlnchmkhdjaaGreat.ibulk
