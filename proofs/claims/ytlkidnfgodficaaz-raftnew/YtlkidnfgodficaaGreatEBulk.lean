/- What comes in: a slice of entries. -/
import Derived.Test.YtlkidnfgodficaaGreatIBulk
import Derived.Test.YtlkidnfgodficaaGreatJoined04
import Derived.Deep.Strs
namespace Go.Proofs.YtlkidnfgodficaaGreat.ibulk
open Go.ChangeShapes Go.WideShapes Go.ChangeAt Go.RowKit
set_option linter.unusedVariables false

instance : Inhabited En := ⟨⟨0, 0, ⟨#[]⟩⟩⟩
theorem wgt_allE {H : Type} {P : Program} {e : TypeId} : ∀ {ds : List (DataW H)} {d : DataW H}, d ∈ ds → ∀ n ∈ d.weights P e, n ∈ DataW.weightsAll P e ds
  | d0 :: r, d, hd, n, hn => by
    simp only [DataW.weightsAll, List.mem_append]
    rcases List.mem_cons.1 hd with rfl | h
    · exact .inl hn
    · exact .inr (wgt_allE h n hn)
  | [], _, hd, _, _ => by simp at hd
theorem wgt_sliceE {H : Type} {P : Program} {t e : TypeId} {elems spare : List (DataW H)} (hu : P.underlying t = some (.slice e)) {d : DataW H} (hd : d ∈ elems) {n : Nat} (hn : n ∈ d.weights P e) : n ∈ (DataW.slice elems spare).weights P t := by
  simp only [DataW.weights, hu, List.mem_cons, List.mem_append]
  exact .inr (.inl (wgt_allE hd n hn))
set_option maxRecDepth 100000 in
/-- one entry's cells -/
theorem ent_of {H : Type} {enc : TypeId × Value → H} {W : World} {base : Nat} {sp : Nat → Bool} {hd : Bool} {e : TypeId} {f0 f1 f2 : Field} {cs : List Value} {m : Nat} {x : DataW H × List MemPlace}
    (he : Tryz.prog.underlying e = some (.struct #[f0, f1, f2])) (ce : Tryz.prog.cellsOf e = 3)
    (o0 : f0.offset = 0 ∧ Tryz.prog.cellsOf f0.type = 1 ∧ Tryz.prog.underlying f0.type = some (.int .i64))
    (o1 : f1.offset = 1 ∧ Tryz.prog.cellsOf f1.type = 1 ∧ Tryz.prog.underlying f1.type = some (.int .i64))
    (o2 : f2.offset = 2 ∧ Tryz.prog.cellsOf f2.type = 1 ∧ Tryz.prog.underlying f2.type = some .string)
    (h : DataW.trod enc Tryz.prog W base sp hd m e cs = some x) :
    ∃ a : En, cs = enC a ∧ a.da.size ∈ x.1.weights Tryz.prog e := by
  obtain ⟨xs, n, _, rfl, hl, hlen, hf⟩ := DataW.trod_struct he h
  rw [ce] at hl
  match xs, hlen with
  | [y0, y1, y2], _ =>
  match cs, hl with
  | [c0, c1, c2], _ =>
  have g0 := hf 0 f0 rfl
  have g1 := hf 1 f1 rfl
  have g2 := hf 2 f2 rfl
  rw [o0.1, o0.2.1] at g0
  rw [o1.1, o1.2.1] at g1
  rw [o2.1, o2.2.1] at g2
  obtain ⟨a0, e0, _, w0⟩ := DataW.trod_int o0.2.2 (g0 : _ = some y0)
  obtain ⟨a1, e1, _, w1⟩ := DataW.trod_int o1.2.2 (g1 : _ = some y1)
  obtain ⟨s, e2, r2, _⟩ := DataW.trod_string o2.2.2 (g2 : _ = some y2)
  simp at e0 e1 e2
  subst e0 e1 e2
  refine ⟨⟨a0, a1, s⟩, rfl, ?_⟩
  subst r2
  simp only [DataW.weights, he, List.map_cons, List.map_nil, DataW.weightsEach, List.mem_append]
  exact .inr (.inr (.inl (by simp)))
set_option maxRecDepth 100000 in
/-- entries that came in -/
theorem ents_of {H : Type} {enc : TypeId × Value → H} {W : World} {base : Nat} {t e : TypeId} {f0 f1 f2 : Field} {v : Value} {d : DataW H} {p : List MemPlace}
    (ht : Tryz.prog.underlying t = some (.slice e)) (he : Tryz.prog.underlying e = some (.struct #[f0, f1, f2])) (ce : Tryz.prog.cellsOf e = 3) (hb : Tryz.prog.bytesOf e = 32)
    (o0 : f0.offset = 0 ∧ Tryz.prog.cellsOf f0.type = 1 ∧ Tryz.prog.underlying f0.type = some (.int .i64))
    (o1 : f1.offset = 1 ∧ Tryz.prog.cellsOf f1.type = 1 ∧ Tryz.prog.underlying f1.type = some (.int .i64))
    (o2 : f2.offset = 2 ∧ Tryz.prog.cellsOf f2.type = 1 ∧ Tryz.prog.underlying f2.type = some .string)
    (hv : Value.okWide Tryz.prog W .any base t v) (h : DataW.Trod enc Tryz.prog W 0 (fun _ => true) true t v d p) :
    ∃ l : List En, EntI W v l ∧ (∀ a ∈ l, a.da.size ∈ d.weights Tryz.prog t) ∧ (l.length = 0 ∨ ∃ n ∈ d.weights Tryz.prog t, l.length * 32 ≤ n) := by
  obtain ⟨a, len, cap, rfl⟩ := okWide_slice ht hv
  obtain ⟨fuel, hf⟩ := h
  rcases DataW.trod_slice ht hf with ⟨hcs, hx⟩ | ⟨ad, l, c, elems, rest, m, _, hcs, hx, _, hl, hm, hlen, hall, _, _⟩
  · simp [Value.cells] at hcs
    obtain ⟨rfl, rfl, rfl⟩ := hcs
    exact ⟨[], .inl ⟨none, 0, rfl, rfl⟩, by simp, .inl rfl⟩
  · simp [Value.cells] at hcs
    obtain ⟨rfl, rfl, rfl⟩ := hcs
    simp only [Prod.mk.injEq] at hx
    obtain ⟨rfl, _⟩ := hx
    rw [ce] at hall
    have each : ∀ i, i < len → ∃ q : En, (∀ j, j < 3 → W.cell? ((ad.add (i * 3)).add j) = (enC q)[j]?) ∧ ∃ x, elems[i]? = some x ∧ q.da.size ∈ x.1.weights Tryz.prog e := by
      intro i hi
      have h1 := hall i hi
      rw [List.getElem?_eq_getElem (show i < elems.length by omega)] at h1
      rw [Option.bind_eq_some_iff] at h1
      obtain ⟨cs, h2, h3⟩ := h1
      obtain ⟨_, _, h4⟩ := World.cells?_some h2
      obtain ⟨q, rfl, hq⟩ := ent_of he ce o0 o1 o2 h3
      exact ⟨q, h4, _, List.getElem?_eq_getElem _, hq⟩
    obtain ⟨Q, hQ⟩ := Go.Deep.choose_lt each
    refine ⟨(List.range len).map Q, ?_, ?_, .inr ⟨((elems.map (·.1)).length + (rest.map (·.1)).length) * Tryz.prog.bytesOf e, by simp [DataW.weights, ht], ?_⟩⟩
    · by_cases h0 : len = 0
      · subst h0; exact .inl ⟨_, _, rfl, by simp⟩
      · obtain ⟨b, off, spot⟩ := ad
        have h1 := (hQ 0 (by omega)).1 0 (by omega)
        have h1' : W.cell? ((Addr.mk b off spot).add (0 * 3) |>.add 0) = some (.int .i64 (Q 0).tm) := h1
        have hspot : spot = none := by simpa [Addr.add] using World.cell?_spot h1'
        subst hspot
        have hlt := World.block_lt_of_cell? W _ h1'
        have hbl : b < W.heap.size := by simpa [Addr.add_lit] using hlt
        refine .inr ⟨b, off, cap, by simp, hbl, fun j hj i hi => ?_⟩
        have hj' : j < len := by simpa using hj
        have h2 := (hQ j hj').1 i hi
        rw [Addr.add_lit, Addr.add_lit] at h2
        rw [h2]
        simp
    · intro a ha
      obtain ⟨i, hi, rfl⟩ := List.mem_map.1 ha
      obtain ⟨_, x, hx, hq⟩ := hQ i (List.mem_range.1 hi)
      exact wgt_sliceE ht (d := x.1) (List.mem_map.2 ⟨x, List.mem_of_getElem? hx, rfl⟩) hq
    · rw [hb]
      simp
      omega
theorem ents_le {H : Type} {ts : List TypeId} {ds : List (DataW H)} (h : (DataW.weightsEach Tryz.prog ts ds).all (· ≤ reachBytes) = true) {j : Nat} {t : TypeId} {d : DataW H} (ht : ts[j]? = some t) (hd : ds[j]? = some d) {n : Nat} (hn : n = 0 ∨ ∃ m ∈ d.weights Tryz.prog t, n * 32 ≤ m) : n ≤ 4398046511104 := by
  rcases hn with hn | ⟨m, hm, hn⟩
  · omega
  · have := wgt_le h ht hd hm
    have h2 : reachBytes < 2 ^ 47 := reachBytes_lt
    omega
end Go.Proofs.YtlkidnfgodficaaGreat.ibulk
