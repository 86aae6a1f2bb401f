/- Acts on a net that came in. -/
import Derived.Test.YtfcchmjofejkhaaWgtB
import Derived.Test.YtfcchmjofejkhaaWNPlays
import Derived.Deep.Strs
namespace Go.Proofs.Ytfcchmjofejkhaa.wgts
open Go.ChangeShapes Go.WideShapes Go.ChangeAt Go.RowKit
set_option linter.unusedVariables false

instance : Inhabited A8 := ⟨⟨0, pk0, 0, 0⟩⟩
set_option maxRecDepth 100000 in
/-- one act's cells -/
theorem act8_of {H : Type} {enc : TypeId × Value → H} {W : World} {base : Nat} {sp : Nat → Bool} {hd : Bool} {e : TypeId} {f0 f1 f2 f3 p0 p1 p2 : Field} {cs : List Value} {m : Nat} {x : DataW H × List MemPlace}
    (he : Try.prog.underlying e = some (.struct #[f0, f1, f2, f3])) (ce : Try.prog.cellsOf e = 6)
    (o0 : f0.offset = 0 ∧ Try.prog.cellsOf f0.type = 1 ∧ Try.prog.underlying f0.type = some (.int .i64))
    (o1 : f1.offset = 1 ∧ Try.prog.cellsOf f1.type = 3 ∧ Try.prog.underlying f1.type = some (.struct #[p0, p1, p2]))
    (o2 : f2.offset = 4 ∧ Try.prog.cellsOf f2.type = 1 ∧ Try.prog.underlying f2.type = some (.int .i64))
    (o3 : f3.offset = 5 ∧ Try.prog.cellsOf f3.type = 1 ∧ Try.prog.underlying f3.type = some (.int .i64))
    (q0 : p0.offset = 0 ∧ Try.prog.cellsOf p0.type = 1 ∧ Try.prog.underlying p0.type = some (.int .i64))
    (q1 : p1.offset = 1 ∧ Try.prog.cellsOf p1.type = 1 ∧ Try.prog.underlying p1.type = some (.int .i64))
    (q2 : p2.offset = 2 ∧ Try.prog.cellsOf p2.type = 1 ∧ Try.prog.underlying p2.type = some .string)
    (h : DataW.trod enc Try.prog W base sp hd m e cs = some x) :
    ∃ a : A8, cs = a8C a ∧ a.p.s.size ∈ x.1.weights Try.prog e := by
  obtain ⟨xs, n, _, rfl, hl, hlen, hf⟩ := DataW.trod_struct he h
  rw [ce] at hl
  match xs, hlen with
  | [y0, y1, y2, y3], _ =>
  match cs, hl with
  | [c0, c1, c2, c3, c4, c5], _ =>
  have g0 := hf 0 f0 rfl
  have g1 := hf 1 f1 rfl
  have g2 := hf 2 f2 rfl
  have g3 := hf 3 f3 rfl
  rw [o0.1, o0.2.1] at g0
  rw [o1.1, o1.2.1] at g1
  rw [o2.1, o2.2.1] at g2
  rw [o3.1, o3.2.1] at g3
  obtain ⟨k, e0, _, w0⟩ := DataW.trod_int o0.2.2 (g0 : _ = some y0)
  obtain ⟨z0, z1, z2, n5, hz, _, t0, t1, t2⟩ := Go.Deep.trod_struct3 o1.2.2 (g1 : _ = some y1)
  obtain ⟨n4, e4, _, w4⟩ := DataW.trod_int o2.2.2 (g2 : _ = some y2)
  obtain ⟨n6, e6, _, w6⟩ := DataW.trod_int o3.2.2 (g3 : _ = some y3)
  rw [q0.1, q0.2.1] at t0
  rw [q1.1, q1.2.1] at t1
  rw [q2.1, q2.2.1] at t2
  obtain ⟨a5, e5, _, w5⟩ := DataW.trod_int q0.2.2 t0
  obtain ⟨a7, e7, _, w7⟩ := DataW.trod_int q1.2.2 t1
  obtain ⟨s, e8, r8, _⟩ := DataW.trod_string q2.2.2 t2
  simp at e0 e4 e5 e6 e7 e8
  subst e0 e4 e5 e6 e7 e8
  refine ⟨⟨k, ⟨a5, a7, s⟩, n4, n6⟩, rfl, ?_⟩
  have he8 : s.data.toList.length = s.size := by simp
  simp only [List.map_cons, List.map_nil, DataW.weights, he, List.map_cons, List.map_nil, DataW.weightsEach, List.mem_append]
  refine .inr (.inl ?_)
  subst r8
  rw [hz]
  simp only [DataW.weights, o1.2.2, List.map_cons, List.map_nil, DataW.weightsEach, List.mem_append]
  exact .inr (.inr (.inl (by simp)))
set_option maxRecDepth 100000 in
/-- acts that came in -/
theorem acts8_of {H : Type} {enc : TypeId × Value → H} {W : World} {base : Nat} {t e : TypeId} {f0 f1 f2 f3 p0 p1 p2 : Field} {v : Value} {d : DataW H} {p : List MemPlace}
    (ht : Try.prog.underlying t = some (.slice e)) (he : Try.prog.underlying e = some (.struct #[f0, f1, f2, f3])) (ce : Try.prog.cellsOf e = 6)
    (o0 : f0.offset = 0 ∧ Try.prog.cellsOf f0.type = 1 ∧ Try.prog.underlying f0.type = some (.int .i64))
    (o1 : f1.offset = 1 ∧ Try.prog.cellsOf f1.type = 3 ∧ Try.prog.underlying f1.type = some (.struct #[p0, p1, p2]))
    (o2 : f2.offset = 4 ∧ Try.prog.cellsOf f2.type = 1 ∧ Try.prog.underlying f2.type = some (.int .i64))
    (o3 : f3.offset = 5 ∧ Try.prog.cellsOf f3.type = 1 ∧ Try.prog.underlying f3.type = some (.int .i64))
    (q0 : p0.offset = 0 ∧ Try.prog.cellsOf p0.type = 1 ∧ Try.prog.underlying p0.type = some (.int .i64))
    (q1 : p1.offset = 1 ∧ Try.prog.cellsOf p1.type = 1 ∧ Try.prog.underlying p1.type = some (.int .i64))
    (q2 : p2.offset = 2 ∧ Try.prog.cellsOf p2.type = 1 ∧ Try.prog.underlying p2.type = some .string)
    (hv : Value.okWide Try.prog W .any base t v) (h : DataW.Trod enc Try.prog W 0 (fun _ => true) true t v d p) :
    ∃ l : List A8, ActsI W v l ∧ (∀ a ∈ l, a.p.s.size ∈ d.weights Try.prog t) ∧ l.length ≤ 9223372036854775807 := by
  obtain ⟨a, len, cap, rfl⟩ := okWide_slice ht hv
  obtain ⟨fuel, hf⟩ := h
  rcases DataW.trod_slice ht hf with ⟨hcs, hx⟩ | ⟨ad, l, c, elems, rest, m, _, hcs, hx, _, hl, hm, hlen, hall, _, _⟩
  · simp [Value.cells] at hcs
    obtain ⟨rfl, rfl, rfl⟩ := hcs
    exact ⟨[], .inl ⟨none, 0, rfl, rfl⟩, by simp, by simp⟩
  · simp [Value.cells] at hcs
    obtain ⟨rfl, rfl, rfl⟩ := hcs
    simp only [Prod.mk.injEq] at hx
    obtain ⟨rfl, _⟩ := hx
    rw [ce] at hall
    have each : ∀ i, i < len → ∃ q : A8, (∀ j, j < 6 → W.cell? ((ad.add (i * 6)).add j) = (a8C q)[j]?) ∧ ∃ x, elems[i]? = some x ∧ q.p.s.size ∈ x.1.weights Try.prog e := by
      intro i hi
      have h1 := hall i hi
      rw [List.getElem?_eq_getElem (show i < elems.length by omega)] at h1
      rw [Option.bind_eq_some_iff] at h1
      obtain ⟨cs, h2, h3⟩ := h1
      obtain ⟨_, _, h4⟩ := World.cells?_some h2
      obtain ⟨q, rfl, hq⟩ := act8_of he ce o0 o1 o2 o3 q0 q1 q2 h3
      exact ⟨q, h4, _, List.getElem?_eq_getElem _, hq⟩
    obtain ⟨Q, hQ⟩ := Go.Deep.choose_lt each
    refine ⟨(List.range len).map Q, ?_, ?_, by unfold maxLen at hm; simp; omega⟩
    · by_cases h0 : len = 0
      · subst h0; exact .inl ⟨_, _, rfl, by simp⟩
      · obtain ⟨b, off, spot⟩ := ad
        have h1 := (hQ 0 (by omega)).1 0 (by omega)
        have h1' : W.cell? ((Addr.mk b off spot).add (0 * 6) |>.add 0) = some (.int .i64 (Q 0).kind) := h1
        have hspot : spot = none := by simpa [Addr.add] using World.cell?_spot h1'
        subst hspot
        have hlt := World.block_lt_of_cell? W _ h1'
        have hbl : b < W.heap.size := by simpa [Addr.add_lit] using hlt
        refine .inr ⟨b, off, cap, by simp, hbl, fun j hj i hi => ?_⟩
        have hj' : j < len := by simpa using hj
        have h2 := (hQ j hj').1 i hi
        rw [Addr.add_lit, Addr.add_lit] at h2
        rw [h2]
        simp
    · intro a ha
      obtain ⟨i, hi, rfl⟩ := List.mem_map.1 ha
      obtain ⟨_, x, hx, hq⟩ := hQ i (List.mem_range.1 hi)
      exact wgt_slice ht (d := x.1) (List.mem_map.2 ⟨x, List.mem_of_getElem? hx, rfl⟩) hq
end Go.Proofs.Ytfcchmjofejkhaa.wgts
