/- What comes in: a message. -/
import Derived.Test.YtlkidnfgodficaaGreatRows
import Derived.Test.YtlkidnfgodficaaGreatEBulk
import Derived.Test.YtlkidnfgodficaaGreatJoined09
import Derived.ProofKit
import Derived.OpenShut
import Derived.SliceStrings
import Derived.SizedLaws
import Derived.ChangeArms
import Derived.Deep.Strs
namespace Go.Proofs.YtlkidnfgodficaaGreat.ibulk
open Go.ChangeShapes Go.WideShapes Go.ChangeAt Go.RowKit
set_option linter.unusedVariables false

set_option maxRecDepth 100000 in
/-- entries in a cell -/
theorem ents_cell {H : Type} {enc : TypeId × Value → H} {W : World} {base : Nat} {sp : Nat → Bool} {hd : Bool} {t e : TypeId} {f0 f1 f2 : Field} {v : Value} {m : Nat} {x : DataW H × List MemPlace}
    (ht : Tryz.prog.underlying t = some (.slice e)) (he : Tryz.prog.underlying e = some (.struct #[f0, f1, f2])) (ce : Tryz.prog.cellsOf e = 3) (hb : Tryz.prog.bytesOf e = 32)
    (o0 : f0.offset = 0 ∧ Tryz.prog.cellsOf f0.type = 1 ∧ Tryz.prog.underlying f0.type = some (.int .i64))
    (o1 : f1.offset = 1 ∧ Tryz.prog.cellsOf f1.type = 1 ∧ Tryz.prog.underlying f1.type = some (.int .i64))
    (o2 : f2.offset = 2 ∧ Tryz.prog.cellsOf f2.type = 1 ∧ Tryz.prog.underlying f2.type = some .string)
    (h : DataW.trod enc Tryz.prog W base sp hd m t [v] = some x) :
    ∃ l : List En, EntI W v l ∧ (∀ a ∈ l, a.da.size ∈ x.1.weights Tryz.prog t) ∧ (l.length = 0 ∨ ∃ n ∈ x.1.weights Tryz.prog t, l.length * 32 ≤ n) := by
  rcases DataW.trod_slice ht h with ⟨hcs, hx⟩ | ⟨ad, len, cap, elems, rest, m, _, hcs, hx, _, hl, hm, hlen, hall, _, _⟩
  · simp at hcs
    subst hcs
    exact ⟨[], .inl ⟨none, 0, rfl, rfl⟩, by simp, .inl rfl⟩
  · simp at hcs
    subst hcs
    subst hx
    rw [ce] at hall
    have each : ∀ i, i < len → ∃ q : En, (∀ j, j < 3 → W.cell? ((ad.add (i * 3)).add j) = (enC q)[j]?) ∧ ∃ x, elems[i]? = some x ∧ q.da.size ∈ x.1.weights Tryz.prog e := by
      intro i hi
      have h1 := hall i hi
      rw [List.getElem?_eq_getElem (show i < elems.length by omega)] at h1
      rw [Option.bind_eq_some_iff] at h1
      obtain ⟨cs, h2, h3⟩ := h1
      obtain ⟨_, _, h4⟩ := World.cells?_some h2
      obtain ⟨q, rfl, hq⟩ := ent_of he ce o0 o1 o2 h3
      exact ⟨q, h4, _, List.getElem?_eq_getElem _, hq⟩
    obtain ⟨Q, hQ⟩ := Go.Deep.choose_lt each
    refine ⟨(List.range len).map Q, ?_, ?_, .inr ⟨((elems.map (·.1)).length + (rest.map (·.1)).length) * Tryz.prog.bytesOf e, by simp [DataW.weights, ht], ?_⟩⟩
    · by_cases h0 : len = 0
      · subst h0; exact .inl ⟨_, _, rfl, by simp⟩
      · obtain ⟨b, off, spot⟩ := ad
        have h1 := (hQ 0 (by omega)).1 0 (by omega)
        have h1' : W.cell? ((Addr.mk b off spot).add (0 * 3) |>.add 0) = some (.int .i64 (Q 0).tm) := h1
        have hspot : spot = none := by simpa [Addr.add] using World.cell?_spot h1'
        subst hspot
        have hlt := World.block_lt_of_cell? W _ h1'
        have hbl : b < W.heap.size := by simpa [Addr.add_lit] using hlt
        refine .inr ⟨b, off, cap, by simp, hbl, fun j hj i hi => ?_⟩
        have hj' : j < len := by simpa using hj
        have h2 := (hQ j hj').1 i hi
        rw [Addr.add_lit, Addr.add_lit] at h2
        rw [h2]
        simp
    · intro a ha
      obtain ⟨i, hi, rfl⟩ := List.mem_map.1 ha
      obtain ⟨_, x, hx, hq⟩ := hQ i (List.mem_range.1 hi)
      exact wgt_sliceE ht (d := x.1) (List.mem_map.2 ⟨x, List.mem_of_getElem? hx, rfl⟩) hq
    · rw [hb]
      simp
      omega
/-- what bounds a message -/
structure SzGw (ws : List Nat) (a : Ms) : Prop where
  da : a.da.size ∈ ws
  es : ∀ p ∈ a.es, p.da.size ∈ ws
  el : a.es.length = 0 ∨ ∃ n ∈ ws, a.es.length * 32 ≤ n
structure SzGb (a : Ms) : Prop where
  da : a.da.size ≤ 140737488355328
  es : ∀ p ∈ a.es, p.da.size ≤ 140737488355328
  el : a.es.length ≤ 4398046511104
theorem SzGw.bd {ws : List Nat} {a : Ms} (h : SzGw ws a) (hb : ∀ n ∈ ws, n ≤ reachBytes) : SzGb a := by
  have hr : reachBytes < 2 ^ 47 := reachBytes_lt
  refine ⟨by have := hb _ h.da; omega, fun p hp => by have := hb _ (h.es p hp); omega, ?_⟩
  rcases h.el with h3 | ⟨n, hn, h3⟩
  · omega
  · have := hb _ hn; omega
set_option maxRecDepth 100000 in
/-- a message that came in -/
theorem ms_of {H : Type} {enc : TypeId × Value → H} {W : World} {base : Nat} {e ee : TypeId} {f0 f1 f2 f3 f4 f5 f6 f7 f8 f9 f10 f11 g0 g1 g2 : Field} {v : Value} {d : DataW H} {p : List MemPlace}
    (he : Tryz.prog.underlying e = some (.struct #[f0, f1, f2, f3, f4, f5, f6, f7, f8, f9, f10, f11])) (ce : Tryz.prog.cellsOf e = 12)
    (o0 : f0.offset = 0 ∧ Tryz.prog.cellsOf f0.type = 1 ∧ Tryz.prog.underlying f0.type = some (.int .i64))
    (o1 : f1.offset = 1 ∧ Tryz.prog.cellsOf f1.type = 1 ∧ Tryz.prog.underlying f1.type = some (.int .i64))
    (o2 : f2.offset = 2 ∧ Tryz.prog.cellsOf f2.type = 1 ∧ Tryz.prog.underlying f2.type = some (.int .i64))
    (o3 : f3.offset = 3 ∧ Tryz.prog.cellsOf f3.type = 1 ∧ Tryz.prog.underlying f3.type = some (.int .i64))
    (o4 : f4.offset = 4 ∧ Tryz.prog.cellsOf f4.type = 1 ∧ Tryz.prog.underlying f4.type = some (.int .i64))
    (o5 : f5.offset = 5 ∧ Tryz.prog.cellsOf f5.type = 1 ∧ Tryz.prog.underlying f5.type = some (.int .i64))
    (o6 : f6.offset = 6 ∧ Tryz.prog.cellsOf f6.type = 1 ∧ Tryz.prog.underlying f6.type = some (.int .i64))
    (o7 : f7.offset = 7 ∧ Tryz.prog.cellsOf f7.type = 1 ∧ Tryz.prog.underlying f7.type = some (.int .i64))
    (o8 : f8.offset = 8 ∧ Tryz.prog.cellsOf f8.type = 1 ∧ Tryz.prog.underlying f8.type = some (.int .i64))
    (o9 : f9.offset = 9 ∧ Tryz.prog.cellsOf f9.type = 1 ∧ Tryz.prog.underlying f9.type = some .bool)
    (o10 : f10.offset = 10 ∧ Tryz.prog.cellsOf f10.type = 1 ∧ Tryz.prog.underlying f10.type = some (.slice ee))
    (o11 : f11.offset = 11 ∧ Tryz.prog.cellsOf f11.type = 1 ∧ Tryz.prog.underlying f11.type = some .string)
    (hee : Tryz.prog.underlying ee = some (.struct #[g0, g1, g2])) (cee : Tryz.prog.cellsOf ee = 3) (hbe : Tryz.prog.bytesOf ee = 32)
    (q0 : g0.offset = 0 ∧ Tryz.prog.cellsOf g0.type = 1 ∧ Tryz.prog.underlying g0.type = some (.int .i64))
    (q1 : g1.offset = 1 ∧ Tryz.prog.cellsOf g1.type = 1 ∧ Tryz.prog.underlying g1.type = some (.int .i64))
    (q2 : g2.offset = 2 ∧ Tryz.prog.cellsOf g2.type = 1 ∧ Tryz.prog.underlying g2.type = some .string)
    (hv : Value.okWide Tryz.prog W .any base e v) (h : DataW.Trod enc Tryz.prog W 0 (fun _ => true) true e v d p) :
    ∃ (ev : Value) (a : Ms), v = msV ev a ∧ EntI W ev a.es ∧ SzGw (d.weights Tryz.prog e) a := by
  obtain ⟨cs0, rfl, hsz⟩ := okWide_struct he hv
  obtain ⟨fuel, hf0⟩ := h
  obtain ⟨xs, n, _, hx, hl, hlen, hf⟩ := DataW.trod_struct he hf0
  simp only [Prod.mk.injEq] at hx
  obtain ⟨rfl, -⟩ := hx
  have hcs : (Value.agg cs0).cells.toList = cs0.toList := by simp [Value.cells]
  rw [hcs] at hl hf
  rw [ce] at hl
  match xs, hlen with
  | [y0, y1, y2, y3, y4, y5, y6, y7, y8, y9, y10, y11], _ =>
  obtain ⟨cs⟩ := cs0
  simp only at hl hf
  match cs, hl with
  | [c0, c1, c2, c3, c4, c5, c6, c7, c8, c9, c10, c11], _ =>
  have t0 := hf 0 f0 rfl
  rw [o0.1, o0.2.1] at t0
  have t1 := hf 1 f1 rfl
  rw [o1.1, o1.2.1] at t1
  have t2 := hf 2 f2 rfl
  rw [o2.1, o2.2.1] at t2
  have t3 := hf 3 f3 rfl
  rw [o3.1, o3.2.1] at t3
  have t4 := hf 4 f4 rfl
  rw [o4.1, o4.2.1] at t4
  have t5 := hf 5 f5 rfl
  rw [o5.1, o5.2.1] at t5
  have t6 := hf 6 f6 rfl
  rw [o6.1, o6.2.1] at t6
  have t7 := hf 7 f7 rfl
  rw [o7.1, o7.2.1] at t7
  have t8 := hf 8 f8 rfl
  rw [o8.1, o8.2.1] at t8
  have t9 := hf 9 f9 rfl
  rw [o9.1, o9.2.1] at t9
  have t10 := hf 10 f10 rfl
  rw [o10.1, o10.2.1] at t10
  have t11 := hf 11 f11 rfl
  rw [o11.1, o11.2.1] at t11
  obtain ⟨a0, e0, z0, w0⟩ := DataW.trod_int o0.2.2 (t0 : _ = some y0)
  obtain ⟨a1, e1, z1, w1⟩ := DataW.trod_int o1.2.2 (t1 : _ = some y1)
  obtain ⟨a2, e2, z2, w2⟩ := DataW.trod_int o2.2.2 (t2 : _ = some y2)
  obtain ⟨a3, e3, z3, w3⟩ := DataW.trod_int o3.2.2 (t3 : _ = some y3)
  obtain ⟨a4, e4, z4, w4⟩ := DataW.trod_int o4.2.2 (t4 : _ = some y4)
  obtain ⟨a5, e5, z5, w5⟩ := DataW.trod_int o5.2.2 (t5 : _ = some y5)
  obtain ⟨a6, e6, z6, w6⟩ := DataW.trod_int o6.2.2 (t6 : _ = some y6)
  obtain ⟨a7, e7, z7, w7⟩ := DataW.trod_int o7.2.2 (t7 : _ = some y7)
  obtain ⟨a8, e8, z8, w8⟩ := DataW.trod_int o8.2.2 (t8 : _ = some y8)
  obtain ⟨a9, e9, z9⟩ := DataW.trod_bool o9.2.2 (t9 : _ = some y9)
  obtain ⟨le, hle, hw, hn⟩ := ents_cell (v := c10) (x := y10) o10.2.2 hee cee hbe q0 q1 q2 t10
  obtain ⟨a11, e11, z11, _⟩ := DataW.trod_string o11.2.2 (t11 : _ = some y11)
  simp at e0 e1 e2 e3 e4 e5 e6 e7 e8 e9 e11
  subst e0 e1 e2 e3 e4 e5 e6 e7 e8 e9 e11
  refine ⟨c10, ⟨a0, a1, a2, a3, a4, a5, a6, a7, a8, a9, le, a11⟩, rfl, hle, ?_⟩
  subst z11
  have sub10 : ∀ n ∈ y10.1.weights Tryz.prog f10.type, n ∈ (DataW.agg [y0.1, y1.1, y2.1, y3.1, y4.1, y5.1, y6.1, y7.1, y8.1, y9.1, y10.1, (DataW.lit (.string a11.data.toList))] : DataW H).weights Tryz.prog e := fun n hn => by
    simp only [DataW.weights, he, List.map_cons, List.map_nil, DataW.weightsEach, List.mem_append]
    simp [hn]
  refine ⟨?_, fun p hp => sub10 _ (hw p hp), hn.imp id fun ⟨n, hn, h⟩ => ⟨n, sub10 _ hn, h⟩⟩
  simp only [DataW.weights, he, List.map_cons, List.map_nil, DataW.weightsEach, List.mem_append]
  simp
end Go.Proofs.YtlkidnfgodficaaGreat.ibulk
