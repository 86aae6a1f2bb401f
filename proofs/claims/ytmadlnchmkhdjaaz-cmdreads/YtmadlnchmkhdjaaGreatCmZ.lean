/- What comes in: commands. -/
import Derived.Test.YtmadlnchmkhdjaaGreatRows
import Derived.Test.YtmadlnchmkhdjaaGreatPcZ
import Derived.Test.YtmadlnchmkhdjaaGreatJoined10
import Derived.ProofKit
import Derived.OpenShut
import Derived.SliceStrings
import Derived.SizedLaws
import Derived.Deep.Strs
namespace Go.Proofs.YtmadlnchmkhdjaaGreat.ibulk
open Go.ChangeShapes Go.WideShapes Go.ChangeAt Go.RowKit
set_option linter.unusedVariables false

instance : Inhabited Pk := ⟨⟨0, ⟨#[]⟩⟩⟩
set_option maxRecDepth 100000 in
/-- one pick's cells -/
theorem kz_of {H : Type} {enc : TypeId × Value → H} {W : World} {base : Nat} {sp : Nat → Bool} {hd : Bool} {e : TypeId} {f0 f1 : Field} {cs : List Value} {m : Nat} {x : DataW H × List MemPlace}
    (he : Tryz.prog.underlying e = some (.struct #[f0, f1])) (ce : Tryz.prog.cellsOf e = 2)
    (o0 : f0.offset = 0 ∧ Tryz.prog.cellsOf f0.type = 1 ∧ Tryz.prog.underlying f0.type = some (.int .i64))
    (o1 : f1.offset = 1 ∧ Tryz.prog.cellsOf f1.type = 1 ∧ Tryz.prog.underlying f1.type = some .string)
    (h : DataW.trod enc Tryz.prog W base sp hd m e cs = some x) :
    ∃ a : Pk, cs = pkC a ∧ a.su.size ∈ x.1.weights Tryz.prog e := by
  obtain ⟨xs, n, _, rfl, hl, hlen, hf⟩ := DataW.trod_struct he h
  rw [ce] at hl
  match xs, hlen with
  | [y0, y1], _ =>
  match cs, hl with
  | [c0, c1], _ =>
  have g0 := hf 0 f0 rfl
  have g1 := hf 1 f1 rfl
  rw [o0.1, o0.2.1] at g0
  rw [o1.1, o1.2.1] at g1
  obtain ⟨a0, e0, _, w0⟩ := DataW.trod_int o0.2.2 (g0 : _ = some y0)
  obtain ⟨s1, e1, r1, _⟩ := DataW.trod_string o1.2.2 (g1 : _ = some y1)
  simp at e0 e1
  subst e0 e1
  refine ⟨⟨a0, s1⟩, rfl, ?_⟩
  subst r1
  simp only [DataW.weights, he, List.map_cons, List.map_nil, DataW.weightsEach, List.mem_append]
  simp
set_option maxRecDepth 100000 in
/-- picks in a cell -/
theorem kzs_of {H : Type} {enc : TypeId × Value → H} {W : World} {base : Nat} {sp : Nat → Bool} {hd : Bool} {t e : TypeId} {f0 f1 : Field} {v : Value} {m : Nat} {x : DataW H × List MemPlace}
    (ht : Tryz.prog.underlying t = some (.slice e)) (he : Tryz.prog.underlying e = some (.struct #[f0, f1])) (ce : Tryz.prog.cellsOf e = 2) (hb : Tryz.prog.bytesOf e = 24)
    (o0 : f0.offset = 0 ∧ Tryz.prog.cellsOf f0.type = 1 ∧ Tryz.prog.underlying f0.type = some (.int .i64))
    (o1 : f1.offset = 1 ∧ Tryz.prog.cellsOf f1.type = 1 ∧ Tryz.prog.underlying f1.type = some .string)
    (h : DataW.trod enc Tryz.prog W base sp hd m t [v] = some x) :
    ∃ l : List Pk, PkI W v l ∧ (∀ p ∈ l, p.su.size ∈ x.1.weights Tryz.prog t) ∧ (l.length = 0 ∨ ∃ n ∈ x.1.weights Tryz.prog t, l.length * 24 ≤ n) := by
  rcases DataW.trod_slice ht h with ⟨hcs, hx⟩ | ⟨ad, len, cap, elems, rest, m, _, hcs, hx, _, hl, hm, hlen, hall, _, _⟩
  · simp at hcs
    subst hcs
    exact ⟨[], .inl ⟨none, 0, rfl, rfl, rfl⟩, by simp, .inl rfl⟩
  · simp at hcs
    subst hcs
    subst hx
    rw [ce] at hall
    have each : ∀ i, i < len → ∃ q : Pk, (∀ j, j < 2 → W.cell? ((ad.add (i * 2)).add j) = (pkC q)[j]?) ∧ ∃ x, elems[i]? = some x ∧ q.su.size ∈ x.1.weights Tryz.prog e := by
      intro i hi
      have h1 := hall i hi
      rw [List.getElem?_eq_getElem (show i < elems.length by omega)] at h1
      rw [Option.bind_eq_some_iff] at h1
      obtain ⟨cs, h2, h3⟩ := h1
      obtain ⟨_, _, h4⟩ := World.cells?_some h2
      obtain ⟨q, rfl, hq⟩ := kz_of he ce o0 o1 h3
      exact ⟨q, h4, _, List.getElem?_eq_getElem _, hq⟩
    obtain ⟨Q, hQ⟩ := Go.Deep.choose_lt each
    have hml : ((List.range len).map Q).length = len := by simp
    refine ⟨(List.range len).map Q, ?_, ?_, .inr ⟨((elems.map (·.1)).length + (rest.map (·.1)).length) * Tryz.prog.bytesOf e, by simp [DataW.weights, ht], ?_⟩⟩
    · by_cases h0 : len = 0
      · subst h0; exact .inl ⟨_, _, rfl, by simp, by simp [kqC]⟩
      · obtain ⟨b, off, spot⟩ := ad
        have h1 := (hQ 0 (by omega)).1 0 (by omega)
        have h1' : W.cell? ((Addr.mk b off spot).add (0 * 2) |>.add 0) = some (.int .i64 (Q 0).n) := h1
        have hspot : spot = none := by simpa [Addr.add] using World.cell?_spot h1'
        subst hspot
        have hlt := World.block_lt_of_cell? W _ h1'
        have hbl : b < W.heap.size := by simpa [Addr.add_lit] using hlt
        refine .inr ⟨b, off, cap, by rw [hml], by rw [hml]; exact hl, hbl, fun j u hu => ?_⟩
        have hj : j < len * 2 := by
          have := (List.getElem?_eq_some_iff.1 hu).1
          rw [kqC_len, hml] at this
          exact this
        have hk : j / 2 < len := by omega
        have hg := kqC_get ((List.range len).map Q) (j / 2) (by rw [hml]; exact hk) (j % 2) (by omega)
        rw [show j / 2 * 2 + j % 2 = j by omega, hu] at hg
        have h2 := (hQ (j / 2) hk).1 (j % 2) (by omega)
        rw [Addr.add_lit, Addr.add_lit] at h2
        rw [show off + j / 2 * 2 + j % 2 = off + j by omega] at h2
        rw [h2, hg]
        simp
    · intro a ha
      obtain ⟨i, hi, rfl⟩ := List.mem_map.1 ha
      obtain ⟨_, x, hx, hq⟩ := hQ i (List.mem_range.1 hi)
      exact wgt_sliceV ht (d := x.1) (List.mem_map.2 ⟨x, List.mem_of_getElem? hx, rfl⟩) hq
    · rw [hb]
      simp
      omega
/-- what bounds a command -/
structure SzMw (ws : List Nat) (a : Cm) : Prop where
  tk : a.tk.size ∈ ws
  bk : a.bk.size ∈ ws
  ky : a.ky.size ∈ ws
  sm : a.sm.size ∈ ws
  ps : ∀ p ∈ a.ps, p.id.size ∈ ws
  pl : a.ps.length = 0 ∨ ∃ n ∈ ws, a.ps.length * 24 ≤ n
  ks : ∀ p ∈ a.ks, p.su.size ∈ ws
  kl : a.ks.length = 0 ∨ ∃ n ∈ ws, a.ks.length * 24 ≤ n
structure SzMb (a : Cm) : Prop where
  tk : a.tk.size ≤ 140737488355328
  bk : a.bk.size ≤ 140737488355328
  ky : a.ky.size ≤ 140737488355328
  sm : a.sm.size ≤ 140737488355328
  ps : ∀ p ∈ a.ps, p.id.size ≤ 140737488355328
  pl : a.ps.length * 24 ≤ 140737488355328
  ks : ∀ p ∈ a.ks, p.su.size ≤ 140737488355328
  kl : a.ks.length * 24 ≤ 140737488355328
theorem SzMw.bd {ws : List Nat} {a : Cm} (h : SzMw ws a) (hb : ∀ n ∈ ws, n ≤ reachBytes) : SzMb a := by
  have hr : reachBytes < 2 ^ 47 := reachBytes_lt
  refine ⟨by have := hb _ h.tk; omega, by have := hb _ h.bk; omega, by have := hb _ h.ky; omega, by have := hb _ h.sm; omega, fun p hp => by have := hb _ (h.ps p hp); omega, ?_, fun p hp => by have := hb _ (h.ks p hp); omega, ?_⟩
  · rcases h.pl with h3 | ⟨n, hn, h3⟩
    · omega
    · have := hb _ hn; omega
  · rcases h.kl with h3 | ⟨n, hn, h3⟩
    · omega
    · have := hb _ hn; omega
set_option maxRecDepth 100000 in
/-- a command that came in -/
theorem cm_of {H : Type} {enc : TypeId × Value → H} {W : World} {base : Nat} {e ep ek : TypeId} {f0 f1 f2 f3 f4 f5 f6 f7 f8 g0 g1 k0 k1 : Field} {v : Value} {d : DataW H} {p : List MemPlace}
    (he : Tryz.prog.underlying e = some (.struct #[f0, f1, f2, f3, f4, f5, f6, f7, f8])) (ce : Tryz.prog.cellsOf e = 9)
    (o0 : f0.offset = 0 ∧ Tryz.prog.cellsOf f0.type = 1 ∧ Tryz.prog.underlying f0.type = some (.int .i64))
    (o1 : f1.offset = 1 ∧ Tryz.prog.cellsOf f1.type = 1 ∧ Tryz.prog.underlying f1.type = some .string)
    (o2 : f2.offset = 2 ∧ Tryz.prog.cellsOf f2.type = 1 ∧ Tryz.prog.underlying f2.type = some .string)
    (o3 : f3.offset = 3 ∧ Tryz.prog.cellsOf f3.type = 1 ∧ Tryz.prog.underlying f3.type = some .string)
    (o4 : f4.offset = 4 ∧ Tryz.prog.cellsOf f4.type = 1 ∧ Tryz.prog.underlying f4.type = some (.int .i64))
    (o5 : f5.offset = 5 ∧ Tryz.prog.cellsOf f5.type = 1 ∧ Tryz.prog.underlying f5.type = some (.int .i64))
    (o6 : f6.offset = 6 ∧ Tryz.prog.cellsOf f6.type = 1 ∧ Tryz.prog.underlying f6.type = some .string)
    (o7 : f7.offset = 7 ∧ Tryz.prog.cellsOf f7.type = 1 ∧ Tryz.prog.underlying f7.type = some (.slice ep))
    (o8 : f8.offset = 8 ∧ Tryz.prog.cellsOf f8.type = 1 ∧ Tryz.prog.underlying f8.type = some (.slice ek))
    (hep : Tryz.prog.underlying ep = some (.struct #[g0, g1])) (cep : Tryz.prog.cellsOf ep = 2) (hbp : Tryz.prog.bytesOf ep = 24)
    (q0 : g0.offset = 0 ∧ Tryz.prog.cellsOf g0.type = 1 ∧ Tryz.prog.underlying g0.type = some .string)
    (q1 : g1.offset = 1 ∧ Tryz.prog.cellsOf g1.type = 1 ∧ Tryz.prog.underlying g1.type = some (.int .i64))
    (hek : Tryz.prog.underlying ek = some (.struct #[k0, k1])) (cek : Tryz.prog.cellsOf ek = 2) (hbk : Tryz.prog.bytesOf ek = 24)
    (r0 : k0.offset = 0 ∧ Tryz.prog.cellsOf k0.type = 1 ∧ Tryz.prog.underlying k0.type = some (.int .i64))
    (r1 : k1.offset = 1 ∧ Tryz.prog.cellsOf k1.type = 1 ∧ Tryz.prog.underlying k1.type = some .string)
    (hv : Value.okWide Tryz.prog W .any base e v) (h : DataW.Trod enc Tryz.prog W 0 (fun _ => true) true e v d p) :
    ∃ (pv kv : Value) (a : Cm), v = cmV pv kv a ∧ PcI W pv a.ps ∧ PkI W kv a.ks ∧ SzMw (d.weights Tryz.prog e) a := by
  obtain ⟨cs0, rfl, hsz⟩ := okWide_struct he hv
  obtain ⟨fuel, hf0⟩ := h
  obtain ⟨xs, n, _, hx, hl, hlen, hf⟩ := DataW.trod_struct he hf0
  simp only [Prod.mk.injEq] at hx
  obtain ⟨rfl, -⟩ := hx
  have hcs : (Value.agg cs0).cells.toList = cs0.toList := by simp [Value.cells]
  rw [hcs] at hl hf
  rw [ce] at hl
  match xs, hlen with
  | [y0, y1, y2, y3, y4, y5, y6, y7, y8], _ =>
  obtain ⟨cs⟩ := cs0
  simp only at hl hf
  match cs, hl with
  | [c0, c1, c2, c3, c4, c5, c6, c7, c8], _ =>
  have t0 := hf 0 f0 rfl
  have t1 := hf 1 f1 rfl
  have t2 := hf 2 f2 rfl
  have t3 := hf 3 f3 rfl
  have t4 := hf 4 f4 rfl
  have t5 := hf 5 f5 rfl
  have t6 := hf 6 f6 rfl
  have t7 := hf 7 f7 rfl
  have t8 := hf 8 f8 rfl
  rw [o0.1, o0.2.1] at t0
  rw [o1.1, o1.2.1] at t1
  rw [o2.1, o2.2.1] at t2
  rw [o3.1, o3.2.1] at t3
  rw [o4.1, o4.2.1] at t4
  rw [o5.1, o5.2.1] at t5
  rw [o6.1, o6.2.1] at t6
  rw [o7.1, o7.2.1] at t7
  rw [o8.1, o8.2.1] at t8
  obtain ⟨a0, e0, _, w0⟩ := DataW.trod_int o0.2.2 (t0 : _ = some y0)
  obtain ⟨a1, e1, z1, _⟩ := DataW.trod_string o1.2.2 (t1 : _ = some y1)
  obtain ⟨a2, e2, z2, _⟩ := DataW.trod_string o2.2.2 (t2 : _ = some y2)
  obtain ⟨a3, e3, z3, _⟩ := DataW.trod_string o3.2.2 (t3 : _ = some y3)
  obtain ⟨a4, e4, _, w4⟩ := DataW.trod_int o4.2.2 (t4 : _ = some y4)
  obtain ⟨a5, e5, _, w5⟩ := DataW.trod_int o5.2.2 (t5 : _ = some y5)
  obtain ⟨a6, e6, z6, _⟩ := DataW.trod_string o6.2.2 (t6 : _ = some y6)
  obtain ⟨lp, hp, hw, hn⟩ := pcs_of (v := c7) (x := y7) o7.2.2 hep cep hbp q0 q1 t7
  obtain ⟨lk, hk, hkw, hkn⟩ := kzs_of (v := c8) (x := y8) o8.2.2 hek cek hbk r0 r1 t8
  simp at e0 e1 e2 e3 e4 e5 e6
  subst e0 e1 e2 e3 e4 e5 e6
  refine ⟨c7, c8, ⟨a0, a1, a2, a3, a4, a5, a6, lp, lk⟩, rfl, hp, hk, ?_⟩
  subst z1 z2 z3 z6
  have sub7 : ∀ n ∈ y7.1.weights Tryz.prog f7.type, n ∈ (DataW.agg [y0.1, (DataW.lit (.string a1.data.toList)), (DataW.lit (.string a2.data.toList)), (DataW.lit (.string a3.data.toList)), y4.1, y5.1, (DataW.lit (.string a6.data.toList)), y7.1, y8.1] : DataW H).weights Tryz.prog e := fun n hn => by
    simp only [DataW.weights, he, List.map_cons, List.map_nil, DataW.weightsEach, List.mem_append]
    simp [hn]
  have sub8 : ∀ n ∈ y8.1.weights Tryz.prog f8.type, n ∈ (DataW.agg [y0.1, (DataW.lit (.string a1.data.toList)), (DataW.lit (.string a2.data.toList)), (DataW.lit (.string a3.data.toList)), y4.1, y5.1, (DataW.lit (.string a6.data.toList)), y7.1, y8.1] : DataW H).weights Tryz.prog e := fun n hn => by
    simp only [DataW.weights, he, List.map_cons, List.map_nil, DataW.weightsEach, List.mem_append]
    simp [hn]
  refine ⟨?_, ?_, ?_, ?_, fun p hp => sub7 _ (hw p hp), hn.imp id fun ⟨n, hn, h⟩ => ⟨n, sub7 _ hn, h⟩, fun p hp => sub8 _ (hkw p hp), hkn.imp id fun ⟨n, hn, h⟩ => ⟨n, sub8 _ hn, h⟩⟩
  all_goals
    simp only [DataW.weights, he, List.map_cons, List.map_nil, DataW.weightsEach, List.mem_append]
    simp
end Go.Proofs.YtmadlnchmkhdjaaGreat.ibulk
