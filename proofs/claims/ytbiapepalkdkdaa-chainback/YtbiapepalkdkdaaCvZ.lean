/- What comes in: a version, a chain. -/
import Derived.Test.YtbiapepalkdkdaaRows
import Derived.Test.YtbiapepalkdkdaaJoined08
import Derived.Test.YtbiapepalkdkdaaPcZ
import Derived.ProofKit
import Derived.OpenShut
import Derived.SliceStrings
import Derived.SizedLaws
import Derived.Deep.Strs
namespace Go.Proofs.Ytbiapepalkdkdaa.ibulk
open Go.ChangeShapes Go.WideShapes Go.ChangeAt Go.RowKit
set_option linter.unusedVariables false

instance : Inhabited Vn := ⟨vn0⟩
/-- what bounds a version -/
def SzW (ws : List Nat) (a : Vn) : Prop := a.sum.size ∈ ws ∧ (∀ p ∈ a.ps, p.id.size ∈ ws) ∧ (a.ps.length = 0 ∨ ∃ n ∈ ws, a.ps.length * 24 ≤ n)
def SzB (a : Vn) : Prop := a.sum.size ≤ 140737488355328 ∧ a.ps.length * 24 ≤ 140737488355328 ∧ ∀ p ∈ a.ps, p.id.size ≤ 140737488355328
theorem SzW.bd {ws : List Nat} {a : Vn} (h : SzW ws a) (hb : ∀ n ∈ ws, n ≤ reachBytes) : SzB a := by
  have hr : reachBytes < 2 ^ 47 := reachBytes_lt
  obtain ⟨h1, h2, h3⟩ := h
  refine ⟨by have := hb _ h1; omega, ?_, fun p hp => by have := hb _ (h2 p hp); omega⟩
  rcases h3 with h3 | ⟨n, hn, h3⟩
  · omega
  · have := hb _ hn; omega
theorem SzW.sub {ws us : List Nat} {a : Vn} (h : SzW ws a) (hs : ∀ n ∈ ws, n ∈ us) : SzW us a :=
  ⟨hs _ h.1, fun p hp => hs _ (h.2.1 p hp), h.2.2.imp id fun ⟨n, hn, h⟩ => ⟨n, hs _ hn, h⟩⟩
set_option maxRecDepth 100000 in
/-- one version's cells -/
theorem vn_cells {H : Type} {enc : TypeId × Value → H} {W : World} {base : Nat} {sp : Nat → Bool} {hd : Bool} {e ep : TypeId} {f0 f1 f2 f3 f4 g0 g1 : Field} {cs : List Value} {m : Nat} {x : DataW H × List MemPlace}
    (he : Try.prog.underlying e = some (.struct #[f0, f1, f2, f3, f4])) (ce : Try.prog.cellsOf e = 5)
    (o0 : f0.offset = 0 ∧ Try.prog.cellsOf f0.type = 1 ∧ Try.prog.underlying f0.type = some (.int .i64))
    (o1 : f1.offset = 1 ∧ Try.prog.cellsOf f1.type = 1 ∧ Try.prog.underlying f1.type = some .bool)
    (o2 : f2.offset = 2 ∧ Try.prog.cellsOf f2.type = 1 ∧ Try.prog.underlying f2.type = some (.int .i64))
    (o3 : f3.offset = 3 ∧ Try.prog.cellsOf f3.type = 1 ∧ Try.prog.underlying f3.type = some .string)
    (o4 : f4.offset = 4 ∧ Try.prog.cellsOf f4.type = 1 ∧ Try.prog.underlying f4.type = some (.slice ep))
    (hep : Try.prog.underlying ep = some (.struct #[g0, g1])) (cep : Try.prog.cellsOf ep = 2) (hbp : Try.prog.bytesOf ep = 24)
    (q0 : g0.offset = 0 ∧ Try.prog.cellsOf g0.type = 1 ∧ Try.prog.underlying g0.type = some .string)
    (q1 : g1.offset = 1 ∧ Try.prog.cellsOf g1.type = 1 ∧ Try.prog.underlying g1.type = some (.int .i64))
    (h : DataW.trod enc Try.prog W base sp hd m e cs = some x) :
    ∃ (pv : Value) (a : Vn), cs = vnC (pv, a) ∧ PcI W pv a.ps ∧ SzW (x.1.weights Try.prog e) a := by
  obtain ⟨xs, n, _, rfl, hl, hlen, hf⟩ := DataW.trod_struct he h
  rw [ce] at hl
  match xs, hlen with
  | [y0, y1, y2, y3, y4], _ =>
  match cs, hl with
  | [c0, c1, c2, c3, c4], _ =>
  have t0 := hf 0 f0 rfl
  have t1 := hf 1 f1 rfl
  have t2 := hf 2 f2 rfl
  have t3 := hf 3 f3 rfl
  have t4 := hf 4 f4 rfl
  rw [o0.1, o0.2.1] at t0
  rw [o1.1, o1.2.1] at t1
  rw [o2.1, o2.2.1] at t2
  rw [o3.1, o3.2.1] at t3
  rw [o4.1, o4.2.1] at t4
  obtain ⟨a0, e0, _, w0⟩ := DataW.trod_int o0.2.2 (t0 : _ = some y0)
  obtain ⟨a1, e1, _⟩ := DataW.trod_bool o1.2.2 (t1 : _ = some y1)
  obtain ⟨a2, e2, _, w2⟩ := DataW.trod_int o2.2.2 (t2 : _ = some y2)
  obtain ⟨s, e3, r3, _⟩ := DataW.trod_string o3.2.2 (t3 : _ = some y3)
  obtain ⟨l, hp, hw, hn⟩ := pcs_of (v := c4) (x := y4) o4.2.2 hep cep hbp q0 q1 t4
  simp at e0 e1 e2 e3
  subst e0 e1 e2 e3
  refine ⟨c4, ⟨a0, a1, a2, s, l⟩, rfl, hp, ?_⟩
  subst r3
  have sub : ∀ n ∈ y4.1.weights Try.prog f4.type, n ∈ (DataW.agg [y0.1, y1.1, y2.1, (DataW.lit (.string s.data.toList)), y4.1] : DataW H).weights Try.prog e := fun n hn => by
    simp only [DataW.weights, he, List.map_cons, List.map_nil, DataW.weightsEach, List.mem_append]
    simp [hn]
  refine ⟨?_, fun p hp => sub _ (hw p hp), hn.imp id fun ⟨n, hn, h⟩ => ⟨n, sub _ hn, h⟩⟩
  simp only [DataW.weights, he, List.map_cons, List.map_nil, DataW.weightsEach, List.mem_append]
  simp
set_option maxRecDepth 100000 in
/-- a version that came in -/
theorem vn_of {H : Type} {enc : TypeId × Value → H} {W : World} {base : Nat} {e ep : TypeId} {f0 f1 f2 f3 f4 g0 g1 : Field} {v : Value} {d : DataW H} {p : List MemPlace}
    (he : Try.prog.underlying e = some (.struct #[f0, f1, f2, f3, f4])) (ce : Try.prog.cellsOf e = 5)
    (o0 : f0.offset = 0 ∧ Try.prog.cellsOf f0.type = 1 ∧ Try.prog.underlying f0.type = some (.int .i64))
    (o1 : f1.offset = 1 ∧ Try.prog.cellsOf f1.type = 1 ∧ Try.prog.underlying f1.type = some .bool)
    (o2 : f2.offset = 2 ∧ Try.prog.cellsOf f2.type = 1 ∧ Try.prog.underlying f2.type = some (.int .i64))
    (o3 : f3.offset = 3 ∧ Try.prog.cellsOf f3.type = 1 ∧ Try.prog.underlying f3.type = some .string)
    (o4 : f4.offset = 4 ∧ Try.prog.cellsOf f4.type = 1 ∧ Try.prog.underlying f4.type = some (.slice ep))
    (hep : Try.prog.underlying ep = some (.struct #[g0, g1])) (cep : Try.prog.cellsOf ep = 2) (hbp : Try.prog.bytesOf ep = 24)
    (q0 : g0.offset = 0 ∧ Try.prog.cellsOf g0.type = 1 ∧ Try.prog.underlying g0.type = some .string)
    (q1 : g1.offset = 1 ∧ Try.prog.cellsOf g1.type = 1 ∧ Try.prog.underlying g1.type = some (.int .i64))
    (hv : Value.okWide Try.prog W .any base e v) (h : DataW.Trod enc Try.prog W 0 (fun _ => true) true e v d p) :
    ∃ (pv : Value) (a : Vn), v = vnV (pv, a) ∧ PcI W pv a.ps ∧ SzW (d.weights Try.prog e) a := by
  obtain ⟨cs, rfl, hsz⟩ := okWide_struct he hv
  obtain ⟨fuel, hf⟩ := h
  obtain ⟨pv, a, e1, hp, hw⟩ := vn_cells he ce o0 o1 o2 o3 o4 hep cep hbp q0 q1 hf
  refine ⟨pv, a, ?_, hp, hw⟩
  have e2 : cs.toList = vnC (pv, a) := by simpa [Value.cells] using e1
  have e3 : cs = (vnC (pv, a)).toArray := by rw [← e2]
  rw [e3]
  rfl
set_option maxRecDepth 100000 in
/-- versions that came in -/
theorem vns_of {H : Type} {enc : TypeId × Value → H} {W : World} {base : Nat} {t e ep : TypeId} {f0 f1 f2 f3 f4 g0 g1 : Field} {v : Value} {d : DataW H} {p : List MemPlace}
    (ht : Try.prog.underlying t = some (.slice e)) (hb : Try.prog.bytesOf e = 64) (he : Try.prog.underlying e = some (.struct #[f0, f1, f2, f3, f4])) (ce : Try.prog.cellsOf e = 5)
    (o0 : f0.offset = 0 ∧ Try.prog.cellsOf f0.type = 1 ∧ Try.prog.underlying f0.type = some (.int .i64))
    (o1 : f1.offset = 1 ∧ Try.prog.cellsOf f1.type = 1 ∧ Try.prog.underlying f1.type = some .bool)
    (o2 : f2.offset = 2 ∧ Try.prog.cellsOf f2.type = 1 ∧ Try.prog.underlying f2.type = some (.int .i64))
    (o3 : f3.offset = 3 ∧ Try.prog.cellsOf f3.type = 1 ∧ Try.prog.underlying f3.type = some .string)
    (o4 : f4.offset = 4 ∧ Try.prog.cellsOf f4.type = 1 ∧ Try.prog.underlying f4.type = some (.slice ep))
    (hep : Try.prog.underlying ep = some (.struct #[g0, g1])) (cep : Try.prog.cellsOf ep = 2) (hbp : Try.prog.bytesOf ep = 24)
    (q0 : g0.offset = 0 ∧ Try.prog.cellsOf g0.type = 1 ∧ Try.prog.underlying g0.type = some .string)
    (q1 : g1.offset = 1 ∧ Try.prog.cellsOf g1.type = 1 ∧ Try.prog.underlying g1.type = some (.int .i64))
    (hv : Value.okWide Try.prog W .any base t v) (h : DataW.Trod enc Try.prog W 0 (fun _ => true) true t v d p) :
    ∃ q : List (Value × Vn), VnI W v q ∧ (∀ y ∈ q, SzW (d.weights Try.prog t) y.2) ∧ (q.length = 0 ∨ ∃ n ∈ d.weights Try.prog t, q.length * 64 ≤ n) := by
  obtain ⟨a, len, cap, rfl⟩ := okWide_slice ht hv
  obtain ⟨fuel, hf⟩ := h
  rcases DataW.trod_slice ht hf with ⟨hcs, hx⟩ | ⟨ad, l, c, elems, rest, m, _, hcs, hx, _, hl, hm, hlen, hall, _, _⟩
  · simp [Value.cells] at hcs
    obtain ⟨rfl, rfl, rfl⟩ := hcs
    exact ⟨[], vni_none _, by simp, .inl rfl⟩
  · simp [Value.cells] at hcs
    obtain ⟨rfl, rfl, rfl⟩ := hcs
    simp only [Prod.mk.injEq] at hx
    obtain ⟨rfl, _⟩ := hx
    rw [ce] at hall
    have each : ∀ i, i < len → ∃ q : Value × Vn, (∀ j, j < 5 → W.cell? ((ad.add (i * 5)).add j) = (vnC q)[j]?) ∧ PcI W q.1 q.2.ps ∧ ∃ x, elems[i]? = some x ∧ SzW (x.1.weights Try.prog e) q.2 := by
      intro i hi
      have h1 := hall i hi
      rw [List.getElem?_eq_getElem (show i < elems.length by omega)] at h1
      rw [Option.bind_eq_some_iff] at h1
      obtain ⟨cs, h2, h3⟩ := h1
      obtain ⟨_, _, h4⟩ := World.cells?_some h2
      obtain ⟨pv, q, rfl, hp, hq⟩ := vn_cells he ce o0 o1 o2 o3 o4 hep cep hbp q0 q1 h3
      exact ⟨(pv, q), h4, hp, _, List.getElem?_eq_getElem _, hq⟩
    obtain ⟨Q, hQ⟩ := Go.Deep.choose_lt each
    have hml : ((List.range len).map Q).length = len := by simp
    refine ⟨(List.range len).map Q, ⟨?_, ?_⟩, ?_, .inr ⟨((elems.map (·.1)).length + (rest.map (·.1)).length) * Try.prog.bytesOf e, by simp [DataW.weights, ht], ?_⟩⟩
    · by_cases h0 : len = 0
      · subst h0; exact .inl ⟨_, _, rfl, by simp, by simp [vqC]⟩
      · obtain ⟨b, off, spot⟩ := ad
        have h1 := (hQ 0 (by omega)).1 0 (by omega)
        have h1' : W.cell? ((Addr.mk b off spot).add (0 * 5) |>.add 0) = some (.int .i64 (Q 0).2.id) := h1
        have hspot : spot = none := by simpa [Addr.add] using World.cell?_spot h1'
        subst hspot
        have hlt := World.block_lt_of_cell? W _ h1'
        have hbl : b < W.heap.size := by simpa [Addr.add_lit] using hlt
        refine .inr ⟨b, off, cap, by rw [hml], by rw [hml]; exact hl, hbl, fun j u hu => ?_⟩
        have hj : j < len * 5 := by
          have := (List.getElem?_eq_some_iff.1 hu).1
          rw [vqC_len, hml] at this
          exact this
        have hk : j / 5 < len := by omega
        have hg := vqC_get ((List.range len).map Q) (j / 5) (by rw [hml]; exact hk) (j % 5) (by omega)
        rw [show j / 5 * 5 + j % 5 = j by omega, hu] at hg
        have h2 := (hQ (j / 5) hk).1 (j % 5) (by omega)
        rw [Addr.add_lit, Addr.add_lit] at h2
        rw [show off + j / 5 * 5 + j % 5 = off + j by omega] at h2
        rw [h2, hg]
        simp
    · intro y hy
      obtain ⟨i, hi, rfl⟩ := List.mem_map.1 hy
      exact (hQ i (List.mem_range.1 hi)).2.1
    · intro y hy
      obtain ⟨i, hi, rfl⟩ := List.mem_map.1 hy
      obtain ⟨_, _, x, hx, hq⟩ := hQ i (List.mem_range.1 hi)
      exact hq.sub fun n hn => wgt_sliceV ht (d := x.1) (List.mem_map.2 ⟨x, List.mem_of_getElem? hx, rfl⟩) hn
    · rw [hb]
      simp
      omega
theorem vns_le {H : Type} {ts : List TypeId} {ds : List (DataW H)} (h : (DataW.weightsEach Try.prog ts ds).all (· ≤ reachBytes) = true) {j : Nat} {t : TypeId} {d : DataW H} (ht : ts[j]? = some t) (hd : ds[j]? = some d) {n : Nat} (hn : n = 0 ∨ ∃ m ∈ d.weights Try.prog t, n * 64 ≤ m) : n * 64 ≤ 140737488355328 := by
  rcases hn with hn | ⟨m, hm, hn⟩
  · omega
  · have := wgt_leV h ht hd hm
    have h2 : reachBytes < 2 ^ 47 := reachBytes_lt
    omega
end Go.Proofs.Ytbiapepalkdkdaa.ibulk
