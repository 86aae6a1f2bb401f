/- What comes in: parts, picks. -/
import Derived.Test.YtbiapepalkdkdabRows
import Derived.Test.YtbiapepalkdkdabPcZ
import Derived.Test.YtbiapepalkdkdabJoined07
import Derived.Test.YtbiapepalkdkdabJoined08
import Derived.ProofKit
import Derived.OpenShut
import Derived.SliceStrings
import Derived.SizedLaws
import Derived.Deep.Strs
namespace Go.Proofs.Ytbiapepalkdkdab.ibulk
open Go.ChangeShapes Go.WideShapes Go.ChangeAt Go.RowKit
set_option linter.unusedVariables false

instance : Inhabited Pt := ⟨⟨0, 0, ⟨#[]⟩, []⟩⟩
instance : Inhabited Pk := ⟨⟨0, ⟨#[]⟩⟩⟩
/-- what bounds a part -/
def SzTw (ws : List Nat) (a : Pt) : Prop := a.sum.size ∈ ws ∧ (∀ p ∈ a.ps, p.id.size ∈ ws) ∧ (a.ps.length = 0 ∨ ∃ n ∈ ws, a.ps.length * 24 ≤ n)
def SzTb (a : Pt) : Prop := a.sum.size ≤ 140737488355328 ∧ a.ps.length * 24 ≤ 140737488355328 ∧ ∀ p ∈ a.ps, p.id.size ≤ 140737488355328
theorem SzTw.bd {ws : List Nat} {a : Pt} (h : SzTw ws a) (hb : ∀ n ∈ ws, n ≤ reachBytes) : SzTb a := by
  have hr : reachBytes < 2 ^ 47 := reachBytes_lt
  obtain ⟨h1, h2, h3⟩ := h
  refine ⟨by have := hb _ h1; omega, ?_, fun p hp => by have := hb _ (h2 p hp); omega⟩
  rcases h3 with h3 | ⟨n, hn, h3⟩
  · omega
  · have := hb _ hn; omega
theorem SzTw.sub {ws us : List Nat} {a : Pt} (h : SzTw ws a) (hs : ∀ n ∈ ws, n ∈ us) : SzTw us a :=
  ⟨hs _ h.1, fun p hp => hs _ (h.2.1 p hp), h.2.2.imp id fun ⟨n, hn, h⟩ => ⟨n, hs _ hn, h⟩⟩
set_option maxRecDepth 100000 in
/-- one part's cells -/
theorem pt_cells {H : Type} {enc : TypeId × Value → H} {W : World} {base : Nat} {sp : Nat → Bool} {hd : Bool} {e ep : TypeId} {f0 f1 f2 f3 g0 g1 : Field} {cs : List Value} {m : Nat} {x : DataW H × List MemPlace}
    (he : Try.prog.underlying e = some (.struct #[f0, f1, f2, f3])) (ce : Try.prog.cellsOf e = 4)
    (o0 : f0.offset = 0 ∧ Try.prog.cellsOf f0.type = 1 ∧ Try.prog.underlying f0.type = some (.int .i64))
    (o1 : f1.offset = 1 ∧ Try.prog.cellsOf f1.type = 1 ∧ Try.prog.underlying f1.type = some (.int .i64))
    (o2 : f2.offset = 2 ∧ Try.prog.cellsOf f2.type = 1 ∧ Try.prog.underlying f2.type = some .string)
    (o3 : f3.offset = 3 ∧ Try.prog.cellsOf f3.type = 1 ∧ Try.prog.underlying f3.type = some (.slice ep))
    (hep : Try.prog.underlying ep = some (.struct #[g0, g1])) (cep : Try.prog.cellsOf ep = 2) (hbp : Try.prog.bytesOf ep = 24)
    (q0 : g0.offset = 0 ∧ Try.prog.cellsOf g0.type = 1 ∧ Try.prog.underlying g0.type = some .string)
    (q1 : g1.offset = 1 ∧ Try.prog.cellsOf g1.type = 1 ∧ Try.prog.underlying g1.type = some (.int .i64))
    (h : DataW.trod enc Try.prog W base sp hd m e cs = some x) :
    ∃ (pv : Value) (a : Pt), cs = ptC (pv, a) ∧ PcI W pv a.ps ∧ SzTw (x.1.weights Try.prog e) a := by
  obtain ⟨xs, n, _, rfl, hl, hlen, hf⟩ := DataW.trod_struct he h
  rw [ce] at hl
  match xs, hlen with
  | [y0, y1, y2, y3], _ =>
  match cs, hl with
  | [c0, c1, c2, c3], _ =>
  have t0 := hf 0 f0 rfl
  have t1 := hf 1 f1 rfl
  have t2 := hf 2 f2 rfl
  have t3 := hf 3 f3 rfl
  rw [o0.1, o0.2.1] at t0
  rw [o1.1, o1.2.1] at t1
  rw [o2.1, o2.2.1] at t2
  rw [o3.1, o3.2.1] at t3
  obtain ⟨a0, e0, _, w0⟩ := DataW.trod_int o0.2.2 (t0 : _ = some y0)
  obtain ⟨a1, e1, _, w1⟩ := DataW.trod_int o1.2.2 (t1 : _ = some y1)
  obtain ⟨s, e2, r2, _⟩ := DataW.trod_string o2.2.2 (t2 : _ = some y2)
  obtain ⟨l, hp, hw, hn⟩ := pcs_of (v := c3) (x := y3) o3.2.2 hep cep hbp q0 q1 t3
  simp at e0 e1 e2
  subst e0 e1 e2
  refine ⟨c3, ⟨a0, a1, s, l⟩, rfl, hp, ?_⟩
  subst r2
  have sub : ∀ n ∈ y3.1.weights Try.prog f3.type, n ∈ (DataW.agg [y0.1, y1.1, (DataW.lit (.string s.data.toList)), y3.1] : DataW H).weights Try.prog e := fun n hn => by
    simp only [DataW.weights, he, List.map_cons, List.map_nil, DataW.weightsEach, List.mem_append]
    simp [hn]
  refine ⟨?_, fun p hp => sub _ (hw p hp), hn.imp id fun ⟨n, hn, h⟩ => ⟨n, sub _ hn, h⟩⟩
  simp only [DataW.weights, he, List.map_cons, List.map_nil, DataW.weightsEach, List.mem_append]
  simp
set_option maxRecDepth 100000 in
/-- a part that came in -/
theorem pt_of {H : Type} {enc : TypeId × Value → H} {W : World} {base : Nat} {e ep : TypeId} {f0 f1 f2 f3 g0 g1 : Field} {v : Value} {d : DataW H} {p : List MemPlace}
    (he : Try.prog.underlying e = some (.struct #[f0, f1, f2, f3])) (ce : Try.prog.cellsOf e = 4)
    (o0 : f0.offset = 0 ∧ Try.prog.cellsOf f0.type = 1 ∧ Try.prog.underlying f0.type = some (.int .i64))
    (o1 : f1.offset = 1 ∧ Try.prog.cellsOf f1.type = 1 ∧ Try.prog.underlying f1.type = some (.int .i64))
    (o2 : f2.offset = 2 ∧ Try.prog.cellsOf f2.type = 1 ∧ Try.prog.underlying f2.type = some .string)
    (o3 : f3.offset = 3 ∧ Try.prog.cellsOf f3.type = 1 ∧ Try.prog.underlying f3.type = some (.slice ep))
    (hep : Try.prog.underlying ep = some (.struct #[g0, g1])) (cep : Try.prog.cellsOf ep = 2) (hbp : Try.prog.bytesOf ep = 24)
    (q0 : g0.offset = 0 ∧ Try.prog.cellsOf g0.type = 1 ∧ Try.prog.underlying g0.type = some .string)
    (q1 : g1.offset = 1 ∧ Try.prog.cellsOf g1.type = 1 ∧ Try.prog.underlying g1.type = some (.int .i64))
    (hv : Value.okWide Try.prog W .any base e v) (h : DataW.Trod enc Try.prog W 0 (fun _ => true) true e v d p) :
    ∃ (pv : Value) (a : Pt), v = ptV (pv, a) ∧ PcI W pv a.ps ∧ SzTw (d.weights Try.prog e) a := by
  obtain ⟨cs, rfl, hsz⟩ := okWide_struct he hv
  obtain ⟨fuel, hf⟩ := h
  obtain ⟨pv, a, e1, hp, hw⟩ := pt_cells he ce o0 o1 o2 o3 hep cep hbp q0 q1 hf
  refine ⟨pv, a, ?_, hp, hw⟩
  have e2 : cs.toList = ptC (pv, a) := by simpa [Value.cells] using e1
  have e3 : cs = (ptC (pv, a)).toArray := by rw [← e2]
  rw [e3]
  rfl
set_option maxRecDepth 100000 in
/-- parts that came in -/
theorem pts_of {H : Type} {enc : TypeId × Value → H} {W : World} {base : Nat} {t e ep : TypeId} {f0 f1 f2 f3 g0 g1 : Field} {v : Value} {d : DataW H} {p : List MemPlace}
    (ht : Try.prog.underlying t = some (.slice e)) (hb : Try.prog.bytesOf e = 56) (he : Try.prog.underlying e = some (.struct #[f0, f1, f2, f3])) (ce : Try.prog.cellsOf e = 4)
    (o0 : f0.offset = 0 ∧ Try.prog.cellsOf f0.type = 1 ∧ Try.prog.underlying f0.type = some (.int .i64))
    (o1 : f1.offset = 1 ∧ Try.prog.cellsOf f1.type = 1 ∧ Try.prog.underlying f1.type = some (.int .i64))
    (o2 : f2.offset = 2 ∧ Try.prog.cellsOf f2.type = 1 ∧ Try.prog.underlying f2.type = some .string)
    (o3 : f3.offset = 3 ∧ Try.prog.cellsOf f3.type = 1 ∧ Try.prog.underlying f3.type = some (.slice ep))
    (hep : Try.prog.underlying ep = some (.struct #[g0, g1])) (cep : Try.prog.cellsOf ep = 2) (hbp : Try.prog.bytesOf ep = 24)
    (q0 : g0.offset = 0 ∧ Try.prog.cellsOf g0.type = 1 ∧ Try.prog.underlying g0.type = some .string)
    (q1 : g1.offset = 1 ∧ Try.prog.cellsOf g1.type = 1 ∧ Try.prog.underlying g1.type = some (.int .i64))
    (hv : Value.okWide Try.prog W .any base t v) (h : DataW.Trod enc Try.prog W 0 (fun _ => true) true t v d p) :
    ∃ q : List (Value × Pt), PtI W v q ∧ (∀ y ∈ q, SzTw (d.weights Try.prog t) y.2) ∧ (q.length = 0 ∨ ∃ n ∈ d.weights Try.prog t, q.length * 56 ≤ n) := by
  obtain ⟨a, len, cap, rfl⟩ := okWide_slice ht hv
  obtain ⟨fuel, hf⟩ := h
  rcases DataW.trod_slice ht hf with ⟨hcs, hx⟩ | ⟨ad, l, c, elems, rest, m, _, hcs, hx, _, hl, hm, hlen, hall, _, _⟩
  · simp [Value.cells] at hcs
    obtain ⟨rfl, rfl, rfl⟩ := hcs
    exact ⟨[], pti_none _, by simp, .inl rfl⟩
  · simp [Value.cells] at hcs
    obtain ⟨rfl, rfl, rfl⟩ := hcs
    simp only [Prod.mk.injEq] at hx
    obtain ⟨rfl, _⟩ := hx
    rw [ce] at hall
    have each : ∀ i, i < len → ∃ q : Value × Pt, (∀ j, j < 4 → W.cell? ((ad.add (i * 4)).add j) = (ptC q)[j]?) ∧ PcI W q.1 q.2.ps ∧ ∃ x, elems[i]? = some x ∧ SzTw (x.1.weights Try.prog e) q.2 := by
      intro i hi
      have h1 := hall i hi
      rw [List.getElem?_eq_getElem (show i < elems.length by omega)] at h1
      rw [Option.bind_eq_some_iff] at h1
      obtain ⟨cs, h2, h3⟩ := h1
      obtain ⟨_, _, h4⟩ := World.cells?_some h2
      obtain ⟨pv, q, rfl, hp, hq⟩ := pt_cells he ce o0 o1 o2 o3 hep cep hbp q0 q1 h3
      exact ⟨(pv, q), h4, hp, _, List.getElem?_eq_getElem _, hq⟩
    obtain ⟨Q, hQ⟩ := Go.Deep.choose_lt each
    have hml : ((List.range len).map Q).length = len := by simp
    refine ⟨(List.range len).map Q, ⟨?_, ?_⟩, ?_, .inr ⟨((elems.map (·.1)).length + (rest.map (·.1)).length) * Try.prog.bytesOf e, by simp [DataW.weights, ht], ?_⟩⟩
    · by_cases h0 : len = 0
      · subst h0; exact .inl ⟨_, _, rfl, by simp, by simp [tqC]⟩
      · obtain ⟨b, off, spot⟩ := ad
        have h1 := (hQ 0 (by omega)).1 0 (by omega)
        have h1' : W.cell? ((Addr.mk b off spot).add (0 * 4) |>.add 0) = some (.int .i64 (Q 0).2.n) := h1
        have hspot : spot = none := by simpa [Addr.add] using World.cell?_spot h1'
        subst hspot
        have hlt := World.block_lt_of_cell? W _ h1'
        have hbl : b < W.heap.size := by simpa [Addr.add_lit] using hlt
        refine .inr ⟨b, off, cap, by rw [hml], by rw [hml]; exact hl, hbl, fun j u hu => ?_⟩
        have hj : j < len * 4 := by
          have := (List.getElem?_eq_some_iff.1 hu).1
          rw [tqC_len, hml] at this
          exact this
        have hk : j / 4 < len := by omega
        have hg := tqC_get ((List.range len).map Q) (j / 4) (by rw [hml]; exact hk) (j % 4) (by omega)
        rw [show j / 4 * 4 + j % 4 = j by omega, hu] at hg
        have h2 := (hQ (j / 4) hk).1 (j % 4) (by omega)
        rw [Addr.add_lit, Addr.add_lit] at h2
        rw [show off + j / 4 * 4 + j % 4 = off + j by omega] at h2
        rw [h2, hg]
        simp
    · intro y hy
      obtain ⟨i, hi, rfl⟩ := List.mem_map.1 hy
      exact (hQ i (List.mem_range.1 hi)).2.1
    · intro y hy
      obtain ⟨i, hi, rfl⟩ := List.mem_map.1 hy
      obtain ⟨_, _, x, hx, hq⟩ := hQ i (List.mem_range.1 hi)
      exact hq.sub fun n hn => wgt_sliceV ht (d := x.1) (List.mem_map.2 ⟨x, List.mem_of_getElem? hx, rfl⟩) hn
    · rw [hb]
      simp
      omega
theorem pts_le {H : Type} {ts : List TypeId} {ds : List (DataW H)} (h : (DataW.weightsEach Try.prog ts ds).all (· ≤ reachBytes) = true) {j : Nat} {t : TypeId} {d : DataW H} (ht : ts[j]? = some t) (hd : ds[j]? = some d) {n : Nat} (hn : n = 0 ∨ ∃ m ∈ d.weights Try.prog t, n * 56 ≤ m) : n * 56 ≤ 140737488355328 := by
  rcases hn with hn | ⟨m, hm, hn⟩
  · omega
  · have := wgt_leV h ht hd hm
    have h2 : reachBytes < 2 ^ 47 := reachBytes_lt
    omega
/-- what bounds a pick -/
def SzKw (ws : List Nat) (a : Pk) : Prop := a.su.size ∈ ws
def SzKb (a : Pk) : Prop := a.su.size ≤ 140737488355328
theorem SzKw.bd {ws : List Nat} {a : Pk} (h : SzKw ws a) (hb : ∀ n ∈ ws, n ≤ reachBytes) : SzKb a := by
  have hr : reachBytes < 2 ^ 47 := reachBytes_lt
  have h0 := hb _ h
  unfold SzKb
  omega
theorem SzKw.sub {ws us : List Nat} {a : Pk} (h : SzKw ws a) (hs : ∀ n ∈ ws, n ∈ us) : SzKw us a := hs _ h
set_option maxRecDepth 100000 in
/-- one pick's cells -/
theorem pk_cells {H : Type} {enc : TypeId × Value → H} {W : World} {base : Nat} {sp : Nat → Bool} {hd : Bool} {e : TypeId} {f0 f1 : Field} {cs : List Value} {m : Nat} {x : DataW H × List MemPlace}
    (he : Try.prog.underlying e = some (.struct #[f0, f1])) (ce : Try.prog.cellsOf e = 2)
    (o0 : f0.offset = 0 ∧ Try.prog.cellsOf f0.type = 1 ∧ Try.prog.underlying f0.type = some (.int .i64))
    (o1 : f1.offset = 1 ∧ Try.prog.cellsOf f1.type = 1 ∧ Try.prog.underlying f1.type = some .string)
    (h : DataW.trod enc Try.prog W base sp hd m e cs = some x) :
    ∃ a : Pk, cs = pkC a ∧ SzKw (x.1.weights Try.prog e) a := by
  obtain ⟨xs, n, _, rfl, hl, hlen, hf⟩ := DataW.trod_struct he h
  rw [ce] at hl
  match xs, hlen with
  | [y0, y1], _ =>
  match cs, hl with
  | [c0, c1], _ =>
  have t0 := hf 0 f0 rfl
  have t1 := hf 1 f1 rfl
  rw [o0.1, o0.2.1] at t0
  rw [o1.1, o1.2.1] at t1
  obtain ⟨a0, e0, _, w0⟩ := DataW.trod_int o0.2.2 (t0 : _ = some y0)
  obtain ⟨s1, e1, r1, _⟩ := DataW.trod_string o1.2.2 (t1 : _ = some y1)
  simp at e0 e1
  subst e0 e1
  refine ⟨⟨a0, s1⟩, rfl, ?_⟩
  subst r1
  unfold SzKw
  simp only [DataW.weights, he, List.map_cons, List.map_nil, DataW.weightsEach, List.mem_append]
  simp
set_option maxRecDepth 100000 in
/-- a pick that came in -/
theorem pk_of {H : Type} {enc : TypeId × Value → H} {W : World} {base : Nat} {e : TypeId} {f0 f1 : Field} {v : Value} {d : DataW H} {p : List MemPlace}
    (he : Try.prog.underlying e = some (.struct #[f0, f1])) (ce : Try.prog.cellsOf e = 2)
    (o0 : f0.offset = 0 ∧ Try.prog.cellsOf f0.type = 1 ∧ Try.prog.underlying f0.type = some (.int .i64))
    (o1 : f1.offset = 1 ∧ Try.prog.cellsOf f1.type = 1 ∧ Try.prog.underlying f1.type = some .string)
    (hv : Value.okWide Try.prog W .any base e v) (h : DataW.Trod enc Try.prog W 0 (fun _ => true) true e v d p) :
    ∃ a : Pk, v = pkV a ∧ SzKw (d.weights Try.prog e) a := by
  obtain ⟨cs, rfl, hsz⟩ := okWide_struct he hv
  obtain ⟨fuel, hf⟩ := h
  obtain ⟨a, e1, hw⟩ := pk_cells he ce o0 o1 hf
  refine ⟨a, ?_, hw⟩
  have e2 : cs.toList = pkC a := by simpa [Value.cells] using e1
  have e3 : cs = (pkC a).toArray := by rw [← e2]
  rw [e3]
  rfl
set_option maxRecDepth 100000 in
/-- picks that came in -/
theorem pks_of {H : Type} {enc : TypeId × Value → H} {W : World} {base : Nat} {t e : TypeId} {f0 f1 : Field} {v : Value} {d : DataW H} {p : List MemPlace}
    (ht : Try.prog.underlying t = some (.slice e)) (hb : Try.prog.bytesOf e = 24) (he : Try.prog.underlying e = some (.struct #[f0, f1])) (ce : Try.prog.cellsOf e = 2)
    (o0 : f0.offset = 0 ∧ Try.prog.cellsOf f0.type = 1 ∧ Try.prog.underlying f0.type = some (.int .i64))
    (o1 : f1.offset = 1 ∧ Try.prog.cellsOf f1.type = 1 ∧ Try.prog.underlying f1.type = some .string)
    (hv : Value.okWide Try.prog W .any base t v) (h : DataW.Trod enc Try.prog W 0 (fun _ => true) true t v d p) :
    ∃ l : List Pk, PkI W v l ∧ (∀ y ∈ l, SzKw (d.weights Try.prog t) y) ∧ (l.length = 0 ∨ ∃ n ∈ d.weights Try.prog t, l.length * 24 ≤ n) := by
  obtain ⟨a, len, cap, rfl⟩ := okWide_slice ht hv
  obtain ⟨fuel, hf⟩ := h
  rcases DataW.trod_slice ht hf with ⟨hcs, hx⟩ | ⟨ad, l, c, elems, rest, m, _, hcs, hx, _, hl, hm, hlen, hall, _, _⟩
  · simp [Value.cells] at hcs
    obtain ⟨rfl, rfl, rfl⟩ := hcs
    exact ⟨[], pki_none _, by simp, .inl rfl⟩
  · simp [Value.cells] at hcs
    obtain ⟨rfl, rfl, rfl⟩ := hcs
    simp only [Prod.mk.injEq] at hx
    obtain ⟨rfl, _⟩ := hx
    rw [ce] at hall
    have each : ∀ i, i < len → ∃ q : Pk, (∀ j, j < 2 → W.cell? ((ad.add (i * 2)).add j) = (pkC q)[j]?) ∧ ∃ x, elems[i]? = some x ∧ SzKw (x.1.weights Try.prog e) q := by
      intro i hi
      have h1 := hall i hi
      rw [List.getElem?_eq_getElem (show i < elems.length by omega)] at h1
      rw [Option.bind_eq_some_iff] at h1
      obtain ⟨cs, h2, h3⟩ := h1
      obtain ⟨_, _, h4⟩ := World.cells?_some h2
      obtain ⟨q, rfl, hq⟩ := pk_cells he ce o0 o1 h3
      exact ⟨q, h4, _, List.getElem?_eq_getElem _, hq⟩
    obtain ⟨Q, hQ⟩ := Go.Deep.choose_lt each
    have hml : ((List.range len).map Q).length = len := by simp
    refine ⟨(List.range len).map Q, ?_, ?_, .inr ⟨((elems.map (·.1)).length + (rest.map (·.1)).length) * Try.prog.bytesOf e, by simp [DataW.weights, ht], ?_⟩⟩
    · by_cases h0 : len = 0
      · subst h0; exact .inl ⟨_, _, rfl, by simp, by simp [kqC]⟩
      · obtain ⟨b, off, spot⟩ := ad
        have h1 := (hQ 0 (by omega)).1 0 (by omega)
        have h1' : W.cell? ((Addr.mk b off spot).add (0 * 2) |>.add 0) = some (.int .i64 (Q 0).n) := h1
        have hspot : spot = none := by simpa [Addr.add] using World.cell?_spot h1'
        subst hspot
        have hlt := World.block_lt_of_cell? W _ h1'
        have hbl : b < W.heap.size := by simpa [Addr.add_lit] using hlt
        refine .inr ⟨b, off, cap, by rw [hml], by rw [hml]; exact hl, hbl, fun j u hu => ?_⟩
        have hj : j < len * 2 := by
          have := (List.getElem?_eq_some_iff.1 hu).1
          rw [kqC_len, hml] at this
          exact this
        have hk : j / 2 < len := by omega
        have hg := kqC_get ((List.range len).map Q) (j / 2) (by rw [hml]; exact hk) (j % 2) (by omega)
        rw [show j / 2 * 2 + j % 2 = j by omega, hu] at hg
        have h2 := (hQ (j / 2) hk).1 (j % 2) (by omega)
        rw [Addr.add_lit, Addr.add_lit] at h2
        rw [show off + j / 2 * 2 + j % 2 = off + j by omega] at h2
        rw [h2, hg]
        simp
    · intro y hy
      obtain ⟨i, hi, rfl⟩ := List.mem_map.1 hy
      obtain ⟨_, x, hx, hq⟩ := hQ i (List.mem_range.1 hi)
      exact hq.sub fun n hn => wgt_sliceV ht (d := x.1) (List.mem_map.2 ⟨x, List.mem_of_getElem? hx, rfl⟩) hn
    · rw [hb]
      simp
      omega
theorem pks_le {H : Type} {ts : List TypeId} {ds : List (DataW H)} (h : (DataW.weightsEach Try.prog ts ds).all (· ≤ reachBytes) = true) {j : Nat} {t : TypeId} {d : DataW H} (ht : ts[j]? = some t) (hd : ds[j]? = some d) {n : Nat} (hn : n = 0 ∨ ∃ m ∈ d.weights Try.prog t, n * 24 ≤ m) : n * 24 ≤ 140737488355328 := by
  rcases hn with hn | ⟨m, hm, hn⟩
  · omega
  · have := wgt_leV h ht hd hm
    have h2 : reachBytes < 2 ^ 47 := reachBytes_lt
    omega
end Go.Proofs.Ytbiapepalkdkdab.ibulk
