/- What comes in: a kept token, a list of them. -/
import Derived.Test.YtojiahdbgdgdcaaRows
import Derived.Test.YtojiahdbgdgdcaaTkM
import Derived.ProofKit
import Derived.OpenShut
import Derived.SliceStrings
import Derived.SizedLaws
import Derived.Deep.Strs
namespace Go.Proofs.Ytojiahdbgdgdcaa.ibulk
open Go.ChangeShapes Go.WideShapes Go.ChangeAt Go.RowKit
set_option linter.unusedVariables false

instance : Inhabited Hd := ⟨⟨⟨#[]⟩, ⟨#[]⟩, ⟨#[]⟩, 0⟩⟩
theorem wgt_allH {H : Type} {P : Program} {e : TypeId} : ∀ {ds : List (DataW H)} {d : DataW H}, d ∈ ds → ∀ n ∈ d.weights P e, n ∈ DataW.weightsAll P e ds
  | d0 :: r, d, hd, n, hn => by
    simp only [DataW.weightsAll, List.mem_append]
    rcases List.mem_cons.1 hd with rfl | h
    · exact .inl hn
    · exact .inr (wgt_allH h n hn)
  | [], _, hd, _, _ => by simp at hd
theorem wgt_sliceH {H : Type} {P : Program} {t e : TypeId} {elems spare : List (DataW H)} (hu : P.underlying t = some (.slice e)) {d : DataW H} (hd : d ∈ elems) {n : Nat} (hn : n ∈ d.weights P e) : n ∈ (DataW.slice elems spare).weights P t := by
  simp only [DataW.weights, hu, List.mem_cons, List.mem_append]
  exact .inr (.inl (wgt_allH hd n hn))
theorem wgt_leH {H : Type} {P : Program} {ts : List TypeId} {ds : List (DataW H)} (h : (DataW.weightsEach P ts ds).all (· ≤ reachBytes) = true) {j : Nat} {t : TypeId} {d : DataW H} (ht : ts[j]? = some t) (hd : ds[j]? = some d) {n : Nat} (hn : n ∈ d.weights P t) : n ≤ reachBytes := by
  have := List.all_eq_true.1 h _ (DataW.weights_mem_each ht hd n hn)
  simpa using this
/-- what bounds a kept token -/
def SzHw (ws : List Nat) (a : Hd) : Prop := a.tk.size ∈ ws ∧ a.su.size ∈ ws ∧ a.ou.size ∈ ws
def SzHb (a : Hd) : Prop := a.tk.size ≤ 140737488355328 ∧ a.su.size ≤ 140737488355328 ∧ a.ou.size ≤ 140737488355328
theorem SzHw.bd {ws : List Nat} {a : Hd} (h : SzHw ws a) (hb : ∀ n ∈ ws, n ≤ reachBytes) : SzHb a := by
  have hr : reachBytes < 2 ^ 47 := reachBytes_lt
  obtain ⟨h1, h2, h3⟩ := h
  exact ⟨by have := hb _ h1; omega, by have := hb _ h2; omega, by have := hb _ h3; omega⟩
theorem SzHw.sub {ws us : List Nat} {a : Hd} (h : SzHw ws a) (hs : ∀ n ∈ ws, n ∈ us) : SzHw us a := ⟨hs _ h.1, hs _ h.2.1, hs _ h.2.2⟩
set_option maxRecDepth 100000 in
/-- one kept token's cells -/
theorem hd_cells {H : Type} {enc : TypeId × Value → H} {W : World} {base : Nat} {sp : Nat → Bool} {hd : Bool} {e : TypeId} {f0 f1 f2 f3 : Field} {cs : List Value} {m : Nat} {x : DataW H × List MemPlace}
    (he : Try.prog.underlying e = some (.struct #[f0, f1, f2, f3])) (ce : Try.prog.cellsOf e = 4)
    (o0 : f0.offset = 0 ∧ Try.prog.cellsOf f0.type = 1 ∧ Try.prog.underlying f0.type = some .string)
    (o1 : f1.offset = 1 ∧ Try.prog.cellsOf f1.type = 1 ∧ Try.prog.underlying f1.type = some .string)
    (o2 : f2.offset = 2 ∧ Try.prog.cellsOf f2.type = 1 ∧ Try.prog.underlying f2.type = some .string)
    (o3 : f3.offset = 3 ∧ Try.prog.cellsOf f3.type = 1 ∧ Try.prog.underlying f3.type = some (.int .i64))
    (h : DataW.trod enc Try.prog W base sp hd m e cs = some x) :
    ∃ a : Hd, cs = hdC a ∧ SzHw (x.1.weights Try.prog e) a := by
  obtain ⟨xs, n, _, rfl, hl, hlen, hf⟩ := DataW.trod_struct he h
  rw [ce] at hl
  match xs, hlen with
  | [y0, y1, y2, y3], _ =>
  match cs, hl with
  | [c0, c1, c2, c3], _ =>
  have t0 := hf 0 f0 rfl
  have t1 := hf 1 f1 rfl
  have t2 := hf 2 f2 rfl
  have t3 := hf 3 f3 rfl
  rw [o0.1, o0.2.1] at t0
  rw [o1.1, o1.2.1] at t1
  rw [o2.1, o2.2.1] at t2
  rw [o3.1, o3.2.1] at t3
  obtain ⟨s0, e0, r0, _⟩ := DataW.trod_string o0.2.2 (t0 : _ = some y0)
  obtain ⟨s1, e1, r1, _⟩ := DataW.trod_string o1.2.2 (t1 : _ = some y1)
  obtain ⟨s2, e2, r2, _⟩ := DataW.trod_string o2.2.2 (t2 : _ = some y2)
  obtain ⟨a3, e3, _, w3⟩ := DataW.trod_int o3.2.2 (t3 : _ = some y3)
  simp at e0 e1 e2 e3
  subst e0 e1 e2 e3
  refine ⟨⟨s0, s1, s2, a3⟩, rfl, ?_⟩
  subst r0 r1 r2
  refine ⟨?_, ?_, ?_⟩ <;> (simp only [DataW.weights, he, List.map_cons, List.map_nil, DataW.weightsEach, List.mem_append]; simp)
set_option maxRecDepth 100000 in
/-- a kept token that came in -/
theorem hd_of {H : Type} {enc : TypeId × Value → H} {W : World} {base : Nat} {e : TypeId} {f0 f1 f2 f3 : Field} {v : Value} {d : DataW H} {p : List MemPlace}
    (he : Try.prog.underlying e = some (.struct #[f0, f1, f2, f3])) (ce : Try.prog.cellsOf e = 4)
    (o0 : f0.offset = 0 ∧ Try.prog.cellsOf f0.type = 1 ∧ Try.prog.underlying f0.type = some .string)
    (o1 : f1.offset = 1 ∧ Try.prog.cellsOf f1.type = 1 ∧ Try.prog.underlying f1.type = some .string)
    (o2 : f2.offset = 2 ∧ Try.prog.cellsOf f2.type = 1 ∧ Try.prog.underlying f2.type = some .string)
    (o3 : f3.offset = 3 ∧ Try.prog.cellsOf f3.type = 1 ∧ Try.prog.underlying f3.type = some (.int .i64))
    (hv : Value.okWide Try.prog W .any base e v) (h : DataW.Trod enc Try.prog W 0 (fun _ => true) true e v d p) :
    ∃ a : Hd, v = hdV a ∧ SzHw (d.weights Try.prog e) a := by
  obtain ⟨cs, rfl, hsz⟩ := okWide_struct he hv
  obtain ⟨fuel, hf⟩ := h
  obtain ⟨a, e1, hw⟩ := hd_cells he ce o0 o1 o2 o3 hf
  refine ⟨a, ?_, hw⟩
  have e2 : cs.toList = hdC a := by simpa [Value.cells] using e1
  have e3 : cs = (hdC a).toArray := by rw [← e2]
  rw [e3]
  rfl
set_option maxRecDepth 100000 in
/-- kept tokens that came in -/
theorem hds_of {H : Type} {enc : TypeId × Value → H} {W : World} {base : Nat} {t e : TypeId} {f0 f1 f2 f3 : Field} {v : Value} {d : DataW H} {p : List MemPlace}
    (ht : Try.prog.underlying t = some (.slice e)) (hb : Try.prog.bytesOf e = 56) (he : Try.prog.underlying e = some (.struct #[f0, f1, f2, f3])) (ce : Try.prog.cellsOf e = 4)
    (o0 : f0.offset = 0 ∧ Try.prog.cellsOf f0.type = 1 ∧ Try.prog.underlying f0.type = some .string)
    (o1 : f1.offset = 1 ∧ Try.prog.cellsOf f1.type = 1 ∧ Try.prog.underlying f1.type = some .string)
    (o2 : f2.offset = 2 ∧ Try.prog.cellsOf f2.type = 1 ∧ Try.prog.underlying f2.type = some .string)
    (o3 : f3.offset = 3 ∧ Try.prog.cellsOf f3.type = 1 ∧ Try.prog.underlying f3.type = some (.int .i64))
    (hv : Value.okWide Try.prog W .any base t v) (h : DataW.Trod enc Try.prog W 0 (fun _ => true) true t v d p) :
    ∃ l : List Hd, HdI W v l ∧ (∀ y ∈ l, SzHw (d.weights Try.prog t) y) ∧ (l.length = 0 ∨ ∃ n ∈ d.weights Try.prog t, l.length * 56 ≤ n) := by
  obtain ⟨a, len, cap, rfl⟩ := okWide_slice ht hv
  obtain ⟨fuel, hf⟩ := h
  rcases DataW.trod_slice ht hf with ⟨hcs, hx⟩ | ⟨ad, l, c, elems, rest, m, _, hcs, hx, _, hl, hm, hlen, hall, _, _⟩
  · simp [Value.cells] at hcs
    obtain ⟨rfl, rfl, rfl⟩ := hcs
    exact ⟨[], hdi_none _, by simp, .inl rfl⟩
  · simp [Value.cells] at hcs
    obtain ⟨rfl, rfl, rfl⟩ := hcs
    simp only [Prod.mk.injEq] at hx
    obtain ⟨rfl, _⟩ := hx
    rw [ce] at hall
    have each : ∀ i, i < len → ∃ q : Hd, (∀ j, j < 4 → W.cell? ((ad.add (i * 4)).add j) = (hdC q)[j]?) ∧ ∃ x, elems[i]? = some x ∧ SzHw (x.1.weights Try.prog e) q := by
      intro i hi
      have h1 := hall i hi
      rw [List.getElem?_eq_getElem (show i < elems.length by omega)] at h1
      rw [Option.bind_eq_some_iff] at h1
      obtain ⟨cs, h2, h3⟩ := h1
      obtain ⟨_, _, h4⟩ := World.cells?_some h2
      obtain ⟨q, rfl, hq⟩ := hd_cells he ce o0 o1 o2 o3 h3
      exact ⟨q, h4, _, List.getElem?_eq_getElem _, hq⟩
    obtain ⟨Q, hQ⟩ := Go.Deep.choose_lt each
    have hml : ((List.range len).map Q).length = len := by simp
    refine ⟨(List.range len).map Q, ?_, ?_, .inr ⟨((elems.map (·.1)).length + (rest.map (·.1)).length) * Try.prog.bytesOf e, by simp [DataW.weights, ht], ?_⟩⟩
    · by_cases h0 : len = 0
      · subst h0; exact .inl ⟨_, _, rfl, by simp, by simp [hqC]⟩
      · obtain ⟨b, off, spot⟩ := ad
        have h1 := (hQ 0 (by omega)).1 0 (by omega)
        have h1' : W.cell? ((Addr.mk b off spot).add (0 * 4) |>.add 0) = some (.string (Q 0).tk) := h1
        have hspot : spot = none := by simpa [Addr.add] using World.cell?_spot h1'
        subst hspot
        have hlt := World.block_lt_of_cell? W _ h1'
        have hbl : b < W.heap.size := by simpa [Addr.add_lit] using hlt
        refine .inr ⟨b, off, cap, by rw [hml], by rw [hml]; exact hl, hbl, fun j u hu => ?_⟩
        have hj : j < len * 4 := by
          have := (List.getElem?_eq_some_iff.1 hu).1
          rw [hqC_len, hml] at this
          exact this
        have hk : j / 4 < len := by omega
        have hg := hqC_get ((List.range len).map Q) (j / 4) (by rw [hml]; exact hk) (j % 4) (by omega)
        rw [show j / 4 * 4 + j % 4 = j by omega, hu] at hg
        have h2 := (hQ (j / 4) hk).1 (j % 4) (by omega)
        rw [Addr.add_lit, Addr.add_lit] at h2
        rw [show off + j / 4 * 4 + j % 4 = off + j by omega] at h2
        rw [h2, hg]
        simp
    · intro y hy
      obtain ⟨i, hi, rfl⟩ := List.mem_map.1 hy
      obtain ⟨_, x, hx, hq⟩ := hQ i (List.mem_range.1 hi)
      exact hq.sub fun n hn => wgt_sliceH ht (d := x.1) (List.mem_map.2 ⟨x, List.mem_of_getElem? hx, rfl⟩) hn
    · rw [hb]
      simp
      omega
theorem hds_le {H : Type} {ts : List TypeId} {ds : List (DataW H)} (h : (DataW.weightsEach Try.prog ts ds).all (· ≤ reachBytes) = true) {j : Nat} {t : TypeId} {d : DataW H} (ht : ts[j]? = some t) (hd : ds[j]? = some d) {n : Nat} (hn : n = 0 ∨ ∃ m ∈ d.weights Try.prog t, n * 56 ≤ m) : n * 56 ≤ 140737488355328 := by
  rcases hn with hn | ⟨m, hm, hn⟩
  · omega
  · have := wgt_leH h ht hd hm
    have h2 : reachBytes < 2 ^ 47 := reachBytes_lt
    omega
end Go.Proofs.Ytojiahdbgdgdcaa.ibulk
