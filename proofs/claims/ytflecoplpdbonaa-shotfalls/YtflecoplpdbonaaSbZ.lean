/- What comes in: snapshots; two losses of power. -/
import Derived.Test.YtflecoplpdbonaaShB
import Derived.SliceStrings
import Derived.SizedLaws
import Derived.Deep.Strs
namespace Go.Proofs.Ytflecoplpdbonaa
open Go.RowKit Go.Maps
set_option linter.unusedVariables false

/-- a snapshot's cells, its members at a value -/
def sbC (y : Value × Sh) : List Value := [.int .i64 y.2.ix, .int .i64 y.2.tm, y.1, .string y.2.da]
/-- snapshots in memory -/
def ShsI (w : World) (v : Value) (q : List (Value × Sh)) : Prop :=
  ((∃ ad cap, v = .slice ad 0 cap ∧ q = []) ∨ ∃ g off cap, v = .slice (some ⟨g, off, none⟩) q.length cap ∧ g < w.heap.size ∧ ∀ k (h : k < q.length) j, j < 4 → w.cell? ⟨g, off + k * 4 + j, none⟩ = (sbC q[k])[j]?) ∧ ∀ y ∈ q, IntsI w y.1 y.2.ms
end Go.Proofs.Ytflecoplpdbonaa
namespace Go.Proofs.Ytflecoplpdbonaa.ibulk
open Go.ChangeShapes Go.WideShapes Go.ChangeAt Go.RowKit
set_option linter.unusedVariables false
instance : Inhabited Sh := ⟨⟨0, 0, [], ⟨#[]⟩⟩⟩
set_option maxRecDepth 100000 in
/-- one snapshot's cells -/
theorem sh_cells {H : Type} {enc : TypeId × Value → H} {W : World} {base : Nat} {sp : Nat → Bool} {hd : Bool} {e : TypeId} {f0 f1 f2 f3 : Field} {cs : List Value} {m : Nat} {x : DataW H × List MemPlace}
    (he : Try.prog.underlying e = some (.struct #[f0, f1, f2, f3])) (ce : Try.prog.cellsOf e = 4)
    (o0 : f0.offset = 0 ∧ Try.prog.cellsOf f0.type = 1 ∧ Try.prog.underlying f0.type = some (.int .i64))
    (o1 : f1.offset = 1 ∧ Try.prog.cellsOf f1.type = 1 ∧ Try.prog.underlying f1.type = some (.int .i64))
    (o2 : f2.offset = 2 ∧ Try.prog.cellsOf f2.type = 1 ∧ Try.prog.underlying f2.type = some (.slice 3))
    (o3 : f3.offset = 3 ∧ Try.prog.cellsOf f3.type = 1 ∧ Try.prog.underlying f3.type = some .string)
    (hi : Try.prog.underlying 3 = some (.int .i64)) (hc : Try.prog.cellsOf 3 = 1) (h8 : Try.prog.bytesOf 3 = 8)
    (h : DataW.trod enc Try.prog W base sp hd m e cs = some x) :
    ∃ (u : Value) (a : Sh), cs = sbC (u, a) ∧ IntsI W u a.ms ∧ (a.ms.length = 0 ∨ ∃ n ∈ x.1.weights Try.prog e, a.ms.length * 8 ≤ n) := by
  obtain ⟨xs, n, _, rfl, hl, hlen, hf⟩ := DataW.trod_struct he h
  rw [ce] at hl
  match xs, hlen with
  | [y0, y1, y2, y3], _ =>
  match cs, hl with
  | [c0, c1, c2, c3], _ =>
  have t0 := hf 0 f0 rfl
  have t1 := hf 1 f1 rfl
  have t2 := hf 2 f2 rfl
  have t3 := hf 3 f3 rfl
  rw [o0.1, o0.2.1] at t0
  rw [o1.1, o1.2.1] at t1
  rw [o2.1, o2.2.1] at t2
  rw [o3.1, o3.2.1] at t3
  obtain ⟨a0, e0, _, w0⟩ := DataW.trod_int o0.2.2 (t0 : _ = some y0)
  obtain ⟨a1, e1, _, w1⟩ := DataW.trod_int o1.2.2 (t1 : _ = some y1)
  obtain ⟨zs, hI, hn⟩ := ints_cell (v := c2) (x := y2) o2.2.2 hi hc h8 t2
  obtain ⟨s, e3, r3, _⟩ := DataW.trod_string o3.2.2 (t3 : _ = some y3)
  simp at e0 e1 e3
  subst e0 e1 e3
  refine ⟨c2, ⟨a0, a1, zs, s⟩, rfl, hI, hn.imp id fun ⟨n, hn, h⟩ => ⟨n, ?_, h⟩⟩
  simp only [DataW.weights, he, List.map_cons, List.map_nil, DataW.weightsEach, List.mem_append]
  simp [hn]
theorem sb_all {H : Type} {P : Program} {e : TypeId} : ∀ {l : List (DataW H)} {d : DataW H}, d ∈ l → ∀ n, n ∈ d.weights P e → n ∈ DataW.weightsAll P e l
  | x :: r, d, h, n, hn => by
    rw [DataW.weightsAll]
    rcases List.mem_cons.1 h with rfl | h
    · exact List.mem_append.2 (.inl hn)
    · exact List.mem_append.2 (.inr (sb_all h n hn))
theorem sb_slice {H : Type} {P : Program} {t e : TypeId} {elems spare : List (DataW H)} (hu : P.underlying t = some (.slice e)) {d : DataW H} (hd : d ∈ elems) {n : Nat} (hn : n ∈ d.weights P e) : n ∈ (DataW.slice elems spare).weights P t := by
  simp only [DataW.weights, hu, List.mem_cons, List.mem_append]
  exact .inr (.inl (sb_all hd n hn))
set_option maxRecDepth 100000 in
/-- snapshots that came in -/
theorem shs_of {H : Type} {enc : TypeId × Value → H} {W : World} {base : Nat} {t e : TypeId} {f0 f1 f2 f3 : Field} {v : Value} {d : DataW H} {p : List MemPlace}
    (ht : Try.prog.underlying t = some (.slice e)) (he : Try.prog.underlying e = some (.struct #[f0, f1, f2, f3])) (ce : Try.prog.cellsOf e = 4)
    (o0 : f0.offset = 0 ∧ Try.prog.cellsOf f0.type = 1 ∧ Try.prog.underlying f0.type = some (.int .i64))
    (o1 : f1.offset = 1 ∧ Try.prog.cellsOf f1.type = 1 ∧ Try.prog.underlying f1.type = some (.int .i64))
    (o2 : f2.offset = 2 ∧ Try.prog.cellsOf f2.type = 1 ∧ Try.prog.underlying f2.type = some (.slice 3))
    (o3 : f3.offset = 3 ∧ Try.prog.cellsOf f3.type = 1 ∧ Try.prog.underlying f3.type = some .string)
    (hi : Try.prog.underlying 3 = some (.int .i64)) (hc : Try.prog.cellsOf 3 = 1) (h8 : Try.prog.bytesOf 3 = 8)
    (hv : Value.okWide Try.prog W .any base t v) (h : DataW.Trod enc Try.prog W 0 (fun _ => true) true t v d p) :
    ∃ q : List (Value × Sh), ShsI W v q ∧ ∀ y ∈ q, y.2.ms.length = 0 ∨ ∃ n ∈ d.weights Try.prog t, y.2.ms.length * 8 ≤ n := by
  obtain ⟨a, len, cap, rfl⟩ := okWide_slice ht hv
  obtain ⟨fuel, hf⟩ := h
  rcases DataW.trod_slice ht hf with ⟨hcs, hx⟩ | ⟨ad, l, c, elems, rest, m, _, hcs, hx, _, hl, hm, hlen, hall, _, _⟩
  · simp [Value.cells] at hcs
    obtain ⟨rfl, rfl, rfl⟩ := hcs
    exact ⟨[], ⟨.inl ⟨_, _, rfl, rfl⟩, by simp⟩, by simp⟩
  · simp [Value.cells] at hcs
    obtain ⟨rfl, rfl, rfl⟩ := hcs
    simp only [Prod.mk.injEq] at hx
    obtain ⟨rfl, _⟩ := hx
    rw [ce] at hall
    have each : ∀ i, i < len → ∃ q : Value × Sh, (∀ j, j < 4 → W.cell? ((ad.add (i * 4)).add j) = (sbC q)[j]?) ∧ IntsI W q.1 q.2.ms ∧ ∃ x, elems[i]? = some x ∧ (q.2.ms.length = 0 ∨ ∃ n ∈ x.1.weights Try.prog e, q.2.ms.length * 8 ≤ n) := by
      intro i hi1
      have h1 := hall i hi1
      rw [List.getElem?_eq_getElem (show i < elems.length by omega)] at h1
      rw [Option.bind_eq_some_iff] at h1
      obtain ⟨cs, h2, h3⟩ := h1
      obtain ⟨_, _, h4⟩ := World.cells?_some h2
      obtain ⟨pv, q, rfl, hp, hq⟩ := sh_cells he ce o0 o1 o2 o3 hi hc h8 h3
      exact ⟨(pv, q), h4, hp, _, List.getElem?_eq_getElem _, hq⟩
    obtain ⟨Q, hQ⟩ := Go.Deep.choose_lt each
    have hml : ((List.range len).map Q).length = len := by simp
    refine ⟨(List.range len).map Q, ⟨?_, ?_⟩, ?_⟩
    · by_cases h0 : len = 0
      · subst h0; exact .inl ⟨_, _, rfl, by simp⟩
      · obtain ⟨b, off, spot⟩ := ad
        have h1 := (hQ 0 (by omega)).1 0 (by omega)
        have h1' : W.cell? ((Addr.mk b off spot).add (0 * 4) |>.add 0) = some (.int .i64 (Q 0).2.ix) := h1
        have hspot : spot = none := by simpa [Addr.add] using World.cell?_spot h1'
        subst hspot
        have hlt := World.block_lt_of_cell? W _ h1'
        have hbl : b < W.heap.size := by simpa [Addr.add_lit] using hlt
        refine .inr ⟨b, off, cap, by rw [hml], hbl, fun k hk j hj => ?_⟩
        rw [hml] at hk
        have h2 := (hQ k hk).1 j hj
        rw [Addr.add_lit, Addr.add_lit] at h2
        rw [h2]
        simp
    · intro y hy
      obtain ⟨i, hi, rfl⟩ := List.mem_map.1 hy
      exact (hQ i (List.mem_range.1 hi)).2.1
    · intro y hy
      obtain ⟨i, hi, rfl⟩ := List.mem_map.1 hy
      obtain ⟨_, _, x, hx, hq⟩ := hQ i (List.mem_range.1 hi)
      exact hq.imp id fun ⟨n, hn, h⟩ => ⟨n, sb_slice ht (d := x.1) (List.mem_map.2 ⟨x, List.mem_of_getElem? hx, rfl⟩) hn, h⟩
theorem shs_le {H : Type} {ts : List TypeId} {ds : List (DataW H)} (h : (DataW.weightsEach Try.prog ts ds).all (· ≤ reachBytes) = true) {j : Nat} {t : TypeId} {d : DataW H} (ht : ts[j]? = some t) (hd : ds[j]? = some d) {n : Nat} (hn : n = 0 ∨ ∃ m ∈ d.weights Try.prog t, n * 8 ≤ m) : n ≤ 17592186044416 := ints_le h ht hd hn
set_option maxRecDepth 100000 in
theorem fl_cells {H : Type} {enc : TypeId × Value → H} {W : World} {base : Nat} {sp : Nat → Bool} {hd : Bool} {e : TypeId} {f0 f1 f2 : Field} {cs : List Value} {m : Nat} {x : DataW H × List MemPlace}
    (he : Try.prog.underlying e = some (.struct #[f0, f1, f2])) (ce : Try.prog.cellsOf e = 3)
    (o0 : f0.offset = 0 ∧ Try.prog.cellsOf f0.type = 1 ∧ Try.prog.underlying f0.type = some (.int .i64))
    (o1 : f1.offset = 1 ∧ Try.prog.cellsOf f1.type = 1 ∧ Try.prog.underlying f1.type = some (.int .i64))
    (o2 : f2.offset = 2 ∧ Try.prog.cellsOf f2.type = 1 ∧ Try.prog.underlying f2.type = some (.int .i64))
    (h : DataW.trod enc Try.prog W base sp hd m e cs = some x) : ∃ a b c : Int, cs = [.int .i64 a, .int .i64 b, .int .i64 c] ∧ (Lit.int .i64 a).wf = true := by
  obtain ⟨xs, n, _, rfl, hl, hlen, hf⟩ := DataW.trod_struct he h
  rw [ce] at hl
  match xs, hlen with
  | [y0, y1, y2], _ =>
  match cs, hl with
  | [c0, c1, c2], _ =>
  have t0 := hf 0 f0 rfl
  have t1 := hf 1 f1 rfl
  have t2 := hf 2 f2 rfl
  rw [o0.1, o0.2.1] at t0
  rw [o1.1, o1.2.1] at t1
  rw [o2.1, o2.2.1] at t2
  obtain ⟨a0, e0, _, w0⟩ := DataW.trod_int o0.2.2 (t0 : _ = some y0)
  obtain ⟨a1, e1, _, w1⟩ := DataW.trod_int o1.2.2 (t1 : _ = some y1)
  obtain ⟨a2, e2, _, w2⟩ := DataW.trod_int o2.2.2 (t2 : _ = some y2)
  simp at e0 e1 e2
  subst e0 e1 e2
  exact ⟨a0, a1, a2, rfl, w0⟩
set_option maxRecDepth 100000 in
/-- two losses of power that came in -/
theorem fls_of {H : Type} {enc : TypeId × Value → H} {W : World} {base : Nat} {t e : TypeId} {f0 f1 f2 : Field} {v : Value} {d : DataW H} {p : List MemPlace}
    (ht : Try.prog.underlying t = some (.array 2 e)) (hC : Try.prog.cellsOf t = 6) (he : Try.prog.underlying e = some (.struct #[f0, f1, f2])) (ce : Try.prog.cellsOf e = 3)
    (o0 : f0.offset = 0 ∧ Try.prog.cellsOf f0.type = 1 ∧ Try.prog.underlying f0.type = some (.int .i64))
    (o1 : f1.offset = 1 ∧ Try.prog.cellsOf f1.type = 1 ∧ Try.prog.underlying f1.type = some (.int .i64))
    (o2 : f2.offset = 2 ∧ Try.prog.cellsOf f2.type = 1 ∧ Try.prog.underlying f2.type = some (.int .i64))
    (hv : Value.okWide Try.prog W .any base t v) (h : DataW.Trod enc Try.prog W 0 (fun _ => true) true t v d p) :
    ∃ a b c a' b' c' : Int, v = .agg #[.int .i64 a, .int .i64 b, .int .i64 c, .int .i64 a', .int .i64 b', .int .i64 c'] := by
  have hag : ∃ cs : Array Value, v = .agg cs := by
    simp only [Value.okWide, ht] at hv
    cases v <;> simp_all
  obtain ⟨cs, rfl⟩ := hag
  obtain ⟨fuel, hf⟩ := h
  obtain ⟨xs, m, _, hx, hl, hn, hall⟩ := DataW.trod_array ht hf
  have h0 := hall 0 (by omega)
  have h1 := hall 1 (by omega)
  rw [ce] at h0 h1
  match xs, hn with
  | [x0, x1], _ =>
    simp at h0 h1
    obtain ⟨a, b, c, e0, _⟩ := fl_cells he ce o0 o1 o2 h0
    obtain ⟨a', b', c', e1, _⟩ := fl_cells he ce o0 o1 o2 h1
    refine ⟨a, b, c, a', b', c', ?_⟩
    rw [hC] at hl
    obtain ⟨l⟩ := cs
    simp [Value.cells] at hl e0 e1
    match l, hl with
    | [z0, z1, z2, z3, z4, z5], _ =>
      simp at e0 e1
      obtain ⟨rfl, rfl, rfl⟩ := e0
      obtain ⟨rfl, rfl, rfl⟩ := e1
      rfl
end Go.Proofs.Ytflecoplpdbonaa.ibulk
