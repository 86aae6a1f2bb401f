/- What comes in: a chunk, a list of them. -/
import Derived.Test.YtpbfjcgncfdfnaaRows
import Derived.Test.YtpbfjcgncfdfnaaJoined20
import Derived.ProofKit
import Derived.OpenShut
import Derived.SliceStrings
import Derived.SizedLaws
import Derived.Deep.Strs
namespace Go.Proofs.Ytpbfjcgncfdfnaa.ibulk
open Go.ChangeShapes Go.WideShapes Go.ChangeAt Go.RowKit
set_option linter.unusedVariables false

instance : Inhabited Ch := ⟨⟨0, 0, 0, false, ⟨#[]⟩⟩⟩
theorem wgt_allC {H : Type} {P : Program} {e : TypeId} : ∀ {ds : List (DataW H)} {d : DataW H}, d ∈ ds → ∀ n ∈ d.weights P e, n ∈ DataW.weightsAll P e ds
  | d0 :: r, d, hd, n, hn => by
    simp only [DataW.weightsAll, List.mem_append]
    rcases List.mem_cons.1 hd with rfl | h
    · exact .inl hn
    · exact .inr (wgt_allC h n hn)
  | [], _, hd, _, _ => by simp at hd
theorem wgt_sliceC {H : Type} {P : Program} {t e : TypeId} {elems spare : List (DataW H)} (hu : P.underlying t = some (.slice e)) {d : DataW H} (hd : d ∈ elems) {n : Nat} (hn : n ∈ d.weights P e) : n ∈ (DataW.slice elems spare).weights P t := by
  simp only [DataW.weights, hu, List.mem_cons, List.mem_append]
  exact .inr (.inl (wgt_allC hd n hn))
theorem wgt_leC {H : Type} {P : Program} {ts : List TypeId} {ds : List (DataW H)} (h : (DataW.weightsEach P ts ds).all (· ≤ reachBytes) = true) {j : Nat} {t : TypeId} {d : DataW H} (ht : ts[j]? = some t) (hd : ds[j]? = some d) {n : Nat} (hn : n ∈ d.weights P t) : n ≤ reachBytes := by
  have := List.all_eq_true.1 h _ (DataW.weights_mem_each ht hd n hn)
  simpa using this
/-- what bounds a chunk -/
def SzCw (ws : List Nat) (a : Ch) : Prop := a.da.size ∈ ws
def SzCb (a : Ch) : Prop := a.da.size ≤ 140737488355328
theorem SzCw.bd {ws : List Nat} {a : Ch} (h : SzCw ws a) (hb : ∀ n ∈ ws, n ≤ reachBytes) : SzCb a := by
  have hr : reachBytes < 2 ^ 47 := reachBytes_lt
  have h1 := hb _ h
  show a.da.size ≤ _
  omega
theorem SzCw.sub {ws us : List Nat} {a : Ch} (h : SzCw ws a) (hs : ∀ n ∈ ws, n ∈ us) : SzCw us a := hs _ h
set_option maxRecDepth 100000 in
/-- one chunk's cells -/
theorem ch_cells {H : Type} {enc : TypeId × Value → H} {W : World} {base : Nat} {sp : Nat → Bool} {hd : Bool} {e : TypeId} {f0 f1 f2 f3 f4 : Field} {cs : List Value} {m : Nat} {x : DataW H × List MemPlace}
    (he : Try.prog.underlying e = some (.struct #[f0, f1, f2, f3, f4])) (ce : Try.prog.cellsOf e = 5)
    (o0 : f0.offset = 0 ∧ Try.prog.cellsOf f0.type = 1 ∧ Try.prog.underlying f0.type = some (.int .i64))
    (o1 : f1.offset = 1 ∧ Try.prog.cellsOf f1.type = 1 ∧ Try.prog.underlying f1.type = some (.int .i64))
    (o2 : f2.offset = 2 ∧ Try.prog.cellsOf f2.type = 1 ∧ Try.prog.underlying f2.type = some (.int .i64))
    (o3 : f3.offset = 3 ∧ Try.prog.cellsOf f3.type = 1 ∧ Try.prog.underlying f3.type = some .bool)
    (o4 : f4.offset = 4 ∧ Try.prog.cellsOf f4.type = 1 ∧ Try.prog.underlying f4.type = some .string)
    (h : DataW.trod enc Try.prog W base sp hd m e cs = some x) :
    ∃ a : Ch, cs = chuC a ∧ SzCw (x.1.weights Try.prog e) a := by
  obtain ⟨xs, n, _, rfl, hl, hlen, hf⟩ := DataW.trod_struct he h
  rw [ce] at hl
  match xs, hlen with
  | [y0, y1, y2, y3, y4], _ =>
  match cs, hl with
  | [c0, c1, c2, c3, c4], _ =>
  have t0 := hf 0 f0 rfl
  have t1 := hf 1 f1 rfl
  have t2 := hf 2 f2 rfl
  have t3 := hf 3 f3 rfl
  have t4 := hf 4 f4 rfl
  rw [o0.1, o0.2.1] at t0
  rw [o1.1, o1.2.1] at t1
  rw [o2.1, o2.2.1] at t2
  rw [o3.1, o3.2.1] at t3
  rw [o4.1, o4.2.1] at t4
  obtain ⟨a0, e0, _, w0⟩ := DataW.trod_int o0.2.2 (t0 : _ = some y0)
  obtain ⟨a1, e1, _, w1⟩ := DataW.trod_int o1.2.2 (t1 : _ = some y1)
  obtain ⟨a2, e2, _, w2⟩ := DataW.trod_int o2.2.2 (t2 : _ = some y2)
  obtain ⟨a3, e3, _⟩ := DataW.trod_bool o3.2.2 (t3 : _ = some y3)
  obtain ⟨s4, e4, r4, _⟩ := DataW.trod_string o4.2.2 (t4 : _ = some y4)
  simp at e0 e1 e2 e3 e4
  subst e0 e1 e2 e3 e4
  refine ⟨⟨a0, a1, a2, a3, s4⟩, rfl, ?_⟩
  subst r4
  unfold SzCw
  simp only [DataW.weights, he, List.map_cons, List.map_nil, DataW.weightsEach, List.mem_append]
  simp
set_option maxRecDepth 100000 in
/-- chunks that came in -/
theorem chs_of {H : Type} {enc : TypeId × Value → H} {W : World} {base : Nat} {t e : TypeId} {f0 f1 f2 f3 f4 : Field} {v : Value} {d : DataW H} {p : List MemPlace}
    (ht : Try.prog.underlying t = some (.slice e)) (hb : Try.prog.bytesOf e = 48) (he : Try.prog.underlying e = some (.struct #[f0, f1, f2, f3, f4])) (ce : Try.prog.cellsOf e = 5)
    (o0 : f0.offset = 0 ∧ Try.prog.cellsOf f0.type = 1 ∧ Try.prog.underlying f0.type = some (.int .i64))
    (o1 : f1.offset = 1 ∧ Try.prog.cellsOf f1.type = 1 ∧ Try.prog.underlying f1.type = some (.int .i64))
    (o2 : f2.offset = 2 ∧ Try.prog.cellsOf f2.type = 1 ∧ Try.prog.underlying f2.type = some (.int .i64))
    (o3 : f3.offset = 3 ∧ Try.prog.cellsOf f3.type = 1 ∧ Try.prog.underlying f3.type = some .bool)
    (o4 : f4.offset = 4 ∧ Try.prog.cellsOf f4.type = 1 ∧ Try.prog.underlying f4.type = some .string)
    (hv : Value.okWide Try.prog W .any base t v) (h : DataW.Trod enc Try.prog W 0 (fun _ => true) true t v d p) :
    ∃ l : List Ch, ChI W v l ∧ (∀ y ∈ l, SzCw (d.weights Try.prog t) y) ∧ (l.length = 0 ∨ ∃ n ∈ d.weights Try.prog t, l.length * 48 ≤ n) := by
  obtain ⟨a, len, cap, rfl⟩ := okWide_slice ht hv
  obtain ⟨fuel, hf⟩ := h
  rcases DataW.trod_slice ht hf with ⟨hcs, hx⟩ | ⟨ad, l, c, elems, rest, m, _, hcs, hx, _, hl, hm, hlen, hall, _, _⟩
  · simp [Value.cells] at hcs
    obtain ⟨rfl, rfl, rfl⟩ := hcs
    exact ⟨[], chi_none _, by simp, .inl rfl⟩
  · simp [Value.cells] at hcs
    obtain ⟨rfl, rfl, rfl⟩ := hcs
    simp only [Prod.mk.injEq] at hx
    obtain ⟨rfl, _⟩ := hx
    rw [ce] at hall
    have each : ∀ i, i < len → ∃ q : Ch, (∀ j, j < 5 → W.cell? ((ad.add (i * 5)).add j) = (chuC q)[j]?) ∧ ∃ x, elems[i]? = some x ∧ SzCw (x.1.weights Try.prog e) q := by
      intro i hi
      have h1 := hall i hi
      rw [List.getElem?_eq_getElem (show i < elems.length by omega)] at h1
      rw [Option.bind_eq_some_iff] at h1
      obtain ⟨cs, h2, h3⟩ := h1
      obtain ⟨_, _, h4⟩ := World.cells?_some h2
      obtain ⟨q, rfl, hq⟩ := ch_cells he ce o0 o1 o2 o3 o4 h3
      exact ⟨q, h4, _, List.getElem?_eq_getElem _, hq⟩
    obtain ⟨Q, hQ⟩ := Go.Deep.choose_lt each
    have hml : ((List.range len).map Q).length = len := by simp
    refine ⟨(List.range len).map Q, ?_, ?_, .inr ⟨((elems.map (·.1)).length + (rest.map (·.1)).length) * Try.prog.bytesOf e, by simp [DataW.weights, ht], ?_⟩⟩
    · by_cases h0 : len = 0
      · subst h0; exact .inl ⟨_, _, rfl, by simp, by simp [chuqC]⟩
      · obtain ⟨b, off, spot⟩ := ad
        have h1 := (hQ 0 (by omega)).1 0 (by omega)
        have h1' : W.cell? ((Addr.mk b off spot).add (0 * 5) |>.add 0) = some (.int .i64 (Q 0).ix) := h1
        have hspot : spot = none := by simpa [Addr.add] using World.cell?_spot h1'
        subst hspot
        have hlt := World.block_lt_of_cell? W _ h1'
        have hbl : b < W.heap.size := by simpa [Addr.add_lit] using hlt
        refine .inr ⟨b, off, cap, by rw [hml], by rw [hml]; exact hl, hbl, fun j u hu => ?_⟩
        have hj : j < len * 5 := by
          have := (List.getElem?_eq_some_iff.1 hu).1
          rw [chuqC_len, hml] at this
          exact this
        have hk : j / 5 < len := by omega
        have hg := chuqC_get ((List.range len).map Q) (j / 5) (by rw [hml]; exact hk) (j % 5) (by omega)
        rw [show j / 5 * 5 + j % 5 = j by omega, hu] at hg
        have h2 := (hQ (j / 5) hk).1 (j % 5) (by omega)
        rw [Addr.add_lit, Addr.add_lit] at h2
        rw [show off + j / 5 * 5 + j % 5 = off + j by omega] at h2
        rw [h2, hg]
        simp
    · intro y hy
      obtain ⟨i, hi, rfl⟩ := List.mem_map.1 hy
      obtain ⟨_, x, hx, hq⟩ := hQ i (List.mem_range.1 hi)
      exact hq.sub fun n hn => wgt_sliceC ht (d := x.1) (List.mem_map.2 ⟨x, List.mem_of_getElem? hx, rfl⟩) hn
    · rw [hb]
      simp
      omega
theorem chs_le {H : Type} {ts : List TypeId} {ds : List (DataW H)} (h : (DataW.weightsEach Try.prog ts ds).all (· ≤ reachBytes) = true) {j : Nat} {t : TypeId} {d : DataW H} (ht : ts[j]? = some t) (hd : ds[j]? = some d) {n : Nat} (hn : n = 0 ∨ ∃ m ∈ d.weights Try.prog t, n * 48 ≤ m) : n * 48 ≤ 140737488355328 := by
  rcases hn with hn | ⟨m, hm, hn⟩
  · omega
  · have := wgt_leC h ht hd hm
    have h2 : reachBytes < 2 ^ 47 := reachBytes_lt
    omega
end Go.Proofs.Ytpbfjcgncfdfnaa.ibulk
