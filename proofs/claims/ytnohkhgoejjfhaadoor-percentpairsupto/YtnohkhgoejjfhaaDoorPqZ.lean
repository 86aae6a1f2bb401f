/- What comes in: pairs, by a bound on their bulk. -/
import Derived.Test.YtnohkhgoejjfhaaDoorRows
import Derived.Test.YtnohkhgoejjfhaaDoorPeL
import Derived.ProofKit
import Derived.OpenShut
import Derived.SliceStrings
import Derived.SizedLaws
import Derived.Deep.Strs
namespace Go.Proofs.YtnohkhgoejjfhaaDoor.pbulk
open Go.ChangeShapes Go.WideShapes Go.ChangeAt Go.RowKit
set_option linter.unusedVariables false

set_option maxRecDepth 100000 in
/-- one pair's cells -/
theorem pq_cells {H : Type} {enc : TypeId × Value → H} {W : World} {base : Nat} {sp : Nat → Bool} {hd : Bool} {e : TypeId} {f0 f1 : Field} {cs : List Value} {m : Nat} {x : DataW H × List MemPlace}
    (he : Tryd.prog.underlying e = some (.struct #[f0, f1])) (ce : Tryd.prog.cellsOf e = 2)
    (o0 : f0.offset = 0 ∧ Tryd.prog.cellsOf f0.type = 1 ∧ Tryd.prog.underlying f0.type = some .string)
    (o1 : f1.offset = 1 ∧ Tryd.prog.cellsOf f1.type = 1 ∧ Tryd.prog.underlying f1.type = some .string)
    (h : DataW.trod enc Tryd.prog W base sp hd m e cs = some x) :
    ∃ a : Pq, cs = pqC [a] ∧ a.1.length + a.2.length + 1 ≤ Rows.uptoBulk x.1 := by
  obtain ⟨xs, n, _, rfl, hl, hlen, hf⟩ := DataW.trod_struct he h
  rw [ce] at hl
  match xs, hlen with
  | [y0, y1], _ =>
  match cs, hl with
  | [c0, c1], _ =>
  have t0 := hf 0 f0 rfl
  have t1 := hf 1 f1 rfl
  rw [o0.1, o0.2.1] at t0
  rw [o1.1, o1.2.1] at t1
  obtain ⟨s0, e0, r0, _⟩ := DataW.trod_string o0.2.2 (t0 : _ = some y0)
  obtain ⟨s1, e1, r1, _⟩ := DataW.trod_string o1.2.2 (t1 : _ = some y1)
  simp at e0 e1
  subst e0 e1
  refine ⟨(s0.data.toList, s1.data.toList), by simp [pqC], ?_⟩
  subst r0 r1
  simp only [List.map_cons, List.map_nil, Rows.uptoBulk, Rows.uptoBulkAll]
  omega
theorem sum_le {H : Type} (ds : List (DataW H)) : ∀ (len : Nat) (Q : Nat → Pq), len ≤ ds.length → (∀ i, i < len → ∃ d, ds[i]? = some d ∧ (Q i).1.length + (Q i).2.length + 1 ≤ Rows.uptoBulk d) → szP ((List.range len).map Q) + len ≤ Rows.uptoBulkAll ds := by
  induction ds with
  | nil => intro len Q hl h; simp at hl; subst hl; simp [szP]
  | cons d r ih =>
    intro len Q hl h
    cases len with
    | zero => simp [szP]
    | succ n =>
      obtain ⟨d', e, hb⟩ := h 0 (by omega)
      simp at e
      subst e
      have := ih n (fun i => Q (i + 1)) (by simpa using hl) (fun i hi => by
        obtain ⟨d2, e2, hb2⟩ := h (i + 1) (by omega)
        exact ⟨d2, by simpa using e2, hb2⟩)
      rw [List.range_succ_eq_map, List.map_cons, List.map_map]
      simp only [szP, List.map_cons, List.sum_cons, Rows.uptoBulkAll, List.map_map] at this ⊢
      simp only [Function.comp_def, Nat.succ_eq_add_one] at this ⊢
      omega
set_option maxRecDepth 100000 in
/-- pairs that came in -/
theorem pqs_of {H : Type} {enc : TypeId × Value → H} {W : World} {base : Nat} {t e : TypeId} {f0 f1 : Field} {v : Value} {d : DataW H} {p : List MemPlace}
    (ht : Tryd.prog.underlying t = some (.slice e)) (he : Tryd.prog.underlying e = some (.struct #[f0, f1])) (ce : Tryd.prog.cellsOf e = 2)
    (o0 : f0.offset = 0 ∧ Tryd.prog.cellsOf f0.type = 1 ∧ Tryd.prog.underlying f0.type = some .string)
    (o1 : f1.offset = 1 ∧ Tryd.prog.cellsOf f1.type = 1 ∧ Tryd.prog.underlying f1.type = some .string)
    (hv : Value.okWide Tryd.prog W .any base t v) (h : DataW.Trod enc Tryd.prog W 0 (fun _ => true) true t v d p) :
    ∃ l : List Pq, PqI W v l ∧ szP l + l.length ≤ Rows.uptoBulk d := by
  obtain ⟨a, len, cap, rfl⟩ := okWide_slice ht hv
  obtain ⟨fuel, hf⟩ := h
  rcases DataW.trod_slice ht hf with ⟨hcs, hx⟩ | ⟨ad, l, c, elems, rest, m, _, hcs, hx, _, hl, hm, hlen, hall, _, _⟩
  · simp [Value.cells] at hcs
    obtain ⟨rfl, rfl, rfl⟩ := hcs
    exact ⟨[], .inl ⟨none, 0, rfl, rfl, rfl⟩, by simp [szP]⟩
  · simp [Value.cells] at hcs
    obtain ⟨rfl, rfl, rfl⟩ := hcs
    simp only [Prod.mk.injEq] at hx
    obtain ⟨rfl, _⟩ := hx
    rw [ce] at hall
    have each : ∀ i, i < len → ∃ q : Pq, (∀ j, j < 2 → W.cell? ((ad.add (i * 2)).add j) = (pqC [q])[j]?) ∧ ∃ x, elems[i]? = some x ∧ q.1.length + q.2.length + 1 ≤ Rows.uptoBulk x.1 := by
      intro i hi
      have h1 := hall i hi
      rw [List.getElem?_eq_getElem (show i < elems.length by omega)] at h1
      rw [Option.bind_eq_some_iff] at h1
      obtain ⟨cs, h2, h3⟩ := h1
      obtain ⟨_, _, h4⟩ := World.cells?_some h2
      obtain ⟨q, rfl, hq⟩ := pq_cells he ce o0 o1 h3
      exact ⟨q, h4, _, List.getElem?_eq_getElem _, hq⟩
    obtain ⟨Q, hQ⟩ := Go.Deep.choose_lt each
    have hml : ((List.range len).map Q).length = len := by simp
    refine ⟨(List.range len).map Q, ?_, ?_⟩
    · by_cases h0 : len = 0
      · subst h0; exact .inl ⟨_, _, rfl, by simp, by simp [pqC]⟩
      · obtain ⟨b, off, spot⟩ := ad
        have h1 := (hQ 0 (by omega)).1 0 (by omega)
        have h1' : W.cell? ((Addr.mk b off spot).add (0 * 2) |>.add 0) = some (.string ⟨(Q 0).1.toArray⟩) := h1
        have hspot : spot = none := by simpa [Addr.add] using World.cell?_spot h1'
        subst hspot
        have hlt := World.block_lt_of_cell? W _ h1'
        have hbl : b < W.heap.size := by simpa [Addr.add_lit] using hlt
        refine .inr ⟨b, off, cap, by rw [hml], by rw [hml]; exact hl, hbl, fun j u hu => ?_⟩
        have hj : j < len * 2 := by
          have := (List.getElem?_eq_some_iff.1 hu).1
          rw [pqC_len, hml] at this
          exact this
        have hk : j / 2 < len := by omega
        have hg := pqC_get ((List.range len).map Q) (j / 2) (by rw [hml]; exact hk)
        have h2 := (hQ (j / 2) hk).1 (j % 2) (by omega)
        rw [Addr.add_lit, Addr.add_lit] at h2
        rw [show off + j / 2 * 2 + j % 2 = off + j by omega] at h2
        rw [h2, ← hu]
        rcases Nat.mod_two_eq_zero_or_one j with hz | hz
        · rw [hz, show j = j / 2 * 2 by omega]
          rw [show j / 2 * 2 / 2 = j / 2 by omega, hg.1]
          simp [pqC]
        · rw [hz, show j = j / 2 * 2 + 1 by omega]
          rw [show (j / 2 * 2 + 1) / 2 = j / 2 by omega, hg.2]
          simp [pqC]
    · rw [hml]
      have := sum_le (elems.map (·.1)) len Q (by simp; omega) (fun i hi => by
        obtain ⟨x, ex, hx⟩ := (hQ i hi).2
        exact ⟨x.1, by simp [ex], hx⟩)
      simp only [Rows.uptoBulk]
      omega
end Go.Proofs.YtnohkhgoejjfhaaDoor.pbulk
