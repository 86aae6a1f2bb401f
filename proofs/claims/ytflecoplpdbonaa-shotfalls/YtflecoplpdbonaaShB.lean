/- What comes in: a snapshot. -/
import Derived.Test.YtflecoplpdbonaaIBulk
import Derived.Test.YtflecoplpdbonaaJoined15
import Derived.Lib.SmallJoins
namespace Go.Proofs.Ytflecoplpdbonaa.ibulk
open Go.ChangeShapes Go.WideShapes Go.ChangeAt Go.RowKit
set_option linter.unusedVariables false

set_option maxRecDepth 100000 in
/-- a slice of numbers in a cell -/
theorem ints_cell {H : Type} {enc : TypeId × Value → H} {W : World} {base : Nat} {sp : Nat → Bool} {hd : Bool} {t : TypeId} {v : Value} {m : Nat} {x : DataW H × List MemPlace} (ht : Try.prog.underlying t = some (.slice 3)) (he : Try.prog.underlying 3 = some (.int .i64)) (hc : Try.prog.cellsOf 3 = 1) (h8 : Try.prog.bytesOf 3 = 8)
    (h : DataW.trod enc Try.prog W base sp hd m t [v] = some x) :
    ∃ xs, IntsI W v xs ∧ (xs.length = 0 ∨ ∃ n ∈ x.1.weights Try.prog t, xs.length * 8 ≤ n) := by
  rcases open_ints ht he hc h with ⟨hcs, hx⟩ | ⟨ad, len, cap, zs, hcs, _, hl, hm, hz, hx, hcell, hws⟩
  · simp at hcs
    subst hcs
    exact ⟨[], .inl ⟨none, 0, rfl, rfl⟩, .inl rfl⟩
  · simp at hcs
    subst hcs
    subst hx
    have hz' : len ≤ zs.length := by split at hz <;> omega
    have hln : (zs.take len).length = len := by simp; omega
    refine ⟨zs.take len, ?_, .inr ⟨((lits (H := H) .i64 (zs.take len)).length + (lits (H := H) .i64 (zs.drop len)).length) * Try.prog.bytesOf 3, by simp [DataW.weights, ht], ?_⟩⟩
    · by_cases h0 : len = 0
      · subst h0; exact .inl ⟨_, _, rfl, by simp⟩
      · obtain ⟨b, off, spot⟩ := ad
        have h1 := hcell 0 (by omega)
        have hspot : spot = none := by simpa [Addr.add] using World.cell?_spot h1
        subst hspot
        have hlt := World.block_lt_of_cell? W _ h1
        have hbl : b < W.heap.size := by simpa [Addr.add_lit] using hlt
        refine .inr ⟨b, off, cap, by rw [hln], hbl, fun j hj => ?_⟩
        rw [hln] at hj
        have h2 := hcell j (by omega)
        rw [Addr.add_lit] at h2
        rw [h2]
        congr 2
        rw [List.getElem_take, List.getD_eq_getElem?_getD, List.getElem?_eq_getElem (by omega)]
        rfl
    · rw [h8]
      have e1 : (lits (H := H) .i64 (zs.take len)).length = (zs.take len).length := by simp [lits]
      rw [e1]
      omega
set_option maxRecDepth 100000 in
/-- a snapshot that came in -/
theorem shot_of {H : Type} {enc : TypeId × Value → H} {W : World} {base : Nat} {t : TypeId} {f0 f1 f2 f3 : Field} {v : Value} {d : DataW H} {p : List MemPlace} (hs : Try.prog.underlying t = some (.struct #[f0, f1, f2, f3])) (hone : Go.Deep.oneCellFields Try.prog #[f0, f1, f2, f3] = true) (hC : Try.prog.cellsOf t = 4)
    (h0 : Try.prog.underlying f0.type = some (.int .i64)) (h1 : Try.prog.underlying f1.type = some (.int .i64)) (h2 : Try.prog.underlying f2.type = some (.slice 3)) (h3 : Try.prog.underlying f3.type = some .string)
    (he : Try.prog.underlying 3 = some (.int .i64)) (hc : Try.prog.cellsOf 3 = 1) (h8 : Try.prog.bytesOf 3 = 8)
    (hv : Value.okWide Try.prog W .any base t v) (h : DataW.Trod enc Try.prog W 0 (fun _ => true) true t v d p) :
    ∃ (u : Value) (x : Sh), v = shV u x ∧ IntsI W u x.ms ∧ x.da.size ∈ d.weights Try.prog t ∧ (x.ms.length = 0 ∨ ∃ n ∈ d.weights Try.prog t, x.ms.length * 8 ≤ n) := by
  obtain ⟨v0, v1, v2, v3, y0, y1, y2, y3, n, rfl, rfl, _, t0, t1, t2, t3⟩ := Go.Joins.open_agg4 (P := Try.prog) hs hone hC hv h
  obtain ⟨a, e0, _, wa⟩ := DataW.trod_int h0 t0
  obtain ⟨b, e1, _, wb⟩ := DataW.trod_int h1 t1
  obtain ⟨xs, hI, hn⟩ := ints_cell h2 he hc h8 t2
  obtain ⟨s, e3, r3, _⟩ := DataW.trod_string h3 t3
  simp at e0 e1 e3
  subst e0 e1 e3
  refine ⟨v2, ⟨a, b, xs, s⟩, rfl, hI, ?_, ?_⟩
  · subst r3
    have hz : s.data.toList.length = s.size := by simp
    simp [DataW.weights, DataW.weightsEach, hs]
  · rcases hn with hn | ⟨m, hm, hn⟩
    · exact .inl hn
    · refine .inr ⟨m, ?_, hn⟩
      simp [DataW.weights, DataW.weightsEach, hs, hm]
end Go.Proofs.Ytflecoplpdbonaa.ibulk
