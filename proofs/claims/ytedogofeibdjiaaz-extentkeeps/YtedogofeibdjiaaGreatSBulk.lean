/- What a bound on the bulk of an argument gives: a slice of texts, and an array of two texts, as the walks take them. -/
import Derived.Test.YtedogofeibdjiaaGreatRows
import Derived.Test.YtedogofeibdjiaaGreatJoined01
import Derived.ProofKit
import Derived.OpenShut
import Derived.SliceStrings
namespace Go.Proofs.YtedogofeibdjiaaGreat.bulks
open Go.ChangeShapes Go.WideShapes Go.ChangeAt Go.RowKit
set_option linter.unusedVariables false

theorem bulk_strs {H : Type} (xs : List ByteArray) : room xs ≤ 10 * Rows.uptoBulkAll (H := H) (strs xs) := by
  induction xs with
  | nil => simp [room]
  | cons x r ih =>
    have e : x.data.toList.length = x.size := by simp
    simp only [room, strs, List.map_cons, List.sum_cons, Rows.uptoBulkAll, Rows.uptoBulk] at ih ⊢
    omega

set_option maxRecDepth 100000 in
/-- a slice of texts that came in -/
theorem strs_of {H : Type} {enc : TypeId × Value → H} {W : World} {base : Nat} {t : TypeId} {v : Value} {d : DataW H} {p : List MemPlace} (ht : Tryz.prog.underlying t = some (.slice 9)) (he : Tryz.prog.underlying 9 = some .string) (hc : Tryz.prog.cellsOf 9 = 1)
    (hv : Value.okWide Tryz.prog W .any base t v) (h : DataW.Trod enc Tryz.prog W 0 (fun _ => true) true t v d p) :
    ∃ xs, Strs W v xs ∧ room xs ≤ 10 * Rows.uptoBulk d ∧ xs.length ≤ 9223372036854775807 := by
  obtain ⟨a, len, cap, rfl⟩ := okWide_slice ht hv
  obtain ⟨fuel, hf⟩ := h
  rcases open_strings ht he hc hf with ⟨hcs, hx⟩ | ⟨ad, l, c, ss, hcs, _, hl, hm, hz, hx, hcell, hws⟩
  · simp [Value.cells] at hcs
    obtain ⟨rfl, rfl, rfl⟩ := hcs
    exact ⟨[], .inl ⟨rfl, none, 0, rfl⟩, by simp [room], by simp⟩
  · simp [Value.cells] at hcs
    obtain ⟨rfl, rfl, rfl⟩ := hcs
    simp only [Prod.mk.injEq] at hx
    obtain ⟨rfl, rfl⟩ := hx
    simp at hz
    refine ⟨ss.take len, ?_, ?_, by unfold maxLen at hm; simp; omega⟩
    · by_cases h0 : len = 0
      · subst h0; exact .inl ⟨by simp, _, _, rfl⟩
      · obtain ⟨b, off, spot⟩ := ad
        have h1 := hcell 0 (by omega)
        have hspot : spot = none := by simpa [Addr.add] using World.cell?_spot h1
        subst hspot
        have hlt := World.block_lt_of_cell? W _ h1
        have hbl : b < W.heap.size := by simpa [Addr.add_lit] using hlt
        have hln : (ss.take len).length = len := by simp; omega
        refine .inr ⟨b, off, cap, by rw [hln], hbl, fun j hj => ?_⟩
        rw [hln] at hj
        have h2 := hcell j (by omega)
        rw [Addr.add_lit] at h2
        rw [h2]
        congr 2
        simp [List.getD, hj]
        rfl
    · have h1 := bulk_strs (H := H) (ss.take len)
      simp only [Rows.uptoBulk]
      omega

set_option maxRecDepth 100000 in
/-- an array of two texts -/
theorem arr_of {H : Type} {enc : TypeId × Value → H} {W : World} {base : Nat} {t : TypeId} {v : Value} {d : DataW H} {p : List MemPlace} (ht : Tryz.prog.underlying t = some (.array 2 9)) (he : Tryz.prog.underlying 9 = some .string) (hc : Tryz.prog.cellsOf 9 = 1) (hC : Tryz.prog.cellsOf t = 2)
    (hv : Value.okWide Tryz.prog W .any base t v) (h : DataW.Trod enc Tryz.prog W 0 (fun _ => true) true t v d p) :
    ∃ a b : ByteArray, v = .agg #[.string a, .string b] ∧ a.size + b.size ≤ Rows.uptoBulk d := by
  have hag : ∃ cs : Array Value, v = .agg cs := by
    simp only [Value.okWide, ht] at hv
    cases v <;> simp_all
  obtain ⟨cs, rfl⟩ := hag
  obtain ⟨fuel, hf⟩ := h
  obtain ⟨xs, m, _, hx, hl, hn, hall⟩ := DataW.trod_array ht hf
  simp only [Prod.mk.injEq] at hx
  obtain ⟨rfl, rfl⟩ := hx
  have h0 := hall 0 (by omega)
  have h1 := hall 1 (by omega)
  rw [hc] at h0 h1
  match xs, hn with
  | [x0, x1], _ =>
    simp at h0 h1
    obtain ⟨a, e0, rfl, _⟩ := DataW.trod_string he h0
    obtain ⟨b, e1, rfl, _⟩ := DataW.trod_string he h1
    rw [hC] at hl
    simp [Value.cells] at hl e0 e1
    refine ⟨a, b, ?_, ?_⟩
    · obtain ⟨l⟩ := cs
      match l, hl with
      | [c0, c1], _ =>
        simp at e0 e1
        subst e0 e1
        rfl
    · have ea : a.data.toList.length = a.size := by simp
      have eb : b.data.toList.length = b.size := by simp
      simp only [List.map_cons, List.map_nil, Rows.uptoBulk, Rows.uptoBulkAll]
      omega
end Go.Proofs.YtedogofeibdjiaaGreat.bulks
