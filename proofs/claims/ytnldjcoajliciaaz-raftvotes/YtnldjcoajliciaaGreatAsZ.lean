/- What comes in: arrays of three numbers; flags. -/
import Derived.Test.YtnldjcoajliciaaGreatIBulk
import Derived.SliceStrings
import Derived.SizedLaws
import Derived.Deep.Strs
namespace Go.Proofs.YtnldjcoajliciaaGreat
open Go.RowKit Go.Maps
set_option linter.unusedVariables false

def a3C (y : Int × Int × Int) : List Value := [.int .i64 y.1, .int .i64 y.2.1, .int .i64 y.2.2]
/-- arrays of three numbers in memory -/
def A3I (w : World) (v : Value) (q : List (Int × Int × Int)) : Prop :=
  (∃ ad cap, v = .slice ad 0 cap ∧ q = []) ∨ ∃ g off cap, v = .slice (some ⟨g, off, none⟩) q.length cap ∧ g < w.heap.size ∧ ∀ k (h : k < q.length) j, j < 3 → w.cell? ⟨g, off + k * 3 + j, none⟩ = (a3C q[k])[j]?
/-- flags in memory -/
def BlI (w : World) (v : Value) (q : List Bool) : Prop :=
  (∃ ad cap, v = .slice ad 0 cap ∧ q = []) ∨ ∃ g off cap, v = .slice (some ⟨g, off, none⟩) q.length cap ∧ g < w.heap.size ∧ ∀ k (h : k < q.length), w.cell? ⟨g, off + k, none⟩ = some (.bool q[k])
theorem A3I.form {w : World} {v : Value} {l : List (Int × Int × Int)} (h : A3I w v l) : ∃ ad cap, v = .slice ad l.length cap ∧ ∀ k (hk : k < l.length), ∃ b off, ad = some ⟨b, off, none⟩ ∧ b < w.heap.size ∧ w.cell? ⟨b, off + k * 3, none⟩ = some (.int .i64 l[k].1) ∧ w.cell? ⟨b, off + k * 3 + 1, none⟩ = some (.int .i64 l[k].2.1) ∧ w.cell? ⟨b, off + k * 3 + 2, none⟩ = some (.int .i64 l[k].2.2) := by
  rcases h with ⟨ad, cap, rfl, rfl⟩ | ⟨b, off, cap, rfl, hb, hc⟩
  · exact ⟨ad, cap, rfl, fun k hk => absurd hk (by simp)⟩
  · exact ⟨_, cap, rfl, fun k hk => ⟨b, off, rfl, hb, hc k hk 0 (by omega), hc k hk 1 (by omega), hc k hk 2 (by omega)⟩⟩
theorem BlI.form {w : World} {v : Value} {l : List Bool} (h : BlI w v l) : ∃ ad cap, v = .slice ad l.length cap ∧ ∀ k (hk : k < l.length), ∃ b off, ad = some ⟨b, off, none⟩ ∧ b < w.heap.size ∧ w.cell? ⟨b, off + k, none⟩ = some (.bool l[k]) := by
  rcases h with ⟨ad, cap, rfl, rfl⟩ | ⟨b, off, cap, rfl, hb, hc⟩
  · exact ⟨ad, cap, rfl, fun k hk => absurd hk (by simp)⟩
  · exact ⟨_, cap, rfl, fun k hk => ⟨b, off, rfl, hb, hc k hk⟩⟩
end Go.Proofs.YtnldjcoajliciaaGreat
namespace Go.Proofs.YtnldjcoajliciaaGreat.ibulk
open Go.ChangeShapes Go.WideShapes Go.ChangeAt Go.RowKit
set_option linter.unusedVariables false
set_option maxRecDepth 100000 in
/-- one array's cells -/
theorem a3_cells {H : Type} {enc : TypeId × Value → H} {W : World} {base : Nat} {sp : Nat → Bool} {hd : Bool} {e : TypeId} {cs : List Value} {m : Nat} {x : DataW H × List MemPlace}
    (he : Tryz.prog.underlying e = some (.array 3 3)) (ce : Tryz.prog.cellsOf e = 3) (hi : Tryz.prog.underlying 3 = some (.int .i64)) (hc : Tryz.prog.cellsOf 3 = 1)
    (h : DataW.trod enc Tryz.prog W base sp hd m e cs = some x) : ∃ a : Int × Int × Int, cs = a3C a := by
  obtain ⟨xs, n, _, hx, hl, hn, hall⟩ := DataW.trod_array he h
  rw [ce] at hl
  have h0 := hall 0 (by omega)
  have h1 := hall 1 (by omega)
  have h2 := hall 2 (by omega)
  rw [hc] at h0 h1 h2
  match xs, hn with
  | [x0, x1, x2], _ =>
  match cs, hl with
  | [c0, c1, c2], _ =>
    simp at h0 h1 h2
    obtain ⟨a, e0, rfl, _⟩ := DataW.trod_int hi h0
    obtain ⟨b, e1, rfl, _⟩ := DataW.trod_int hi h1
    obtain ⟨c, e2, rfl, _⟩ := DataW.trod_int hi h2
    simp at e0 e1 e2
    subst e0 e1 e2
    exact ⟨(a, b, c), rfl⟩
instance : Inhabited (Int × Int × Int) := ⟨(0, 0, 0)⟩
set_option maxRecDepth 100000 in
/-- arrays of three numbers that came in -/
theorem a3s_of {H : Type} {enc : TypeId × Value → H} {W : World} {base : Nat} {t e : TypeId} {v : Value} {d : DataW H} {p : List MemPlace}
    (ht : Tryz.prog.underlying t = some (.slice e)) (he : Tryz.prog.underlying e = some (.array 3 3)) (ce : Tryz.prog.cellsOf e = 3) (hi : Tryz.prog.underlying 3 = some (.int .i64)) (hc : Tryz.prog.cellsOf 3 = 1)
    (hv : Value.okWide Tryz.prog W .any base t v) (h : DataW.Trod enc Tryz.prog W 0 (fun _ => true) true t v d p) : ∃ q : List (Int × Int × Int), A3I W v q := by
  obtain ⟨a, len, cap, rfl⟩ := okWide_slice ht hv
  obtain ⟨fuel, hf⟩ := h
  rcases DataW.trod_slice ht hf with ⟨hcs, hx⟩ | ⟨ad, l, c, elems, rest, m, _, hcs, hx, _, hl, hm, hlen, hall, _, _⟩
  · simp [Value.cells] at hcs
    obtain ⟨rfl, rfl, rfl⟩ := hcs
    exact ⟨[], .inl ⟨_, _, rfl, rfl⟩⟩
  · simp [Value.cells] at hcs
    obtain ⟨rfl, rfl, rfl⟩ := hcs
    rw [ce] at hall
    have each : ∀ i, i < len → ∃ q : Int × Int × Int, ∀ j, j < 3 → W.cell? ((ad.add (i * 3)).add j) = (a3C q)[j]? := by
      intro i hi1
      have h1 := hall i hi1
      rw [List.getElem?_eq_getElem (show i < elems.length by omega)] at h1
      rw [Option.bind_eq_some_iff] at h1
      obtain ⟨cs, h2, h3⟩ := h1
      obtain ⟨_, _, h4⟩ := World.cells?_some h2
      obtain ⟨q, rfl⟩ := a3_cells he ce hi hc h3
      exact ⟨q, h4⟩
    obtain ⟨Q, hQ⟩ := Go.Deep.choose_lt each
    have hml : ((List.range len).map Q).length = len := by simp
    refine ⟨(List.range len).map Q, ?_⟩
    by_cases h0 : len = 0
    · subst h0; exact .inl ⟨_, _, rfl, by simp⟩
    · obtain ⟨b, off, spot⟩ := ad
      have h1 := hQ 0 (by omega) 0 (by omega)
      have h1' : W.cell? ((Addr.mk b off spot).add (0 * 3) |>.add 0) = some (.int .i64 (Q 0).1) := h1
      have hspot : spot = none := by simpa [Addr.add] using World.cell?_spot h1'
      subst hspot
      have hlt := World.block_lt_of_cell? W _ h1'
      have hbl : b < W.heap.size := by simpa [Addr.add_lit] using hlt
      refine .inr ⟨b, off, cap, by rw [hml], hbl, fun k hk j hj => ?_⟩
      rw [hml] at hk
      have h2 := hQ k hk j hj
      rw [Addr.add_lit, Addr.add_lit] at h2
      rw [h2]
      simp
set_option maxRecDepth 100000 in
/-- flags that came in -/
theorem bls_of {H : Type} {enc : TypeId × Value → H} {W : World} {base : Nat} {t e : TypeId} {v : Value} {d : DataW H} {p : List MemPlace}
    (ht : Tryz.prog.underlying t = some (.slice e)) (he : Tryz.prog.underlying e = some .bool) (ce : Tryz.prog.cellsOf e = 1)
    (hv : Value.okWide Tryz.prog W .any base t v) (h : DataW.Trod enc Tryz.prog W 0 (fun _ => true) true t v d p) : ∃ q : List Bool, BlI W v q := by
  obtain ⟨a, len, cap, rfl⟩ := okWide_slice ht hv
  obtain ⟨fuel, hf⟩ := h
  rcases DataW.trod_slice ht hf with ⟨hcs, hx⟩ | ⟨ad, l, c, elems, rest, m, _, hcs, hx, _, hl, hm, hlen, hall, _, _⟩
  · simp [Value.cells] at hcs
    obtain ⟨rfl, rfl, rfl⟩ := hcs
    exact ⟨[], .inl ⟨_, _, rfl, rfl⟩⟩
  · simp [Value.cells] at hcs
    obtain ⟨rfl, rfl, rfl⟩ := hcs
    rw [ce] at hall
    have each : ∀ i, i < len → ∃ q : Bool, W.cell? ((ad.add (i * 1)).add 0) = some (.bool q) := by
      intro i hi1
      have h1 := hall i hi1
      rw [List.getElem?_eq_getElem (show i < elems.length by omega)] at h1
      rw [Option.bind_eq_some_iff] at h1
      obtain ⟨cs, h2, h3⟩ := h1
      obtain ⟨_, _, h4⟩ := World.cells?_some h2
      obtain ⟨q, e, _⟩ := DataW.trod_bool he h3
      exact ⟨q, by have := h4 0 (by omega); rw [this, e]; rfl⟩
    obtain ⟨Q, hQ⟩ := Go.Deep.choose_lt each
    have hml : ((List.range len).map Q).length = len := by simp
    refine ⟨(List.range len).map Q, ?_⟩
    by_cases h0 : len = 0
    · subst h0; exact .inl ⟨_, _, rfl, by simp⟩
    · obtain ⟨b, off, spot⟩ := ad
      have h1' := hQ 0 (by omega)
      have hspot : spot = none := by simpa [Addr.add] using World.cell?_spot h1'
      subst hspot
      have hlt := World.block_lt_of_cell? W _ h1'
      have hbl : b < W.heap.size := by simpa [Addr.add_lit] using hlt
      refine .inr ⟨b, off, cap, by rw [hml], hbl, fun k hk => ?_⟩
      rw [hml] at hk
      have h2 := hQ k hk
      rw [Addr.add_lit, Addr.add_lit] at h2
      simpa using h2
end Go.Proofs.YtnldjcoajliciaaGreat.ibulk
