/- Joined: Acts that came in, as the walks of the laws of the disk take them. Acts that came in, with their plans. -/
import Derived.Test.YtnlodlpjokkepabRows
import Derived.Test.YtnlodlpjokkepabJoined07
import Derived.ProofKit
import Derived.OpenShut
import Derived.Deep.Strs
namespace Go.Proofs.Ytnlodlpjokkepab.bulks
open Go.ChangeShapes Go.WideShapes Go.ChangeAt Go.RowKit
set_option linter.unusedVariables false

instance : Inhabited AC := ⟨⟨0, [], [], [], 0, 0, 0, 0, .slice none 0 0⟩⟩

set_option maxRecDepth 100000 in
/-- one act's cells -/
theorem act_of {H : Type} {enc : TypeId × Value → H} {W : World} {base : Nat} {sp : Nat → Bool} {hd : Bool} {e : TypeId} {f0 f1 f2 f3 f4 f5 f6 p0 p1 p2 : Field} {cs : List Value} {m : Nat} {x : DataW H × List MemPlace}
    (he : Try.prog.underlying e = some (.struct #[f0, f1, f2, f3, f4, f5, f6])) (ce : Try.prog.cellsOf e = 9)
    (o0 : f0.offset = 0 ∧ Try.prog.cellsOf f0.type = 1 ∧ Try.prog.underlying f0.type = some (.int .i64))
    (o1 : f1.offset = 1 ∧ Try.prog.cellsOf f1.type = 1 ∧ Try.prog.underlying f1.type = some .string)
    (o2 : f2.offset = 2 ∧ Try.prog.cellsOf f2.type = 1 ∧ Try.prog.underlying f2.type = some .string)
    (o3 : f3.offset = 3 ∧ Try.prog.cellsOf f3.type = 1 ∧ Try.prog.underlying f3.type = some .string)
    (o4 : f4.offset = 4 ∧ Try.prog.cellsOf f4.type = 1 ∧ Try.prog.underlying f4.type = some (.int .i64))
    (o5 : f5.offset = 5 ∧ Try.prog.cellsOf f5.type = 3 ∧ Try.prog.underlying f5.type = some (.struct #[p0, p1, p2]))
    (o6 : f6.offset = 8 ∧ Try.prog.cellsOf f6.type = 1 ∧ Try.prog.underlying f6.type = some (.slice f5.type))
    (q0 : p0.offset = 0 ∧ Try.prog.cellsOf p0.type = 1 ∧ Try.prog.underlying p0.type = some (.int .i64))
    (q1 : p1.offset = 1 ∧ Try.prog.cellsOf p1.type = 1 ∧ Try.prog.underlying p1.type = some (.int .i64))
    (q2 : p2.offset = 2 ∧ Try.prog.cellsOf p2.type = 1 ∧ Try.prog.underlying p2.type = some (.int .i64))
    (h : DataW.trod enc Try.prog W base sp hd m e cs = some x) :
    ∃ a : AC, cs = acC a ∧ a.s.length + a.name.length + a.to.length + 1 ≤ Rows.uptoBulk x.1 ∧ (∃ ad n cp, a.pv = .slice ad n cp) ∧
      (Lit.int .i64 a.kind).wf = true ∧ (Lit.int .i64 a.n).wf = true ∧ (Lit.int .i64 a.f0).wf = true ∧ (Lit.int .i64 a.f1).wf = true ∧ (Lit.int .i64 a.f2).wf = true := by
  obtain ⟨xs, n, _, rfl, hl, hlen, hf⟩ := DataW.trod_struct he h
  rw [ce] at hl
  match xs, hlen with
  | [y0, y1, y2, y3, y4, y5, y6], _ =>
  match cs, hl with
  | [c0, c1, c2, c3, c4, c5, c6, c7, c8], _ =>
  have g0 := hf 0 f0 rfl
  have g1 := hf 1 f1 rfl
  have g2 := hf 2 f2 rfl
  have g3 := hf 3 f3 rfl
  have g4 := hf 4 f4 rfl
  have g5 := hf 5 f5 rfl
  have g6 := hf 6 f6 rfl
  rw [o0.1, o0.2.1] at g0
  rw [o1.1, o1.2.1] at g1
  rw [o2.1, o2.2.1] at g2
  rw [o3.1, o3.2.1] at g3
  rw [o4.1, o4.2.1] at g4
  rw [o5.1, o5.2.1] at g5
  rw [o6.1, o6.2.1] at g6
  obtain ⟨k, e0, _, w0⟩ := DataW.trod_int o0.2.2 (g0 : _ = some y0)
  obtain ⟨s1, e1, r1, _⟩ := DataW.trod_string o1.2.2 (g1 : _ = some y1)
  obtain ⟨s2, e2, r2, _⟩ := DataW.trod_string o2.2.2 (g2 : _ = some y2)
  obtain ⟨s3, e3, r3, _⟩ := DataW.trod_string o3.2.2 (g3 : _ = some y3)
  obtain ⟨n4, e4, _, w4⟩ := DataW.trod_int o4.2.2 (g4 : _ = some y4)
  obtain ⟨z0, z1, z2, n5, _, _, t0, t1, t2⟩ := Go.Deep.trod_struct3 o5.2.2 (g5 : _ = some y5)
  rw [q0.1, q0.2.1] at t0
  rw [q1.1, q1.2.1] at t1
  rw [q2.1, q2.2.1] at t2
  obtain ⟨a5, e5, _, w5⟩ := DataW.trod_int q0.2.2 t0
  obtain ⟨a6, e6, _, w6⟩ := DataW.trod_int q1.2.2 t1
  obtain ⟨a7, e7, _, w7⟩ := DataW.trod_int q2.2.2 t2
  have h8 : ∃ ad n cp, c8 = .slice ad n cp := by
    rcases DataW.trod_slice o6.2.2 (g6 : _ = some y6) with ⟨hc, _⟩ | ⟨a, len, cap, _, _, _, _, hc, _⟩
    · simp at hc; exact ⟨_, _, _, hc⟩
    · simp at hc; exact ⟨_, _, _, hc⟩
  simp at e0 e1 e2 e3 e4 e5 e6 e7
  subst e0 e1 e2 e3 e4 e5 e6 e7
  refine ⟨⟨k, s1.data.toList, s2.data.toList, s3.data.toList, n4, a5, a6, a7, c8⟩, ?_, ?_, h8, w0, w4, w5, w6, w7⟩
  · simp only [acC, tx_of]
  · subst r1 r2 r3
    simp only [List.map_cons, List.map_nil, Rows.uptoBulk, Rows.uptoBulkAll]
    omega

theorem bulk_len {H : Type} (xs : List (DataW H)) : (∀ d ∈ xs, 1 ≤ Rows.uptoBulk d) → xs.length ≤ Rows.uptoBulkAll xs := by
  intro h
  induction xs with
  | nil => simp
  | cons x r ih =>
    have h1 := h x (by simp)
    have h2 := ih fun d hd => h d (by simp [hd])
    simp only [List.length_cons, Rows.uptoBulkAll]
    omega
theorem bulk_mem {H : Type} (xs : List (DataW H)) : ∀ d ∈ xs, Rows.uptoBulk d ≤ Rows.uptoBulkAll xs := by
  induction xs with
  | nil => simp
  | cons x r ih =>
    intro d hd
    simp only [Rows.uptoBulkAll]
    rcases List.mem_cons.1 hd with rfl | h
    · omega
    · have := ih d h; omega

set_option maxRecDepth 100000 in
/-- acts that came in -/
theorem acts4_of {H : Type} {enc : TypeId × Value → H} {W : World} {base : Nat} {t e : TypeId} {f0 f1 f2 f3 f4 f5 f6 p0 p1 p2 : Field} {v : Value} {d : DataW H} {p : List MemPlace}
    (ht : Try.prog.underlying t = some (.slice e)) (he : Try.prog.underlying e = some (.struct #[f0, f1, f2, f3, f4, f5, f6])) (ce : Try.prog.cellsOf e = 9)
    (o0 : f0.offset = 0 ∧ Try.prog.cellsOf f0.type = 1 ∧ Try.prog.underlying f0.type = some (.int .i64))
    (o1 : f1.offset = 1 ∧ Try.prog.cellsOf f1.type = 1 ∧ Try.prog.underlying f1.type = some .string)
    (o2 : f2.offset = 2 ∧ Try.prog.cellsOf f2.type = 1 ∧ Try.prog.underlying f2.type = some .string)
    (o3 : f3.offset = 3 ∧ Try.prog.cellsOf f3.type = 1 ∧ Try.prog.underlying f3.type = some .string)
    (o4 : f4.offset = 4 ∧ Try.prog.cellsOf f4.type = 1 ∧ Try.prog.underlying f4.type = some (.int .i64))
    (o5 : f5.offset = 5 ∧ Try.prog.cellsOf f5.type = 3 ∧ Try.prog.underlying f5.type = some (.struct #[p0, p1, p2]))
    (o6 : f6.offset = 8 ∧ Try.prog.cellsOf f6.type = 1 ∧ Try.prog.underlying f6.type = some (.slice f5.type))
    (q0 : p0.offset = 0 ∧ Try.prog.cellsOf p0.type = 1 ∧ Try.prog.underlying p0.type = some (.int .i64))
    (q1 : p1.offset = 1 ∧ Try.prog.cellsOf p1.type = 1 ∧ Try.prog.underlying p1.type = some (.int .i64))
    (q2 : p2.offset = 2 ∧ Try.prog.cellsOf p2.type = 1 ∧ Try.prog.underlying p2.type = some (.int .i64))
    (hv : Value.okWide Try.prog W .any base t v) (h : DataW.Trod enc Try.prog W 0 (fun _ => true) true t v d p) :
    ∃ l, ActsIn W v l ∧ l.length ≤ Rows.uptoBulk d ∧ ∀ a ∈ l, a.s.length + a.name.length + a.to.length + 1 ≤ Rows.uptoBulk d ∧ (∃ ad n cp, a.pv = .slice ad n cp) ∧
      (Lit.int .i64 a.kind).wf = true ∧ (Lit.int .i64 a.n).wf = true ∧ (Lit.int .i64 a.f0).wf = true ∧ (Lit.int .i64 a.f1).wf = true ∧ (Lit.int .i64 a.f2).wf = true := by
  obtain ⟨a, len, cap, rfl⟩ := okWide_slice ht hv
  obtain ⟨fuel, hf⟩ := h
  rcases DataW.trod_slice ht hf with ⟨hcs, hx⟩ | ⟨ad, l, c, elems, rest, m, _, hcs, hx, _, hl, hm, hlen, hall, _, _⟩
  · simp [Value.cells] at hcs
    obtain ⟨rfl, rfl, rfl⟩ := hcs
    exact ⟨[], .inl ⟨none, 0, rfl, rfl⟩, by simp, by simp⟩
  · simp [Value.cells] at hcs
    obtain ⟨rfl, rfl, rfl⟩ := hcs
    simp only [Prod.mk.injEq] at hx
    obtain ⟨rfl, _⟩ := hx
    rw [ce] at hall
    have each : ∀ i, i < len → ∃ q : AC, (∀ j, j < 9 → W.cell? ((ad.add (i * 9)).add j) = (acC q)[j]?) ∧ ∃ x, elems[i]? = some x ∧ q.s.length + q.name.length + q.to.length + 1 ≤ Rows.uptoBulk x.1 ∧ (∃ ad n cp, q.pv = .slice ad n cp) ∧
        (Lit.int .i64 q.kind).wf = true ∧ (Lit.int .i64 q.n).wf = true ∧ (Lit.int .i64 q.f0).wf = true ∧ (Lit.int .i64 q.f1).wf = true ∧ (Lit.int .i64 q.f2).wf = true := by
      intro i hi
      have h1 := hall i hi
      rw [List.getElem?_eq_getElem (show i < elems.length by omega)] at h1
      rw [Option.bind_eq_some_iff] at h1
      obtain ⟨cs, h2, h3⟩ := h1
      obtain ⟨_, _, h4⟩ := World.cells?_some h2
      obtain ⟨q, rfl, hq⟩ := act_of he ce o0 o1 o2 o3 o4 o5 o6 q0 q1 q2 h3
      exact ⟨q, h4, _, List.getElem?_eq_getElem _, hq⟩
    obtain ⟨Q, hQ⟩ := Go.Deep.choose_lt each
    refine ⟨(List.range len).map Q, ?_, ?_, ?_⟩
    · by_cases h0 : len = 0
      · subst h0; exact .inl ⟨_, _, rfl, by simp⟩
      · obtain ⟨b, off, spot⟩ := ad
        have h1 := (hQ 0 (by omega)).1 0 (by omega)
        have h1' : W.cell? ((Addr.mk b off spot).add (0 * 9) |>.add 0) = some (.int .i64 (Q 0).kind) := h1
        have hspot : spot = none := by simpa [Addr.add] using World.cell?_spot h1'
        subst hspot
        have hlt := World.block_lt_of_cell? W _ h1'
        have hbl : b < W.heap.size := by simpa [Addr.add_lit] using hlt
        refine .inr ⟨b, off, cap, by simp, hbl, fun j hj i hi => ?_⟩
        have hj' : j < len := by simpa using hj
        have h2 := (hQ j hj').1 i hi
        rw [Addr.add_lit, Addr.add_lit] at h2
        rw [h2]
        simp
    · have hb : elems.length ≤ Rows.uptoBulkAll (elems.map (·.1)) := by
        have := bulk_len (elems.map (·.1)) (by
          intro d hd
          obtain ⟨x, hx, rfl⟩ := List.mem_map.1 hd
          obtain ⟨i, hi, rfl⟩ := List.getElem_of_mem hx
          obtain ⟨_, x, hx, hq, _⟩ := hQ i (by omega)
          rw [List.getElem?_eq_getElem hi] at hx
          simp at hx
          subst hx
          omega)
        simpa using this
      simp only [List.length_map, List.length_range, Rows.uptoBulk]
      omega
    · intro a ha
      obtain ⟨i, hi, rfl⟩ := List.mem_map.1 ha
      obtain ⟨_, x, hx, hq, hr⟩ := hQ i (List.mem_range.1 hi)
      refine ⟨?_, hr⟩
      have h5 := bulk_mem (elems.map (·.1)) x.1 (List.mem_map.2 ⟨x, List.mem_of_getElem? hx, rfl⟩)
      simp only [Rows.uptoBulk]
      omega
end Go.Proofs.Ytnlodlpjokkepab.bulks
namespace Go.Proofs.Ytnlodlpjokkepab
open Go.RowKit Go.Maps
/-- what is known of acts that came in -/
def ActsBd (l : List AC) : Prop := ∀ a ∈ l, a.s.length + a.name.length + a.to.length + 1 ≤ 1048576 ∧ (∃ ad n cp, a.pv = .slice ad n cp) ∧
      (Lit.int .i64 a.kind).wf = true ∧ (Lit.int .i64 a.n).wf = true ∧ (Lit.int .i64 a.f0).wf = true ∧ (Lit.int .i64 a.f1).wf = true ∧ (Lit.int .i64 a.f2).wf = true
theorem diskRoom_walk (v : Value) (l : List AC) (room : Int) (w : World) (hv : ActsIn w v l) (hlen : l.length ≤ 1048576) (hb : ActsBd l) (_ : (Lit.int .i64 room).wf = true) :
    Calls Try.prog 7 #[v, .int .i64 room] w fun e w' => e = .returned (.bool true) ∧ Below w.heap.size w w' :=
  diskRoom_core v l room w hv (fun a ha => by
    obtain ⟨h1, h2, _⟩ := hb a ha
    exact ⟨by omega, by omega, by omega, h2⟩) (by omega)
end Go.Proofs.Ytnlodlpjokkepab
namespace Go.Proofs.Ytnlodlpjokkepab.bulks
open Go.ChangeShapes Go.WideShapes Go.ChangeAt Go.RowKit
set_option linter.unusedVariables false

instance : Inhabited Fl := ⟨⟨0, 0, 0⟩⟩
/-- a plan that came in -/
def PlanIn (W : World) (v : Value) (l : List Fl) : Prop := (∃ ad cap, v = .slice ad 0 cap ∧ l = []) ∨ ∃ g off cap, v = .slice (some ⟨g, off, none⟩) l.length cap ∧ g < W.heap.size ∧
    ∀ j (h : j < l.length), W.cell? ⟨g, off + j * 3, none⟩ = some (.int .i64 l[j].at_) ∧ W.cell? ⟨g, off + j * 3 + 1, none⟩ = some (.int .i64 l[j].keep) ∧ W.cell? ⟨g, off + j * 3 + 2, none⟩ = some (.int .i64 l[j].torn)
set_option maxRecDepth 100000 in
theorem falls_of {H : Type} {enc : TypeId × Value → H} {W : World} {base : Nat} {sp : Nat → Bool} {hd : Bool} {t e : TypeId} {p0 p1 p2 : Field} {c8 : Value} {m : Nat} {y : DataW H × List MemPlace}
    (ht : Try.prog.underlying t = some (.slice e)) (he : Try.prog.underlying e = some (.struct #[p0, p1, p2])) (ce : Try.prog.cellsOf e = 3)
    (q0 : p0.offset = 0 ∧ Try.prog.cellsOf p0.type = 1 ∧ Try.prog.underlying p0.type = some (.int .i64))
    (q1 : p1.offset = 1 ∧ Try.prog.cellsOf p1.type = 1 ∧ Try.prog.underlying p1.type = some (.int .i64))
    (q2 : p2.offset = 2 ∧ Try.prog.cellsOf p2.type = 1 ∧ Try.prog.underlying p2.type = some (.int .i64))
    (h : DataW.trod enc Try.prog W base sp hd m t [c8] = some y) :
    ∃ l : List Fl, PlanIn W c8 l ∧ l.length ≤ Rows.uptoBulk y.1 ∧ ∀ x ∈ l, (Lit.int .i64 x.at_).wf = true := by
  rcases DataW.trod_slice ht h with ⟨hcs, hx⟩ | ⟨ad, len, c, elems, rest, m2, _, hcs, hx, _, hl, hm, hlen, hall, _, _⟩
  · simp at hcs
    exact ⟨[], .inl ⟨_, _, hcs, rfl⟩, by simp, by simp⟩
  · simp at hcs
    subst hcs
    subst hx
    rw [ce] at hall
    have each : ∀ i, i < len → ∃ q : Fl, (∀ j, j < 3 → W.cell? ((ad.add (i * 3)).add j) = (flC q)[j]?) ∧ ∃ x, elems[i]? = some x ∧ 1 ≤ Rows.uptoBulk x.1 ∧ (Lit.int .i64 q.at_).wf = true := by
      intro i hi
      have h1 := hall i hi
      rw [List.getElem?_eq_getElem (show i < elems.length by omega)] at h1
      rw [Option.bind_eq_some_iff] at h1
      obtain ⟨cs, h2, h3⟩ := h1
      obtain ⟨_, hcl, h4⟩ := World.cells?_some h2
      obtain ⟨z0, z1, z2, n5, hxe, _, t0, t1, t2⟩ := Go.Deep.trod_struct3 he h3
      rw [q0.1, q0.2.1] at t0
      rw [q1.1, q1.2.1] at t1
      rw [q2.1, q2.2.1] at t2
      obtain ⟨a5, e5, _, w5⟩ := DataW.trod_int q0.2.2 t0
      obtain ⟨a6, e6, _, w6⟩ := DataW.trod_int q1.2.2 t1
      obtain ⟨a7, e7, _, w7⟩ := DataW.trod_int q2.2.2 t2
      match cs, hcl with
      | [c5, c6, c7], _ =>
      simp at e5 e6 e7
      subst e5 e6 e7
      refine ⟨⟨a5, a6, a7⟩, h4, _, List.getElem?_eq_getElem (show i < elems.length by omega), ?_, w5⟩
      rw [hxe]
      simp only [Rows.uptoBulk, Rows.uptoBulkAll]
      omega
    obtain ⟨Q, hQ⟩ := Go.Deep.choose_lt each
    refine ⟨(List.range len).map Q, ?_, ?_, ?_⟩
    · by_cases h0 : len = 0
      · subst h0; exact .inl ⟨_, _, rfl, by simp⟩
      · obtain ⟨b, off, spot⟩ := ad
        have h1 := (hQ 0 (by omega)).1 0 (by omega)
        have h1' : W.cell? ((Addr.mk b off spot).add (0 * 3) |>.add 0) = some (.int .i64 (Q 0).at_) := h1
        have hspot : spot = none := by simpa [Addr.add] using World.cell?_spot h1'
        subst hspot
        have hlt := World.block_lt_of_cell? W _ h1'
        have hbl : b < W.heap.size := by simpa [Addr.add_lit] using hlt
        refine .inr ⟨b, off, c, by simp, hbl, fun j hj => ?_⟩
        have hj' : j < len := by simpa using hj
        have h2 := fun i hi => (hQ j hj').1 i hi
        have g0 := h2 0 (by omega)
        have g1 := h2 1 (by omega)
        have g2 := h2 2 (by omega)
        rw [Addr.add_lit, Addr.add_lit] at g0 g1 g2
        simp only [flC, List.getElem?_cons_zero, List.getElem?_cons_succ] at g0 g1 g2
        simp only [List.getElem_map, List.getElem_range]
        exact ⟨g0, g1, g2⟩
    · have hb : elems.length ≤ Rows.uptoBulkAll (elems.map (·.1)) := by
        have := bulk_len (elems.map (·.1)) (by
          intro d hd
          obtain ⟨x, hx, rfl⟩ := List.mem_map.1 hd
          obtain ⟨i, hi, rfl⟩ := List.getElem_of_mem hx
          obtain ⟨_, x, hx, hq, _⟩ := hQ i (by omega)
          rw [List.getElem?_eq_getElem hi] at hx
          simp at hx
          subst hx
          omega)
        simpa using this
      simp only [List.length_map, List.length_range, Rows.uptoBulk]
      omega
    · intro a ha
      obtain ⟨i, hi, rfl⟩ := List.mem_map.1 ha
      obtain ⟨_, x, hx, hq, hr⟩ := hQ i (List.mem_range.1 hi)
      exact hr

set_option maxRecDepth 100000 in
/-- one act's cells -/
theorem actp_of {H : Type} {enc : TypeId × Value → H} {W : World} {base : Nat} {sp : Nat → Bool} {hd : Bool} {e : TypeId} {f0 f1 f2 f3 f4 f5 f6 p0 p1 p2 : Field} {cs : List Value} {m : Nat} {x : DataW H × List MemPlace}
    (he : Try.prog.underlying e = some (.struct #[f0, f1, f2, f3, f4, f5, f6])) (ce : Try.prog.cellsOf e = 9)
    (o0 : f0.offset = 0 ∧ Try.prog.cellsOf f0.type = 1 ∧ Try.prog.underlying f0.type = some (.int .i64))
    (o1 : f1.offset = 1 ∧ Try.prog.cellsOf f1.type = 1 ∧ Try.prog.underlying f1.type = some .string)
    (o2 : f2.offset = 2 ∧ Try.prog.cellsOf f2.type = 1 ∧ Try.prog.underlying f2.type = some .string)
    (o3 : f3.offset = 3 ∧ Try.prog.cellsOf f3.type = 1 ∧ Try.prog.underlying f3.type = some .string)
    (o4 : f4.offset = 4 ∧ Try.prog.cellsOf f4.type = 1 ∧ Try.prog.underlying f4.type = some (.int .i64))
    (o5 : f5.offset = 5 ∧ Try.prog.cellsOf f5.type = 3 ∧ Try.prog.underlying f5.type = some (.struct #[p0, p1, p2]))
    (o6 : f6.offset = 8 ∧ Try.prog.cellsOf f6.type = 1 ∧ Try.prog.underlying f6.type = some (.slice f5.type))
    (q0 : p0.offset = 0 ∧ Try.prog.cellsOf p0.type = 1 ∧ Try.prog.underlying p0.type = some (.int .i64))
    (q1 : p1.offset = 1 ∧ Try.prog.cellsOf p1.type = 1 ∧ Try.prog.underlying p1.type = some (.int .i64))
    (q2 : p2.offset = 2 ∧ Try.prog.cellsOf p2.type = 1 ∧ Try.prog.underlying p2.type = some (.int .i64))
    (h : DataW.trod enc Try.prog W base sp hd m e cs = some x) :
    ∃ a : AC, cs = acC a ∧ a.s.length + a.name.length + a.to.length + 1 ≤ Rows.uptoBulk x.1 ∧ (∃ ad n cp, a.pv = .slice ad n cp) ∧
      (Lit.int .i64 a.kind).wf = true ∧ (Lit.int .i64 a.n).wf = true ∧ (Lit.int .i64 a.f0).wf = true ∧ (Lit.int .i64 a.f1).wf = true ∧ (Lit.int .i64 a.f2).wf = true ∧ ∃ l, PlanIn W a.pv l ∧ l.length ≤ Rows.uptoBulk x.1 ∧ ∀ x ∈ l, (Lit.int .i64 x.at_).wf = true := by
  obtain ⟨xs, n, _, rfl, hl, hlen, hf⟩ := DataW.trod_struct he h
  rw [ce] at hl
  match xs, hlen with
  | [y0, y1, y2, y3, y4, y5, y6], _ =>
  match cs, hl with
  | [c0, c1, c2, c3, c4, c5, c6, c7, c8], _ =>
  have g0 := hf 0 f0 rfl
  have g1 := hf 1 f1 rfl
  have g2 := hf 2 f2 rfl
  have g3 := hf 3 f3 rfl
  have g4 := hf 4 f4 rfl
  have g5 := hf 5 f5 rfl
  have g6 := hf 6 f6 rfl
  rw [o0.1, o0.2.1] at g0
  rw [o1.1, o1.2.1] at g1
  rw [o2.1, o2.2.1] at g2
  rw [o3.1, o3.2.1] at g3
  rw [o4.1, o4.2.1] at g4
  rw [o5.1, o5.2.1] at g5
  rw [o6.1, o6.2.1] at g6
  obtain ⟨k, e0, _, w0⟩ := DataW.trod_int o0.2.2 (g0 : _ = some y0)
  obtain ⟨s1, e1, r1, _⟩ := DataW.trod_string o1.2.2 (g1 : _ = some y1)
  obtain ⟨s2, e2, r2, _⟩ := DataW.trod_string o2.2.2 (g2 : _ = some y2)
  obtain ⟨s3, e3, r3, _⟩ := DataW.trod_string o3.2.2 (g3 : _ = some y3)
  obtain ⟨n4, e4, _, w4⟩ := DataW.trod_int o4.2.2 (g4 : _ = some y4)
  obtain ⟨z0, z1, z2, n5, _, _, t0, t1, t2⟩ := Go.Deep.trod_struct3 o5.2.2 (g5 : _ = some y5)
  rw [q0.1, q0.2.1] at t0
  rw [q1.1, q1.2.1] at t1
  rw [q2.1, q2.2.1] at t2
  obtain ⟨a5, e5, _, w5⟩ := DataW.trod_int q0.2.2 t0
  obtain ⟨a6, e6, _, w6⟩ := DataW.trod_int q1.2.2 t1
  obtain ⟨a7, e7, _, w7⟩ := DataW.trod_int q2.2.2 t2
  obtain ⟨pl, hp1, hp2, hp3⟩ := falls_of o6.2.2 o5.2.2 o5.2.1 q0 q1 q2 (g6 : _ = some y6)
  have h8 : ∃ ad n cp, c8 = .slice ad n cp := by
    rcases DataW.trod_slice o6.2.2 (g6 : _ = some y6) with ⟨hc, _⟩ | ⟨a, len, cap, _, _, _, _, hc, _⟩
    · simp at hc; exact ⟨_, _, _, hc⟩
    · simp at hc; exact ⟨_, _, _, hc⟩
  simp at e0 e1 e2 e3 e4 e5 e6 e7
  subst e0 e1 e2 e3 e4 e5 e6 e7
  refine ⟨⟨k, s1.data.toList, s2.data.toList, s3.data.toList, n4, a5, a6, a7, c8⟩, ?_, ?_, h8, w0, w4, w5, w6, w7, pl, hp1, ?_, hp3⟩
  · simp only [acC, tx_of]
  · subst r1 r2 r3
    simp only [List.map_cons, List.map_nil, Rows.uptoBulk, Rows.uptoBulkAll]
    omega
  · simp only [List.map_cons, List.map_nil, Rows.uptoBulk, Rows.uptoBulkAll]
    omega

set_option maxRecDepth 100000 in
/-- acts that came in -/
theorem acts4p_of {H : Type} {enc : TypeId × Value → H} {W : World} {base : Nat} {t e : TypeId} {f0 f1 f2 f3 f4 f5 f6 p0 p1 p2 : Field} {v : Value} {d : DataW H} {p : List MemPlace}
    (ht : Try.prog.underlying t = some (.slice e)) (he : Try.prog.underlying e = some (.struct #[f0, f1, f2, f3, f4, f5, f6])) (ce : Try.prog.cellsOf e = 9)
    (o0 : f0.offset = 0 ∧ Try.prog.cellsOf f0.type = 1 ∧ Try.prog.underlying f0.type = some (.int .i64))
    (o1 : f1.offset = 1 ∧ Try.prog.cellsOf f1.type = 1 ∧ Try.prog.underlying f1.type = some .string)
    (o2 : f2.offset = 2 ∧ Try.prog.cellsOf f2.type = 1 ∧ Try.prog.underlying f2.type = some .string)
    (o3 : f3.offset = 3 ∧ Try.prog.cellsOf f3.type = 1 ∧ Try.prog.underlying f3.type = some .string)
    (o4 : f4.offset = 4 ∧ Try.prog.cellsOf f4.type = 1 ∧ Try.prog.underlying f4.type = some (.int .i64))
    (o5 : f5.offset = 5 ∧ Try.prog.cellsOf f5.type = 3 ∧ Try.prog.underlying f5.type = some (.struct #[p0, p1, p2]))
    (o6 : f6.offset = 8 ∧ Try.prog.cellsOf f6.type = 1 ∧ Try.prog.underlying f6.type = some (.slice f5.type))
    (q0 : p0.offset = 0 ∧ Try.prog.cellsOf p0.type = 1 ∧ Try.prog.underlying p0.type = some (.int .i64))
    (q1 : p1.offset = 1 ∧ Try.prog.cellsOf p1.type = 1 ∧ Try.prog.underlying p1.type = some (.int .i64))
    (q2 : p2.offset = 2 ∧ Try.prog.cellsOf p2.type = 1 ∧ Try.prog.underlying p2.type = some (.int .i64))
    (hv : Value.okWide Try.prog W .any base t v) (h : DataW.Trod enc Try.prog W 0 (fun _ => true) true t v d p) :
    ∃ l, ActsIn W v l ∧ l.length ≤ Rows.uptoBulk d ∧ ∀ a ∈ l, a.s.length + a.name.length + a.to.length + 1 ≤ Rows.uptoBulk d ∧ (∃ ad n cp, a.pv = .slice ad n cp) ∧
      (Lit.int .i64 a.kind).wf = true ∧ (Lit.int .i64 a.n).wf = true ∧ (Lit.int .i64 a.f0).wf = true ∧ (Lit.int .i64 a.f1).wf = true ∧ (Lit.int .i64 a.f2).wf = true ∧ ∃ l, PlanIn W a.pv l ∧ l.length ≤ Rows.uptoBulk d ∧ ∀ x ∈ l, (Lit.int .i64 x.at_).wf = true := by
  obtain ⟨a, len, cap, rfl⟩ := okWide_slice ht hv
  obtain ⟨fuel, hf⟩ := h
  rcases DataW.trod_slice ht hf with ⟨hcs, hx⟩ | ⟨ad, l, c, elems, rest, m, _, hcs, hx, _, hl, hm, hlen, hall, _, _⟩
  · simp [Value.cells] at hcs
    obtain ⟨rfl, rfl, rfl⟩ := hcs
    exact ⟨[], .inl ⟨none, 0, rfl, rfl⟩, by simp, by simp⟩
  · simp [Value.cells] at hcs
    obtain ⟨rfl, rfl, rfl⟩ := hcs
    simp only [Prod.mk.injEq] at hx
    obtain ⟨rfl, _⟩ := hx
    rw [ce] at hall
    have each : ∀ i, i < len → ∃ q : AC, (∀ j, j < 9 → W.cell? ((ad.add (i * 9)).add j) = (acC q)[j]?) ∧ ∃ x, elems[i]? = some x ∧ q.s.length + q.name.length + q.to.length + 1 ≤ Rows.uptoBulk x.1 ∧ (∃ ad n cp, q.pv = .slice ad n cp) ∧
        (Lit.int .i64 q.kind).wf = true ∧ (Lit.int .i64 q.n).wf = true ∧ (Lit.int .i64 q.f0).wf = true ∧ (Lit.int .i64 q.f1).wf = true ∧ (Lit.int .i64 q.f2).wf = true ∧ ∃ l, PlanIn W q.pv l ∧ l.length ≤ Rows.uptoBulk x.1 ∧ ∀ x ∈ l, (Lit.int .i64 x.at_).wf = true := by
      intro i hi
      have h1 := hall i hi
      rw [List.getElem?_eq_getElem (show i < elems.length by omega)] at h1
      rw [Option.bind_eq_some_iff] at h1
      obtain ⟨cs, h2, h3⟩ := h1
      obtain ⟨_, _, h4⟩ := World.cells?_some h2
      obtain ⟨q, rfl, hq⟩ := actp_of he ce o0 o1 o2 o3 o4 o5 o6 q0 q1 q2 h3
      exact ⟨q, h4, _, List.getElem?_eq_getElem _, hq⟩
    obtain ⟨Q, hQ⟩ := Go.Deep.choose_lt each
    refine ⟨(List.range len).map Q, ?_, ?_, ?_⟩
    · by_cases h0 : len = 0
      · subst h0; exact .inl ⟨_, _, rfl, by simp⟩
      · obtain ⟨b, off, spot⟩ := ad
        have h1 := (hQ 0 (by omega)).1 0 (by omega)
        have h1' : W.cell? ((Addr.mk b off spot).add (0 * 9) |>.add 0) = some (.int .i64 (Q 0).kind) := h1
        have hspot : spot = none := by simpa [Addr.add] using World.cell?_spot h1'
        subst hspot
        have hlt := World.block_lt_of_cell? W _ h1'
        have hbl : b < W.heap.size := by simpa [Addr.add_lit] using hlt
        refine .inr ⟨b, off, cap, by simp, hbl, fun j hj i hi => ?_⟩
        have hj' : j < len := by simpa using hj
        have h2 := (hQ j hj').1 i hi
        rw [Addr.add_lit, Addr.add_lit] at h2
        rw [h2]
        simp
    · have hb : elems.length ≤ Rows.uptoBulkAll (elems.map (·.1)) := by
        have := bulk_len (elems.map (·.1)) (by
          intro d hd
          obtain ⟨x, hx, rfl⟩ := List.mem_map.1 hd
          obtain ⟨i, hi, rfl⟩ := List.getElem_of_mem hx
          obtain ⟨_, x, hx, hq, _⟩ := hQ i (by omega)
          rw [List.getElem?_eq_getElem hi] at hx
          simp at hx
          subst hx
          omega)
        simpa using this
      simp only [List.length_map, List.length_range, Rows.uptoBulk]
      omega
    · intro a ha
      obtain ⟨i, hi, rfl⟩ := List.mem_map.1 ha
      obtain ⟨_, x, hx, hq, hr⟩ := hQ i (List.mem_range.1 hi)
      obtain ⟨r1, r2, r3, r4, r5, r6, pl, s1, s2, s3⟩ := hr
      have h5 := bulk_mem (elems.map (·.1)) x.1 (List.mem_map.2 ⟨x, List.mem_of_getElem? hx, rfl⟩)
      refine ⟨?_, r1, r2, r3, r4, r5, r6, pl, s1, ?_, s3⟩
      all_goals
        simp only [Rows.uptoBulk]
        omega
end Go.Proofs.Ytnlodlpjokkepab.bulks
