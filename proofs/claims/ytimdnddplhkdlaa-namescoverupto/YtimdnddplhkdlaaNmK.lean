/- What a bound on the bulk of an argument gives: keys, how they are asked for, and numbers. -/
import Derived.Test.YtimdnddplhkdlaaRows
import Derived.Test.YtimdnddplhkdlaaStrsM
import Derived.Test.YtimdnddplhkdlaaIntM
import Derived.Test.YtimdnddplhkdlaaNmI
import Derived.ProofKit
import Derived.OpenShut
import Derived.SliceStrings
import Derived.Lib.SmallJoins
namespace Go.Proofs.Ytimdnddplhkdlaa.bulks
open Go.ChangeShapes Go.WideShapes Go.ChangeAt Go.RowKit
set_option linter.unusedVariables false

theorem bulk_each {H : Type} (xs : List ByteArray) : xs.length ≤ Rows.uptoBulkAll (H := H) (strs xs) ∧ ∀ x ∈ xs, x.size ≤ Rows.uptoBulkAll (H := H) (strs xs) := by
  induction xs with
  | nil => simp
  | cons x r ih =>
    have e : x.data.toList.length = x.size := by simp
    simp only [strs, List.map_cons, Rows.uptoBulkAll, Rows.uptoBulk] at ih ⊢
    refine ⟨by simp; omega, fun y hy => ?_⟩
    rcases List.mem_cons.1 hy with rfl | hy
    · omega
    · have := ih.2 y hy; omega
/-- keys that came in -/
theorem keys_of {H : Type} {enc : TypeId × Value → H} {W : World} {base : Nat} {t : TypeId} {v : Value} {d : DataW H} {p : List MemPlace} (ht : Try.prog.underlying t = some (.slice 9)) (he : Try.prog.underlying 9 = some .string) (hc : Try.prog.cellsOf 9 = 1)
    (hv : Value.okWide Try.prog W .any base t v) (h : DataW.Trod enc Try.prog W 0 (fun _ => true) true t v d p) :
    ∃ ks : List Bs, Strs W v (ks.map tb) ∧ ks.length ≤ Rows.uptoBulk d ∧ ∀ k ∈ ks, k.length ≤ Rows.uptoBulk d := by
  obtain ⟨a, len, cap, rfl⟩ := okWide_slice ht hv
  obtain ⟨fuel, hf⟩ := h
  rcases open_strings ht he hc hf with ⟨hcs, hx⟩ | ⟨ad, l, c, ss, hcs, _, hl, hm, hz, hx, hcell, hws⟩
  · simp [Value.cells] at hcs
    obtain ⟨rfl, rfl, rfl⟩ := hcs
    exact ⟨[], .inl ⟨rfl, none, 0, rfl⟩, by simp, by simp⟩
  · simp [Value.cells] at hcs
    obtain ⟨rfl, rfl, rfl⟩ := hcs
    simp only [Prod.mk.injEq] at hx
    obtain ⟨rfl, rfl⟩ := hx
    simp at hz
    have hb := bulk_each (H := H) (ss.take len)
    have hmap : ((ss.take len).map (fun x => x.data.toList)).map tb = ss.take len := by
      rw [List.map_map]
      conv => rhs; rw [← List.map_id (ss.take len)]
      exact List.map_congr_left (fun x _ => tb_of x)
    refine ⟨(ss.take len).map (fun x => x.data.toList), ?_, ?_, ?_⟩
    · rw [hmap]
      by_cases h0 : len = 0
      · subst h0; exact .inl ⟨by simp, _, _, rfl⟩
      · obtain ⟨b, off, spot⟩ := ad
        have h1 := hcell 0 (by omega)
        have hspot : spot = none := by simpa [Addr.add] using World.cell?_spot h1
        subst hspot
        have hlt := World.block_lt_of_cell? W _ h1
        have hbl : b < W.heap.size := by simpa [Addr.add_lit] using hlt
        have hln : (ss.take len).length = len := by simp; omega
        refine .inr ⟨b, off, cap, by rw [hln], hbl, fun j hj => ?_⟩
        rw [hln] at hj
        have h2 := hcell j (by omega)
        rw [Addr.add_lit] at h2
        rw [h2]
        congr 2
        simp [List.getD, hj]
        rfl
    · rw [List.length_map]
      simp only [Rows.uptoBulk]
      have := hb.1
      omega
    · intro k hk
      obtain ⟨x, hx, rfl⟩ := List.mem_map.1 hk
      have := hb.2 x hx
      have e : x.data.toList.length = x.size := by simp
      simp only [Rows.uptoBulk]
      omega
set_option maxRecDepth 100000 in
/-- how keys are asked for -/
theorem ask_of {H : Type} {enc : TypeId × Value → H} {W : World} {base : Nat} {t : TypeId} {f0 f1 f2 f3 : Field} {v : Value} {d : DataW H} {p : List MemPlace} (hs : Try.prog.underlying t = some (.struct #[f0, f1, f2, f3])) (hone : Go.Deep.oneCellFields Try.prog #[f0, f1, f2, f3] = true) (hC : Try.prog.cellsOf t = 4)
    (h0 : Try.prog.underlying f0.type = some .string) (h1 : Try.prog.underlying f1.type = some .string) (h2 : Try.prog.underlying f2.type = some .string) (h3 : Try.prog.underlying f3.type = some (.int .i64))
    (hv : Value.okWide Try.prog W .any base t v) (h : DataW.Trod enc Try.prog W 0 (fun _ => true) true t v d p) :
    ∃ (a b c : Bs) (n : Int), v = .agg #[.string (tb a), .string (tb b), .string (tb c), .int .i64 n] ∧ a.length ≤ Rows.uptoBulk d ∧ b.length ≤ Rows.uptoBulk d ∧ c.length ≤ Rows.uptoBulk d ∧ (Lit.int .i64 n).wf = true := by
  obtain ⟨v0, v1, v2, v3, y0, y1, y2, y3, n, rfl, rfl, _, t0, t1, t2, t3⟩ := Go.Joins.open_agg4 (P := Try.prog) hs hone hC hv h
  obtain ⟨a, e0, r0, _⟩ := DataW.trod_string h0 t0
  obtain ⟨b, e1, r1, _⟩ := DataW.trod_string h1 t1
  obtain ⟨c, e2, r2, _⟩ := DataW.trod_string h2 t2
  obtain ⟨m, e3, r3, wm⟩ := DataW.trod_int h3 t3
  simp at e0 e1 e2 e3
  subst e0 e1 e2 e3 r0 r1 r2 r3
  refine ⟨a.data.toList, b.data.toList, c.data.toList, m, by rw [tb_of, tb_of, tb_of], ?_, ?_, ?_, wm⟩
  all_goals (simp only [Rows.uptoBulk, Rows.uptoBulkAll]; omega)
set_option maxRecDepth 100000 in
/-- numbers that came in -/
theorem nums_of {H : Type} {enc : TypeId × Value → H} {W : World} {base : Nat} {t : TypeId} {v : Value} {d : DataW H} {p : List MemPlace} (ht : Try.prog.underlying t = some (.slice 3)) (he : Try.prog.underlying 3 = some (.int .i64)) (hc : Try.prog.cellsOf 3 = 1)
    (hv : Value.okWide Try.prog W .any base t v) (h : DataW.Trod enc Try.prog W 0 (fun _ => true) true t v d p) :
    ∃ xs, IntsI W v xs ∧ (∀ x ∈ xs, (Lit.int .i64 x).wf = true) ∧ xs.length ≤ Rows.uptoBulk d := by
  obtain ⟨a, len, cap, rfl⟩ := okWide_slice ht hv
  obtain ⟨fuel, hf⟩ := h
  rcases open_ints ht he hc hf with ⟨hcs, hx⟩ | ⟨ad, l, c, zs, hcs, _, hl, hm, hz, hx, hcell, hws⟩
  · simp [Value.cells] at hcs
    obtain ⟨rfl, rfl, rfl⟩ := hcs
    exact ⟨[], .inl ⟨none, 0, rfl, rfl⟩, by simp, by simp⟩
  · simp [Value.cells] at hcs
    obtain ⟨rfl, rfl, rfl⟩ := hcs
    simp only [Prod.mk.injEq] at hx
    obtain ⟨rfl, rfl⟩ := hx
    simp at hz
    have hln : (zs.take len).length = len := by simp; omega
    have hbk : ∀ ys : List Int, Rows.uptoBulkAll (H := H) (lits .i64 ys) = ys.length := by
      intro ys
      induction ys with
      | nil => rfl
      | cons y r ih => simp only [lits, List.map_cons, Rows.uptoBulkAll, Rows.uptoBulk, List.length_cons] at ih ⊢; omega
    refine ⟨zs.take len, ?_, fun x hx => hws x (List.mem_of_mem_take hx), ?_⟩
    · by_cases h0 : len = 0
      · subst h0; exact .inl ⟨_, _, rfl, by simp⟩
      · obtain ⟨b, off, spot⟩ := ad
        have h1 := hcell 0 (by omega)
        have hspot : spot = none := by simpa [Addr.add] using World.cell?_spot h1
        subst hspot
        have hlt := World.block_lt_of_cell? W _ h1
        have hbl : b < W.heap.size := by simpa [Addr.add_lit] using hlt
        refine .inr ⟨b, off, cap, by rw [hln], hbl, fun j hj => ?_⟩
        rw [hln] at hj
        have h2 := hcell j (by omega)
        rw [Addr.add_lit] at h2
        rw [h2]
        congr 2
        rw [List.getElem_take, List.getD_eq_getElem?_getD, List.getElem?_eq_getElem (by omega)]
        rfl
    · simp only [Rows.uptoBulk]
      rw [hbk]
      omega
end Go.Proofs.Ytimdnddplhkdlaa.bulks
