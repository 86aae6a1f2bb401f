/- A message as the document has it; two that are the same. -/
import Derived.Test.YtlkidnfgodficaaGreatJoined20
import Derived.BigQuiet
import Derived.Laws.StructEq
import Derived.ChangeKeysEq
namespace Go.Proofs.YtlkidnfgodficaaGreat
open Go.RowKit Go.Maps
set_option linter.unusedVariables false
set_option linter.unusedSimpArgs false

set_option maxRecDepth 100000 in
set_option maxHeartbeats 4000000 in
theorem mref_any (v : Value) (m : Ms) (w : World) (hv : EntI w v m.es) (hl : m.es.length ≤ 4398046511104) : Calls Tryz.prog 8 #[msV v m] w fun e w' => ∃ ad cap, e = .returned (msV (.slice ad m.es.length cap) m) ∧ OwnQE w' w.heap.size (.slice ad m.es.length cap) m.es ∧ Below w.heap.size w w' := by
  obtain ⟨ad, cap, rfl, hc⟩ := hv.form
  have HC := hid hc
  have HL := hid hl
  have R0 : Hid (RowIs ((w.alloc (.cells #[.int .i64 m.kd, .int .i64 m.fr, .int .i64 m.to_, .int .i64 m.tm, .int .i64 m.ix, .int .i64 m.lt, .int .i64 m.cm, .int .i64 m.rd, .int .i64 m.at_, .bool m.ys, .slice ad m.es.length cap, .string m.da] 24)).alloc (.cells #[.int .i64 0, .int .i64 0, .int .i64 0, .int .i64 0, .int .i64 0, .int .i64 0, .int .i64 0, .int .i64 0, .int .i64 0, .bool false, .slice none 0 0, .string ⟨#[]⟩] 32)) w.heap.size [.int .i64 m.kd, .int .i64 m.fr, .int .i64 m.to_, .int .i64 m.tm, .int .i64 m.ix, .int .i64 m.lt, .int .i64 m.cm, .int .i64 m.rd, .int .i64 m.at_, .bool m.ys, .slice ad m.es.length cap, .string m.da] 24) := row_old (srow w _ _) _
  have Q0 : Hid (RowIs ((w.alloc (.cells #[.int .i64 m.kd, .int .i64 m.fr, .int .i64 m.to_, .int .i64 m.tm, .int .i64 m.ix, .int .i64 m.lt, .int .i64 m.cm, .int .i64 m.rd, .int .i64 m.at_, .bool m.ys, .slice ad m.es.length cap, .string m.da] 24)).alloc (.cells #[.int .i64 0, .int .i64 0, .int .i64 0, .int .i64 0, .int .i64 0, .int .i64 0, .int .i64 0, .int .i64 0, .int .i64 0, .bool false, .slice none 0 0, .string ⟨#[]⟩] 32)) (w.heap.size + 1) [.int .i64 0, .int .i64 0, .int .i64 0, .int .i64 0, .int .i64 0, .int .i64 0, .int .i64 0, .int .i64 0, .int .i64 0, .bool false, .slice none 0 0, .string ⟨#[]⟩] 32) := by
    have := srow (w.alloc (.cells #[.int .i64 m.kd, .int .i64 m.fr, .int .i64 m.to_, .int .i64 m.tm, .int .i64 m.ix, .int .i64 m.lt, .int .i64 m.cm, .int .i64 m.rd, .int .i64 m.at_, .bool m.ys, .slice ad m.es.length cap, .string m.da] 24)) [.int .i64 0, .int .i64 0, .int .i64 0, .int .i64 0, .int .i64 0, .int .i64 0, .int .i64 0, .int .i64 0, .int .i64 0, .bool false, .slice none 0 0, .string ⟨#[]⟩] 32
    rwa [World.size_alloc] at this
  have B0 : Hid (Below w.heap.size w ((w.alloc (.cells #[.int .i64 m.kd, .int .i64 m.fr, .int .i64 m.to_, .int .i64 m.tm, .int .i64 m.ix, .int .i64 m.lt, .int .i64 m.cm, .int .i64 m.rd, .int .i64 m.at_, .bool m.ys, .slice ad m.es.length cap, .string m.da] 24)).alloc (.cells #[.int .i64 0, .int .i64 0, .int .i64 0, .int .i64 0, .int .i64 0, .int .i64 0, .int .i64 0, .int .i64 0, .int .i64 0, .bool false, .slice none 0 0, .string ⟨#[]⟩] 32))) := below_al (below_al (Below.refl _ _) _) _
  unfold msV
  clear hc hv hl
  go_enter Tryz.func8, Tryz.ntmps8
  go_wp2
  go_loopg [3, 4] m.es.length (fun gk o i wr => ∃ (k : Nat) (ad2 : Option Addr) (cap2 : Nat), k ≤ m.es.length ∧ gk = m.es.length - k ∧ o = .slice ad2 k cap2 ∧ i = .int .i64 (k : Int) ∧ Hid (wr.ownsRow (w.heap.size + 1 + 1) 78 3 (.slice ad2 k cap2) k (ensC (m.es.take k))) ∧ Hid (Below w.heap.size w wr) ∧ Hid (RowIs wr w.heap.size [.int .i64 m.kd, .int .i64 m.fr, .int .i64 m.to_, .int .i64 m.tm, .int .i64 m.ix, .int .i64 m.lt, .int .i64 m.cm, .int .i64 m.rd, .int .i64 m.at_, .bool m.ys, .slice ad m.es.length cap, .string m.da] 24) ∧ Hid (RowIs wr (w.heap.size + 1) [.int .i64 0, .int .i64 0, .int .i64 0, .int .i64 0, .int .i64 0, .int .i64 0, .int .i64 0, .int .i64 0, .int .i64 0, .bool false, .slice none 0 0, .string ⟨#[]⟩] 32))
  case atStart => exact ⟨0, none, 0, Nat.zero_le _, rfl, rfl, rfl, ⟨rfl, .inl ⟨rfl, rfl⟩⟩, B0, R0, Q0⟩
  case round =>
    clear B0 R0 Q0
    obtain ⟨k, ad2, cap2, hk, hgk, rfl, rfl, HO, HB, HR, HQ⟩ := hrel
    have y10 := HR.out.cellAt (o := 10) rfl
    by_cases hlt : k < m.es.length
    · have hlb := HL.out
      have hk1 : (k : Int) < (m.es.length : Int) := by omega
      have hk0 : (0 : Int) ≤ (k : Int) := by omega
      have hwk : wrap64 ((k : Int) + 1) = ((k + 1 : Nat) : Int) := by rw [IntWalk.wrap64_in _ (by omega)]; omega
      obtain ⟨b, off, hadr, hb, c0, c1, c2⟩ := HC.out k hlt
      have d0 := (HB.out.cell (p := ⟨b, off + k * 3, none⟩) hb).trans c0
      have d1 := (HB.out.cell (p := ⟨b, off + k * 3 + 1, none⟩) hb).trans c1
      have d2 := (HB.out.cell (p := ⟨b, off + k * 3 + 2, none⟩) hb).trans c2
      have HT : Hid (ensC (m.es.take (k + 1)) = ensC (m.es.take k) ++ enC m.es[k]) := by show _ = _; rw [List.take_succ_eq_append_getElem hlt, ensC_snoc]
      have HLT := hid hlt
      have HGK := hid hgk
      clear c0 c1 c2 hb hlb hk hgk HC
      generalize m.es[k] = x at *
      obtain ⟨tm, kd, da⟩ := x
      simp only at *
      subst hadr
      have HB1 : Hid (k + 1 ≤ 70368744177) ∨ True := .inr trivial
      clear HB1
      have HQ1 : Hid (k + 1 ≤ 4611686018427387904) := by have := HL.out; have := HLT.out; show _ ≤ _; omega
      have HQ2 : Hid ((k + 1) * 32 ≤ 140737488355328) := by have := HL.out; have := HLT.out; show _ ≤ _; omega
      have HO1 := hid (enC_cell1 ⟨tm, kd, da⟩)
      have HX2 : Hid ((enC ⟨tm, kd, da⟩).length = 1 * 3) := rfl
      have HM5 : Hid (m.es.length - (k + 1) < m.es.length - k) := by have := HLT.out; show _ < _; omega
      have HGX : Hid (GSrc (wr.alloc (.cells #[.int .i64 tm, .int .i64 kd, .string da] 78)) (.slice (some ⟨wr.heap.size, 0, none⟩) 1 1) 1 (enC ⟨tm, kd, da⟩)) := gsrc_block (heap_alloc_new _ _)
      have HGA : Hid ((wr.alloc (.cells #[.int .i64 tm, .int .i64 kd, .string da] 78)).ownsRow (w.heap.size + 1 + 1) 78 3 (.slice ad2 k cap2) k (ensC (m.es.take k))) := (keep_alloc (fun _ => False) _ _).ownsRow HO.out (fun _ _ h => h)
      have HSZ : Hid (w.heap.size + 1 + 1 ≤ (wr.alloc (.cells #[.int .i64 tm, .int .i64 kd, .string da] 78)).heap.size) := by have := HQ.out.lt; show _ ≤ _; rw [World.size_alloc]; omega
      have HBL := hid (below_al HB.out (.cells #[.int .i64 tm, .int .i64 kd, .string da] 78))
      have HRL := hid (row_old HR.out (.cells #[.int .i64 tm, .int .i64 kd, .string da] 78))
      have HQL := hid (row_old HQ.out (.cells #[.int .i64 tm, .int .i64 kd, .string da] 78))
      clear HO HB HR HQ hlt
      generalize hXS : enC ⟨tm, kd, da⟩ = XS at *
      clear hXS
      generalize hPA : ensC (m.es.take k) = PA at *
      clear hPA
      go_wp2_with (at_builtin; refine wpl_gappL rfl _ _ elQE (by rfl) (w.heap.size + 1 + 1) (.slice ad2 k cap2) (.slice (some ⟨wr.heap.size, 0, none⟩) 1 1) PA XS k 1 (k + 1) rfl (by rfl) (by rfl) HGA.out HSZ.out HGX.out HX2.out HO1.out HQ1.out HQ2.out ?_; intro ad' cap' w' hr' hk')
      have F1 : Hid (w'.ownsRow (w.heap.size + 1 + 1) 78 3 (.slice ad' (k + 1) cap') (k + 1) (ensC (m.es.take (k + 1)))) := by rw [HT.out]; exact hr'
      have F2 := hid (HBL.out.trans (keep_below hk' (fun j hj e => by have := ownsRow_ge HGA.out e; omega) (by have := HSZ.out; omega)))
      have F3 := hid (HRL.out.keep hk' (fun e => by have := ownsRow_ge HGA.out e; omega))
      have F4 := hid (HQL.out.keep hk' (fun e => by have := ownsRow_ge HGA.out e; omega))
      clear hr' hk' HGA HGX HSZ HBL HT HRL HQL
      go_wp2
      go_roundg (m.es.length - (k + 1))
      case measure => rw [HGK.out]; exact HM5.out
      case rel => exact ⟨k + 1, _, _, HLT.out, rfl, rfl, by first | rw [hwk] | rfl | simp, F1, F2, F3, F4⟩
    · have hk9 : k = m.es.length := by omega
      have hdl : decide ((k : Int) < (m.es.length : Int)) = false := decide_eq_false (by omega)
      have hdl2 : decide (k < m.es.length) = false := decide_eq_false (by omega)
      have HF : Hid (OwnQE wr (w.heap.size + 1 + 1) (.slice ad2 m.es.length cap2) m.es) := by have := HO.out; rw [hk9, List.take_length] at this; exact this
      subst hk9
      have y0 := HR.out.cellAt (o := 0) rfl
      have y1 := HR.out.cellAt (o := 1) rfl
      have y2 := HR.out.cellAt (o := 2) rfl
      have y3 := HR.out.cellAt (o := 3) rfl
      have y4 := HR.out.cellAt (o := 4) rfl
      have y5 := HR.out.cellAt (o := 5) rfl
      have y6 := HR.out.cellAt (o := 6) rfl
      have y7 := HR.out.cellAt (o := 7) rfl
      have y8 := HR.out.cellAt (o := 8) rfl
      have y9 := HR.out.cellAt (o := 9) rfl
      have y11 := HR.out.cellAt (o := 11) rfl
      have z0 := HQ.out.cellAt (o := 0) rfl
      have f0 := HQ.out.frozen (o := 0)
      have z1 := HQ.out.cellAt (o := 1) rfl
      have f1 := HQ.out.frozen (o := 1)
      have z2 := HQ.out.cellAt (o := 2) rfl
      have f2 := HQ.out.frozen (o := 2)
      have z3 := HQ.out.cellAt (o := 3) rfl
      have f3 := HQ.out.frozen (o := 3)
      have z4 := HQ.out.cellAt (o := 4) rfl
      have f4 := HQ.out.frozen (o := 4)
      have z5 := HQ.out.cellAt (o := 5) rfl
      have f5 := HQ.out.frozen (o := 5)
      have z6 := HQ.out.cellAt (o := 6) rfl
      have f6 := HQ.out.frozen (o := 6)
      have z7 := HQ.out.cellAt (o := 7) rfl
      have f7 := HQ.out.frozen (o := 7)
      have z8 := HQ.out.cellAt (o := 8) rfl
      have f8 := HQ.out.frozen (o := 8)
      have z9 := HQ.out.cellAt (o := 9) rfl
      have f9 := HQ.out.frozen (o := 9)
      have z10 := HQ.out.cellAt (o := 10) rfl
      have f10 := HQ.out.frozen (o := 10)
      have z11 := HQ.out.cellAt (o := 11) rfl
      have f11 := HQ.out.frozen (o := 11)
      have FIN : Hid (∀ W', W' = ((((((((((((wr.setCell ⟨w.heap.size + 1, 0, none⟩ (.int .i64 m.kd)).setCell ⟨w.heap.size + 1, 1, none⟩ (.int .i64 m.fr)).setCell ⟨w.heap.size + 1, 2, none⟩ (.int .i64 m.to_)).setCell ⟨w.heap.size + 1, 3, none⟩ (.int .i64 m.tm)).setCell ⟨w.heap.size + 1, 4, none⟩ (.int .i64 m.ix)).setCell ⟨w.heap.size + 1, 5, none⟩ (.int .i64 m.lt)).setCell ⟨w.heap.size + 1, 6, none⟩ (.int .i64 m.cm)).setCell ⟨w.heap.size + 1, 7, none⟩ (.int .i64 m.rd)).setCell ⟨w.heap.size + 1, 8, none⟩ (.int .i64 m.at_)).setCell ⟨w.heap.size + 1, 9, none⟩ (.bool m.ys)).setCell ⟨w.heap.size + 1, 10, none⟩ (.slice ad2 m.es.length cap2)).setCell ⟨w.heap.size + 1, 11, none⟩ (.string m.da)) → RowIs W' (w.heap.size + 1) [.int .i64 m.kd, .int .i64 m.fr, .int .i64 m.to_, .int .i64 m.tm, .int .i64 m.ix, .int .i64 m.lt, .int .i64 m.cm, .int .i64 m.rd, .int .i64 m.at_, .bool m.ys, .slice ad2 m.es.length cap2, .string m.da] 32 ∧ OwnQE W' w.heap.size (.slice ad2 m.es.length cap2) m.es ∧ Below w.heap.size w W') := fun W' hW => by
        subst hW
        have f := twelve (x0 := .int .i64 m.kd) (x1 := .int .i64 m.fr) (x2 := .int .i64 m.to_) (x3 := .int .i64 m.tm) (x4 := .int .i64 m.ix) (x5 := .int .i64 m.lt) (x6 := .int .i64 m.cm) (x7 := .int .i64 m.rd) (x8 := .int .i64 m.at_) (x9 := .bool m.ys) (x10 := .slice ad2 m.es.length cap2) (x11 := .string m.da) (by rfl) HQ.out
        exact ⟨f.1, ownsRow_base (f.2.ownsRow HF.out (fun j hj e => by have := ownsRow_ge HF.out hj; omega)) (by omega), HB.out.trans (keep_below f.2 (fun j hj e => by omega) HB.out.size)⟩
      clear HO HL HC hlt hk hgk HF HB HR HQ
      go_wp2
      obtain ⟨g1, g2, g3⟩ := FIN.out _ rfl
      exact bodyPost_ret (v := .agg #[.int .i64 m.kd, .int .i64 m.fr, .int .i64 m.to_, .int .i64 m.tm, .int .i64 m.ix, .int .i64 m.lt, .int .i64 m.cm, .int .i64 m.rd, .int .i64 m.at_, .bool m.ys, .slice ad2 m.es.length cap2, .string m.da]) (results_cell_row (p := 2) rfl _ _ (w.heap.size + 1) 32 #[.int .i64 m.kd, .int .i64 m.fr, .int .i64 m.to_, .int .i64 m.tm, .int .i64 m.ix, .int .i64 m.lt, .int .i64 m.cm, .int .i64 m.rd, .int .i64 m.at_, .bool m.ys, .slice ad2 m.es.length cap2, .string m.da] (0, 0) _ rfl g1 Tryz.underlying32 rfl (by kernel_rfl)) rfl ⟨_, _, rfl, g2, g3⟩
theorem guardEn10 : Tryz.prog.eqGuardType Tryz.prog.depth 78 = false := by kernel_rfl
theorem guardNm10 : Tryz.prog.eqGuardType Tryz.prog.depth 70 = false := by kernel_rfl
theorem eqEn10 (a b : Int) (X : ByteArray) (W : World) : (Op.equalIn 10000 78 (.agg #[.int .i64 a, .int .i64 b, .string X]) (.agg #[.int .i64 a, .int .i64 b, .string X])).run Tryz.prog W = .ok true W := by
  have u9 := Tryz.underlying9
  have u4 := Tryz.underlying3
  have z9 := Tryz.sizeOf9
  have z4 := Tryz.sizeOf3
  have a9 := Tryz.isAgg9
  have a4 := Tryz.isAgg3
  have hS : Tryz.prog.underlying 78 = some (.struct (Tryz.prog.fieldsOf 78)) := by kernel_rfl
  have hp : Tryz.prog.stoodInHeld 78 = false := by kernel_rfl
  rw [show (10000 : Nat) = 9999 + 1 from rfl, run_equalIn_agg W 9999 78 _ _ hS hp]
  simp only [Program.fieldsOf, Tryz.underlying78]
  go_simp
theorem neqEn10 (a b : Int) (X : ByteArray) (W : World) : (binOp .neq 78 (.agg #[.int .i64 a, .int .i64 b, .string X]) (.agg #[.int .i64 a, .int .i64 b, .string X])).run Tryz.prog W = .ok (.bool false) W := by
  rw [run_neq_struct, eqEn10]
  rfl
theorem part9 (cs : Array Value) (i : Nat) (x : Int) (h : cs[i]? = some (.int .i64 x)) (W : World) : (part 3 cs i).run Tryz.prog W = .ok (.int .i64 x) W := by
  have a4 := Tryz.isAgg3
  unfold part
  simp [a4, h]
theorem eqNm10 (m : Ms) (W : World) : (Op.equalIn 10000 70 (.agg (nmA m)) (.agg (nmA m))).run Tryz.prog W = .ok true W := by
  have u4 := Tryz.underlying3
  obtain ⟨z, hz, -⟩ := elInt.inf
  obtain ⟨i0, hi, -⟩ := info_parts hz
  have hc : Tryz.prog.cellsOf 3 = 1 := by kernel_rfl
  rw [show (10000 : Nat) = 9999 + 1 from rfl, run_equalIn_array W 9999 (nmA m) (nmA m) Tryz.underlying70 hi, hc]
  have hall : ∀ (is : List Nat), (∀ i ∈ is, i < 9) → (Op.eqItems 9999 3 1 (nmA m) (nmA m) is).run Tryz.prog W = .ok true W := by
    intro is
    induction is with
    | nil => intro _; simp [Op.eqItems]
    | cons i is ih =>
      intro h
      have hi := h i (by simp)
      have hcell : (nmA m)[i * 1]? = some (.int .i64 (m.nm.getD i 0)) := by
        rw [Nat.mul_one, ← nm_cell m i hi]
        simp
      simp only [Op.eqItems, Sem.run_bind, part9 (nmA m) (i * 1) _ hcell W, Result.andThen_ok]
      rw [show (9999 : Nat) = 9998 + 1 from rfl, run_equalIn_int W 9998 3 .i64 .i64 _ _ u4]
      simp only [Result.andThen_ok, beq_self_eq_true, Bool.not_true, Bool.false_eq_true, if_false]
      exact ih (fun j hj => h j (by simp [hj]))
  exact hall _ (fun i hi => by simpa using hi)
theorem neqNm10 (m : Ms) (W : World) : (binOp .neq 70 (.agg (nmA m)) (.agg (nmA m))).run Tryz.prog W = .ok (.bool false) W := by
  rw [run_neq_struct, eqNm10]
  rfl
set_option maxRecDepth 100000 in
set_option maxHeartbeats 4000000 in
theorem qsame_true (v1 v2 : Value) (m : Ms) (w : World) (h1 : EntI w v1 m.es) (h2 : EntI w v2 m.es) (hl : m.es.length ≤ 4398046511104) : Calls Tryz.prog 14 #[msV v1 m, msV v2 m] w fun e w' => e = .returned (.bool true) ∧ Below w.heap.size w w' := by
  obtain ⟨a1, c1, rfl, g1⟩ := h1.form
  obtain ⟨a2, c2, rfl, g2⟩ := h2.form
  have G1 := hid g1
  have G2 := hid g2
  have HL := hid hl
  have RA : Hid (RowIs ((w.alloc (.cells #[.int .i64 m.kd, .int .i64 m.fr, .int .i64 m.to_, .int .i64 m.tm, .int .i64 m.ix, .int .i64 m.lt, .int .i64 m.cm, .int .i64 m.rd, .int .i64 m.at_, .bool m.ys, .slice a1 m.es.length c1, .string m.da] 32)).alloc (.cells #[.int .i64 m.kd, .int .i64 m.fr, .int .i64 m.to_, .int .i64 m.tm, .int .i64 m.ix, .int .i64 m.lt, .int .i64 m.cm, .int .i64 m.rd, .int .i64 m.at_, .bool m.ys, .slice a2 m.es.length c2, .string m.da] 32)) w.heap.size [.int .i64 m.kd, .int .i64 m.fr, .int .i64 m.to_, .int .i64 m.tm, .int .i64 m.ix, .int .i64 m.lt, .int .i64 m.cm, .int .i64 m.rd, .int .i64 m.at_, .bool m.ys, .slice a1 m.es.length c1, .string m.da] 32) := row_old (srow w _ _) _
  have RB : Hid (RowIs ((w.alloc (.cells #[.int .i64 m.kd, .int .i64 m.fr, .int .i64 m.to_, .int .i64 m.tm, .int .i64 m.ix, .int .i64 m.lt, .int .i64 m.cm, .int .i64 m.rd, .int .i64 m.at_, .bool m.ys, .slice a1 m.es.length c1, .string m.da] 32)).alloc (.cells #[.int .i64 m.kd, .int .i64 m.fr, .int .i64 m.to_, .int .i64 m.tm, .int .i64 m.ix, .int .i64 m.lt, .int .i64 m.cm, .int .i64 m.rd, .int .i64 m.at_, .bool m.ys, .slice a2 m.es.length c2, .string m.da] 32)) (w.heap.size + 1) [.int .i64 m.kd, .int .i64 m.fr, .int .i64 m.to_, .int .i64 m.tm, .int .i64 m.ix, .int .i64 m.lt, .int .i64 m.cm, .int .i64 m.rd, .int .i64 m.at_, .bool m.ys, .slice a2 m.es.length c2, .string m.da] 32) := by
    have := srow (w.alloc (.cells #[.int .i64 m.kd, .int .i64 m.fr, .int .i64 m.to_, .int .i64 m.tm, .int .i64 m.ix, .int .i64 m.lt, .int .i64 m.cm, .int .i64 m.rd, .int .i64 m.at_, .bool m.ys, .slice a1 m.es.length c1, .string m.da] 32)) [.int .i64 m.kd, .int .i64 m.fr, .int .i64 m.to_, .int .i64 m.tm, .int .i64 m.ix, .int .i64 m.lt, .int .i64 m.cm, .int .i64 m.rd, .int .i64 m.at_, .bool m.ys, .slice a2 m.es.length c2, .string m.da] 32
    rwa [World.size_alloc] at this
  have B0 : Hid (Below w.heap.size w ((w.alloc (.cells #[.int .i64 m.kd, .int .i64 m.fr, .int .i64 m.to_, .int .i64 m.tm, .int .i64 m.ix, .int .i64 m.lt, .int .i64 m.cm, .int .i64 m.rd, .int .i64 m.at_, .bool m.ys, .slice a1 m.es.length c1, .string m.da] 32)).alloc (.cells #[.int .i64 m.kd, .int .i64 m.fr, .int .i64 m.to_, .int .i64 m.tm, .int .i64 m.ix, .int .i64 m.lt, .int .i64 m.cm, .int .i64 m.rd, .int .i64 m.at_, .bool m.ys, .slice a2 m.es.length c2, .string m.da] 32))) := below_al (below_al (Below.refl _ _) _) _
  have N1 := hid (fun W => qnumbers_any a1 m.es.length c1 m W)
  have N2 := hid (fun W => qnumbers_any a2 m.es.length c2 m W)
  have qn := fun W => neqNm10 m W
  have gn := guardNm10
  have ge := guardEn10
  unfold msV at *
  clear h1 h2 g1 g2 hl
  have CS : Hid (∀ W, RowIs W w.heap.size [.int .i64 m.kd, .int .i64 m.fr, .int .i64 m.to_, .int .i64 m.tm, .int .i64 m.ix, .int .i64 m.lt, .int .i64 m.cm, .int .i64 m.rd, .int .i64 m.at_, .bool m.ys, .slice a1 m.es.length c1, .string m.da] 32 → RowIs W (w.heap.size + 1) [.int .i64 m.kd, .int .i64 m.fr, .int .i64 m.to_, .int .i64 m.tm, .int .i64 m.ix, .int .i64 m.lt, .int .i64 m.cm, .int .i64 m.rd, .int .i64 m.at_, .bool m.ys, .slice a2 m.es.length c2, .string m.da] 32 → W.cell? ⟨w.heap.size, 0, none⟩ = some (.int .i64 m.kd) ∧ W.cell? ⟨w.heap.size, 1, none⟩ = some (.int .i64 m.fr) ∧ W.cell? ⟨w.heap.size, 2, none⟩ = some (.int .i64 m.to_) ∧ W.cell? ⟨w.heap.size, 3, none⟩ = some (.int .i64 m.tm) ∧ W.cell? ⟨w.heap.size, 4, none⟩ = some (.int .i64 m.ix) ∧ W.cell? ⟨w.heap.size, 5, none⟩ = some (.int .i64 m.lt) ∧ W.cell? ⟨w.heap.size, 6, none⟩ = some (.int .i64 m.cm) ∧ W.cell? ⟨w.heap.size, 7, none⟩ = some (.int .i64 m.rd) ∧ W.cell? ⟨w.heap.size, 8, none⟩ = some (.int .i64 m.at_) ∧ W.cell? ⟨w.heap.size, 9, none⟩ = some (.bool m.ys) ∧ W.cell? ⟨w.heap.size, 10, none⟩ = some (.slice a1 m.es.length c1) ∧ W.cell? ⟨w.heap.size, 11, none⟩ = some (.string m.da) ∧ W.cell? ⟨w.heap.size + 1, 0, none⟩ = some (.int .i64 m.kd) ∧ W.cell? ⟨w.heap.size + 1, 1, none⟩ = some (.int .i64 m.fr) ∧ W.cell? ⟨w.heap.size + 1, 2, none⟩ = some (.int .i64 m.to_) ∧ W.cell? ⟨w.heap.size + 1, 3, none⟩ = some (.int .i64 m.tm) ∧ W.cell? ⟨w.heap.size + 1, 4, none⟩ = some (.int .i64 m.ix) ∧ W.cell? ⟨w.heap.size + 1, 5, none⟩ = some (.int .i64 m.lt) ∧ W.cell? ⟨w.heap.size + 1, 6, none⟩ = some (.int .i64 m.cm) ∧ W.cell? ⟨w.heap.size + 1, 7, none⟩ = some (.int .i64 m.rd) ∧ W.cell? ⟨w.heap.size + 1, 8, none⟩ = some (.int .i64 m.at_) ∧ W.cell? ⟨w.heap.size + 1, 9, none⟩ = some (.bool m.ys) ∧ W.cell? ⟨w.heap.size + 1, 10, none⟩ = some (.slice a2 m.es.length c2) ∧ W.cell? ⟨w.heap.size + 1, 11, none⟩ = some (.string m.da)) := fun W h k => ⟨h.cellAt rfl, h.cellAt rfl, h.cellAt rfl, h.cellAt rfl, h.cellAt rfl, h.cellAt rfl, h.cellAt rfl, h.cellAt rfl, h.cellAt rfl, h.cellAt rfl, h.cellAt rfl, h.cellAt rfl, k.cellAt rfl, k.cellAt rfl, k.cellAt rfl, k.cellAt rfl, k.cellAt rfl, k.cellAt rfl, k.cellAt rfl, k.cellAt rfl, k.cellAt rfl, k.cellAt rfl, k.cellAt rfl, k.cellAt rfl⟩
  have Z0 := CS.out _ RA.out RB.out
  go_enter Tryz.func14, Tryz.ntmps14
  go_wp2
  generalize nmA m = A9 at *
  have B3 := hid B0.out.drew
  have R3 : Hid (RowIs ((w.alloc (.cells #[.int .i64 m.kd, .int .i64 m.fr, .int .i64 m.to_, .int .i64 m.tm, .int .i64 m.ix, .int .i64 m.lt, .int .i64 m.cm, .int .i64 m.rd, .int .i64 m.at_, .bool m.ys, .slice a1 m.es.length c1, .string m.da] 32)).alloc (.cells #[.int .i64 m.kd, .int .i64 m.fr, .int .i64 m.to_, .int .i64 m.tm, .int .i64 m.ix, .int .i64 m.lt, .int .i64 m.cm, .int .i64 m.rd, .int .i64 m.at_, .bool m.ys, .slice a2 m.es.length c2, .string m.da] 32)).drew w.heap.size [.int .i64 m.kd, .int .i64 m.fr, .int .i64 m.to_, .int .i64 m.tm, .int .i64 m.ix, .int .i64 m.lt, .int .i64 m.cm, .int .i64 m.rd, .int .i64 m.at_, .bool m.ys, .slice a1 m.es.length c1, .string m.da] 32) := RA.out
  have Q3 : Hid (RowIs ((w.alloc (.cells #[.int .i64 m.kd, .int .i64 m.fr, .int .i64 m.to_, .int .i64 m.tm, .int .i64 m.ix, .int .i64 m.lt, .int .i64 m.cm, .int .i64 m.rd, .int .i64 m.at_, .bool m.ys, .slice a1 m.es.length c1, .string m.da] 32)).alloc (.cells #[.int .i64 m.kd, .int .i64 m.fr, .int .i64 m.to_, .int .i64 m.tm, .int .i64 m.ix, .int .i64 m.lt, .int .i64 m.cm, .int .i64 m.rd, .int .i64 m.at_, .bool m.ys, .slice a2 m.es.length c2, .string m.da] 32)).drew (w.heap.size + 1) [.int .i64 m.kd, .int .i64 m.fr, .int .i64 m.to_, .int .i64 m.tm, .int .i64 m.ix, .int .i64 m.lt, .int .i64 m.cm, .int .i64 m.rd, .int .i64 m.at_, .bool m.ys, .slice a2 m.es.length c2, .string m.da] 32) := RB.out
  clear B0 RA RB
  refine wp_region_held_drew (S := fun W => W.cell? ⟨w.heap.size, 0, none⟩ = some (.int .i64 m.kd) ∧ W.cell? ⟨w.heap.size, 1, none⟩ = some (.int .i64 m.fr) ∧ W.cell? ⟨w.heap.size, 2, none⟩ = some (.int .i64 m.to_) ∧ W.cell? ⟨w.heap.size, 3, none⟩ = some (.int .i64 m.tm) ∧ W.cell? ⟨w.heap.size, 4, none⟩ = some (.int .i64 m.ix) ∧ W.cell? ⟨w.heap.size, 5, none⟩ = some (.int .i64 m.lt) ∧ W.cell? ⟨w.heap.size, 6, none⟩ = some (.int .i64 m.cm) ∧ W.cell? ⟨w.heap.size, 7, none⟩ = some (.int .i64 m.rd) ∧ W.cell? ⟨w.heap.size, 8, none⟩ = some (.int .i64 m.at_) ∧ W.cell? ⟨w.heap.size, 9, none⟩ = some (.bool m.ys) ∧ W.cell? ⟨w.heap.size, 10, none⟩ = some (.slice a1 m.es.length c1) ∧ W.cell? ⟨w.heap.size, 11, none⟩ = some (.string m.da) ∧ W.cell? ⟨w.heap.size + 1, 0, none⟩ = some (.int .i64 m.kd) ∧ W.cell? ⟨w.heap.size + 1, 1, none⟩ = some (.int .i64 m.fr) ∧ W.cell? ⟨w.heap.size + 1, 2, none⟩ = some (.int .i64 m.to_) ∧ W.cell? ⟨w.heap.size + 1, 3, none⟩ = some (.int .i64 m.tm) ∧ W.cell? ⟨w.heap.size + 1, 4, none⟩ = some (.int .i64 m.ix) ∧ W.cell? ⟨w.heap.size + 1, 5, none⟩ = some (.int .i64 m.lt) ∧ W.cell? ⟨w.heap.size + 1, 6, none⟩ = some (.int .i64 m.cm) ∧ W.cell? ⟨w.heap.size + 1, 7, none⟩ = some (.int .i64 m.rd) ∧ W.cell? ⟨w.heap.size + 1, 8, none⟩ = some (.int .i64 m.at_) ∧ W.cell? ⟨w.heap.size + 1, 9, none⟩ = some (.bool m.ys) ∧ W.cell? ⟨w.heap.size + 1, 10, none⟩ = some (.slice a2 m.es.length c2) ∧ W.cell? ⟨w.heap.size + 1, 11, none⟩ = some (.string m.da)) (by kernel_rfl) Z0 (fun hHeld => ?_)
  generalize ((w.alloc (.cells #[.int .i64 m.kd, .int .i64 m.fr, .int .i64 m.to_, .int .i64 m.tm, .int .i64 m.ix, .int .i64 m.lt, .int .i64 m.cm, .int .i64 m.rd, .int .i64 m.at_, .bool m.ys, .slice a1 m.es.length c1, .string m.da] 32)).alloc (.cells #[.int .i64 m.kd, .int .i64 m.fr, .int .i64 m.to_, .int .i64 m.tm, .int .i64 m.ix, .int .i64 m.lt, .int .i64 m.cm, .int .i64 m.rd, .int .i64 m.at_, .bool m.ys, .slice a2 m.es.length c2, .string m.da] 32)).drew = V at *
  refine wpAnyH_take (i := 0) (v := ?vv1) rfl (by kernel_rfl) (by kernel_rfl) (by kernel_rfl) (fun _ _ _ h => h) (Or.inl ⟨by rfl, ?hy1⟩) (by assumption) ?rest1
  case hy1 => (intro w hSw; (try dsimp only at hSw); go_simp; first | done | with_reducible rfl)
  try simp only [Act.put, List.getElem_toArray, List.getElem_cons_succ, List.getElem_cons_zero, List.setIfInBounds_toArray, List.set_cons_zero, List.set_cons_succ]
  refine wpAnyH_take (i := 2) (v := ?vv2) rfl (by kernel_rfl) (by kernel_rfl) (by kernel_rfl) (fun _ _ _ h => h) (Or.inl ⟨by rfl, ?hy2⟩) (by assumption) ?rest2
  case hy2 => (intro w hSw; (try dsimp only at hSw); go_simp; first | done | with_reducible rfl)
  try simp only [Act.put, List.getElem_toArray, List.getElem_cons_succ, List.getElem_cons_zero, List.setIfInBounds_toArray, List.set_cons_zero, List.set_cons_succ]
  refine wpAnyH_ready (rs := [1]) (by kernel_rfl) (by simp) ?_
  refine AllReadyH.cons rfl (fun K hK => ?_) AllReadyH.nil
  go_simp
  refine (N1.out _).mono ?_
  rintro e u1 ⟨rfl, b1⟩
  have B2 := hid (below_on B3.out b1)
  have R2 := hid (R3.out.keep (b1.keep (fun _ => False)) (fun h => h))
  have Q2 := hid (Q3.out.keep (b1.keep (fun _ => False)) (fun h => h))
  clear b1 B3 R3 Q3 hHeld Z0
  go_wp2_with fail
  refine hK.out _ _ (CS.out _ R2.out Q2.out) (fun hHeld => ?_)
  clear hK K
  try simp only [Act.put, List.getElem_toArray, List.getElem_cons_succ, List.getElem_cons_zero, List.setIfInBounds_toArray, List.set_cons_zero, List.set_cons_succ]
  refine wpAnyH_ready (rs := [3]) (by kernel_rfl) (by simp) ?_
  refine AllReadyH.cons rfl (fun K hK => ?_) AllReadyH.nil
  go_simp
  refine (N2.out _).mono ?_
  rintro e u2 ⟨rfl, b1⟩
  have B1 := hid (below_on B2.out b1)
  have R1 := hid (R2.out.keep (b1.keep (fun _ => False)) (fun h => h))
  have Q1 := hid (Q2.out.keep (b1.keep (fun _ => False)) (fun h => h))
  clear b1 B2 R2 Q2 hHeld
  go_wp2_with fail
  refine hK.out _ _ (CS.out _ R1.out Q1.out) (fun hHeld => ?_)
  clear hK K
  try simp only [Act.put, List.getElem_toArray, List.getElem_cons_succ, List.getElem_cons_zero, List.setIfInBounds_toArray, List.set_cons_zero, List.set_cons_succ]
  refine wpAnyH_take (i := 4) (v := ?vv3) rfl (by kernel_rfl) (by kernel_rfl) (by kernel_rfl) (fun _ _ _ h => h) (Or.inl ⟨by rfl, ?hy3⟩) (by assumption) ?rest3
  case hy3 => (intro w hSw; (try dsimp only at hSw); go_simp; first | done | with_reducible rfl)
  try simp only [Act.put, List.getElem_toArray, List.getElem_cons_succ, List.getElem_cons_zero, List.setIfInBounds_toArray, List.set_cons_zero, List.set_cons_succ]
  refine wpAnyH_take (i := 5) (v := ?vv4) rfl (by kernel_rfl) (by kernel_rfl) (by kernel_rfl) (fun _ _ _ h => h) (Or.inl ⟨by rfl, ?hy4⟩) (by assumption) ?rest4
  case hy4 => (intro w hSw; (try dsimp only at hSw); go_simp; first | done | with_reducible rfl)
  try simp only [Act.put, List.getElem_toArray, List.getElem_cons_succ, List.getElem_cons_zero, List.setIfInBounds_toArray, List.set_cons_zero, List.set_cons_succ]
  refine wpAnyH_take (i := 6) (v := ?vv5) rfl (by kernel_rfl) (by kernel_rfl) (by kernel_rfl) (fun _ _ _ h => h) (Or.inl ⟨by rfl, ?hy5⟩) (by assumption) ?rest5
  case hy5 => (intro w hSw; (try dsimp only at hSw); go_simp; first | done | with_reducible rfl)
  try simp only [Act.put, List.getElem_toArray, List.getElem_cons_succ, List.getElem_cons_zero, List.setIfInBounds_toArray, List.set_cons_zero, List.set_cons_succ]
  refine wpAnyH_take (i := 7) (v := ?vv6) rfl (by kernel_rfl) (by kernel_rfl) (by kernel_rfl) (fun _ _ _ h => h) (Or.inl ⟨by rfl, ?hy6⟩) (by assumption) ?rest6
  case hy6 => (intro w hSw; (try dsimp only at hSw); go_simp; first | done | with_reducible rfl)
  try simp only [Act.put, List.getElem_toArray, List.getElem_cons_succ, List.getElem_cons_zero, List.setIfInBounds_toArray, List.set_cons_zero, List.set_cons_succ]
  refine wpAnyH_take (i := 8) (v := ?vv7) rfl (by kernel_rfl) (by kernel_rfl) (by kernel_rfl) (fun _ _ _ h => h) (Or.inl ⟨by rfl, ?hy7⟩) (by assumption) ?rest7
  case hy7 => (intro w hSw; (try dsimp only at hSw); go_simp; first | done | with_reducible rfl)
  try simp only [Act.put, List.getElem_toArray, List.getElem_cons_succ, List.getElem_cons_zero, List.setIfInBounds_toArray, List.set_cons_zero, List.set_cons_succ]
  refine wpAnyH_take (i := 9) (v := ?vv8) rfl (by kernel_rfl) (by kernel_rfl) (by kernel_rfl) (fun _ _ _ h => h) (Or.inl ⟨by rfl, ?hy8⟩) (by assumption) ?rest8
  case hy8 => (intro w hSw; (try dsimp only at hSw); go_simp; first | done | with_reducible rfl)
  try simp only [Act.put, List.getElem_toArray, List.getElem_cons_succ, List.getElem_cons_zero, List.setIfInBounds_toArray, List.set_cons_zero, List.set_cons_succ]
  refine wpAnyH_take (i := 10) (v := ?vv9) rfl (by kernel_rfl) (by kernel_rfl) (by kernel_rfl) (fun _ _ _ h => h) (Or.inl ⟨by rfl, ?hy9⟩) (by assumption) ?rest9
  case hy9 => (intro w hSw; (try dsimp only at hSw); go_simp; first | done | with_reducible rfl)
  try simp only [Act.put, List.getElem_toArray, List.getElem_cons_succ, List.getElem_cons_zero, List.setIfInBounds_toArray, List.set_cons_zero, List.set_cons_succ]
  refine wpAnyH_take (i := 11) (v := ?vv10) rfl (by kernel_rfl) (by kernel_rfl) (by kernel_rfl) (fun _ _ _ h => h) (Or.inl ⟨by rfl, ?hy10⟩) (by assumption) ?rest10
  case hy10 => (intro w hSw; (try dsimp only at hSw); go_simp; first | done | with_reducible rfl)
  try simp only [Act.put, List.getElem_toArray, List.getElem_cons_succ, List.getElem_cons_zero, List.setIfInBounds_toArray, List.set_cons_zero, List.set_cons_succ]
  refine wpAnyH_take (i := 12) (v := ?vv11) rfl (by kernel_rfl) (by kernel_rfl) (by kernel_rfl) (fun _ _ _ h => h) (Or.inl ⟨by rfl, ?hy11⟩) (by assumption) ?rest11
  case hy11 => (intro w hSw; (try dsimp only at hSw); go_simp; first | done | with_reducible rfl)
  try simp only [Act.put, List.getElem_toArray, List.getElem_cons_succ, List.getElem_cons_zero, List.setIfInBounds_toArray, List.set_cons_zero, List.set_cons_succ]
  refine wpAnyH_take (i := 13) (v := ?vv12) rfl (by kernel_rfl) (by kernel_rfl) (by kernel_rfl) (fun _ _ _ h => h) (Or.inl ⟨by rfl, ?hy12⟩) (by assumption) ?rest12
  case hy12 => (intro w hSw; (try dsimp only at hSw); go_simp; first | done | with_reducible rfl)
  try simp only [Act.put, List.getElem_toArray, List.getElem_cons_succ, List.getElem_cons_zero, List.setIfInBounds_toArray, List.set_cons_zero, List.set_cons_succ]
  refine wpAnyH_take (i := 14) (v := ?vv13) rfl (by kernel_rfl) (by kernel_rfl) (by kernel_rfl) (fun _ _ _ h => h) (Or.inl ⟨by rfl, ?hy13⟩) (by assumption) ?rest13
  case hy13 => (intro w hSw; (try dsimp only at hSw); go_simp; first | done | with_reducible rfl)
  try simp only [Act.put, List.getElem_toArray, List.getElem_cons_succ, List.getElem_cons_zero, List.setIfInBounds_toArray, List.set_cons_zero, List.set_cons_succ]
  refine wpAnyH_take (i := 15) (v := ?vv14) rfl (by kernel_rfl) (by kernel_rfl) (by kernel_rfl) (fun _ _ _ h => h) (Or.inl ⟨by rfl, ?hy14⟩) (by assumption) ?rest14
  case hy14 => (intro w hSw; (try dsimp only at hSw); go_simp; first | done | with_reducible rfl)
  try simp only [Act.put, List.getElem_toArray, List.getElem_cons_succ, List.getElem_cons_zero, List.setIfInBounds_toArray, List.set_cons_zero, List.set_cons_succ]
  refine wpAnyH_take (i := 16) (v := ?vv15) rfl (by kernel_rfl) (by kernel_rfl) (by kernel_rfl) (fun _ _ _ h => h) (Or.inl ⟨by rfl, ?hy15⟩) (by assumption) ?rest15
  case hy15 => (intro w hSw; (try dsimp only at hSw); go_simp; first | done | with_reducible rfl)
  try simp only [Act.put, List.getElem_toArray, List.getElem_cons_succ, List.getElem_cons_zero, List.setIfInBounds_toArray, List.set_cons_zero, List.set_cons_succ]
  refine wpAnyH_take (i := 17) (v := ?vv16) rfl (by kernel_rfl) (by kernel_rfl) (by kernel_rfl) (fun _ _ _ h => h) (Or.inl ⟨by rfl, ?hy16⟩) (by assumption) ?rest16
  case hy16 => (intro w hSw; (try dsimp only at hSw); go_simp; first | done | with_reducible rfl)
  try simp only [Act.put, List.getElem_toArray, List.getElem_cons_succ, List.getElem_cons_zero, List.setIfInBounds_toArray, List.set_cons_zero, List.set_cons_succ]
  refine wpAnyH_take (i := 18) (v := ?vv17) rfl (by kernel_rfl) (by kernel_rfl) (by kernel_rfl) (fun _ _ _ h => h) (Or.inl ⟨by rfl, ?hy17⟩) (by assumption) ?rest17
  case hy17 => (intro w hSw; (try dsimp only at hSw); go_simp; first | done | with_reducible rfl)
  try simp only [Act.put, List.getElem_toArray, List.getElem_cons_succ, List.getElem_cons_zero, List.setIfInBounds_toArray, List.set_cons_zero, List.set_cons_succ]
  refine wpAnyH_take (i := 19) (v := ?vv18) rfl (by kernel_rfl) (by kernel_rfl) (by kernel_rfl) (fun _ _ _ h => h) (Or.inl ⟨by rfl, ?hy18⟩) (by assumption) ?rest18
  case hy18 => (intro w hSw; (try dsimp only at hSw); go_simp; first | done | with_reducible rfl)
  try simp only [Act.put, List.getElem_toArray, List.getElem_cons_succ, List.getElem_cons_zero, List.setIfInBounds_toArray, List.set_cons_zero, List.set_cons_succ]
  refine wpAnyH_take (i := 20) (v := ?vv19) rfl (by kernel_rfl) (by kernel_rfl) (by kernel_rfl) (fun _ _ _ h => h) (Or.inl ⟨by rfl, ?hy19⟩) (by assumption) ?rest19
  case hy19 => (intro w hSw; (try dsimp only at hSw); go_simp; first | done | with_reducible rfl)
  try simp only [Act.put, List.getElem_toArray, List.getElem_cons_succ, List.getElem_cons_zero, List.setIfInBounds_toArray, List.set_cons_zero, List.set_cons_succ]
  refine wpAnyH_take (i := 21) (v := ?vv20) rfl (by kernel_rfl) (by kernel_rfl) (by kernel_rfl) (fun _ _ _ h => h) (Or.inl ⟨by rfl, ?hy20⟩) (by assumption) ?rest20
  case hy20 => (intro w hSw; (try dsimp only at hSw); go_simp; first | done | with_reducible rfl)
  try simp only [Act.put, List.getElem_toArray, List.getElem_cons_succ, List.getElem_cons_zero, List.setIfInBounds_toArray, List.set_cons_zero, List.set_cons_succ]
  refine wpAnyH_take (i := 22) (v := ?vv21) rfl (by kernel_rfl) (by kernel_rfl) (by kernel_rfl) (fun _ _ _ h => h) (Or.inl ⟨by rfl, ?hy21⟩) (by assumption) ?rest21
  case hy21 => (intro w hSw; (try dsimp only at hSw); go_simp; first | done | with_reducible rfl)
  try simp only [Act.put, List.getElem_toArray, List.getElem_cons_succ, List.getElem_cons_zero, List.setIfInBounds_toArray, List.set_cons_zero, List.set_cons_succ]
  refine wpAnyH_take (i := 23) (v := ?vv22) rfl (by kernel_rfl) (by kernel_rfl) (by kernel_rfl) (fun _ _ _ h => h) (Or.inl ⟨by rfl, ?hy22⟩) (by assumption) ?rest22
  case hy22 => (intro w hSw; (try dsimp only at hSw); go_simp; first | done | with_reducible rfl)
  try simp only [Act.put, List.getElem_toArray, List.getElem_cons_succ, List.getElem_cons_zero, List.setIfInBounds_toArray, List.set_cons_zero, List.set_cons_succ]
  refine wpAnyH_take (i := 24) (v := ?vv23) rfl (by kernel_rfl) (by kernel_rfl) (by kernel_rfl) (fun _ _ _ h => h) (Or.inl ⟨by rfl, ?hy23⟩) (by assumption) ?rest23
  case hy23 => (intro w hSw; (try dsimp only at hSw); go_simp; first | done | with_reducible rfl)
  try simp only [Act.put, List.getElem_toArray, List.getElem_cons_succ, List.getElem_cons_zero, List.setIfInBounds_toArray, List.set_cons_zero, List.set_cons_succ]
  refine wpAnyH_take (i := 25) (v := ?vv24) rfl (by kernel_rfl) (by kernel_rfl) (by kernel_rfl) (fun _ _ _ h => h) (Or.inl ⟨by rfl, ?hy24⟩) (by assumption) ?rest24
  case hy24 => (intro w hSw; (try dsimp only at hSw); go_simp; first | done | with_reducible rfl)
  try simp only [Act.put, List.getElem_toArray, List.getElem_cons_succ, List.getElem_cons_zero, List.setIfInBounds_toArray, List.set_cons_zero, List.set_cons_succ]
  refine wpAnyH_take (i := 26) (v := ?vv25) rfl (by kernel_rfl) (by kernel_rfl) (by kernel_rfl) (fun _ _ _ h => h) (Or.inl ⟨by rfl, ?hy25⟩) (by assumption) ?rest25
  case hy25 => (intro w hSw; (try dsimp only at hSw); go_simp; first | done | with_reducible rfl)
  try simp only [Act.put, List.getElem_toArray, List.getElem_cons_succ, List.getElem_cons_zero, List.setIfInBounds_toArray, List.set_cons_zero, List.set_cons_succ]
  refine wpAnyH_take (i := 27) (v := ?vv26) rfl (by kernel_rfl) (by kernel_rfl) (by kernel_rfl) (fun _ _ _ h => h) (Or.inl ⟨by rfl, ?hy26⟩) (by assumption) ?rest26
  case hy26 => (intro w hSw; (try dsimp only at hSw); go_simp; first | done | with_reducible rfl)
  try simp only [Act.put, List.getElem_toArray, List.getElem_cons_succ, List.getElem_cons_zero, List.setIfInBounds_toArray, List.set_cons_zero, List.set_cons_succ]
  refine wpAnyH_done (by kernel_rfl) ?_ _
  clear hHeld N1 N2 CS qn gn
  have e10 := R1.out.cellAt (o := 10) rfl
  have f10 := Q1.out.cellAt (o := 10) rfl
  go_wp2
  go_loopw [5] (fun i wr => ∃ (k : Nat), k ≤ m.es.length ∧ i = .int .i64 (k : Int) ∧ Hid (RowIs wr w.heap.size [.int .i64 m.kd, .int .i64 m.fr, .int .i64 m.to_, .int .i64 m.tm, .int .i64 m.ix, .int .i64 m.lt, .int .i64 m.cm, .int .i64 m.rd, .int .i64 m.at_, .bool m.ys, .slice a1 m.es.length c1, .string m.da] 32) ∧ Hid (RowIs wr (w.heap.size + 1) [.int .i64 m.kd, .int .i64 m.fr, .int .i64 m.to_, .int .i64 m.tm, .int .i64 m.ix, .int .i64 m.lt, .int .i64 m.cm, .int .i64 m.rd, .int .i64 m.at_, .bool m.ys, .slice a2 m.es.length c2, .string m.da] 32) ∧ Hid (Below w.heap.size w wr)) (fun i _ => m.es.length - (intOf i).toNat)
  case atStart => exact ⟨0, Nat.zero_le _, rfl, R1, Q1, B1⟩
  case round =>
    clear R1 Q1 B1 e10 f10
    obtain ⟨k, hk, rfl, HR, HQ, HB⟩ := hrel
    have e10 := HR.out.cellAt (o := 10) rfl
    have f10 := HQ.out.cellAt (o := 10) rfl
    by_cases hlt : k < m.es.length
    · have hlb := HL.out
      have hk1 : (k : Int) < (m.es.length : Int) := by omega
      have hk0 : (0 : Int) ≤ (k : Int) := by omega
      have hwk : wrap64 ((k : Int) + 1) = ((k + 1 : Nat) : Int) := by rw [IntWalk.wrap64_in _ (by omega)]; omega
      obtain ⟨b, off, had, hb, u0, u1, u2⟩ := G1.out k hlt
      obtain ⟨b', off', had', hb', v0, v1, v2⟩ := G2.out k hlt
      have d0 := (HB.out.cell (p := ⟨b, off + k * 3, none⟩) hb).trans u0
      have d1 := (HB.out.cell (p := ⟨b, off + k * 3 + 1, none⟩) hb).trans u1
      have d2 := (HB.out.cell (p := ⟨b, off + k * 3 + 2, none⟩) hb).trans u2
      have t0 := (HB.out.cell (p := ⟨b', off' + k * 3, none⟩) hb').trans v0
      have t1 := (HB.out.cell (p := ⟨b', off' + k * 3 + 1, none⟩) hb').trans v1
      have t2 := (HB.out.cell (p := ⟨b', off' + k * 3 + 2, none⟩) hb').trans v2
      have HLT := hid hlt
      have RD : Hid (∀ q, RowIs (wr.drewN q) w.heap.size [.int .i64 m.kd, .int .i64 m.fr, .int .i64 m.to_, .int .i64 m.tm, .int .i64 m.ix, .int .i64 m.lt, .int .i64 m.cm, .int .i64 m.rd, .int .i64 m.at_, .bool m.ys, .slice a1 m.es.length c1, .string m.da] 32) := fun q => HR.out.keep (keep_drewN wr q) (fun h => h)
      have QD : Hid (∀ q, RowIs (wr.drewN q) (w.heap.size + 1) [.int .i64 m.kd, .int .i64 m.fr, .int .i64 m.to_, .int .i64 m.tm, .int .i64 m.ix, .int .i64 m.lt, .int .i64 m.cm, .int .i64 m.rd, .int .i64 m.at_, .bool m.ys, .slice a2 m.es.length c2, .string m.da] 32) := fun q => HQ.out.keep (keep_drewN wr q) (fun h => h)
      have BD : Hid (∀ q, Below w.heap.size w (wr.drewN q)) := fun q => below_drewN HB.out q
      clear u0 u1 u2 v0 v1 v2 hb hb' hlb hk HR HQ HB G1 G2
      generalize m.es[k] = x at *
      clear hlt
      obtain ⟨tm, kd, da⟩ := x
      simp only at *
      have qe := fun W => neqEn10 tm kd da W
      subst had had'
      go_wp2
      go_quiet (fail)
      have RD2 := hid (RD.out nq)
      have QD2 := hid (QD.out nq)
      have BD2 := hid (BD.out nq)
      clear RD QD BD d0 d1 d2 t0 t1 t2 qe
      go_wp2
      exact ⟨⟨k + 1, HLT.out, by first | rw [hwk] | rfl | simp, RD2, QD2, BD2⟩, by (try rw [hwk]); have := HLT.out; simp [intOf]; omega⟩
    · have hk9 : k = m.es.length := by omega
      have hdl : decide ((k : Int) < (m.es.length : Int)) = false := decide_eq_false (by omega)
      have hdl2 : decide (k < m.es.length) = false := decide_eq_false (by omega)
      clear HL hk hlt hk9 HR HQ G1 G2
      go_wp2
      go_ret
      exact ⟨rfl, HB.out⟩
end Go.Proofs.YtlkidnfgodficaaGreat
