/- The pair that a part of a query says: the program. -/
import Derived.Test.YtnohkhgoejjfhaaDoorPeG
import Derived.Test.YtnohkhgoejjfhaaDoorPeI
import Derived.Test.YtnohkhgoejjfhaaDoorBxM
import Derived.Laws.ResultCell
namespace Go.Proofs.YtnohkhgoejjfhaaDoor
open Go.RowKit Go.Maps
set_option linter.unusedVariables false
set_option linter.unusedSimpArgs false

theorem ret_pt {fn : Func} {p u : Tmp} {ty : TypeId} (h : fn.results = #[.cell p ty, .tmp u]) (tmps : Array Value) (w : World) (g : Nat) (cs : Array Value) (x : Value)
    (hp : tmps.getD p undef = .pointer (some ⟨g, 0, none⟩)) (hx : tmps.getD u undef = x) (hg : (loadVar ty ⟨g, 0, none⟩).run Tryd.prog w = .ok (.agg cs) w) :
    (results fn tmps).run Tryd.prog w = .ok (.tuple #[.agg cs, x]) w := by
  rw [results_cell_tmp h, hp, hx]
  simp [asAddr, hg, Result.andThen]
/-- a pair as a value -/
def pqV (p : Pq) : Value := .agg #[.string ⟨p.1.toArray⟩, .string ⟨p.2.toArray⟩]
/-- what readPair answers -/
def rpE (t : List UInt8) : Pq × Nat := match rdPq t with
  | none => (([], []), 3)
  | some p => (p, 0)
theorem rpE_empty (t : List UInt8) (h : (cutB 61 t).1 = []) : rpE t = (([], []), 3) := by unfold rpE rdPq; rw [if_pos h]
theorem rpE_name (t : List UInt8) (h : ¬ (cutB 61 t).1 = []) (h1 : (boE rwQ (cutB 61 t).1).2 ≠ 0) : rpE t = (([], []), 3) ∧ (boE rwQ (cutB 61 t).1).2 = 3 := by
  unfold rpE rdPq; rw [if_neg h]
  unfold boE at h1 ⊢
  cases hr : rdE rwQ (cutB 61 t).1 with
  | none => exact ⟨rfl, rfl⟩
  | some l => rw [hr] at h1; exact absurd rfl h1
theorem rpE_value (t : List UInt8) (h : ¬ (cutB 61 t).1 = []) (h1 : (boE rwQ (cutB 61 t).2).2 ≠ 0) : rpE t = (([], []), 3) ∧ (boE rwQ (cutB 61 t).2).2 = 3 := by
  unfold rpE rdPq; rw [if_neg h]
  unfold boE at h1 ⊢
  cases hr : rdE rwQ (cutB 61 t).2 with
  | none => cases rdE rwQ (cutB 61 t).1 <;> exact ⟨rfl, rfl⟩
  | some l => rw [hr] at h1; exact absurd rfl h1
theorem rpE_both (t : List UInt8) (h : ¬ (cutB 61 t).1 = []) (h1 : (boE rwQ (cutB 61 t).1).2 = 0) (h2 : (boE rwQ (cutB 61 t).2).2 = 0) : rpE t = (((boE rwQ (cutB 61 t).1).1, (boE rwQ (cutB 61 t).2).1), 0) := by
  unfold rpE rdPq; rw [if_neg h]
  unfold boE at h1 h2 ⊢
  cases hr : rdE rwQ (cutB 61 t).1 with
  | none => rw [hr] at h1; exact absurd h1 (by decide)
  | some l =>
    cases hr2 : rdE rwQ (cutB 61 t).2 with
    | none => rw [hr2] at h2; exact absurd h2 (by decide)
    | some m => rfl
theorem cutB_le (b : UInt8) (t : List UInt8) : (cutB b t).1.length ≤ t.length ∧ (cutB b t).2.length ≤ t.length := by
  rcases ix_split b t with ⟨_, _, h⟩ | ⟨i, _, hi, _, h⟩
  · rw [h]; simp
  · rw [h]; simp; omega
/-- the boxes of readPair: the result's, the pair that is made -/
structure RpX (w : World) (g : Nat) (n v : ByteArray) (W : World) : Prop where
  r2 : RowIs W w.heap.size [.string ⟨#[]⟩, .string ⟨#[]⟩] 32
  r7 : RowIs W g [.string n, .string v] 32
  b : Below w.heap.size w W
  lt : w.heap.size < g
section
variable {w W W' : World} {g : Nat} {n v : ByteArray}
theorem RpX.next (h : RpX w g n v W) (hb : Below W.heap.size W W') : RpX w g n v W' := ⟨h.r2.keep (hb.keep (fun _ => False)) (fun h => h), h.r7.keep (hb.keep (fun _ => False)) (fun h => h), below_on h.b hb, h.lt⟩
theorem RpX.set0 (h : RpX w g n v W) (x : ByteArray) : RpX w g x v (W.setCell ⟨g, 0, none⟩ (.string x)) := by
  have kS := keep_setCell W g 0 (.string x)
  have := h.lt
  exact ⟨h.r2.keep kS (by omega), h.r7.set 0 _, h.b.trans (keep_below kS (fun k hk e => by omega) h.b.size), h.lt⟩
theorem RpX.set1 (h : RpX w g n v W) (x : ByteArray) : RpX w g n x (W.setCell ⟨g, 1, none⟩ (.string x)) := by
  have kS := keep_setCell W g 1 (.string x)
  have := h.lt
  exact ⟨h.r2.keep kS (by omega), h.r7.set 1 _, h.b.trans (keep_below kS (fun k hk e => by omega) h.b.size), h.lt⟩
theorem RpX.cells (h : RpX w g n v W) : (W.cell? ⟨w.heap.size, 0, none⟩ = some (.string ⟨#[]⟩) ∧ W.cell? ⟨w.heap.size, 1, none⟩ = some (.string ⟨#[]⟩) ∧ W.frozen? ⟨w.heap.size, 0, none⟩ = false ∧ W.frozen? ⟨w.heap.size, 1, none⟩ = false) ∧ W.cell? ⟨g, 0, none⟩ = some (.string n) ∧ W.cell? ⟨g, 1, none⟩ = some (.string v) ∧ W.frozen? ⟨g, 0, none⟩ = false ∧ W.frozen? ⟨g, 1, none⟩ = false :=
  ⟨⟨h.r2.cellAt rfl, h.r2.cellAt rfl, h.r2.frozen, h.r2.frozen⟩, h.r7.cellAt rfl, h.r7.cellAt rfl, h.r7.frozen, h.r7.frozen⟩
end
/-- two cells stored over a box of two -/
theorem two_set {w W : World} {z0 z1 : Value} (h : RowIs W w.heap.size [z0, z1] 32) (hb : Below w.heap.size w W) (x y : ByteArray) :
    (loadVar 32 ⟨w.heap.size, 0, none⟩).run Tryd.prog ((W.setCell ⟨w.heap.size, 0, none⟩ (.string x)).setCell ⟨w.heap.size, 1, none⟩ (.string y)) = .ok (.agg #[.string x, .string y]) ((W.setCell ⟨w.heap.size, 0, none⟩ (.string x)).setCell ⟨w.heap.size, 1, none⟩ (.string y)) ∧ Below w.heap.size w ((W.setCell ⟨w.heap.size, 0, none⟩ (.string x)).setCell ⟨w.heap.size, 1, none⟩ (.string y)) := by
  have k1 := keep_setCell W w.heap.size 0 (.string x)
  have k2 := keep_setCell (W.setCell ⟨w.heap.size, 0, none⟩ (.string x)) w.heap.size 1 (.string y)
  have r := (h.set 0 (.string x)).set 1 (.string y)
  have c0 := r.cellAt (o := 0) rfl
  have c1 := r.cellAt (o := 1) rfl
  refine ⟨?_, (hb.trans (keep_below k1 (fun k hk e => by omega) hb.size)).trans (keep_below k2 (fun k hk e => by omega) (by simp [World.setCell]; exact hb.size))⟩
  generalize (W.setCell ⟨w.heap.size, 0, none⟩ (.string x)).setCell ⟨w.heap.size, 1, none⟩ (.string y) = W2 at *
  go_simp
theorem emp_b (l : List UInt8) : (ByteArray.toList ⟨l.toArray⟩ == []) = decide (l = []) := by
  rw [ByteArray.toList_eq]; cases l <;> simp
set_option maxRecDepth 100000 in
set_option maxHeartbeats 2000000 in
theorem readPair_any (t : ByteArray) (w : World) (hs : t.size ≤ 1048576) : Calls Tryd.prog 35 #[.string t] w fun e w' => e = .returned (.tuple #[pqV (rpE t.data.toList).1, .int .i64 (rpE t.data.toList).2]) ∧ Below w.heap.size w w' := by
  have HL := hid (cutB_le 61 t.data.toList)
  have hl : t.data.toList.length = t.size := by simp
  have CU := hid (fun W => cut_any t 61 W hs)
  have BN := hid (fun W => bytesOf_query ⟨(cutB 61 t.data.toList).1.toArray⟩ W (by have := HL.out.1; show (List.toArray _).size ≤ _; simp; omega))
  have BV := hid (fun W => bytesOf_query ⟨(cutB 61 t.data.toList).2.toArray⟩ W (by have := HL.out.2; show (List.toArray _).size ≤ _; simp; omega))
  simp only [List.toList_toArray] at BN BV
  have E0 := hid (rpE_empty t.data.toList)
  have E1 := hid (rpE_name t.data.toList)
  have E2 := hid (rpE_value t.data.toList)
  have E3 := hid (rpE_both t.data.toList)
  have hb := emp_b (cutB 61 t.data.toList).1
  have R0 : Hid (RowIs (w.alloc (.cells #[.string ⟨#[]⟩, .string ⟨#[]⟩] 32)) w.heap.size [.string ⟨#[]⟩, .string ⟨#[]⟩] 32) := srow w _ _
  have B0 : Hid (Below w.heap.size w (w.alloc (.cells #[.string ⟨#[]⟩, .string ⟨#[]⟩] 32))) := below_al (Below.refl _ _) _
  unfold cutR at CU
  generalize boE rwQ (cutB 61 t.data.toList).1 = PN at *
  generalize boE rwQ (cutB 61 t.data.toList).2 = PV at *
  generalize decide (¬ Lib.indexByte t.data.toList 61 = -1) = R3 at *
  generalize (cutB 61 t.data.toList).1 = cn at *
  generalize (⟨cn.toArray⟩ : ByteArray) = NN at *
  generalize (⟨(cutB 61 t.data.toList).2.toArray⟩ : ByteArray) = VV at *
  generalize rpE t.data.toList = RR at *
  clear HL hl hs
  go_enter Tryd.func35, Tryd.ntmps35
  go_wp2_with fail
  refine (CU.out _).mono ?_
  rintro e w1 ⟨rfl, b1⟩
  have R1 := hid (R0.out.keep (b1.keep (fun _ => False)) (fun h => h))
  have B1 := hid (below_on B0.out b1)
  clear CU R0 B0 b1
  have c20 := R1.out.cellAt (o := 0) rfl
  have c21 := R1.out.cellAt (o := 1) rfl
  have f20 := R1.out.frozen (o := 0)
  have f21 := R1.out.frozen (o := 1)
  by_cases hn : cn = []
  · have hb2 : (ByteArray.toList NN == []) = true := by rw [hb]; exact decide_eq_true hn
    have HR := hid (E0.out hn)
    have F := hid (two_set R1.out B1.out ⟨#[]⟩ ⟨#[]⟩)
    clear hb hn E0 E1 E2 E3 BN BV R1 B1
    go_wp2
    refine bodyPost_ret (ret_pt rfl _ _ w.heap.size #[.string ⟨#[]⟩, .string ⟨#[]⟩] _ rfl rfl F.out.1) rfl ?_
    exact ⟨by rw [HR.out]; rfl, F.out.2⟩
  · have hb2 : (ByteArray.toList NN == []) = false := by rw [hb]; exact decide_eq_false hn
    have X0 : Hid (RpX w w1.heap.size ⟨#[]⟩ ⟨#[]⟩ (w1.alloc (.cells #[.string ⟨#[]⟩, .string ⟨#[]⟩] 32))) := ⟨row_old R1.out _, srow w1 _ _, below_al B1.out _, R1.out.lt⟩
    have E1' := hid (fun h => (E1.out hn h))
    have E2' := hid (fun h => (E2.out hn h))
    have E3' := hid (fun h => (E3.out hn h))
    clear hb hn E0 E1 E2 E3 R1 B1
    obtain ⟨pn, en⟩ := PN
    obtain ⟨pv, ev⟩ := PV
    simp only at *
    go_wp2_with fail
    refine (BN.out _).mono ?_
    rintro e w2 ⟨rfl, b2⟩
    have X2 := hid (X0.out.next b2)
    clear BN X0 b2 c20 c21 f20 f21
    generalize w1.heap.size = g at *
    obtain ⟨⟨c20, c21, f20, f21⟩, c70, c71, f70, f71⟩ := X2.out.cells
    by_cases h1 : en = 0
    · have hb3 : ((en : Int) != 0) = false := by rw [h1]; rfl
      have X3 := hid (X2.out.set0 ⟨pn.toArray⟩)
      generalize hPA : (⟨pn.toArray⟩ : ByteArray) = PA at *
      have HPA := hid hPA
      clear hPA
      have HE : Hid (en = 0) := h1
      clear h1 X2 E1'
      go_wp2_with fail
      refine (BV.out _).mono ?_
      rintro e w3 ⟨rfl, b3⟩
      have X4 := hid (X3.out.next b3)
      clear BV X3 b3 c20 c21 f20 f21 c70 c71 f70 f71
      obtain ⟨⟨c20, c21, f20, f21⟩, c70, c71, f70, f71⟩ := X4.out.cells
      by_cases h2 : ev = 0
      · have hb4 : ((ev : Int) != 0) = false := by rw [h2]; rfl
        have X5 := hid (X4.out.set1 ⟨pv.toArray⟩)
        generalize hPB : (⟨pv.toArray⟩ : ByteArray) = PB at *
        have HPB := hid hPB
        clear hPB
        have HR := hid (E3'.out HE.out h2)
        have F := hid (two_set X5.out.r2 X5.out.b PA PB)
        obtain ⟨⟨d20, d21, g20, g21⟩, d70, d71, g70, g71⟩ := X5.out.cells
        clear h2 X4 X5 E2' E3'
        go_wp2
        refine bodyPost_ret (ret_pt rfl _ _ w.heap.size #[.string PA, .string PB] _ rfl rfl F.out.1) rfl ?_
        exact ⟨by rw [HR.out, ← HPA.out, ← HPB.out]; rfl, F.out.2⟩
      · have hb4 : ((ev : Int) != 0) = true := by rw [bne_iff_ne]; omega
        have X5 := hid (X4.out.set1 ⟨pv.toArray⟩)
        generalize (⟨pv.toArray⟩ : ByteArray) = PB at *
        have HR := hid (E2'.out h2)
        have F := hid (two_set X5.out.r2 X5.out.b ⟨#[]⟩ ⟨#[]⟩)
        obtain ⟨⟨d20, d21, g20, g21⟩, d70, d71, g70, g71⟩ := X5.out.cells
        clear h2 X4 X5 E2' E3'
        go_wp2
        refine bodyPost_ret (ret_pt rfl _ _ w.heap.size #[.string ⟨#[]⟩, .string ⟨#[]⟩] _ rfl rfl F.out.1) rfl ?_
        exact ⟨by rw [HR.out.1, HR.out.2]; rfl, F.out.2⟩
    · have hb3 : ((en : Int) != 0) = true := by rw [bne_iff_ne]; omega
      have X3 := hid (X2.out.set0 ⟨pn.toArray⟩)
      generalize (⟨pn.toArray⟩ : ByteArray) = PA at *
      have HR := hid (E1'.out h1)
      have F := hid (two_set X3.out.r2 X3.out.b ⟨#[]⟩ ⟨#[]⟩)
      obtain ⟨⟨d20, d21, g20, g21⟩, d70, d71, g70, g71⟩ := X3.out.cells
      clear h1 X2 X3 E1' E2' E3' BV
      go_wp2
      refine bodyPost_ret (ret_pt rfl _ _ w.heap.size #[.string ⟨#[]⟩, .string ⟨#[]⟩] _ rfl rfl F.out.1) rfl ?_
      exact ⟨by rw [HR.out.1, HR.out.2]; rfl, F.out.2⟩
end Go.Proofs.YtnohkhgoejjfhaaDoor
