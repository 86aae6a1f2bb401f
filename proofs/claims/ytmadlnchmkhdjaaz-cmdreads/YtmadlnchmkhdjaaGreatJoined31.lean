/- Joined: Pieces and picks held against each other. Commands held against each other: the document's Same. -/
import Derived.Test.YtmadlnchmkhdjaaGreatJoined27
import Derived.Laws.StructEq
import Derived.Deep.CutRange
namespace Go.Proofs.YtmadlnchmkhdjaaGreat
open Go.RowKit Go.Maps
set_option linter.unusedVariables false
set_option linter.unusedSimpArgs false

theorem bytesInj16 {a b : ByteArray} (h : a.toList = b.toList) : a = b := by
  rw [Lib.toList_data, Lib.toList_data] at h
  cases a; cases b
  simp only [ByteArray.mk.injEq]
  exact Array.toList_inj.1 h
theorem gdP16 : Tryz.prog.eqGuardType Tryz.prog.depth 90 = false := by kernel_rfl
theorem eqP16 (X : ByteArray) (a : Int) (W : World) : (binOp .neq 90 (.agg #[.string X, .int .i64 a]) (.agg #[.string X, .int .i64 a])).run Tryz.prog W = .ok (.bool false) W := by
  have u9 := Tryz.underlying9
  have u3 := Tryz.underlying3
  have z9 := Tryz.sizeOf9
  have z3 := Tryz.sizeOf3
  have a9 := Tryz.isAgg9
  have a3 := Tryz.isAgg3
  have hS : Tryz.prog.underlying 90 = some (.struct (Tryz.prog.fieldsOf 90)) := by kernel_rfl
  have hp : Tryz.prog.stoodInHeld 90 = false := by kernel_rfl
  rw [run_neq_struct, show (10000 : Nat) = 9999 + 1 from rfl, run_equalIn_agg W 9999 90 _ _ hS hp]
  simp only [Program.fieldsOf, Tryz.underlying90]
  go_simp
theorem neP16 (X Y : ByteArray) (a b : Int) (W : World) (h : ¬ (X = Y ∧ a = b)) : (binOp .neq 90 (.agg #[.string X, .int .i64 a]) (.agg #[.string Y, .int .i64 b])).run Tryz.prog W = .ok (.bool true) W := by
  by_cases hX : X = Y
  · subst hX
    have hab : ¬ a = b := fun e => h ⟨rfl, e⟩
    have q1 : (a == b) = false := beq_eq_false_iff_ne.2 hab
    have u9 := Tryz.underlying9
    have u3 := Tryz.underlying3
    have z9 := Tryz.sizeOf9
    have z3 := Tryz.sizeOf3
    have a9 := Tryz.isAgg9
    have a3 := Tryz.isAgg3
    have hS : Tryz.prog.underlying 90 = some (.struct (Tryz.prog.fieldsOf 90)) := by kernel_rfl
    have hp : Tryz.prog.stoodInHeld 90 = false := by kernel_rfl
    rw [run_neq_struct, show (10000 : Nat) = 9999 + 1 from rfl, run_equalIn_agg W 9999 90 _ _ hS hp]
    simp only [Program.fieldsOf, Tryz.underlying90]
    go_simp
  · have q1 : ¬ X.toList = Y.toList := fun e => hX (bytesInj16 e)
    have q2 : (X.toList == Y.toList) = false := beq_eq_false_iff_ne.2 q1
    by_cases hab : a = b
    · subst hab
      have u9 := Tryz.underlying9
      have u3 := Tryz.underlying3
      have z9 := Tryz.sizeOf9
      have z3 := Tryz.sizeOf3
      have a9 := Tryz.isAgg9
      have a3 := Tryz.isAgg3
      have hS : Tryz.prog.underlying 90 = some (.struct (Tryz.prog.fieldsOf 90)) := by kernel_rfl
      have hp : Tryz.prog.stoodInHeld 90 = false := by kernel_rfl
      rw [run_neq_struct, show (10000 : Nat) = 9999 + 1 from rfl, run_equalIn_agg W 9999 90 _ _ hS hp]
      simp only [Program.fieldsOf, Tryz.underlying90]
      go_simp
    · have q3 : (a == b) = false := beq_eq_false_iff_ne.2 hab
      have u9 := Tryz.underlying9
      have u3 := Tryz.underlying3
      have z9 := Tryz.sizeOf9
      have z3 := Tryz.sizeOf3
      have a9 := Tryz.isAgg9
      have a3 := Tryz.isAgg3
      have hS : Tryz.prog.underlying 90 = some (.struct (Tryz.prog.fieldsOf 90)) := by kernel_rfl
      have hp : Tryz.prog.stoodInHeld 90 = false := by kernel_rfl
      rw [run_neq_struct, show (10000 : Nat) = 9999 + 1 from rfl, run_equalIn_agg W 9999 90 _ _ hS hp]
      simp only [Program.fieldsOf, Tryz.underlying90]
      go_simp
theorem gdK16 : Tryz.prog.eqGuardType Tryz.prog.depth 60 = false := by kernel_rfl
theorem eqK16 (X : ByteArray) (a : Int) (W : World) : (binOp .neq 60 (.agg #[.int .i64 a, .string X]) (.agg #[.int .i64 a, .string X])).run Tryz.prog W = .ok (.bool false) W := by
  have u9 := Tryz.underlying9
  have u3 := Tryz.underlying3
  have z9 := Tryz.sizeOf9
  have z3 := Tryz.sizeOf3
  have a9 := Tryz.isAgg9
  have a3 := Tryz.isAgg3
  have hS : Tryz.prog.underlying 60 = some (.struct (Tryz.prog.fieldsOf 60)) := by kernel_rfl
  have hp : Tryz.prog.stoodInHeld 60 = false := by kernel_rfl
  rw [run_neq_struct, show (10000 : Nat) = 9999 + 1 from rfl, run_equalIn_agg W 9999 60 _ _ hS hp]
  simp only [Program.fieldsOf, Tryz.underlying60]
  go_simp
theorem neK16 (X Y : ByteArray) (a b : Int) (W : World) (h : ¬ (X = Y ∧ a = b)) : (binOp .neq 60 (.agg #[.int .i64 a, .string X]) (.agg #[.int .i64 b, .string Y])).run Tryz.prog W = .ok (.bool true) W := by
  by_cases hX : X = Y
  · subst hX
    have hab : ¬ a = b := fun e => h ⟨rfl, e⟩
    have q1 : (a == b) = false := beq_eq_false_iff_ne.2 hab
    have u9 := Tryz.underlying9
    have u3 := Tryz.underlying3
    have z9 := Tryz.sizeOf9
    have z3 := Tryz.sizeOf3
    have a9 := Tryz.isAgg9
    have a3 := Tryz.isAgg3
    have hS : Tryz.prog.underlying 60 = some (.struct (Tryz.prog.fieldsOf 60)) := by kernel_rfl
    have hp : Tryz.prog.stoodInHeld 60 = false := by kernel_rfl
    rw [run_neq_struct, show (10000 : Nat) = 9999 + 1 from rfl, run_equalIn_agg W 9999 60 _ _ hS hp]
    simp only [Program.fieldsOf, Tryz.underlying60]
    go_simp
  · have q1 : ¬ X.toList = Y.toList := fun e => hX (bytesInj16 e)
    have q2 : (X.toList == Y.toList) = false := beq_eq_false_iff_ne.2 q1
    by_cases hab : a = b
    · subst hab
      have u9 := Tryz.underlying9
      have u3 := Tryz.underlying3
      have z9 := Tryz.sizeOf9
      have z3 := Tryz.sizeOf3
      have a9 := Tryz.isAgg9
      have a3 := Tryz.isAgg3
      have hS : Tryz.prog.underlying 60 = some (.struct (Tryz.prog.fieldsOf 60)) := by kernel_rfl
      have hp : Tryz.prog.stoodInHeld 60 = false := by kernel_rfl
      rw [run_neq_struct, show (10000 : Nat) = 9999 + 1 from rfl, run_equalIn_agg W 9999 60 _ _ hS hp]
      simp only [Program.fieldsOf, Tryz.underlying60]
      go_simp
    · have q3 : (a == b) = false := beq_eq_false_iff_ne.2 hab
      have u9 := Tryz.underlying9
      have u3 := Tryz.underlying3
      have z9 := Tryz.sizeOf9
      have z3 := Tryz.sizeOf3
      have a9 := Tryz.isAgg9
      have a3 := Tryz.isAgg3
      have hS : Tryz.prog.underlying 60 = some (.struct (Tryz.prog.fieldsOf 60)) := by kernel_rfl
      have hp : Tryz.prog.stoodInHeld 60 = false := by kernel_rfl
      rw [run_neq_struct, show (10000 : Nat) = 9999 + 1 from rfl, run_equalIn_agg W 9999 60 _ _ hS hp]
      simp only [Program.fieldsOf, Tryz.underlying60]
      go_simp
end Go.Proofs.YtmadlnchmkhdjaaGreat
namespace Go.Proofs.YtmadlnchmkhdjaaGreat
open Go.RowKit Go.Maps
set_option linter.unusedVariables false
set_option linter.unusedSimpArgs false

set_option maxRecDepth 100000 in
set_option maxHeartbeats 4000000 in
theorem rsm_true (p1 k1 p2 k2 : Value) (c d : Cm) (w : World) (h1 : PcI w p1 c.ps) (g1 : PkI w k1 c.ks) (h2 : PcI w p2 d.ps) (g2 : PkI w k2 d.ks) (hlp : c.ps.length ≤ 8796093022208) (hlk : c.ks.length ≤ 8796093022208) (e0 : c.kd = d.kd) (e1 : c.tk = d.tk) (e2 : c.bk = d.bk) (e3 : c.ky = d.ky) (e4 : c.id = d.id) (e5 : c.n = d.n) (e6 : c.sm = d.sm) (e7 : c.ps.length = d.ps.length) (e8 : c.ks.length = d.ks.length) (hps : c.ps = d.ps) (hks : c.ks = d.ks) : Calls Tryz.prog 17 #[cmV p1 k1 c, cmV p2 k2 d] w fun e w' => e = .returned (.bool true) ∧ Below w.heap.size w w' := by
  obtain ⟨pa1, pc1, rfl, f1⟩ := h1.form
  obtain ⟨ka1, kc1, rfl, f2⟩ := g1.form
  obtain ⟨pa2, pc2, rfl, f3⟩ := h2.form
  obtain ⟨ka2, kc2, rfl, f4⟩ := g2.form
  have HP : Hid (∀ (k : Nat) (hk : k < c.ps.length) (hk2 : k < d.ps.length) (W : World), Below w.heap.size w W → ∃ b1 o1 b2 o2, pa1 = some ⟨b1, o1, none⟩ ∧ pa2 = some ⟨b2, o2, none⟩ ∧ W.cell? ⟨b1, o1 + k * 2, none⟩ = some (.string c.ps[k].id) ∧ W.cell? ⟨b1, o1 + k * 2 + 1, none⟩ = some (.int .i64 c.ps[k].sz) ∧ W.cell? ⟨b2, o2 + k * 2, none⟩ = some (.string d.ps[k].id) ∧ W.cell? ⟨b2, o2 + k * 2 + 1, none⟩ = some (.int .i64 d.ps[k].sz)) := fun k hk hk2 W hW => by
    obtain ⟨b1, o1, e1, hb1, p1, p2⟩ := f1 k hk
    obtain ⟨b2, o2, e2, hb2, q1, q2⟩ := f3 k hk2
    exact ⟨b1, o1, b2, o2, e1, e2, (hW.cell (p := ⟨b1, o1 + k * 2, none⟩) hb1).trans p1, (hW.cell (p := ⟨b1, o1 + k * 2 + 1, none⟩) hb1).trans p2, (hW.cell (p := ⟨b2, o2 + k * 2, none⟩) hb2).trans q1, (hW.cell (p := ⟨b2, o2 + k * 2 + 1, none⟩) hb2).trans q2⟩
  have HEP : Hid (∀ (k : Nat) (hk : k < c.ps.length) (hk2 : k < d.ps.length), c.ps[k] = d.ps[k]) := fun k hk hk2 => by simp only [hps]
  have HK : Hid (∀ (k : Nat) (hk : k < c.ks.length) (hk2 : k < d.ks.length) (W : World), Below w.heap.size w W → ∃ b1 o1 b2 o2, ka1 = some ⟨b1, o1, none⟩ ∧ ka2 = some ⟨b2, o2, none⟩ ∧ W.cell? ⟨b1, o1 + k * 2, none⟩ = some (.int .i64 c.ks[k].n) ∧ W.cell? ⟨b1, o1 + k * 2 + 1, none⟩ = some (.string c.ks[k].su) ∧ W.cell? ⟨b2, o2 + k * 2, none⟩ = some (.int .i64 d.ks[k].n) ∧ W.cell? ⟨b2, o2 + k * 2 + 1, none⟩ = some (.string d.ks[k].su)) := fun k hk hk2 W hW => by
    obtain ⟨b1, o1, e1, hb1, p1, p2⟩ := f2 k hk
    obtain ⟨b2, o2, e2, hb2, q1, q2⟩ := f4 k hk2
    exact ⟨b1, o1, b2, o2, e1, e2, (hW.cell (p := ⟨b1, o1 + k * 2, none⟩) hb1).trans p1, (hW.cell (p := ⟨b1, o1 + k * 2 + 1, none⟩) hb1).trans p2, (hW.cell (p := ⟨b2, o2 + k * 2, none⟩) hb2).trans q1, (hW.cell (p := ⟨b2, o2 + k * 2 + 1, none⟩) hb2).trans q2⟩
  have HEK : Hid (∀ (k : Nat) (hk : k < c.ks.length) (hk2 : k < d.ks.length), c.ks[k] = d.ks[k]) := fun k hk hk2 => by simp only [hks]
  clear h1 g1 h2 g2 f1 f2 f3 f4 hps hks
  unfold cmV
  obtain ⟨kd, tk, bk, ky, id, n, sm, ps, ks⟩ := c
  obtain ⟨kd2, tk2, bk2, ky2, id2, n2, sm2, ps2, ks2⟩ := d
  simp only at *
  subst e0
  subst e1
  subst e2
  subst e3
  subst e4
  subst e5
  subst e6
  have BA := hid (below_al (below_al (Below.refl w.heap.size w) (.cells #[.int .i64 kd, .string tk, .string bk, .string ky, .int .i64 id, .int .i64 n, .string sm, .slice pa1 ps.length pc1, .slice ka1 ks.length kc1] 34)) (.cells #[.int .i64 kd, .string tk, .string bk, .string ky, .int .i64 id, .int .i64 n, .string sm, .slice pa2 ps2.length pc2, .slice ka2 ks2.length kc2] 34))
  have ZC : Hid (∀ W, Below ((w.alloc (.cells #[.int .i64 kd, .string tk, .string bk, .string ky, .int .i64 id, .int .i64 n, .string sm, .slice pa1 ps.length pc1, .slice ka1 ks.length kc1] 34)).alloc (.cells #[.int .i64 kd, .string tk, .string bk, .string ky, .int .i64 id, .int .i64 n, .string sm, .slice pa2 ps2.length pc2, .slice ka2 ks2.length kc2] 34)).heap.size ((w.alloc (.cells #[.int .i64 kd, .string tk, .string bk, .string ky, .int .i64 id, .int .i64 n, .string sm, .slice pa1 ps.length pc1, .slice ka1 ks.length kc1] 34)).alloc (.cells #[.int .i64 kd, .string tk, .string bk, .string ky, .int .i64 id, .int .i64 n, .string sm, .slice pa2 ps2.length pc2, .slice ka2 ks2.length kc2] 34)) W → W.cell? ⟨w.heap.size, 0, none⟩ = some (.int .i64 kd) ∧ W.cell? ⟨w.heap.size, 1, none⟩ = some (.string tk) ∧ W.cell? ⟨w.heap.size, 2, none⟩ = some (.string bk) ∧ W.cell? ⟨w.heap.size, 3, none⟩ = some (.string ky) ∧ W.cell? ⟨w.heap.size, 4, none⟩ = some (.int .i64 id) ∧ W.cell? ⟨w.heap.size, 5, none⟩ = some (.int .i64 n) ∧ W.cell? ⟨w.heap.size, 6, none⟩ = some (.string sm) ∧ W.cell? ⟨w.heap.size, 7, none⟩ = some (.slice pa1 ps.length pc1) ∧ W.cell? ⟨w.heap.size, 8, none⟩ = some (.slice ka1 ks.length kc1) ∧ W.cell? ⟨w.heap.size + 1, 0, none⟩ = some (.int .i64 kd) ∧ W.cell? ⟨w.heap.size + 1, 1, none⟩ = some (.string tk) ∧ W.cell? ⟨w.heap.size + 1, 2, none⟩ = some (.string bk) ∧ W.cell? ⟨w.heap.size + 1, 3, none⟩ = some (.string ky) ∧ W.cell? ⟨w.heap.size + 1, 4, none⟩ = some (.int .i64 id) ∧ W.cell? ⟨w.heap.size + 1, 5, none⟩ = some (.int .i64 n) ∧ W.cell? ⟨w.heap.size + 1, 6, none⟩ = some (.string sm) ∧ W.cell? ⟨w.heap.size + 1, 7, none⟩ = some (.slice pa2 ps2.length pc2) ∧ W.cell? ⟨w.heap.size + 1, 8, none⟩ = some (.slice ka2 ks2.length kc2)) := fun W hW => by
    have q := (row_old (srow w [.int .i64 kd, .string tk, .string bk, .string ky, .int .i64 id, .int .i64 n, .string sm, .slice pa1 ps.length pc1, .slice ka1 ks.length kc1] 34) (.cells #[.int .i64 kd, .string tk, .string bk, .string ky, .int .i64 id, .int .i64 n, .string sm, .slice pa2 ps2.length pc2, .slice ka2 ks2.length kc2] 34)).keep (hW.keep (fun _ => False)) (fun h => h)
    have r := srow (w.alloc (.cells #[.int .i64 kd, .string tk, .string bk, .string ky, .int .i64 id, .int .i64 n, .string sm, .slice pa1 ps.length pc1, .slice ka1 ks.length kc1] 34)) [.int .i64 kd, .string tk, .string bk, .string ky, .int .i64 id, .int .i64 n, .string sm, .slice pa2 ps2.length pc2, .slice ka2 ks2.length kc2] 34
    rw [show (w.alloc (.cells #[.int .i64 kd, .string tk, .string bk, .string ky, .int .i64 id, .int .i64 n, .string sm, .slice pa1 ps.length pc1, .slice ka1 ks.length kc1] 34)).heap.size = w.heap.size + 1 from by simp] at r
    replace r := r.keep (hW.keep (fun _ => False)) (fun h => h)
    exact ⟨q.cellAt rfl, q.cellAt rfl, q.cellAt rfl, q.cellAt rfl, q.cellAt rfl, q.cellAt rfl, q.cellAt rfl, q.cellAt rfl, q.cellAt rfl, r.cellAt rfl, r.cellAt rfl, r.cellAt rfl, r.cellAt rfl, r.cellAt rfl, r.cellAt rfl, r.cellAt rfl, r.cellAt rfl, r.cellAt rfl⟩
  obtain ⟨y0, y1, y2, y3, y4, y5, y6, y7, y8, z0, z1, z2, z3, z4, z5, z6, z7, z8⟩ := ZC.out _ (Below.refl _ _)
  have q0 : (kd != kd) = false := by simp
  have q1 : (tk.toList != tk.toList) = false := by simp
  have q2 : (bk.toList != bk.toList) = false := by simp
  have q3 : (ky.toList != ky.toList) = false := by simp
  have q4 : (id != id) = false := by simp
  have q5 : (n != n) = false := by simp
  have q6 : (sm.toList != sm.toList) = false := by simp
  have q7 : ((ps.length : Int) != (ps2.length : Int)) = false := by rw [e7]; simp
  have q7b : (ps.length != ps2.length) = false := by rw [e7]; simp
  have q8 : ((ks.length : Int) != (ks2.length : Int)) = false := by rw [e8]; simp
  have q8b : (ks.length != ks2.length) = false := by rw [e8]; simp
  have E7 := hid e7
  have E8 := hid e8
  clear e7 e8
  have HLP := hid hlp
  have HLK := hid hlk
  clear hlp hlk
  have gp := gdP16
  have gk := gdK16
  go_enter Tryz.func17, Tryz.ntmps17
  go_wp2
  clear y0 y1 y2 y3 y4 y5 y6 y7 y8 z0 z1 z2 z3 z4 z5 z6 z7 z8 q0 q1 q2 q3 q4 q5 q6 q7 q8 q7b q8b
  have BX0 := hid (Below.refl ((w.alloc (.cells #[.int .i64 kd, .string tk, .string bk, .string ky, .int .i64 id, .int .i64 n, .string sm, .slice pa1 ps.length pc1, .slice ka1 ks.length kc1] 34)).alloc (.cells #[.int .i64 kd, .string tk, .string bk, .string ky, .int .i64 id, .int .i64 n, .string sm, .slice pa2 ps2.length pc2, .slice ka2 ks2.length kc2] 34)).heap.size ((w.alloc (.cells #[.int .i64 kd, .string tk, .string bk, .string ky, .int .i64 id, .int .i64 n, .string sm, .slice pa1 ps.length pc1, .slice ka1 ks.length kc1] 34)).alloc (.cells #[.int .i64 kd, .string tk, .string bk, .string ky, .int .i64 id, .int .i64 n, .string sm, .slice pa2 ps2.length pc2, .slice ka2 ks2.length kc2] 34)))
  generalize ((w.alloc (.cells #[.int .i64 kd, .string tk, .string bk, .string ky, .int .i64 id, .int .i64 n, .string sm, .slice pa1 ps.length pc1, .slice ka1 ks.length kc1] 34)).alloc (.cells #[.int .i64 kd, .string tk, .string bk, .string ky, .int .i64 id, .int .i64 n, .string sm, .slice pa2 ps2.length pc2, .slice ka2 ks2.length kc2] 34)) = X at *
  go_loopw [5] (fun i wr => ∃ (k : Nat), k ≤ ps.length ∧ i = .int .i64 (k : Int) ∧ Hid (Below X.heap.size X wr)) (fun i _ => ps.length - (intOf i).toNat)
  case atStart => exact ⟨0, Nat.zero_le _, rfl, BX0⟩
  case round =>
    obtain ⟨k, hk, rfl, HB⟩ := hrel
    clear BX0
    obtain ⟨y0, y1, y2, y3, y4, y5, y6, y7, y8, z0, z1, z2, z3, z4, z5, z6, z7, z8⟩ := ZC.out _ HB.out
    by_cases hlt : k < ps.length
    · have hk1 : (k : Int) < (ps.length : Int) := by omega
      have hk0 : (0 : Int) ≤ (k : Int) := by omega
      have hk2 : (k : Int) < (ps2.length : Int) := by have := E7.out; omega
      have hwk : wrap64 ((k : Int) + 1) = ((k + 1 : Nat) : Int) := by have := HLP.out; rw [IntWalk.wrap64_in _ (by omega)]; omega
      have hkd : k < ps2.length := by have := E7.out; omega
      have HCE := hid (fun W hW => HP.out k hlt hkd W hW)
      have hee := HEP.out k hlt hkd 
      generalize hx2 : ps2[k] = x2v at *
      generalize ps[k] = x1v at *
      clear hx2
      subst hee
      obtain ⟨xa, xb⟩ := x1v
      simp only at HCE
      have nq := fun W => eqP16 xa xb W
      obtain ⟨b1, o1, b2, o2, rfl, rfl, u0, u1, u2, u3⟩ := HCE.out _ (below_on BA.out HB.out)
      have ZW : Hid (∀ W, Below wr.heap.size wr W → (fun w' => w'.cell? ⟨w.heap.size, 7, none⟩ = some (.slice (some ⟨b1, o1, none⟩) ps.length pc1) ∧ w'.cell? ⟨w.heap.size + 1, 7, none⟩ = some (.slice (some ⟨b2, o2, none⟩) ps2.length pc2) ∧ w'.cell? ⟨b1, o1 + k * 2, none⟩ = some (.string xa) ∧ w'.cell? ⟨b1, o1 + k * 2 + 1, none⟩ = some (.int .i64 xb) ∧ w'.cell? ⟨b2, o2 + k * 2, none⟩ = some (.string xa) ∧ w'.cell? ⟨b2, o2 + k * 2 + 1, none⟩ = some (.int .i64 xb)) W) := fun W hW => by
        have hW2 := below_on HB.out hW
        obtain ⟨a0, a1, a2, a3, a4, a5, a6, a7, a8, c0, c1, c2, c3, c4, c5, c6, c7, c8⟩ := ZC.out _ hW2
        obtain ⟨r1, r2, r3, r4, er1, er2, v0, v1, v2, v3⟩ := HCE.out _ (below_on BA.out hW2)
        injection er1 with er1; injection er1 with er1 er1'; subst er1 er1'
        injection er2 with er2; injection er2 with er2 er2'; subst er2 er2'
        exact ⟨a7, c7, v0, v1, v2, v3⟩
      have HLT := hid hlt
      clear HCE hlt hk hkd 
      go_upto_region 6 with fail
      clear u0 u1 u2 u3 y0 y1 y2 y3 y4 y5 y6 y7 y8 z0 z1 z2 z3 z4 z5 z6 z7 z8
      have B0 := hid (Below.refl wr.heap.size wr).drew
      refine wp_region_held_drew (S := (fun w' => w'.cell? ⟨w.heap.size, 7, none⟩ = some (.slice (some ⟨b1, o1, none⟩) ps.length pc1) ∧ w'.cell? ⟨w.heap.size + 1, 7, none⟩ = some (.slice (some ⟨b2, o2, none⟩) ps2.length pc2) ∧ w'.cell? ⟨b1, o1 + k * 2, none⟩ = some (.string xa) ∧ w'.cell? ⟨b1, o1 + k * 2 + 1, none⟩ = some (.int .i64 xb) ∧ w'.cell? ⟨b2, o2 + k * 2, none⟩ = some (.string xa) ∧ w'.cell? ⟨b2, o2 + k * 2 + 1, none⟩ = some (.int .i64 xb))) (by kernel_rfl) (ZW.out _ B0.out) (fun hHeld => ?_)
      refine wpAnyH_take (i := 0) (v := ?vv1) rfl (by kernel_rfl) (by kernel_rfl) (by kernel_rfl) (fun _ _ _ h => h) (Or.inl ⟨by rfl, ?hy1⟩) (by assumption) ?rest1
      case hy1 => (intro w hSw; (try dsimp only at hSw); go_simp; first | done | with_reducible rfl)
      try simp only [Act.put, List.getElem_toArray, List.getElem_cons_succ, List.getElem_cons_zero, List.setIfInBounds_toArray, List.set_cons_zero, List.set_cons_succ]
      refine wpAnyH_take (i := 1) (v := ?vv2) rfl (by kernel_rfl) (by kernel_rfl) (by kernel_rfl) (fun _ _ _ h => h) (Or.inl ⟨by rfl, ?hy2⟩) (by assumption) ?rest2
      case hy2 => (intro w hSw; (try dsimp only at hSw); go_simp; first | done | with_reducible rfl)
      try simp only [Act.put, List.getElem_toArray, List.getElem_cons_succ, List.getElem_cons_zero, List.setIfInBounds_toArray, List.set_cons_zero, List.set_cons_succ]
      refine wpAnyH_take (i := 2) (v := ?vv3) rfl (by kernel_rfl) (by kernel_rfl) (by kernel_rfl) (fun _ _ _ h => h) (Or.inl ⟨by rfl, ?hy3⟩) (by assumption) ?rest3
      case hy3 => (intro w hSw; (try dsimp only at hSw); go_simp; first | done | with_reducible rfl)
      try simp only [Act.put, List.getElem_toArray, List.getElem_cons_succ, List.getElem_cons_zero, List.setIfInBounds_toArray, List.set_cons_zero, List.set_cons_succ]
      refine wpAnyH_take (i := 3) (v := ?vv4) rfl (by kernel_rfl) (by kernel_rfl) (by kernel_rfl) (fun _ _ _ h => h) (Or.inl ⟨by rfl, ?hy4⟩) (by assumption) ?rest4
      case hy4 => (intro w hSw; (try dsimp only at hSw); go_simp; first | done | with_reducible rfl)
      try simp only [Act.put, List.getElem_toArray, List.getElem_cons_succ, List.getElem_cons_zero, List.setIfInBounds_toArray, List.set_cons_zero, List.set_cons_succ]
      refine wpAnyH_take (i := 4) (v := ?vv5) rfl (by kernel_rfl) (by kernel_rfl) (by kernel_rfl) (fun _ _ _ h => h) (Or.inl ⟨by rfl, ?hy5⟩) (by assumption) ?rest5
      case hy5 => (intro w hSw; (try dsimp only at hSw); go_simp; first | done | with_reducible rfl)
      try simp only [Act.put, List.getElem_toArray, List.getElem_cons_succ, List.getElem_cons_zero, List.setIfInBounds_toArray, List.set_cons_zero, List.set_cons_succ]
      refine wpAnyH_take (i := 5) (v := ?vv6) rfl (by kernel_rfl) (by kernel_rfl) (by kernel_rfl) (fun _ _ _ h => h) (Or.inl ⟨by rfl, ?hy6⟩) (by assumption) ?rest6
      case hy6 => (intro w hSw; (try dsimp only at hSw); go_simp; first | done | with_reducible rfl)
      try simp only [Act.put, List.getElem_toArray, List.getElem_cons_succ, List.getElem_cons_zero, List.setIfInBounds_toArray, List.set_cons_zero, List.set_cons_succ]
      refine wpAnyH_take (i := 6) (v := ?vv7) rfl (by kernel_rfl) (by kernel_rfl) (by kernel_rfl) (fun _ _ _ h => h) (Or.inl ⟨by rfl, ?hy7⟩) (by assumption) ?rest7
      case hy7 => (intro w hSw; (try dsimp only at hSw); go_simp; first | done | with_reducible rfl)
      try simp only [Act.put, List.getElem_toArray, List.getElem_cons_succ, List.getElem_cons_zero, List.setIfInBounds_toArray, List.set_cons_zero, List.set_cons_succ]
      refine wpAnyH_take (i := 7) (v := ?vv8) rfl (by kernel_rfl) (by kernel_rfl) (by kernel_rfl) (fun _ _ _ h => h) (Or.inl ⟨by rfl, ?hy8⟩) (by assumption) ?rest8
      case hy8 => (intro w hSw; (try dsimp only at hSw); go_simp; first | done | with_reducible rfl)
      try simp only [Act.put, List.getElem_toArray, List.getElem_cons_succ, List.getElem_cons_zero, List.setIfInBounds_toArray, List.set_cons_zero, List.set_cons_succ]
      refine wpAnyH_take (i := 8) (v := ?vv9) rfl (by kernel_rfl) (by kernel_rfl) (by kernel_rfl) (fun _ _ _ h => h) (Or.inl ⟨by rfl, ?hy9⟩) (by assumption) ?rest9
      case hy9 => (intro w hSw; (try dsimp only at hSw); go_simp; first | done | with_reducible rfl)
      try simp only [Act.put, List.getElem_toArray, List.getElem_cons_succ, List.getElem_cons_zero, List.setIfInBounds_toArray, List.set_cons_zero, List.set_cons_succ]
      refine wpAnyH_take (i := 9) (v := ?vv10) rfl (by kernel_rfl) (by kernel_rfl) (by kernel_rfl) (fun _ _ _ h => h) (Or.inl ⟨by rfl, ?hy10⟩) (by assumption) ?rest10
      case hy10 => (intro w hSw; (try dsimp only at hSw); go_simp; first | done | with_reducible rfl)
      try simp only [Act.put, List.getElem_toArray, List.getElem_cons_succ, List.getElem_cons_zero, List.setIfInBounds_toArray, List.set_cons_zero, List.set_cons_succ]
      refine wpAnyH_take (i := 10) (v := ?vv11) rfl (by kernel_rfl) (by kernel_rfl) (by kernel_rfl) (fun _ _ _ h => h) (Or.inl ⟨by rfl, ?hy11⟩) (by assumption) ?rest11
      case hy11 => (intro w hSw; (try dsimp only at hSw); go_simp; first | done | with_reducible rfl)
      try simp only [Act.put, List.getElem_toArray, List.getElem_cons_succ, List.getElem_cons_zero, List.setIfInBounds_toArray, List.set_cons_zero, List.set_cons_succ]
      refine wpAnyH_done (by kernel_rfl) ?_ _
      have HB2 := hid (below_on HB.out B0.out)
      clear ZW B0 nq
      go_wp2_with fail
      have hlt := HLT.out
      exact ⟨⟨k + 1, hlt, by first | rw [hwk] | rfl | simp, HB2⟩, by (try rw [hwk]); simp [intOf]; omega⟩
    · have hd : decide ((k : Int) < (ps.length : Int)) = false := decide_eq_false (by omega)
      have hd2 : decide (k < ps.length) = false := decide_eq_false hlt
      clear hlt hk HP HEP
      go_wp2
      clear hd hd2 y0 y1 y2 y3 y4 y5 y6 y7 y8 z0 z1 z2 z3 z4 z5 z6 z7 z8
      have HBo := HB
      clear HB
      go_loopw [6] (fun i wr => ∃ (k : Nat), k ≤ ks.length ∧ i = .int .i64 (k : Int) ∧ Hid (Below X.heap.size X wr)) (fun i _ => ks.length - (intOf i).toNat)
      case atStart => exact ⟨0, Nat.zero_le _, rfl, HBo⟩
      case round =>
        obtain ⟨k, hk, rfl, HB⟩ := hrel
        clear HBo
        obtain ⟨y0, y1, y2, y3, y4, y5, y6, y7, y8, z0, z1, z2, z3, z4, z5, z6, z7, z8⟩ := ZC.out _ HB.out
        by_cases hlt : k < ks.length
        · have hk1 : (k : Int) < (ks.length : Int) := by omega
          have hk0 : (0 : Int) ≤ (k : Int) := by omega
          have hk2 : (k : Int) < (ks2.length : Int) := by have := E8.out; omega
          have hwk : wrap64 ((k : Int) + 1) = ((k + 1 : Nat) : Int) := by have := HLK.out; rw [IntWalk.wrap64_in _ (by omega)]; omega
          have hkd : k < ks2.length := by have := E8.out; omega
          have HCE := hid (fun W hW => HK.out k hlt hkd W hW)
          have hee := HEK.out k hlt hkd 
          generalize hx2 : ks2[k] = x2v at *
          generalize ks[k] = x1v at *
          clear hx2
          subst hee
          obtain ⟨xa, xb⟩ := x1v
          simp only at HCE
          have nq := fun W => eqK16 xb xa W
          obtain ⟨b1, o1, b2, o2, rfl, rfl, u0, u1, u2, u3⟩ := HCE.out _ (below_on BA.out HB.out)
          have ZW : Hid (∀ W, Below wr.heap.size wr W → (fun w' => w'.cell? ⟨w.heap.size, 8, none⟩ = some (.slice (some ⟨b1, o1, none⟩) ks.length kc1) ∧ w'.cell? ⟨w.heap.size + 1, 8, none⟩ = some (.slice (some ⟨b2, o2, none⟩) ks2.length kc2) ∧ w'.cell? ⟨b1, o1 + k * 2, none⟩ = some (.int .i64 xa) ∧ w'.cell? ⟨b1, o1 + k * 2 + 1, none⟩ = some (.string xb) ∧ w'.cell? ⟨b2, o2 + k * 2, none⟩ = some (.int .i64 xa) ∧ w'.cell? ⟨b2, o2 + k * 2 + 1, none⟩ = some (.string xb)) W) := fun W hW => by
            have hW2 := below_on HB.out hW
            obtain ⟨a0, a1, a2, a3, a4, a5, a6, a7, a8, c0, c1, c2, c3, c4, c5, c6, c7, c8⟩ := ZC.out _ hW2
            obtain ⟨r1, r2, r3, r4, er1, er2, v0, v1, v2, v3⟩ := HCE.out _ (below_on BA.out hW2)
            injection er1 with er1; injection er1 with er1 er1'; subst er1 er1'
            injection er2 with er2; injection er2 with er2 er2'; subst er2 er2'
            exact ⟨a8, c8, v0, v1, v2, v3⟩
          have HLT := hid hlt
          clear HCE hlt hk hkd 
          go_upto_region 11 with fail
          clear u0 u1 u2 u3 y0 y1 y2 y3 y4 y5 y6 y7 y8 z0 z1 z2 z3 z4 z5 z6 z7 z8
          have B0 := hid (Below.refl wr.heap.size wr).drew
          refine wp_region_held_drew (S := (fun w' => w'.cell? ⟨w.heap.size, 8, none⟩ = some (.slice (some ⟨b1, o1, none⟩) ks.length kc1) ∧ w'.cell? ⟨w.heap.size + 1, 8, none⟩ = some (.slice (some ⟨b2, o2, none⟩) ks2.length kc2) ∧ w'.cell? ⟨b1, o1 + k * 2, none⟩ = some (.int .i64 xa) ∧ w'.cell? ⟨b1, o1 + k * 2 + 1, none⟩ = some (.string xb) ∧ w'.cell? ⟨b2, o2 + k * 2, none⟩ = some (.int .i64 xa) ∧ w'.cell? ⟨b2, o2 + k * 2 + 1, none⟩ = some (.string xb))) (by kernel_rfl) (ZW.out _ B0.out) (fun hHeld => ?_)
          refine wpAnyH_take (i := 0) (v := ?vv12) rfl (by kernel_rfl) (by kernel_rfl) (by kernel_rfl) (fun _ _ _ h => h) (Or.inl ⟨by rfl, ?hy12⟩) (by assumption) ?rest12
          case hy12 => (intro w hSw; (try dsimp only at hSw); go_simp; first | done | with_reducible rfl)
          try simp only [Act.put, List.getElem_toArray, List.getElem_cons_succ, List.getElem_cons_zero, List.setIfInBounds_toArray, List.set_cons_zero, List.set_cons_succ]
          refine wpAnyH_take (i := 1) (v := ?vv13) rfl (by kernel_rfl) (by kernel_rfl) (by kernel_rfl) (fun _ _ _ h => h) (Or.inl ⟨by rfl, ?hy13⟩) (by assumption) ?rest13
          case hy13 => (intro w hSw; (try dsimp only at hSw); go_simp; first | done | with_reducible rfl)
          try simp only [Act.put, List.getElem_toArray, List.getElem_cons_succ, List.getElem_cons_zero, List.setIfInBounds_toArray, List.set_cons_zero, List.set_cons_succ]
          refine wpAnyH_take (i := 2) (v := ?vv14) rfl (by kernel_rfl) (by kernel_rfl) (by kernel_rfl) (fun _ _ _ h => h) (Or.inl ⟨by rfl, ?hy14⟩) (by assumption) ?rest14
          case hy14 => (intro w hSw; (try dsimp only at hSw); go_simp; first | done | with_reducible rfl)
          try simp only [Act.put, List.getElem_toArray, List.getElem_cons_succ, List.getElem_cons_zero, List.setIfInBounds_toArray, List.set_cons_zero, List.set_cons_succ]
          refine wpAnyH_take (i := 3) (v := ?vv15) rfl (by kernel_rfl) (by kernel_rfl) (by kernel_rfl) (fun _ _ _ h => h) (Or.inl ⟨by rfl, ?hy15⟩) (by assumption) ?rest15
          case hy15 => (intro w hSw; (try dsimp only at hSw); go_simp; first | done | with_reducible rfl)
          try simp only [Act.put, List.getElem_toArray, List.getElem_cons_succ, List.getElem_cons_zero, List.setIfInBounds_toArray, List.set_cons_zero, List.set_cons_succ]
          refine wpAnyH_take (i := 4) (v := ?vv16) rfl (by kernel_rfl) (by kernel_rfl) (by kernel_rfl) (fun _ _ _ h => h) (Or.inl ⟨by rfl, ?hy16⟩) (by assumption) ?rest16
          case hy16 => (intro w hSw; (try dsimp only at hSw); go_simp; first | done | with_reducible rfl)
          try simp only [Act.put, List.getElem_toArray, List.getElem_cons_succ, List.getElem_cons_zero, List.setIfInBounds_toArray, List.set_cons_zero, List.set_cons_succ]
          refine wpAnyH_take (i := 5) (v := ?vv17) rfl (by kernel_rfl) (by kernel_rfl) (by kernel_rfl) (fun _ _ _ h => h) (Or.inl ⟨by rfl, ?hy17⟩) (by assumption) ?rest17
          case hy17 => (intro w hSw; (try dsimp only at hSw); go_simp; first | done | with_reducible rfl)
          try simp only [Act.put, List.getElem_toArray, List.getElem_cons_succ, List.getElem_cons_zero, List.setIfInBounds_toArray, List.set_cons_zero, List.set_cons_succ]
          refine wpAnyH_take (i := 6) (v := ?vv18) rfl (by kernel_rfl) (by kernel_rfl) (by kernel_rfl) (fun _ _ _ h => h) (Or.inl ⟨by rfl, ?hy18⟩) (by assumption) ?rest18
          case hy18 => (intro w hSw; (try dsimp only at hSw); go_simp; first | done | with_reducible rfl)
          try simp only [Act.put, List.getElem_toArray, List.getElem_cons_succ, List.getElem_cons_zero, List.setIfInBounds_toArray, List.set_cons_zero, List.set_cons_succ]
          refine wpAnyH_take (i := 7) (v := ?vv19) rfl (by kernel_rfl) (by kernel_rfl) (by kernel_rfl) (fun _ _ _ h => h) (Or.inl ⟨by rfl, ?hy19⟩) (by assumption) ?rest19
          case hy19 => (intro w hSw; (try dsimp only at hSw); go_simp; first | done | with_reducible rfl)
          try simp only [Act.put, List.getElem_toArray, List.getElem_cons_succ, List.getElem_cons_zero, List.setIfInBounds_toArray, List.set_cons_zero, List.set_cons_succ]
          refine wpAnyH_take (i := 8) (v := ?vv20) rfl (by kernel_rfl) (by kernel_rfl) (by kernel_rfl) (fun _ _ _ h => h) (Or.inl ⟨by rfl, ?hy20⟩) (by assumption) ?rest20
          case hy20 => (intro w hSw; (try dsimp only at hSw); go_simp; first | done | with_reducible rfl)
          try simp only [Act.put, List.getElem_toArray, List.getElem_cons_succ, List.getElem_cons_zero, List.setIfInBounds_toArray, List.set_cons_zero, List.set_cons_succ]
          refine wpAnyH_take (i := 9) (v := ?vv21) rfl (by kernel_rfl) (by kernel_rfl) (by kernel_rfl) (fun _ _ _ h => h) (Or.inl ⟨by rfl, ?hy21⟩) (by assumption) ?rest21
          case hy21 => (intro w hSw; (try dsimp only at hSw); go_simp; first | done | with_reducible rfl)
          try simp only [Act.put, List.getElem_toArray, List.getElem_cons_succ, List.getElem_cons_zero, List.setIfInBounds_toArray, List.set_cons_zero, List.set_cons_succ]
          refine wpAnyH_take (i := 10) (v := ?vv22) rfl (by kernel_rfl) (by kernel_rfl) (by kernel_rfl) (fun _ _ _ h => h) (Or.inl ⟨by rfl, ?hy22⟩) (by assumption) ?rest22
          case hy22 => (intro w hSw; (try dsimp only at hSw); go_simp; first | done | with_reducible rfl)
          try simp only [Act.put, List.getElem_toArray, List.getElem_cons_succ, List.getElem_cons_zero, List.setIfInBounds_toArray, List.set_cons_zero, List.set_cons_succ]
          refine wpAnyH_done (by kernel_rfl) ?_ _
          have HB2 := hid (below_on HB.out B0.out)
          clear ZW B0 nq
          go_wp2_with fail
          have hlt := HLT.out
          exact ⟨⟨k + 1, hlt, by first | rw [hwk] | rfl | simp, HB2⟩, by (try rw [hwk]); simp [intOf]; omega⟩
        · have hd : decide ((k : Int) < (ks.length : Int)) = false := decide_eq_false (by omega)
          have hd2 : decide (k < ks.length) = false := decide_eq_false hlt
          have BE := hid (below_on BA.out HB.out)
          clear hlt hk HK HEK HB
          go_wp2
          go_ret
          exact ⟨rfl, BE.out⟩
end Go.Proofs.YtmadlnchmkhdjaaGreat
