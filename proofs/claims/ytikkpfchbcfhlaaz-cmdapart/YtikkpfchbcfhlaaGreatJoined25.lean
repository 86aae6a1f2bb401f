/- Joined: Pieces and picks held against each other. Commands held against each other: the document's Same. Commands held against each other: the document's Same. Commands held against each other: the document's Same. Commands held against each other: the document's Same. Commands held against each other: the document's Same says whether they are the same; no text of a command begins another's. -/
import Derived.Test.YtikkpfchbcfhlaaGreatJoined24
import Derived.Laws.StructEq
import Derived.Deep.CutRange
import Derived.Test.YtikkpfchbcfhlaaGreatCmP
namespace Go.Proofs.YtikkpfchbcfhlaaGreat
open Go.RowKit Go.Maps
set_option linter.unusedVariables false
set_option linter.unusedSimpArgs false

theorem bytesInj16 {a b : ByteArray} (h : a.toList = b.toList) : a = b := by
  rw [Lib.toList_data, Lib.toList_data] at h
  cases a; cases b
  simp only [ByteArray.mk.injEq]
  exact Array.toList_inj.1 h
theorem gdP16 : Tryz.prog.eqGuardType Tryz.prog.depth 90 = false := by kernel_rfl
theorem eqP16 (X : ByteArray) (a : Int) (W : World) : (binOp .neq 90 (.agg #[.string X, .int .i64 a]) (.agg #[.string X, .int .i64 a])).run Tryz.prog W = .ok (.bool false) W := by
  have u9 := Tryz.underlying9
  have u3 := Tryz.underlying3
  have z9 := Tryz.sizeOf9
  have z3 := Tryz.sizeOf3
  have a9 := Tryz.isAgg9
  have a3 := Tryz.isAgg3
  have hS : Tryz.prog.underlying 90 = some (.struct (Tryz.prog.fieldsOf 90)) := by kernel_rfl
  have hp : Tryz.prog.stoodInHeld 90 = false := by kernel_rfl
  rw [run_neq_struct, show (10000 : Nat) = 9999 + 1 from rfl, run_equalIn_agg W 9999 90 _ _ hS hp]
  simp only [Program.fieldsOf, Tryz.underlying90]
  go_simp
theorem neP16 (X Y : ByteArray) (a b : Int) (W : World) (h : ¬ (X = Y ∧ a = b)) : (binOp .neq 90 (.agg #[.string X, .int .i64 a]) (.agg #[.string Y, .int .i64 b])).run Tryz.prog W = .ok (.bool true) W := by
  by_cases hX : X = Y
  · subst hX
    have hab : ¬ a = b := fun e => h ⟨rfl, e⟩
    have q1 : (a == b) = false := beq_eq_false_iff_ne.2 hab
    have u9 := Tryz.underlying9
    have u3 := Tryz.underlying3
    have z9 := Tryz.sizeOf9
    have z3 := Tryz.sizeOf3
    have a9 := Tryz.isAgg9
    have a3 := Tryz.isAgg3
    have hS : Tryz.prog.underlying 90 = some (.struct (Tryz.prog.fieldsOf 90)) := by kernel_rfl
    have hp : Tryz.prog.stoodInHeld 90 = false := by kernel_rfl
    rw [run_neq_struct, show (10000 : Nat) = 9999 + 1 from rfl, run_equalIn_agg W 9999 90 _ _ hS hp]
    simp only [Program.fieldsOf, Tryz.underlying90]
    go_simp
  · have q1 : ¬ X.toList = Y.toList := fun e => hX (bytesInj16 e)
    have q2 : (X.toList == Y.toList) = false := beq_eq_false_iff_ne.2 q1
    by_cases hab : a = b
    · subst hab
      have u9 := Tryz.underlying9
      have u3 := Tryz.underlying3
      have z9 := Tryz.sizeOf9
      have z3 := Tryz.sizeOf3
      have a9 := Tryz.isAgg9
      have a3 := Tryz.isAgg3
      have hS : Tryz.prog.underlying 90 = some (.struct (Tryz.prog.fieldsOf 90)) := by kernel_rfl
      have hp : Tryz.prog.stoodInHeld 90 = false := by kernel_rfl
      rw [run_neq_struct, show (10000 : Nat) = 9999 + 1 from rfl, run_equalIn_agg W 9999 90 _ _ hS hp]
      simp only [Program.fieldsOf, Tryz.underlying90]
      go_simp
    · have q3 : (a == b) = false := beq_eq_false_iff_ne.2 hab
      have u9 := Tryz.underlying9
      have u3 := Tryz.underlying3
      have z9 := Tryz.sizeOf9
      have z3 := Tryz.sizeOf3
      have a9 := Tryz.isAgg9
      have a3 := Tryz.isAgg3
      have hS : Tryz.prog.underlying 90 = some (.struct (Tryz.prog.fieldsOf 90)) := by kernel_rfl
      have hp : Tryz.prog.stoodInHeld 90 = false := by kernel_rfl
      rw [run_neq_struct, show (10000 : Nat) = 9999 + 1 from rfl, run_equalIn_agg W 9999 90 _ _ hS hp]
      simp only [Program.fieldsOf, Tryz.underlying90]
      go_simp
theorem gdK16 : Tryz.prog.eqGuardType Tryz.prog.depth 60 = false := by kernel_rfl
theorem eqK16 (X : ByteArray) (a : Int) (W : World) : (binOp .neq 60 (.agg #[.int .i64 a, .string X]) (.agg #[.int .i64 a, .string X])).run Tryz.prog W = .ok (.bool false) W := by
  have u9 := Tryz.underlying9
  have u3 := Tryz.underlying3
  have z9 := Tryz.sizeOf9
  have z3 := Tryz.sizeOf3
  have a9 := Tryz.isAgg9
  have a3 := Tryz.isAgg3
  have hS : Tryz.prog.underlying 60 = some (.struct (Tryz.prog.fieldsOf 60)) := by kernel_rfl
  have hp : Tryz.prog.stoodInHeld 60 = false := by kernel_rfl
  rw [run_neq_struct, show (10000 : Nat) = 9999 + 1 from rfl, run_equalIn_agg W 9999 60 _ _ hS hp]
  simp only [Program.fieldsOf, Tryz.underlying60]
  go_simp
theorem neK16 (X Y : ByteArray) (a b : Int) (W : World) (h : ¬ (X = Y ∧ a = b)) : (binOp .neq 60 (.agg #[.int .i64 a, .string X]) (.agg #[.int .i64 b, .string Y])).run Tryz.prog W = .ok (.bool true) W := by
  by_cases hX : X = Y
  · subst hX
    have hab : ¬ a = b := fun e => h ⟨rfl, e⟩
    have q1 : (a == b) = false := beq_eq_false_iff_ne.2 hab
    have u9 := Tryz.underlying9
    have u3 := Tryz.underlying3
    have z9 := Tryz.sizeOf9
    have z3 := Tryz.sizeOf3
    have a9 := Tryz.isAgg9
    have a3 := Tryz.isAgg3
    have hS : Tryz.prog.underlying 60 = some (.struct (Tryz.prog.fieldsOf 60)) := by kernel_rfl
    have hp : Tryz.prog.stoodInHeld 60 = false := by kernel_rfl
    rw [run_neq_struct, show (10000 : Nat) = 9999 + 1 from rfl, run_equalIn_agg W 9999 60 _ _ hS hp]
    simp only [Program.fieldsOf, Tryz.underlying60]
    go_simp
  · have q1 : ¬ X.toList = Y.toList := fun e => hX (bytesInj16 e)
    have q2 : (X.toList == Y.toList) = false := beq_eq_false_iff_ne.2 q1
    by_cases hab : a = b
    · subst hab
      have u9 := Tryz.underlying9
      have u3 := Tryz.underlying3
      have z9 := Tryz.sizeOf9
      have z3 := Tryz.sizeOf3
      have a9 := Tryz.isAgg9
      have a3 := Tryz.isAgg3
      have hS : Tryz.prog.underlying 60 = some (.struct (Tryz.prog.fieldsOf 60)) := by kernel_rfl
      have hp : Tryz.prog.stoodInHeld 60 = false := by kernel_rfl
      rw [run_neq_struct, show (10000 : Nat) = 9999 + 1 from rfl, run_equalIn_agg W 9999 60 _ _ hS hp]
      simp only [Program.fieldsOf, Tryz.underlying60]
      go_simp
    · have q3 : (a == b) = false := beq_eq_false_iff_ne.2 hab
      have u9 := Tryz.underlying9
      have u3 := Tryz.underlying3
      have z9 := Tryz.sizeOf9
      have z3 := Tryz.sizeOf3
      have a9 := Tryz.isAgg9
      have a3 := Tryz.isAgg3
      have hS : Tryz.prog.underlying 60 = some (.struct (Tryz.prog.fieldsOf 60)) := by kernel_rfl
      have hp : Tryz.prog.stoodInHeld 60 = false := by kernel_rfl
      rw [run_neq_struct, show (10000 : Nat) = 9999 + 1 from rfl, run_equalIn_agg W 9999 60 _ _ hS hp]
      simp only [Program.fieldsOf, Tryz.underlying60]
      go_simp
end Go.Proofs.YtikkpfchbcfhlaaGreat
namespace Go.Proofs.YtikkpfchbcfhlaaGreat
open Go.RowKit Go.Maps
set_option linter.unusedVariables false
set_option linter.unusedSimpArgs false

set_option maxRecDepth 100000 in
set_option maxHeartbeats 4000000 in
theorem rsm_true (p1 k1 p2 k2 : Value) (c d : Cm) (w : World) (h1 : PcI w p1 c.ps) (g1 : PkI w k1 c.ks) (h2 : PcI w p2 d.ps) (g2 : PkI w k2 d.ks) (hlp : c.ps.length ≤ 8796093022208) (hlk : c.ks.length ≤ 8796093022208) (e0 : c.kd = d.kd) (e1 : c.tk = d.tk) (e2 : c.bk = d.bk) (e3 : c.ky = d.ky) (e4 : c.id = d.id) (e5 : c.n = d.n) (e6 : c.sm = d.sm) (e7 : c.ps.length = d.ps.length) (e8 : c.ks.length = d.ks.length) (hps : c.ps = d.ps) (hks : c.ks = d.ks) : Calls Tryz.prog 17 #[cmV p1 k1 c, cmV p2 k2 d] w fun e w' => e = .returned (.bool true) ∧ Below w.heap.size w w' := by
  obtain ⟨pa1, pc1, rfl, f1⟩ := h1.form
  obtain ⟨ka1, kc1, rfl, f2⟩ := g1.form
  obtain ⟨pa2, pc2, rfl, f3⟩ := h2.form
  obtain ⟨ka2, kc2, rfl, f4⟩ := g2.form
  have HP : Hid (∀ (k : Nat) (hk : k < c.ps.length) (hk2 : k < d.ps.length) (W : World), Below w.heap.size w W → ∃ b1 o1 b2 o2, pa1 = some ⟨b1, o1, none⟩ ∧ pa2 = some ⟨b2, o2, none⟩ ∧ W.cell? ⟨b1, o1 + k * 2, none⟩ = some (.string c.ps[k].id) ∧ W.cell? ⟨b1, o1 + k * 2 + 1, none⟩ = some (.int .i64 c.ps[k].sz) ∧ W.cell? ⟨b2, o2 + k * 2, none⟩ = some (.string d.ps[k].id) ∧ W.cell? ⟨b2, o2 + k * 2 + 1, none⟩ = some (.int .i64 d.ps[k].sz)) := fun k hk hk2 W hW => by
    obtain ⟨b1, o1, e1, hb1, p1, p2⟩ := f1 k hk
    obtain ⟨b2, o2, e2, hb2, q1, q2⟩ := f3 k hk2
    exact ⟨b1, o1, b2, o2, e1, e2, (hW.cell (p := ⟨b1, o1 + k * 2, none⟩) hb1).trans p1, (hW.cell (p := ⟨b1, o1 + k * 2 + 1, none⟩) hb1).trans p2, (hW.cell (p := ⟨b2, o2 + k * 2, none⟩) hb2).trans q1, (hW.cell (p := ⟨b2, o2 + k * 2 + 1, none⟩) hb2).trans q2⟩
  have HEP : Hid (∀ (k : Nat) (hk : k < c.ps.length) (hk2 : k < d.ps.length), c.ps[k] = d.ps[k]) := fun k hk hk2 => by simp only [hps]
  have HK : Hid (∀ (k : Nat) (hk : k < c.ks.length) (hk2 : k < d.ks.length) (W : World), Below w.heap.size w W → ∃ b1 o1 b2 o2, ka1 = some ⟨b1, o1, none⟩ ∧ ka2 = some ⟨b2, o2, none⟩ ∧ W.cell? ⟨b1, o1 + k * 2, none⟩ = some (.int .i64 c.ks[k].n) ∧ W.cell? ⟨b1, o1 + k * 2 + 1, none⟩ = some (.string c.ks[k].su) ∧ W.cell? ⟨b2, o2 + k * 2, none⟩ = some (.int .i64 d.ks[k].n) ∧ W.cell? ⟨b2, o2 + k * 2 + 1, none⟩ = some (.string d.ks[k].su)) := fun k hk hk2 W hW => by
    obtain ⟨b1, o1, e1, hb1, p1, p2⟩ := f2 k hk
    obtain ⟨b2, o2, e2, hb2, q1, q2⟩ := f4 k hk2
    exact ⟨b1, o1, b2, o2, e1, e2, (hW.cell (p := ⟨b1, o1 + k * 2, none⟩) hb1).trans p1, (hW.cell (p := ⟨b1, o1 + k * 2 + 1, none⟩) hb1).trans p2, (hW.cell (p := ⟨b2, o2 + k * 2, none⟩) hb2).trans q1, (hW.cell (p := ⟨b2, o2 + k * 2 + 1, none⟩) hb2).trans q2⟩
  have HEK : Hid (∀ (k : Nat) (hk : k < c.ks.length) (hk2 : k < d.ks.length), c.ks[k] = d.ks[k]) := fun k hk hk2 => by simp only [hks]
  clear h1 g1 h2 g2 f1 f2 f3 f4 hps hks
  unfold cmV
  obtain ⟨kd, tk, bk, ky, id, n, sm, ps, ks⟩ := c
  obtain ⟨kd2, tk2, bk2, ky2, id2, n2, sm2, ps2, ks2⟩ := d
  simp only at *
  subst e0
  subst e1
  subst e2
  subst e3
  subst e4
  subst e5
  subst e6
  have BA := hid (below_al (below_al (Below.refl w.heap.size w) (.cells #[.int .i64 kd, .string tk, .string bk, .string ky, .int .i64 id, .int .i64 n, .string sm, .slice pa1 ps.length pc1, .slice ka1 ks.length kc1] 34)) (.cells #[.int .i64 kd, .string tk, .string bk, .string ky, .int .i64 id, .int .i64 n, .string sm, .slice pa2 ps2.length pc2, .slice ka2 ks2.length kc2] 34))
  have ZC : Hid (∀ W, Below ((w.alloc (.cells #[.int .i64 kd, .string tk, .string bk, .string ky, .int .i64 id, .int .i64 n, .string sm, .slice pa1 ps.length pc1, .slice ka1 ks.length kc1] 34)).alloc (.cells #[.int .i64 kd, .string tk, .string bk, .string ky, .int .i64 id, .int .i64 n, .string sm, .slice pa2 ps2.length pc2, .slice ka2 ks2.length kc2] 34)).heap.size ((w.alloc (.cells #[.int .i64 kd, .string tk, .string bk, .string ky, .int .i64 id, .int .i64 n, .string sm, .slice pa1 ps.length pc1, .slice ka1 ks.length kc1] 34)).alloc (.cells #[.int .i64 kd, .string tk, .string bk, .string ky, .int .i64 id, .int .i64 n, .string sm, .slice pa2 ps2.length pc2, .slice ka2 ks2.length kc2] 34)) W → W.cell? ⟨w.heap.size, 0, none⟩ = some (.int .i64 kd) ∧ W.cell? ⟨w.heap.size, 1, none⟩ = some (.string tk) ∧ W.cell? ⟨w.heap.size, 2, none⟩ = some (.string bk) ∧ W.cell? ⟨w.heap.size, 3, none⟩ = some (.string ky) ∧ W.cell? ⟨w.heap.size, 4, none⟩ = some (.int .i64 id) ∧ W.cell? ⟨w.heap.size, 5, none⟩ = some (.int .i64 n) ∧ W.cell? ⟨w.heap.size, 6, none⟩ = some (.string sm) ∧ W.cell? ⟨w.heap.size, 7, none⟩ = some (.slice pa1 ps.length pc1) ∧ W.cell? ⟨w.heap.size, 8, none⟩ = some (.slice ka1 ks.length kc1) ∧ W.cell? ⟨w.heap.size + 1, 0, none⟩ = some (.int .i64 kd) ∧ W.cell? ⟨w.heap.size + 1, 1, none⟩ = some (.string tk) ∧ W.cell? ⟨w.heap.size + 1, 2, none⟩ = some (.string bk) ∧ W.cell? ⟨w.heap.size + 1, 3, none⟩ = some (.string ky) ∧ W.cell? ⟨w.heap.size + 1, 4, none⟩ = some (.int .i64 id) ∧ W.cell? ⟨w.heap.size + 1, 5, none⟩ = some (.int .i64 n) ∧ W.cell? ⟨w.heap.size + 1, 6, none⟩ = some (.string sm) ∧ W.cell? ⟨w.heap.size + 1, 7, none⟩ = some (.slice pa2 ps2.length pc2) ∧ W.cell? ⟨w.heap.size + 1, 8, none⟩ = some (.slice ka2 ks2.length kc2)) := fun W hW => by
    have q := (row_old (srow w [.int .i64 kd, .string tk, .string bk, .string ky, .int .i64 id, .int .i64 n, .string sm, .slice pa1 ps.length pc1, .slice ka1 ks.length kc1] 34) (.cells #[.int .i64 kd, .string tk, .string bk, .string ky, .int .i64 id, .int .i64 n, .string sm, .slice pa2 ps2.length pc2, .slice ka2 ks2.length kc2] 34)).keep (hW.keep (fun _ => False)) (fun h => h)
    have r := srow (w.alloc (.cells #[.int .i64 kd, .string tk, .string bk, .string ky, .int .i64 id, .int .i64 n, .string sm, .slice pa1 ps.length pc1, .slice ka1 ks.length kc1] 34)) [.int .i64 kd, .string tk, .string bk, .string ky, .int .i64 id, .int .i64 n, .string sm, .slice pa2 ps2.length pc2, .slice ka2 ks2.length kc2] 34
    rw [show (w.alloc (.cells #[.int .i64 kd, .string tk, .string bk, .string ky, .int .i64 id, .int .i64 n, .string sm, .slice pa1 ps.length pc1, .slice ka1 ks.length kc1] 34)).heap.size = w.heap.size + 1 from by simp] at r
    replace r := r.keep (hW.keep (fun _ => False)) (fun h => h)
    exact ⟨q.cellAt rfl, q.cellAt rfl, q.cellAt rfl, q.cellAt rfl, q.cellAt rfl, q.cellAt rfl, q.cellAt rfl, q.cellAt rfl, q.cellAt rfl, r.cellAt rfl, r.cellAt rfl, r.cellAt rfl, r.cellAt rfl, r.cellAt rfl, r.cellAt rfl, r.cellAt rfl, r.cellAt rfl, r.cellAt rfl⟩
  obtain ⟨y0, y1, y2, y3, y4, y5, y6, y7, y8, z0, z1, z2, z3, z4, z5, z6, z7, z8⟩ := ZC.out _ (Below.refl _ _)
  have q0 : (kd != kd) = false := by simp
  have q1 : (tk.toList != tk.toList) = false := by simp
  have q2 : (bk.toList != bk.toList) = false := by simp
  have q3 : (ky.toList != ky.toList) = false := by simp
  have q4 : (id != id) = false := by simp
  have q5 : (n != n) = false := by simp
  have q6 : (sm.toList != sm.toList) = false := by simp
  have q7 : ((ps.length : Int) != (ps2.length : Int)) = false := by rw [e7]; simp
  have q7b : (ps.length != ps2.length) = false := by rw [e7]; simp
  have q8 : ((ks.length : Int) != (ks2.length : Int)) = false := by rw [e8]; simp
  have q8b : (ks.length != ks2.length) = false := by rw [e8]; simp
  have E7 := hid e7
  have E8 := hid e8
  clear e7 e8
  have HLP := hid hlp
  have HLK := hid hlk
  clear hlp hlk
  have gp := gdP16
  have gk := gdK16
  go_enter Tryz.func17, Tryz.ntmps17
  go_wp2
  clear y0 y1 y2 y3 y4 y5 y6 y7 y8 z0 z1 z2 z3 z4 z5 z6 z7 z8 q0 q1 q2 q3 q4 q5 q6 q7 q8 q7b q8b
  have BX0 := hid (Below.refl ((w.alloc (.cells #[.int .i64 kd, .string tk, .string bk, .string ky, .int .i64 id, .int .i64 n, .string sm, .slice pa1 ps.length pc1, .slice ka1 ks.length kc1] 34)).alloc (.cells #[.int .i64 kd, .string tk, .string bk, .string ky, .int .i64 id, .int .i64 n, .string sm, .slice pa2 ps2.length pc2, .slice ka2 ks2.length kc2] 34)).heap.size ((w.alloc (.cells #[.int .i64 kd, .string tk, .string bk, .string ky, .int .i64 id, .int .i64 n, .string sm, .slice pa1 ps.length pc1, .slice ka1 ks.length kc1] 34)).alloc (.cells #[.int .i64 kd, .string tk, .string bk, .string ky, .int .i64 id, .int .i64 n, .string sm, .slice pa2 ps2.length pc2, .slice ka2 ks2.length kc2] 34)))
  generalize ((w.alloc (.cells #[.int .i64 kd, .string tk, .string bk, .string ky, .int .i64 id, .int .i64 n, .string sm, .slice pa1 ps.length pc1, .slice ka1 ks.length kc1] 34)).alloc (.cells #[.int .i64 kd, .string tk, .string bk, .string ky, .int .i64 id, .int .i64 n, .string sm, .slice pa2 ps2.length pc2, .slice ka2 ks2.length kc2] 34)) = X at *
  go_loopw [5] (fun i wr => ∃ (k : Nat), k ≤ ps.length ∧ i = .int .i64 (k : Int) ∧ Hid (Below X.heap.size X wr)) (fun i _ => ps.length - (intOf i).toNat)
  case atStart => exact ⟨0, Nat.zero_le _, rfl, BX0⟩
  case round =>
    obtain ⟨k, hk, rfl, HB⟩ := hrel
    clear BX0
    obtain ⟨y0, y1, y2, y3, y4, y5, y6, y7, y8, z0, z1, z2, z3, z4, z5, z6, z7, z8⟩ := ZC.out _ HB.out
    by_cases hlt : k < ps.length
    · have hk1 : (k : Int) < (ps.length : Int) := by omega
      have hk0 : (0 : Int) ≤ (k : Int) := by omega
      have hk2 : (k : Int) < (ps2.length : Int) := by have := E7.out; omega
      have hwk : wrap64 ((k : Int) + 1) = ((k + 1 : Nat) : Int) := by have := HLP.out; rw [IntWalk.wrap64_in _ (by omega)]; omega
      have hkd : k < ps2.length := by have := E7.out; omega
      have HCE := hid (fun W hW => HP.out k hlt hkd W hW)
      have hee := HEP.out k hlt hkd 
      generalize hx2 : ps2[k] = x2v at *
      generalize ps[k] = x1v at *
      clear hx2
      subst hee
      obtain ⟨xa, xb⟩ := x1v
      simp only at HCE
      have nq := fun W => eqP16 xa xb W
      obtain ⟨b1, o1, b2, o2, rfl, rfl, u0, u1, u2, u3⟩ := HCE.out _ (below_on BA.out HB.out)
      have ZW : Hid (∀ W, Below wr.heap.size wr W → (fun w' => w'.cell? ⟨w.heap.size, 7, none⟩ = some (.slice (some ⟨b1, o1, none⟩) ps.length pc1) ∧ w'.cell? ⟨w.heap.size + 1, 7, none⟩ = some (.slice (some ⟨b2, o2, none⟩) ps2.length pc2) ∧ w'.cell? ⟨b1, o1 + k * 2, none⟩ = some (.string xa) ∧ w'.cell? ⟨b1, o1 + k * 2 + 1, none⟩ = some (.int .i64 xb) ∧ w'.cell? ⟨b2, o2 + k * 2, none⟩ = some (.string xa) ∧ w'.cell? ⟨b2, o2 + k * 2 + 1, none⟩ = some (.int .i64 xb)) W) := fun W hW => by
        have hW2 := below_on HB.out hW
        obtain ⟨a0, a1, a2, a3, a4, a5, a6, a7, a8, c0, c1, c2, c3, c4, c5, c6, c7, c8⟩ := ZC.out _ hW2
        obtain ⟨r1, r2, r3, r4, er1, er2, v0, v1, v2, v3⟩ := HCE.out _ (below_on BA.out hW2)
        injection er1 with er1; injection er1 with er1 er1'; subst er1 er1'
        injection er2 with er2; injection er2 with er2 er2'; subst er2 er2'
        exact ⟨a7, c7, v0, v1, v2, v3⟩
      have HLT := hid hlt
      clear HCE hlt hk hkd 
      go_upto_region 6 with fail
      clear u0 u1 u2 u3 y0 y1 y2 y3 y4 y5 y6 y7 y8 z0 z1 z2 z3 z4 z5 z6 z7 z8
      have B0 := hid (Below.refl wr.heap.size wr).drew
      refine wp_region_held_drew (S := (fun w' => w'.cell? ⟨w.heap.size, 7, none⟩ = some (.slice (some ⟨b1, o1, none⟩) ps.length pc1) ∧ w'.cell? ⟨w.heap.size + 1, 7, none⟩ = some (.slice (some ⟨b2, o2, none⟩) ps2.length pc2) ∧ w'.cell? ⟨b1, o1 + k * 2, none⟩ = some (.string xa) ∧ w'.cell? ⟨b1, o1 + k * 2 + 1, none⟩ = some (.int .i64 xb) ∧ w'.cell? ⟨b2, o2 + k * 2, none⟩ = some (.string xa) ∧ w'.cell? ⟨b2, o2 + k * 2 + 1, none⟩ = some (.int .i64 xb))) (by kernel_rfl) (ZW.out _ B0.out) (fun hHeld => ?_)
      refine wpAnyH_take (i := 0) (v := ?vv1) rfl (by kernel_rfl) (by kernel_rfl) (by kernel_rfl) (fun _ _ _ h => h) (Or.inl ⟨by rfl, ?hy1⟩) (by assumption) ?rest1
      case hy1 => (intro w hSw; (try dsimp only at hSw); go_simp; first | done | with_reducible rfl)
      try simp only [Act.put, List.getElem_toArray, List.getElem_cons_succ, List.getElem_cons_zero, List.setIfInBounds_toArray, List.set_cons_zero, List.set_cons_succ]
      refine wpAnyH_take (i := 1) (v := ?vv2) rfl (by kernel_rfl) (by kernel_rfl) (by kernel_rfl) (fun _ _ _ h => h) (Or.inl ⟨by rfl, ?hy2⟩) (by assumption) ?rest2
      case hy2 => (intro w hSw; (try dsimp only at hSw); go_simp; first | done | with_reducible rfl)
      try simp only [Act.put, List.getElem_toArray, List.getElem_cons_succ, List.getElem_cons_zero, List.setIfInBounds_toArray, List.set_cons_zero, List.set_cons_succ]
      refine wpAnyH_take (i := 2) (v := ?vv3) rfl (by kernel_rfl) (by kernel_rfl) (by kernel_rfl) (fun _ _ _ h => h) (Or.inl ⟨by rfl, ?hy3⟩) (by assumption) ?rest3
      case hy3 => (intro w hSw; (try dsimp only at hSw); go_simp; first | done | with_reducible rfl)
      try simp only [Act.put, List.getElem_toArray, List.getElem_cons_succ, List.getElem_cons_zero, List.setIfInBounds_toArray, List.set_cons_zero, List.set_cons_succ]
      refine wpAnyH_take (i := 3) (v := ?vv4) rfl (by kernel_rfl) (by kernel_rfl) (by kernel_rfl) (fun _ _ _ h => h) (Or.inl ⟨by rfl, ?hy4⟩) (by assumption) ?rest4
      case hy4 => (intro w hSw; (try dsimp only at hSw); go_simp; first | done | with_reducible rfl)
      try simp only [Act.put, List.getElem_toArray, List.getElem_cons_succ, List.getElem_cons_zero, List.setIfInBounds_toArray, List.set_cons_zero, List.set_cons_succ]
      refine wpAnyH_take (i := 4) (v := ?vv5) rfl (by kernel_rfl) (by kernel_rfl) (by kernel_rfl) (fun _ _ _ h => h) (Or.inl ⟨by rfl, ?hy5⟩) (by assumption) ?rest5
      case hy5 => (intro w hSw; (try dsimp only at hSw); go_simp; first | done | with_reducible rfl)
      try simp only [Act.put, List.getElem_toArray, List.getElem_cons_succ, List.getElem_cons_zero, List.setIfInBounds_toArray, List.set_cons_zero, List.set_cons_succ]
      refine wpAnyH_take (i := 5) (v := ?vv6) rfl (by kernel_rfl) (by kernel_rfl) (by kernel_rfl) (fun _ _ _ h => h) (Or.inl ⟨by rfl, ?hy6⟩) (by assumption) ?rest6
      case hy6 => (intro w hSw; (try dsimp only at hSw); go_simp; first | done | with_reducible rfl)
      try simp only [Act.put, List.getElem_toArray, List.getElem_cons_succ, List.getElem_cons_zero, List.setIfInBounds_toArray, List.set_cons_zero, List.set_cons_succ]
      refine wpAnyH_take (i := 6) (v := ?vv7) rfl (by kernel_rfl) (by kernel_rfl) (by kernel_rfl) (fun _ _ _ h => h) (Or.inl ⟨by rfl, ?hy7⟩) (by assumption) ?rest7
      case hy7 => (intro w hSw; (try dsimp only at hSw); go_simp; first | done | with_reducible rfl)
      try simp only [Act.put, List.getElem_toArray, List.getElem_cons_succ, List.getElem_cons_zero, List.setIfInBounds_toArray, List.set_cons_zero, List.set_cons_succ]
      refine wpAnyH_take (i := 7) (v := ?vv8) rfl (by kernel_rfl) (by kernel_rfl) (by kernel_rfl) (fun _ _ _ h => h) (Or.inl ⟨by rfl, ?hy8⟩) (by assumption) ?rest8
      case hy8 => (intro w hSw; (try dsimp only at hSw); go_simp; first | done | with_reducible rfl)
      try simp only [Act.put, List.getElem_toArray, List.getElem_cons_succ, List.getElem_cons_zero, List.setIfInBounds_toArray, List.set_cons_zero, List.set_cons_succ]
      refine wpAnyH_take (i := 8) (v := ?vv9) rfl (by kernel_rfl) (by kernel_rfl) (by kernel_rfl) (fun _ _ _ h => h) (Or.inl ⟨by rfl, ?hy9⟩) (by assumption) ?rest9
      case hy9 => (intro w hSw; (try dsimp only at hSw); go_simp; first | done | with_reducible rfl)
      try simp only [Act.put, List.getElem_toArray, List.getElem_cons_succ, List.getElem_cons_zero, List.setIfInBounds_toArray, List.set_cons_zero, List.set_cons_succ]
      refine wpAnyH_take (i := 9) (v := ?vv10) rfl (by kernel_rfl) (by kernel_rfl) (by kernel_rfl) (fun _ _ _ h => h) (Or.inl ⟨by rfl, ?hy10⟩) (by assumption) ?rest10
      case hy10 => (intro w hSw; (try dsimp only at hSw); go_simp; first | done | with_reducible rfl)
      try simp only [Act.put, List.getElem_toArray, List.getElem_cons_succ, List.getElem_cons_zero, List.setIfInBounds_toArray, List.set_cons_zero, List.set_cons_succ]
      refine wpAnyH_take (i := 10) (v := ?vv11) rfl (by kernel_rfl) (by kernel_rfl) (by kernel_rfl) (fun _ _ _ h => h) (Or.inl ⟨by rfl, ?hy11⟩) (by assumption) ?rest11
      case hy11 => (intro w hSw; (try dsimp only at hSw); go_simp; first | done | with_reducible rfl)
      try simp only [Act.put, List.getElem_toArray, List.getElem_cons_succ, List.getElem_cons_zero, List.setIfInBounds_toArray, List.set_cons_zero, List.set_cons_succ]
      refine wpAnyH_done (by kernel_rfl) ?_ _
      have HB2 := hid (below_on HB.out B0.out)
      clear ZW B0 nq
      go_wp2_with fail
      have hlt := HLT.out
      exact ⟨⟨k + 1, hlt, by first | rw [hwk] | rfl | simp, HB2⟩, by (try rw [hwk]); simp [intOf]; omega⟩
    · have hd : decide ((k : Int) < (ps.length : Int)) = false := decide_eq_false (by omega)
      have hd2 : decide (k < ps.length) = false := decide_eq_false hlt
      clear hlt hk HP HEP
      go_wp2
      clear hd hd2 y0 y1 y2 y3 y4 y5 y6 y7 y8 z0 z1 z2 z3 z4 z5 z6 z7 z8
      have HBo := HB
      clear HB
      go_loopw [6] (fun i wr => ∃ (k : Nat), k ≤ ks.length ∧ i = .int .i64 (k : Int) ∧ Hid (Below X.heap.size X wr)) (fun i _ => ks.length - (intOf i).toNat)
      case atStart => exact ⟨0, Nat.zero_le _, rfl, HBo⟩
      case round =>
        obtain ⟨k, hk, rfl, HB⟩ := hrel
        clear HBo
        obtain ⟨y0, y1, y2, y3, y4, y5, y6, y7, y8, z0, z1, z2, z3, z4, z5, z6, z7, z8⟩ := ZC.out _ HB.out
        by_cases hlt : k < ks.length
        · have hk1 : (k : Int) < (ks.length : Int) := by omega
          have hk0 : (0 : Int) ≤ (k : Int) := by omega
          have hk2 : (k : Int) < (ks2.length : Int) := by have := E8.out; omega
          have hwk : wrap64 ((k : Int) + 1) = ((k + 1 : Nat) : Int) := by have := HLK.out; rw [IntWalk.wrap64_in _ (by omega)]; omega
          have hkd : k < ks2.length := by have := E8.out; omega
          have HCE := hid (fun W hW => HK.out k hlt hkd W hW)
          have hee := HEK.out k hlt hkd 
          generalize hx2 : ks2[k] = x2v at *
          generalize ks[k] = x1v at *
          clear hx2
          subst hee
          obtain ⟨xa, xb⟩ := x1v
          simp only at HCE
          have nq := fun W => eqK16 xb xa W
          obtain ⟨b1, o1, b2, o2, rfl, rfl, u0, u1, u2, u3⟩ := HCE.out _ (below_on BA.out HB.out)
          have ZW : Hid (∀ W, Below wr.heap.size wr W → (fun w' => w'.cell? ⟨w.heap.size, 8, none⟩ = some (.slice (some ⟨b1, o1, none⟩) ks.length kc1) ∧ w'.cell? ⟨w.heap.size + 1, 8, none⟩ = some (.slice (some ⟨b2, o2, none⟩) ks2.length kc2) ∧ w'.cell? ⟨b1, o1 + k * 2, none⟩ = some (.int .i64 xa) ∧ w'.cell? ⟨b1, o1 + k * 2 + 1, none⟩ = some (.string xb) ∧ w'.cell? ⟨b2, o2 + k * 2, none⟩ = some (.int .i64 xa) ∧ w'.cell? ⟨b2, o2 + k * 2 + 1, none⟩ = some (.string xb)) W) := fun W hW => by
            have hW2 := below_on HB.out hW
            obtain ⟨a0, a1, a2, a3, a4, a5, a6, a7, a8, c0, c1, c2, c3, c4, c5, c6, c7, c8⟩ := ZC.out _ hW2
            obtain ⟨r1, r2, r3, r4, er1, er2, v0, v1, v2, v3⟩ := HCE.out _ (below_on BA.out hW2)
            injection er1 with er1; injection er1 with er1 er1'; subst er1 er1'
            injection er2 with er2; injection er2 with er2 er2'; subst er2 er2'
            exact ⟨a8, c8, v0, v1, v2, v3⟩
          have HLT := hid hlt
          clear HCE hlt hk hkd 
          go_upto_region 11 with fail
          clear u0 u1 u2 u3 y0 y1 y2 y3 y4 y5 y6 y7 y8 z0 z1 z2 z3 z4 z5 z6 z7 z8
          have B0 := hid (Below.refl wr.heap.size wr).drew
          refine wp_region_held_drew (S := (fun w' => w'.cell? ⟨w.heap.size, 8, none⟩ = some (.slice (some ⟨b1, o1, none⟩) ks.length kc1) ∧ w'.cell? ⟨w.heap.size + 1, 8, none⟩ = some (.slice (some ⟨b2, o2, none⟩) ks2.length kc2) ∧ w'.cell? ⟨b1, o1 + k * 2, none⟩ = some (.int .i64 xa) ∧ w'.cell? ⟨b1, o1 + k * 2 + 1, none⟩ = some (.string xb) ∧ w'.cell? ⟨b2, o2 + k * 2, none⟩ = some (.int .i64 xa) ∧ w'.cell? ⟨b2, o2 + k * 2 + 1, none⟩ = some (.string xb))) (by kernel_rfl) (ZW.out _ B0.out) (fun hHeld => ?_)
          refine wpAnyH_take (i := 0) (v := ?vv12) rfl (by kernel_rfl) (by kernel_rfl) (by kernel_rfl) (fun _ _ _ h => h) (Or.inl ⟨by rfl, ?hy12⟩) (by assumption) ?rest12
          case hy12 => (intro w hSw; (try dsimp only at hSw); go_simp; first | done | with_reducible rfl)
          try simp only [Act.put, List.getElem_toArray, List.getElem_cons_succ, List.getElem_cons_zero, List.setIfInBounds_toArray, List.set_cons_zero, List.set_cons_succ]
          refine wpAnyH_take (i := 1) (v := ?vv13) rfl (by kernel_rfl) (by kernel_rfl) (by kernel_rfl) (fun _ _ _ h => h) (Or.inl ⟨by rfl, ?hy13⟩) (by assumption) ?rest13
          case hy13 => (intro w hSw; (try dsimp only at hSw); go_simp; first | done | with_reducible rfl)
          try simp only [Act.put, List.getElem_toArray, List.getElem_cons_succ, List.getElem_cons_zero, List.setIfInBounds_toArray, List.set_cons_zero, List.set_cons_succ]
          refine wpAnyH_take (i := 2) (v := ?vv14) rfl (by kernel_rfl) (by kernel_rfl) (by kernel_rfl) (fun _ _ _ h => h) (Or.inl ⟨by rfl, ?hy14⟩) (by assumption) ?rest14
          case hy14 => (intro w hSw; (try dsimp only at hSw); go_simp; first | done | with_reducible rfl)
          try simp only [Act.put, List.getElem_toArray, List.getElem_cons_succ, List.getElem_cons_zero, List.setIfInBounds_toArray, List.set_cons_zero, List.set_cons_succ]
          refine wpAnyH_take (i := 3) (v := ?vv15) rfl (by kernel_rfl) (by kernel_rfl) (by kernel_rfl) (fun _ _ _ h => h) (Or.inl ⟨by rfl, ?hy15⟩) (by assumption) ?rest15
          case hy15 => (intro w hSw; (try dsimp only at hSw); go_simp; first | done | with_reducible rfl)
          try simp only [Act.put, List.getElem_toArray, List.getElem_cons_succ, List.getElem_cons_zero, List.setIfInBounds_toArray, List.set_cons_zero, List.set_cons_succ]
          refine wpAnyH_take (i := 4) (v := ?vv16) rfl (by kernel_rfl) (by kernel_rfl) (by kernel_rfl) (fun _ _ _ h => h) (Or.inl ⟨by rfl, ?hy16⟩) (by assumption) ?rest16
          case hy16 => (intro w hSw; (try dsimp only at hSw); go_simp; first | done | with_reducible rfl)
          try simp only [Act.put, List.getElem_toArray, List.getElem_cons_succ, List.getElem_cons_zero, List.setIfInBounds_toArray, List.set_cons_zero, List.set_cons_succ]
          refine wpAnyH_take (i := 5) (v := ?vv17) rfl (by kernel_rfl) (by kernel_rfl) (by kernel_rfl) (fun _ _ _ h => h) (Or.inl ⟨by rfl, ?hy17⟩) (by assumption) ?rest17
          case hy17 => (intro w hSw; (try dsimp only at hSw); go_simp; first | done | with_reducible rfl)
          try simp only [Act.put, List.getElem_toArray, List.getElem_cons_succ, List.getElem_cons_zero, List.setIfInBounds_toArray, List.set_cons_zero, List.set_cons_succ]
          refine wpAnyH_take (i := 6) (v := ?vv18) rfl (by kernel_rfl) (by kernel_rfl) (by kernel_rfl) (fun _ _ _ h => h) (Or.inl ⟨by rfl, ?hy18⟩) (by assumption) ?rest18
          case hy18 => (intro w hSw; (try dsimp only at hSw); go_simp; first | done | with_reducible rfl)
          try simp only [Act.put, List.getElem_toArray, List.getElem_cons_succ, List.getElem_cons_zero, List.setIfInBounds_toArray, List.set_cons_zero, List.set_cons_succ]
          refine wpAnyH_take (i := 7) (v := ?vv19) rfl (by kernel_rfl) (by kernel_rfl) (by kernel_rfl) (fun _ _ _ h => h) (Or.inl ⟨by rfl, ?hy19⟩) (by assumption) ?rest19
          case hy19 => (intro w hSw; (try dsimp only at hSw); go_simp; first | done | with_reducible rfl)
          try simp only [Act.put, List.getElem_toArray, List.getElem_cons_succ, List.getElem_cons_zero, List.setIfInBounds_toArray, List.set_cons_zero, List.set_cons_succ]
          refine wpAnyH_take (i := 8) (v := ?vv20) rfl (by kernel_rfl) (by kernel_rfl) (by kernel_rfl) (fun _ _ _ h => h) (Or.inl ⟨by rfl, ?hy20⟩) (by assumption) ?rest20
          case hy20 => (intro w hSw; (try dsimp only at hSw); go_simp; first | done | with_reducible rfl)
          try simp only [Act.put, List.getElem_toArray, List.getElem_cons_succ, List.getElem_cons_zero, List.setIfInBounds_toArray, List.set_cons_zero, List.set_cons_succ]
          refine wpAnyH_take (i := 9) (v := ?vv21) rfl (by kernel_rfl) (by kernel_rfl) (by kernel_rfl) (fun _ _ _ h => h) (Or.inl ⟨by rfl, ?hy21⟩) (by assumption) ?rest21
          case hy21 => (intro w hSw; (try dsimp only at hSw); go_simp; first | done | with_reducible rfl)
          try simp only [Act.put, List.getElem_toArray, List.getElem_cons_succ, List.getElem_cons_zero, List.setIfInBounds_toArray, List.set_cons_zero, List.set_cons_succ]
          refine wpAnyH_take (i := 10) (v := ?vv22) rfl (by kernel_rfl) (by kernel_rfl) (by kernel_rfl) (fun _ _ _ h => h) (Or.inl ⟨by rfl, ?hy22⟩) (by assumption) ?rest22
          case hy22 => (intro w hSw; (try dsimp only at hSw); go_simp; first | done | with_reducible rfl)
          try simp only [Act.put, List.getElem_toArray, List.getElem_cons_succ, List.getElem_cons_zero, List.setIfInBounds_toArray, List.set_cons_zero, List.set_cons_succ]
          refine wpAnyH_done (by kernel_rfl) ?_ _
          have HB2 := hid (below_on HB.out B0.out)
          clear ZW B0 nq
          go_wp2_with fail
          have hlt := HLT.out
          exact ⟨⟨k + 1, hlt, by first | rw [hwk] | rfl | simp, HB2⟩, by (try rw [hwk]); simp [intOf]; omega⟩
        · have hd : decide ((k : Int) < (ks.length : Int)) = false := decide_eq_false (by omega)
          have hd2 : decide (k < ks.length) = false := decide_eq_false hlt
          have BE := hid (below_on BA.out HB.out)
          clear hlt hk HK HEK HB
          go_wp2
          go_ret
          exact ⟨rfl, BE.out⟩
end Go.Proofs.YtikkpfchbcfhlaaGreat
namespace Go.Proofs.YtikkpfchbcfhlaaGreat
open Go.RowKit Go.Maps
set_option linter.unusedVariables false
set_option linter.unusedSimpArgs false

set_option maxRecDepth 100000 in
set_option maxHeartbeats 4000000 in
theorem rsm_f0 (p1 k1 p2 k2 : Value) (c d : Cm) (w : World) (h1 : PcI w p1 c.ps) (g1 : PkI w k1 c.ks) (h2 : PcI w p2 d.ps) (g2 : PkI w k2 d.ks) (hlp : c.ps.length ≤ 8796093022208) (hlk : c.ks.length ≤ 8796093022208) (e0 : ¬ c.kd = d.kd) : Calls Tryz.prog 17 #[cmV p1 k1 c, cmV p2 k2 d] w fun e w' => e = .returned (.bool false) ∧ Below w.heap.size w w' := by
  obtain ⟨pa1, pc1, rfl, f1⟩ := h1.form
  obtain ⟨ka1, kc1, rfl, f2⟩ := g1.form
  obtain ⟨pa2, pc2, rfl, f3⟩ := h2.form
  obtain ⟨ka2, kc2, rfl, f4⟩ := g2.form
  clear h1 g1 h2 g2 f1 f2 f3 f4
  unfold cmV
  obtain ⟨kd, tk, bk, ky, id, n, sm, ps, ks⟩ := c
  obtain ⟨kd2, tk2, bk2, ky2, id2, n2, sm2, ps2, ks2⟩ := d
  simp only at *
  generalize ps.length = pn at *
  generalize ks.length = kn at *
  generalize ps2.length = pn2 at *
  generalize ks2.length = kn2 at *
  have BA := hid (below_al (below_al (Below.refl w.heap.size w) (.cells #[.int .i64 kd, .string tk, .string bk, .string ky, .int .i64 id, .int .i64 n, .string sm, .slice pa1 pn pc1, .slice ka1 kn kc1] 34)) (.cells #[.int .i64 kd2, .string tk2, .string bk2, .string ky2, .int .i64 id2, .int .i64 n2, .string sm2, .slice pa2 pn2 pc2, .slice ka2 kn2 kc2] 34))
  have ZC : Hid (∀ W, Below ((w.alloc (.cells #[.int .i64 kd, .string tk, .string bk, .string ky, .int .i64 id, .int .i64 n, .string sm, .slice pa1 pn pc1, .slice ka1 kn kc1] 34)).alloc (.cells #[.int .i64 kd2, .string tk2, .string bk2, .string ky2, .int .i64 id2, .int .i64 n2, .string sm2, .slice pa2 pn2 pc2, .slice ka2 kn2 kc2] 34)).heap.size ((w.alloc (.cells #[.int .i64 kd, .string tk, .string bk, .string ky, .int .i64 id, .int .i64 n, .string sm, .slice pa1 pn pc1, .slice ka1 kn kc1] 34)).alloc (.cells #[.int .i64 kd2, .string tk2, .string bk2, .string ky2, .int .i64 id2, .int .i64 n2, .string sm2, .slice pa2 pn2 pc2, .slice ka2 kn2 kc2] 34)) W → W.cell? ⟨w.heap.size, 0, none⟩ = some (.int .i64 kd) ∧ W.cell? ⟨w.heap.size, 1, none⟩ = some (.string tk) ∧ W.cell? ⟨w.heap.size, 2, none⟩ = some (.string bk) ∧ W.cell? ⟨w.heap.size, 3, none⟩ = some (.string ky) ∧ W.cell? ⟨w.heap.size, 4, none⟩ = some (.int .i64 id) ∧ W.cell? ⟨w.heap.size, 5, none⟩ = some (.int .i64 n) ∧ W.cell? ⟨w.heap.size, 6, none⟩ = some (.string sm) ∧ W.cell? ⟨w.heap.size, 7, none⟩ = some (.slice pa1 pn pc1) ∧ W.cell? ⟨w.heap.size, 8, none⟩ = some (.slice ka1 kn kc1) ∧ W.cell? ⟨w.heap.size + 1, 0, none⟩ = some (.int .i64 kd2) ∧ W.cell? ⟨w.heap.size + 1, 1, none⟩ = some (.string tk2) ∧ W.cell? ⟨w.heap.size + 1, 2, none⟩ = some (.string bk2) ∧ W.cell? ⟨w.heap.size + 1, 3, none⟩ = some (.string ky2) ∧ W.cell? ⟨w.heap.size + 1, 4, none⟩ = some (.int .i64 id2) ∧ W.cell? ⟨w.heap.size + 1, 5, none⟩ = some (.int .i64 n2) ∧ W.cell? ⟨w.heap.size + 1, 6, none⟩ = some (.string sm2) ∧ W.cell? ⟨w.heap.size + 1, 7, none⟩ = some (.slice pa2 pn2 pc2) ∧ W.cell? ⟨w.heap.size + 1, 8, none⟩ = some (.slice ka2 kn2 kc2)) := fun W hW => by
    have q := (row_old (srow w [.int .i64 kd, .string tk, .string bk, .string ky, .int .i64 id, .int .i64 n, .string sm, .slice pa1 pn pc1, .slice ka1 kn kc1] 34) (.cells #[.int .i64 kd2, .string tk2, .string bk2, .string ky2, .int .i64 id2, .int .i64 n2, .string sm2, .slice pa2 pn2 pc2, .slice ka2 kn2 kc2] 34)).keep (hW.keep (fun _ => False)) (fun h => h)
    have r := srow (w.alloc (.cells #[.int .i64 kd, .string tk, .string bk, .string ky, .int .i64 id, .int .i64 n, .string sm, .slice pa1 pn pc1, .slice ka1 kn kc1] 34)) [.int .i64 kd2, .string tk2, .string bk2, .string ky2, .int .i64 id2, .int .i64 n2, .string sm2, .slice pa2 pn2 pc2, .slice ka2 kn2 kc2] 34
    rw [show (w.alloc (.cells #[.int .i64 kd, .string tk, .string bk, .string ky, .int .i64 id, .int .i64 n, .string sm, .slice pa1 pn pc1, .slice ka1 kn kc1] 34)).heap.size = w.heap.size + 1 from by simp] at r
    replace r := r.keep (hW.keep (fun _ => False)) (fun h => h)
    exact ⟨q.cellAt rfl, q.cellAt rfl, q.cellAt rfl, q.cellAt rfl, q.cellAt rfl, q.cellAt rfl, q.cellAt rfl, q.cellAt rfl, q.cellAt rfl, r.cellAt rfl, r.cellAt rfl, r.cellAt rfl, r.cellAt rfl, r.cellAt rfl, r.cellAt rfl, r.cellAt rfl, r.cellAt rfl, r.cellAt rfl⟩
  obtain ⟨y0, y1, y2, y3, y4, y5, y6, y7, y8, z0, z1, z2, z3, z4, z5, z6, z7, z8⟩ := ZC.out _ (Below.refl _ _)
  have q0 : (kd != kd2) = true := by simp [e0]
  clear e0
  go_enter Tryz.func17, Tryz.ntmps17
  go_wp2
  go_ret
  exact ⟨rfl, BA.out⟩
set_option maxRecDepth 100000 in
set_option maxHeartbeats 4000000 in
theorem rsm_f1 (p1 k1 p2 k2 : Value) (c d : Cm) (w : World) (h1 : PcI w p1 c.ps) (g1 : PkI w k1 c.ks) (h2 : PcI w p2 d.ps) (g2 : PkI w k2 d.ks) (hlp : c.ps.length ≤ 8796093022208) (hlk : c.ks.length ≤ 8796093022208) (e0 : c.kd = d.kd) (e1 : ¬ c.tk = d.tk) : Calls Tryz.prog 17 #[cmV p1 k1 c, cmV p2 k2 d] w fun e w' => e = .returned (.bool false) ∧ Below w.heap.size w w' := by
  obtain ⟨pa1, pc1, rfl, f1⟩ := h1.form
  obtain ⟨ka1, kc1, rfl, f2⟩ := g1.form
  obtain ⟨pa2, pc2, rfl, f3⟩ := h2.form
  obtain ⟨ka2, kc2, rfl, f4⟩ := g2.form
  clear h1 g1 h2 g2 f1 f2 f3 f4
  unfold cmV
  obtain ⟨kd, tk, bk, ky, id, n, sm, ps, ks⟩ := c
  obtain ⟨kd2, tk2, bk2, ky2, id2, n2, sm2, ps2, ks2⟩ := d
  simp only at *
  subst e0
  generalize ps.length = pn at *
  generalize ks.length = kn at *
  generalize ps2.length = pn2 at *
  generalize ks2.length = kn2 at *
  have BA := hid (below_al (below_al (Below.refl w.heap.size w) (.cells #[.int .i64 kd, .string tk, .string bk, .string ky, .int .i64 id, .int .i64 n, .string sm, .slice pa1 pn pc1, .slice ka1 kn kc1] 34)) (.cells #[.int .i64 kd, .string tk2, .string bk2, .string ky2, .int .i64 id2, .int .i64 n2, .string sm2, .slice pa2 pn2 pc2, .slice ka2 kn2 kc2] 34))
  have ZC : Hid (∀ W, Below ((w.alloc (.cells #[.int .i64 kd, .string tk, .string bk, .string ky, .int .i64 id, .int .i64 n, .string sm, .slice pa1 pn pc1, .slice ka1 kn kc1] 34)).alloc (.cells #[.int .i64 kd, .string tk2, .string bk2, .string ky2, .int .i64 id2, .int .i64 n2, .string sm2, .slice pa2 pn2 pc2, .slice ka2 kn2 kc2] 34)).heap.size ((w.alloc (.cells #[.int .i64 kd, .string tk, .string bk, .string ky, .int .i64 id, .int .i64 n, .string sm, .slice pa1 pn pc1, .slice ka1 kn kc1] 34)).alloc (.cells #[.int .i64 kd, .string tk2, .string bk2, .string ky2, .int .i64 id2, .int .i64 n2, .string sm2, .slice pa2 pn2 pc2, .slice ka2 kn2 kc2] 34)) W → W.cell? ⟨w.heap.size, 0, none⟩ = some (.int .i64 kd) ∧ W.cell? ⟨w.heap.size, 1, none⟩ = some (.string tk) ∧ W.cell? ⟨w.heap.size, 2, none⟩ = some (.string bk) ∧ W.cell? ⟨w.heap.size, 3, none⟩ = some (.string ky) ∧ W.cell? ⟨w.heap.size, 4, none⟩ = some (.int .i64 id) ∧ W.cell? ⟨w.heap.size, 5, none⟩ = some (.int .i64 n) ∧ W.cell? ⟨w.heap.size, 6, none⟩ = some (.string sm) ∧ W.cell? ⟨w.heap.size, 7, none⟩ = some (.slice pa1 pn pc1) ∧ W.cell? ⟨w.heap.size, 8, none⟩ = some (.slice ka1 kn kc1) ∧ W.cell? ⟨w.heap.size + 1, 0, none⟩ = some (.int .i64 kd) ∧ W.cell? ⟨w.heap.size + 1, 1, none⟩ = some (.string tk2) ∧ W.cell? ⟨w.heap.size + 1, 2, none⟩ = some (.string bk2) ∧ W.cell? ⟨w.heap.size + 1, 3, none⟩ = some (.string ky2) ∧ W.cell? ⟨w.heap.size + 1, 4, none⟩ = some (.int .i64 id2) ∧ W.cell? ⟨w.heap.size + 1, 5, none⟩ = some (.int .i64 n2) ∧ W.cell? ⟨w.heap.size + 1, 6, none⟩ = some (.string sm2) ∧ W.cell? ⟨w.heap.size + 1, 7, none⟩ = some (.slice pa2 pn2 pc2) ∧ W.cell? ⟨w.heap.size + 1, 8, none⟩ = some (.slice ka2 kn2 kc2)) := fun W hW => by
    have q := (row_old (srow w [.int .i64 kd, .string tk, .string bk, .string ky, .int .i64 id, .int .i64 n, .string sm, .slice pa1 pn pc1, .slice ka1 kn kc1] 34) (.cells #[.int .i64 kd, .string tk2, .string bk2, .string ky2, .int .i64 id2, .int .i64 n2, .string sm2, .slice pa2 pn2 pc2, .slice ka2 kn2 kc2] 34)).keep (hW.keep (fun _ => False)) (fun h => h)
    have r := srow (w.alloc (.cells #[.int .i64 kd, .string tk, .string bk, .string ky, .int .i64 id, .int .i64 n, .string sm, .slice pa1 pn pc1, .slice ka1 kn kc1] 34)) [.int .i64 kd, .string tk2, .string bk2, .string ky2, .int .i64 id2, .int .i64 n2, .string sm2, .slice pa2 pn2 pc2, .slice ka2 kn2 kc2] 34
    rw [show (w.alloc (.cells #[.int .i64 kd, .string tk, .string bk, .string ky, .int .i64 id, .int .i64 n, .string sm, .slice pa1 pn pc1, .slice ka1 kn kc1] 34)).heap.size = w.heap.size + 1 from by simp] at r
    replace r := r.keep (hW.keep (fun _ => False)) (fun h => h)
    exact ⟨q.cellAt rfl, q.cellAt rfl, q.cellAt rfl, q.cellAt rfl, q.cellAt rfl, q.cellAt rfl, q.cellAt rfl, q.cellAt rfl, q.cellAt rfl, r.cellAt rfl, r.cellAt rfl, r.cellAt rfl, r.cellAt rfl, r.cellAt rfl, r.cellAt rfl, r.cellAt rfl, r.cellAt rfl, r.cellAt rfl⟩
  obtain ⟨y0, y1, y2, y3, y4, y5, y6, y7, y8, z0, z1, z2, z3, z4, z5, z6, z7, z8⟩ := ZC.out _ (Below.refl _ _)
  have q0 : (kd != kd) = false := by simp
  have q1a : ¬ tk.toList = tk2.toList := fun h => e1 (bytesInj16 h)
  have q1 : (tk.toList != tk2.toList) = true := by simp [q1a]
  clear e1
  go_enter Tryz.func17, Tryz.ntmps17
  go_wp2
  go_ret
  exact ⟨rfl, BA.out⟩
set_option maxRecDepth 100000 in
set_option maxHeartbeats 4000000 in
theorem rsm_f2 (p1 k1 p2 k2 : Value) (c d : Cm) (w : World) (h1 : PcI w p1 c.ps) (g1 : PkI w k1 c.ks) (h2 : PcI w p2 d.ps) (g2 : PkI w k2 d.ks) (hlp : c.ps.length ≤ 8796093022208) (hlk : c.ks.length ≤ 8796093022208) (e0 : c.kd = d.kd) (e1 : c.tk = d.tk) (e2 : ¬ c.bk = d.bk) : Calls Tryz.prog 17 #[cmV p1 k1 c, cmV p2 k2 d] w fun e w' => e = .returned (.bool false) ∧ Below w.heap.size w w' := by
  obtain ⟨pa1, pc1, rfl, f1⟩ := h1.form
  obtain ⟨ka1, kc1, rfl, f2⟩ := g1.form
  obtain ⟨pa2, pc2, rfl, f3⟩ := h2.form
  obtain ⟨ka2, kc2, rfl, f4⟩ := g2.form
  clear h1 g1 h2 g2 f1 f2 f3 f4
  unfold cmV
  obtain ⟨kd, tk, bk, ky, id, n, sm, ps, ks⟩ := c
  obtain ⟨kd2, tk2, bk2, ky2, id2, n2, sm2, ps2, ks2⟩ := d
  simp only at *
  subst e0
  subst e1
  generalize ps.length = pn at *
  generalize ks.length = kn at *
  generalize ps2.length = pn2 at *
  generalize ks2.length = kn2 at *
  have BA := hid (below_al (below_al (Below.refl w.heap.size w) (.cells #[.int .i64 kd, .string tk, .string bk, .string ky, .int .i64 id, .int .i64 n, .string sm, .slice pa1 pn pc1, .slice ka1 kn kc1] 34)) (.cells #[.int .i64 kd, .string tk, .string bk2, .string ky2, .int .i64 id2, .int .i64 n2, .string sm2, .slice pa2 pn2 pc2, .slice ka2 kn2 kc2] 34))
  have ZC : Hid (∀ W, Below ((w.alloc (.cells #[.int .i64 kd, .string tk, .string bk, .string ky, .int .i64 id, .int .i64 n, .string sm, .slice pa1 pn pc1, .slice ka1 kn kc1] 34)).alloc (.cells #[.int .i64 kd, .string tk, .string bk2, .string ky2, .int .i64 id2, .int .i64 n2, .string sm2, .slice pa2 pn2 pc2, .slice ka2 kn2 kc2] 34)).heap.size ((w.alloc (.cells #[.int .i64 kd, .string tk, .string bk, .string ky, .int .i64 id, .int .i64 n, .string sm, .slice pa1 pn pc1, .slice ka1 kn kc1] 34)).alloc (.cells #[.int .i64 kd, .string tk, .string bk2, .string ky2, .int .i64 id2, .int .i64 n2, .string sm2, .slice pa2 pn2 pc2, .slice ka2 kn2 kc2] 34)) W → W.cell? ⟨w.heap.size, 0, none⟩ = some (.int .i64 kd) ∧ W.cell? ⟨w.heap.size, 1, none⟩ = some (.string tk) ∧ W.cell? ⟨w.heap.size, 2, none⟩ = some (.string bk) ∧ W.cell? ⟨w.heap.size, 3, none⟩ = some (.string ky) ∧ W.cell? ⟨w.heap.size, 4, none⟩ = some (.int .i64 id) ∧ W.cell? ⟨w.heap.size, 5, none⟩ = some (.int .i64 n) ∧ W.cell? ⟨w.heap.size, 6, none⟩ = some (.string sm) ∧ W.cell? ⟨w.heap.size, 7, none⟩ = some (.slice pa1 pn pc1) ∧ W.cell? ⟨w.heap.size, 8, none⟩ = some (.slice ka1 kn kc1) ∧ W.cell? ⟨w.heap.size + 1, 0, none⟩ = some (.int .i64 kd) ∧ W.cell? ⟨w.heap.size + 1, 1, none⟩ = some (.string tk) ∧ W.cell? ⟨w.heap.size + 1, 2, none⟩ = some (.string bk2) ∧ W.cell? ⟨w.heap.size + 1, 3, none⟩ = some (.string ky2) ∧ W.cell? ⟨w.heap.size + 1, 4, none⟩ = some (.int .i64 id2) ∧ W.cell? ⟨w.heap.size + 1, 5, none⟩ = some (.int .i64 n2) ∧ W.cell? ⟨w.heap.size + 1, 6, none⟩ = some (.string sm2) ∧ W.cell? ⟨w.heap.size + 1, 7, none⟩ = some (.slice pa2 pn2 pc2) ∧ W.cell? ⟨w.heap.size + 1, 8, none⟩ = some (.slice ka2 kn2 kc2)) := fun W hW => by
    have q := (row_old (srow w [.int .i64 kd, .string tk, .string bk, .string ky, .int .i64 id, .int .i64 n, .string sm, .slice pa1 pn pc1, .slice ka1 kn kc1] 34) (.cells #[.int .i64 kd, .string tk, .string bk2, .string ky2, .int .i64 id2, .int .i64 n2, .string sm2, .slice pa2 pn2 pc2, .slice ka2 kn2 kc2] 34)).keep (hW.keep (fun _ => False)) (fun h => h)
    have r := srow (w.alloc (.cells #[.int .i64 kd, .string tk, .string bk, .string ky, .int .i64 id, .int .i64 n, .string sm, .slice pa1 pn pc1, .slice ka1 kn kc1] 34)) [.int .i64 kd, .string tk, .string bk2, .string ky2, .int .i64 id2, .int .i64 n2, .string sm2, .slice pa2 pn2 pc2, .slice ka2 kn2 kc2] 34
    rw [show (w.alloc (.cells #[.int .i64 kd, .string tk, .string bk, .string ky, .int .i64 id, .int .i64 n, .string sm, .slice pa1 pn pc1, .slice ka1 kn kc1] 34)).heap.size = w.heap.size + 1 from by simp] at r
    replace r := r.keep (hW.keep (fun _ => False)) (fun h => h)
    exact ⟨q.cellAt rfl, q.cellAt rfl, q.cellAt rfl, q.cellAt rfl, q.cellAt rfl, q.cellAt rfl, q.cellAt rfl, q.cellAt rfl, q.cellAt rfl, r.cellAt rfl, r.cellAt rfl, r.cellAt rfl, r.cellAt rfl, r.cellAt rfl, r.cellAt rfl, r.cellAt rfl, r.cellAt rfl, r.cellAt rfl⟩
  obtain ⟨y0, y1, y2, y3, y4, y5, y6, y7, y8, z0, z1, z2, z3, z4, z5, z6, z7, z8⟩ := ZC.out _ (Below.refl _ _)
  have q0 : (kd != kd) = false := by simp
  have q1 : (tk.toList != tk.toList) = false := by simp
  have q2a : ¬ bk.toList = bk2.toList := fun h => e2 (bytesInj16 h)
  have q2 : (bk.toList != bk2.toList) = true := by simp [q2a]
  clear e2
  go_enter Tryz.func17, Tryz.ntmps17
  go_wp2
  go_ret
  exact ⟨rfl, BA.out⟩
set_option maxRecDepth 100000 in
set_option maxHeartbeats 4000000 in
theorem rsm_f3 (p1 k1 p2 k2 : Value) (c d : Cm) (w : World) (h1 : PcI w p1 c.ps) (g1 : PkI w k1 c.ks) (h2 : PcI w p2 d.ps) (g2 : PkI w k2 d.ks) (hlp : c.ps.length ≤ 8796093022208) (hlk : c.ks.length ≤ 8796093022208) (e0 : c.kd = d.kd) (e1 : c.tk = d.tk) (e2 : c.bk = d.bk) (e3 : ¬ c.ky = d.ky) : Calls Tryz.prog 17 #[cmV p1 k1 c, cmV p2 k2 d] w fun e w' => e = .returned (.bool false) ∧ Below w.heap.size w w' := by
  obtain ⟨pa1, pc1, rfl, f1⟩ := h1.form
  obtain ⟨ka1, kc1, rfl, f2⟩ := g1.form
  obtain ⟨pa2, pc2, rfl, f3⟩ := h2.form
  obtain ⟨ka2, kc2, rfl, f4⟩ := g2.form
  clear h1 g1 h2 g2 f1 f2 f3 f4
  unfold cmV
  obtain ⟨kd, tk, bk, ky, id, n, sm, ps, ks⟩ := c
  obtain ⟨kd2, tk2, bk2, ky2, id2, n2, sm2, ps2, ks2⟩ := d
  simp only at *
  subst e0
  subst e1
  subst e2
  generalize ps.length = pn at *
  generalize ks.length = kn at *
  generalize ps2.length = pn2 at *
  generalize ks2.length = kn2 at *
  have BA := hid (below_al (below_al (Below.refl w.heap.size w) (.cells #[.int .i64 kd, .string tk, .string bk, .string ky, .int .i64 id, .int .i64 n, .string sm, .slice pa1 pn pc1, .slice ka1 kn kc1] 34)) (.cells #[.int .i64 kd, .string tk, .string bk, .string ky2, .int .i64 id2, .int .i64 n2, .string sm2, .slice pa2 pn2 pc2, .slice ka2 kn2 kc2] 34))
  have ZC : Hid (∀ W, Below ((w.alloc (.cells #[.int .i64 kd, .string tk, .string bk, .string ky, .int .i64 id, .int .i64 n, .string sm, .slice pa1 pn pc1, .slice ka1 kn kc1] 34)).alloc (.cells #[.int .i64 kd, .string tk, .string bk, .string ky2, .int .i64 id2, .int .i64 n2, .string sm2, .slice pa2 pn2 pc2, .slice ka2 kn2 kc2] 34)).heap.size ((w.alloc (.cells #[.int .i64 kd, .string tk, .string bk, .string ky, .int .i64 id, .int .i64 n, .string sm, .slice pa1 pn pc1, .slice ka1 kn kc1] 34)).alloc (.cells #[.int .i64 kd, .string tk, .string bk, .string ky2, .int .i64 id2, .int .i64 n2, .string sm2, .slice pa2 pn2 pc2, .slice ka2 kn2 kc2] 34)) W → W.cell? ⟨w.heap.size, 0, none⟩ = some (.int .i64 kd) ∧ W.cell? ⟨w.heap.size, 1, none⟩ = some (.string tk) ∧ W.cell? ⟨w.heap.size, 2, none⟩ = some (.string bk) ∧ W.cell? ⟨w.heap.size, 3, none⟩ = some (.string ky) ∧ W.cell? ⟨w.heap.size, 4, none⟩ = some (.int .i64 id) ∧ W.cell? ⟨w.heap.size, 5, none⟩ = some (.int .i64 n) ∧ W.cell? ⟨w.heap.size, 6, none⟩ = some (.string sm) ∧ W.cell? ⟨w.heap.size, 7, none⟩ = some (.slice pa1 pn pc1) ∧ W.cell? ⟨w.heap.size, 8, none⟩ = some (.slice ka1 kn kc1) ∧ W.cell? ⟨w.heap.size + 1, 0, none⟩ = some (.int .i64 kd) ∧ W.cell? ⟨w.heap.size + 1, 1, none⟩ = some (.string tk) ∧ W.cell? ⟨w.heap.size + 1, 2, none⟩ = some (.string bk) ∧ W.cell? ⟨w.heap.size + 1, 3, none⟩ = some (.string ky2) ∧ W.cell? ⟨w.heap.size + 1, 4, none⟩ = some (.int .i64 id2) ∧ W.cell? ⟨w.heap.size + 1, 5, none⟩ = some (.int .i64 n2) ∧ W.cell? ⟨w.heap.size + 1, 6, none⟩ = some (.string sm2) ∧ W.cell? ⟨w.heap.size + 1, 7, none⟩ = some (.slice pa2 pn2 pc2) ∧ W.cell? ⟨w.heap.size + 1, 8, none⟩ = some (.slice ka2 kn2 kc2)) := fun W hW => by
    have q := (row_old (srow w [.int .i64 kd, .string tk, .string bk, .string ky, .int .i64 id, .int .i64 n, .string sm, .slice pa1 pn pc1, .slice ka1 kn kc1] 34) (.cells #[.int .i64 kd, .string tk, .string bk, .string ky2, .int .i64 id2, .int .i64 n2, .string sm2, .slice pa2 pn2 pc2, .slice ka2 kn2 kc2] 34)).keep (hW.keep (fun _ => False)) (fun h => h)
    have r := srow (w.alloc (.cells #[.int .i64 kd, .string tk, .string bk, .string ky, .int .i64 id, .int .i64 n, .string sm, .slice pa1 pn pc1, .slice ka1 kn kc1] 34)) [.int .i64 kd, .string tk, .string bk, .string ky2, .int .i64 id2, .int .i64 n2, .string sm2, .slice pa2 pn2 pc2, .slice ka2 kn2 kc2] 34
    rw [show (w.alloc (.cells #[.int .i64 kd, .string tk, .string bk, .string ky, .int .i64 id, .int .i64 n, .string sm, .slice pa1 pn pc1, .slice ka1 kn kc1] 34)).heap.size = w.heap.size + 1 from by simp] at r
    replace r := r.keep (hW.keep (fun _ => False)) (fun h => h)
    exact ⟨q.cellAt rfl, q.cellAt rfl, q.cellAt rfl, q.cellAt rfl, q.cellAt rfl, q.cellAt rfl, q.cellAt rfl, q.cellAt rfl, q.cellAt rfl, r.cellAt rfl, r.cellAt rfl, r.cellAt rfl, r.cellAt rfl, r.cellAt rfl, r.cellAt rfl, r.cellAt rfl, r.cellAt rfl, r.cellAt rfl⟩
  obtain ⟨y0, y1, y2, y3, y4, y5, y6, y7, y8, z0, z1, z2, z3, z4, z5, z6, z7, z8⟩ := ZC.out _ (Below.refl _ _)
  have q0 : (kd != kd) = false := by simp
  have q1 : (tk.toList != tk.toList) = false := by simp
  have q2 : (bk.toList != bk.toList) = false := by simp
  have q3a : ¬ ky.toList = ky2.toList := fun h => e3 (bytesInj16 h)
  have q3 : (ky.toList != ky2.toList) = true := by simp [q3a]
  clear e3
  go_enter Tryz.func17, Tryz.ntmps17
  go_wp2
  go_ret
  exact ⟨rfl, BA.out⟩
set_option maxRecDepth 100000 in
set_option maxHeartbeats 4000000 in
theorem rsm_f4 (p1 k1 p2 k2 : Value) (c d : Cm) (w : World) (h1 : PcI w p1 c.ps) (g1 : PkI w k1 c.ks) (h2 : PcI w p2 d.ps) (g2 : PkI w k2 d.ks) (hlp : c.ps.length ≤ 8796093022208) (hlk : c.ks.length ≤ 8796093022208) (e0 : c.kd = d.kd) (e1 : c.tk = d.tk) (e2 : c.bk = d.bk) (e3 : c.ky = d.ky) (e4 : ¬ c.id = d.id) : Calls Tryz.prog 17 #[cmV p1 k1 c, cmV p2 k2 d] w fun e w' => e = .returned (.bool false) ∧ Below w.heap.size w w' := by
  obtain ⟨pa1, pc1, rfl, f1⟩ := h1.form
  obtain ⟨ka1, kc1, rfl, f2⟩ := g1.form
  obtain ⟨pa2, pc2, rfl, f3⟩ := h2.form
  obtain ⟨ka2, kc2, rfl, f4⟩ := g2.form
  clear h1 g1 h2 g2 f1 f2 f3 f4
  unfold cmV
  obtain ⟨kd, tk, bk, ky, id, n, sm, ps, ks⟩ := c
  obtain ⟨kd2, tk2, bk2, ky2, id2, n2, sm2, ps2, ks2⟩ := d
  simp only at *
  subst e0
  subst e1
  subst e2
  subst e3
  generalize ps.length = pn at *
  generalize ks.length = kn at *
  generalize ps2.length = pn2 at *
  generalize ks2.length = kn2 at *
  have BA := hid (below_al (below_al (Below.refl w.heap.size w) (.cells #[.int .i64 kd, .string tk, .string bk, .string ky, .int .i64 id, .int .i64 n, .string sm, .slice pa1 pn pc1, .slice ka1 kn kc1] 34)) (.cells #[.int .i64 kd, .string tk, .string bk, .string ky, .int .i64 id2, .int .i64 n2, .string sm2, .slice pa2 pn2 pc2, .slice ka2 kn2 kc2] 34))
  have ZC : Hid (∀ W, Below ((w.alloc (.cells #[.int .i64 kd, .string tk, .string bk, .string ky, .int .i64 id, .int .i64 n, .string sm, .slice pa1 pn pc1, .slice ka1 kn kc1] 34)).alloc (.cells #[.int .i64 kd, .string tk, .string bk, .string ky, .int .i64 id2, .int .i64 n2, .string sm2, .slice pa2 pn2 pc2, .slice ka2 kn2 kc2] 34)).heap.size ((w.alloc (.cells #[.int .i64 kd, .string tk, .string bk, .string ky, .int .i64 id, .int .i64 n, .string sm, .slice pa1 pn pc1, .slice ka1 kn kc1] 34)).alloc (.cells #[.int .i64 kd, .string tk, .string bk, .string ky, .int .i64 id2, .int .i64 n2, .string sm2, .slice pa2 pn2 pc2, .slice ka2 kn2 kc2] 34)) W → W.cell? ⟨w.heap.size, 0, none⟩ = some (.int .i64 kd) ∧ W.cell? ⟨w.heap.size, 1, none⟩ = some (.string tk) ∧ W.cell? ⟨w.heap.size, 2, none⟩ = some (.string bk) ∧ W.cell? ⟨w.heap.size, 3, none⟩ = some (.string ky) ∧ W.cell? ⟨w.heap.size, 4, none⟩ = some (.int .i64 id) ∧ W.cell? ⟨w.heap.size, 5, none⟩ = some (.int .i64 n) ∧ W.cell? ⟨w.heap.size, 6, none⟩ = some (.string sm) ∧ W.cell? ⟨w.heap.size, 7, none⟩ = some (.slice pa1 pn pc1) ∧ W.cell? ⟨w.heap.size, 8, none⟩ = some (.slice ka1 kn kc1) ∧ W.cell? ⟨w.heap.size + 1, 0, none⟩ = some (.int .i64 kd) ∧ W.cell? ⟨w.heap.size + 1, 1, none⟩ = some (.string tk) ∧ W.cell? ⟨w.heap.size + 1, 2, none⟩ = some (.string bk) ∧ W.cell? ⟨w.heap.size + 1, 3, none⟩ = some (.string ky) ∧ W.cell? ⟨w.heap.size + 1, 4, none⟩ = some (.int .i64 id2) ∧ W.cell? ⟨w.heap.size + 1, 5, none⟩ = some (.int .i64 n2) ∧ W.cell? ⟨w.heap.size + 1, 6, none⟩ = some (.string sm2) ∧ W.cell? ⟨w.heap.size + 1, 7, none⟩ = some (.slice pa2 pn2 pc2) ∧ W.cell? ⟨w.heap.size + 1, 8, none⟩ = some (.slice ka2 kn2 kc2)) := fun W hW => by
    have q := (row_old (srow w [.int .i64 kd, .string tk, .string bk, .string ky, .int .i64 id, .int .i64 n, .string sm, .slice pa1 pn pc1, .slice ka1 kn kc1] 34) (.cells #[.int .i64 kd, .string tk, .string bk, .string ky, .int .i64 id2, .int .i64 n2, .string sm2, .slice pa2 pn2 pc2, .slice ka2 kn2 kc2] 34)).keep (hW.keep (fun _ => False)) (fun h => h)
    have r := srow (w.alloc (.cells #[.int .i64 kd, .string tk, .string bk, .string ky, .int .i64 id, .int .i64 n, .string sm, .slice pa1 pn pc1, .slice ka1 kn kc1] 34)) [.int .i64 kd, .string tk, .string bk, .string ky, .int .i64 id2, .int .i64 n2, .string sm2, .slice pa2 pn2 pc2, .slice ka2 kn2 kc2] 34
    rw [show (w.alloc (.cells #[.int .i64 kd, .string tk, .string bk, .string ky, .int .i64 id, .int .i64 n, .string sm, .slice pa1 pn pc1, .slice ka1 kn kc1] 34)).heap.size = w.heap.size + 1 from by simp] at r
    replace r := r.keep (hW.keep (fun _ => False)) (fun h => h)
    exact ⟨q.cellAt rfl, q.cellAt rfl, q.cellAt rfl, q.cellAt rfl, q.cellAt rfl, q.cellAt rfl, q.cellAt rfl, q.cellAt rfl, q.cellAt rfl, r.cellAt rfl, r.cellAt rfl, r.cellAt rfl, r.cellAt rfl, r.cellAt rfl, r.cellAt rfl, r.cellAt rfl, r.cellAt rfl, r.cellAt rfl⟩
  obtain ⟨y0, y1, y2, y3, y4, y5, y6, y7, y8, z0, z1, z2, z3, z4, z5, z6, z7, z8⟩ := ZC.out _ (Below.refl _ _)
  have q0 : (kd != kd) = false := by simp
  have q1 : (tk.toList != tk.toList) = false := by simp
  have q2 : (bk.toList != bk.toList) = false := by simp
  have q3 : (ky.toList != ky.toList) = false := by simp
  have q4 : (id != id2) = true := by simp [e4]
  clear e4
  go_enter Tryz.func17, Tryz.ntmps17
  go_wp2
  go_ret
  exact ⟨rfl, BA.out⟩
set_option maxRecDepth 100000 in
set_option maxHeartbeats 4000000 in
theorem rsm_f5 (p1 k1 p2 k2 : Value) (c d : Cm) (w : World) (h1 : PcI w p1 c.ps) (g1 : PkI w k1 c.ks) (h2 : PcI w p2 d.ps) (g2 : PkI w k2 d.ks) (hlp : c.ps.length ≤ 8796093022208) (hlk : c.ks.length ≤ 8796093022208) (e0 : c.kd = d.kd) (e1 : c.tk = d.tk) (e2 : c.bk = d.bk) (e3 : c.ky = d.ky) (e4 : c.id = d.id) (e5 : ¬ c.n = d.n) : Calls Tryz.prog 17 #[cmV p1 k1 c, cmV p2 k2 d] w fun e w' => e = .returned (.bool false) ∧ Below w.heap.size w w' := by
  obtain ⟨pa1, pc1, rfl, f1⟩ := h1.form
  obtain ⟨ka1, kc1, rfl, f2⟩ := g1.form
  obtain ⟨pa2, pc2, rfl, f3⟩ := h2.form
  obtain ⟨ka2, kc2, rfl, f4⟩ := g2.form
  clear h1 g1 h2 g2 f1 f2 f3 f4
  unfold cmV
  obtain ⟨kd, tk, bk, ky, id, n, sm, ps, ks⟩ := c
  obtain ⟨kd2, tk2, bk2, ky2, id2, n2, sm2, ps2, ks2⟩ := d
  simp only at *
  subst e0
  subst e1
  subst e2
  subst e3
  subst e4
  generalize ps.length = pn at *
  generalize ks.length = kn at *
  generalize ps2.length = pn2 at *
  generalize ks2.length = kn2 at *
  have BA := hid (below_al (below_al (Below.refl w.heap.size w) (.cells #[.int .i64 kd, .string tk, .string bk, .string ky, .int .i64 id, .int .i64 n, .string sm, .slice pa1 pn pc1, .slice ka1 kn kc1] 34)) (.cells #[.int .i64 kd, .string tk, .string bk, .string ky, .int .i64 id, .int .i64 n2, .string sm2, .slice pa2 pn2 pc2, .slice ka2 kn2 kc2] 34))
  have ZC : Hid (∀ W, Below ((w.alloc (.cells #[.int .i64 kd, .string tk, .string bk, .string ky, .int .i64 id, .int .i64 n, .string sm, .slice pa1 pn pc1, .slice ka1 kn kc1] 34)).alloc (.cells #[.int .i64 kd, .string tk, .string bk, .string ky, .int .i64 id, .int .i64 n2, .string sm2, .slice pa2 pn2 pc2, .slice ka2 kn2 kc2] 34)).heap.size ((w.alloc (.cells #[.int .i64 kd, .string tk, .string bk, .string ky, .int .i64 id, .int .i64 n, .string sm, .slice pa1 pn pc1, .slice ka1 kn kc1] 34)).alloc (.cells #[.int .i64 kd, .string tk, .string bk, .string ky, .int .i64 id, .int .i64 n2, .string sm2, .slice pa2 pn2 pc2, .slice ka2 kn2 kc2] 34)) W → W.cell? ⟨w.heap.size, 0, none⟩ = some (.int .i64 kd) ∧ W.cell? ⟨w.heap.size, 1, none⟩ = some (.string tk) ∧ W.cell? ⟨w.heap.size, 2, none⟩ = some (.string bk) ∧ W.cell? ⟨w.heap.size, 3, none⟩ = some (.string ky) ∧ W.cell? ⟨w.heap.size, 4, none⟩ = some (.int .i64 id) ∧ W.cell? ⟨w.heap.size, 5, none⟩ = some (.int .i64 n) ∧ W.cell? ⟨w.heap.size, 6, none⟩ = some (.string sm) ∧ W.cell? ⟨w.heap.size, 7, none⟩ = some (.slice pa1 pn pc1) ∧ W.cell? ⟨w.heap.size, 8, none⟩ = some (.slice ka1 kn kc1) ∧ W.cell? ⟨w.heap.size + 1, 0, none⟩ = some (.int .i64 kd) ∧ W.cell? ⟨w.heap.size + 1, 1, none⟩ = some (.string tk) ∧ W.cell? ⟨w.heap.size + 1, 2, none⟩ = some (.string bk) ∧ W.cell? ⟨w.heap.size + 1, 3, none⟩ = some (.string ky) ∧ W.cell? ⟨w.heap.size + 1, 4, none⟩ = some (.int .i64 id) ∧ W.cell? ⟨w.heap.size + 1, 5, none⟩ = some (.int .i64 n2) ∧ W.cell? ⟨w.heap.size + 1, 6, none⟩ = some (.string sm2) ∧ W.cell? ⟨w.heap.size + 1, 7, none⟩ = some (.slice pa2 pn2 pc2) ∧ W.cell? ⟨w.heap.size + 1, 8, none⟩ = some (.slice ka2 kn2 kc2)) := fun W hW => by
    have q := (row_old (srow w [.int .i64 kd, .string tk, .string bk, .string ky, .int .i64 id, .int .i64 n, .string sm, .slice pa1 pn pc1, .slice ka1 kn kc1] 34) (.cells #[.int .i64 kd, .string tk, .string bk, .string ky, .int .i64 id, .int .i64 n2, .string sm2, .slice pa2 pn2 pc2, .slice ka2 kn2 kc2] 34)).keep (hW.keep (fun _ => False)) (fun h => h)
    have r := srow (w.alloc (.cells #[.int .i64 kd, .string tk, .string bk, .string ky, .int .i64 id, .int .i64 n, .string sm, .slice pa1 pn pc1, .slice ka1 kn kc1] 34)) [.int .i64 kd, .string tk, .string bk, .string ky, .int .i64 id, .int .i64 n2, .string sm2, .slice pa2 pn2 pc2, .slice ka2 kn2 kc2] 34
    rw [show (w.alloc (.cells #[.int .i64 kd, .string tk, .string bk, .string ky, .int .i64 id, .int .i64 n, .string sm, .slice pa1 pn pc1, .slice ka1 kn kc1] 34)).heap.size = w.heap.size + 1 from by simp] at r
    replace r := r.keep (hW.keep (fun _ => False)) (fun h => h)
    exact ⟨q.cellAt rfl, q.cellAt rfl, q.cellAt rfl, q.cellAt rfl, q.cellAt rfl, q.cellAt rfl, q.cellAt rfl, q.cellAt rfl, q.cellAt rfl, r.cellAt rfl, r.cellAt rfl, r.cellAt rfl, r.cellAt rfl, r.cellAt rfl, r.cellAt rfl, r.cellAt rfl, r.cellAt rfl, r.cellAt rfl⟩
  obtain ⟨y0, y1, y2, y3, y4, y5, y6, y7, y8, z0, z1, z2, z3, z4, z5, z6, z7, z8⟩ := ZC.out _ (Below.refl _ _)
  have q0 : (kd != kd) = false := by simp
  have q1 : (tk.toList != tk.toList) = false := by simp
  have q2 : (bk.toList != bk.toList) = false := by simp
  have q3 : (ky.toList != ky.toList) = false := by simp
  have q4 : (id != id) = false := by simp
  have q5 : (n != n2) = true := by simp [e5]
  clear e5
  go_enter Tryz.func17, Tryz.ntmps17
  go_wp2
  go_ret
  exact ⟨rfl, BA.out⟩
set_option maxRecDepth 100000 in
set_option maxHeartbeats 4000000 in
theorem rsm_f6 (p1 k1 p2 k2 : Value) (c d : Cm) (w : World) (h1 : PcI w p1 c.ps) (g1 : PkI w k1 c.ks) (h2 : PcI w p2 d.ps) (g2 : PkI w k2 d.ks) (hlp : c.ps.length ≤ 8796093022208) (hlk : c.ks.length ≤ 8796093022208) (e0 : c.kd = d.kd) (e1 : c.tk = d.tk) (e2 : c.bk = d.bk) (e3 : c.ky = d.ky) (e4 : c.id = d.id) (e5 : c.n = d.n) (e6 : ¬ c.sm = d.sm) : Calls Tryz.prog 17 #[cmV p1 k1 c, cmV p2 k2 d] w fun e w' => e = .returned (.bool false) ∧ Below w.heap.size w w' := by
  obtain ⟨pa1, pc1, rfl, f1⟩ := h1.form
  obtain ⟨ka1, kc1, rfl, f2⟩ := g1.form
  obtain ⟨pa2, pc2, rfl, f3⟩ := h2.form
  obtain ⟨ka2, kc2, rfl, f4⟩ := g2.form
  clear h1 g1 h2 g2 f1 f2 f3 f4
  unfold cmV
  obtain ⟨kd, tk, bk, ky, id, n, sm, ps, ks⟩ := c
  obtain ⟨kd2, tk2, bk2, ky2, id2, n2, sm2, ps2, ks2⟩ := d
  simp only at *
  subst e0
  subst e1
  subst e2
  subst e3
  subst e4
  subst e5
  generalize ps.length = pn at *
  generalize ks.length = kn at *
  generalize ps2.length = pn2 at *
  generalize ks2.length = kn2 at *
  have BA := hid (below_al (below_al (Below.refl w.heap.size w) (.cells #[.int .i64 kd, .string tk, .string bk, .string ky, .int .i64 id, .int .i64 n, .string sm, .slice pa1 pn pc1, .slice ka1 kn kc1] 34)) (.cells #[.int .i64 kd, .string tk, .string bk, .string ky, .int .i64 id, .int .i64 n, .string sm2, .slice pa2 pn2 pc2, .slice ka2 kn2 kc2] 34))
  have ZC : Hid (∀ W, Below ((w.alloc (.cells #[.int .i64 kd, .string tk, .string bk, .string ky, .int .i64 id, .int .i64 n, .string sm, .slice pa1 pn pc1, .slice ka1 kn kc1] 34)).alloc (.cells #[.int .i64 kd, .string tk, .string bk, .string ky, .int .i64 id, .int .i64 n, .string sm2, .slice pa2 pn2 pc2, .slice ka2 kn2 kc2] 34)).heap.size ((w.alloc (.cells #[.int .i64 kd, .string tk, .string bk, .string ky, .int .i64 id, .int .i64 n, .string sm, .slice pa1 pn pc1, .slice ka1 kn kc1] 34)).alloc (.cells #[.int .i64 kd, .string tk, .string bk, .string ky, .int .i64 id, .int .i64 n, .string sm2, .slice pa2 pn2 pc2, .slice ka2 kn2 kc2] 34)) W → W.cell? ⟨w.heap.size, 0, none⟩ = some (.int .i64 kd) ∧ W.cell? ⟨w.heap.size, 1, none⟩ = some (.string tk) ∧ W.cell? ⟨w.heap.size, 2, none⟩ = some (.string bk) ∧ W.cell? ⟨w.heap.size, 3, none⟩ = some (.string ky) ∧ W.cell? ⟨w.heap.size, 4, none⟩ = some (.int .i64 id) ∧ W.cell? ⟨w.heap.size, 5, none⟩ = some (.int .i64 n) ∧ W.cell? ⟨w.heap.size, 6, none⟩ = some (.string sm) ∧ W.cell? ⟨w.heap.size, 7, none⟩ = some (.slice pa1 pn pc1) ∧ W.cell? ⟨w.heap.size, 8, none⟩ = some (.slice ka1 kn kc1) ∧ W.cell? ⟨w.heap.size + 1, 0, none⟩ = some (.int .i64 kd) ∧ W.cell? ⟨w.heap.size + 1, 1, none⟩ = some (.string tk) ∧ W.cell? ⟨w.heap.size + 1, 2, none⟩ = some (.string bk) ∧ W.cell? ⟨w.heap.size + 1, 3, none⟩ = some (.string ky) ∧ W.cell? ⟨w.heap.size + 1, 4, none⟩ = some (.int .i64 id) ∧ W.cell? ⟨w.heap.size + 1, 5, none⟩ = some (.int .i64 n) ∧ W.cell? ⟨w.heap.size + 1, 6, none⟩ = some (.string sm2) ∧ W.cell? ⟨w.heap.size + 1, 7, none⟩ = some (.slice pa2 pn2 pc2) ∧ W.cell? ⟨w.heap.size + 1, 8, none⟩ = some (.slice ka2 kn2 kc2)) := fun W hW => by
    have q := (row_old (srow w [.int .i64 kd, .string tk, .string bk, .string ky, .int .i64 id, .int .i64 n, .string sm, .slice pa1 pn pc1, .slice ka1 kn kc1] 34) (.cells #[.int .i64 kd, .string tk, .string bk, .string ky, .int .i64 id, .int .i64 n, .string sm2, .slice pa2 pn2 pc2, .slice ka2 kn2 kc2] 34)).keep (hW.keep (fun _ => False)) (fun h => h)
    have r := srow (w.alloc (.cells #[.int .i64 kd, .string tk, .string bk, .string ky, .int .i64 id, .int .i64 n, .string sm, .slice pa1 pn pc1, .slice ka1 kn kc1] 34)) [.int .i64 kd, .string tk, .string bk, .string ky, .int .i64 id, .int .i64 n, .string sm2, .slice pa2 pn2 pc2, .slice ka2 kn2 kc2] 34
    rw [show (w.alloc (.cells #[.int .i64 kd, .string tk, .string bk, .string ky, .int .i64 id, .int .i64 n, .string sm, .slice pa1 pn pc1, .slice ka1 kn kc1] 34)).heap.size = w.heap.size + 1 from by simp] at r
    replace r := r.keep (hW.keep (fun _ => False)) (fun h => h)
    exact ⟨q.cellAt rfl, q.cellAt rfl, q.cellAt rfl, q.cellAt rfl, q.cellAt rfl, q.cellAt rfl, q.cellAt rfl, q.cellAt rfl, q.cellAt rfl, r.cellAt rfl, r.cellAt rfl, r.cellAt rfl, r.cellAt rfl, r.cellAt rfl, r.cellAt rfl, r.cellAt rfl, r.cellAt rfl, r.cellAt rfl⟩
  obtain ⟨y0, y1, y2, y3, y4, y5, y6, y7, y8, z0, z1, z2, z3, z4, z5, z6, z7, z8⟩ := ZC.out _ (Below.refl _ _)
  have q0 : (kd != kd) = false := by simp
  have q1 : (tk.toList != tk.toList) = false := by simp
  have q2 : (bk.toList != bk.toList) = false := by simp
  have q3 : (ky.toList != ky.toList) = false := by simp
  have q4 : (id != id) = false := by simp
  have q5 : (n != n) = false := by simp
  have q6a : ¬ sm.toList = sm2.toList := fun h => e6 (bytesInj16 h)
  have q6 : (sm.toList != sm2.toList) = true := by simp [q6a]
  clear e6
  go_enter Tryz.func17, Tryz.ntmps17
  go_wp2
  go_ret
  exact ⟨rfl, BA.out⟩
set_option maxRecDepth 100000 in
set_option maxHeartbeats 4000000 in
theorem rsm_pl (p1 k1 p2 k2 : Value) (c d : Cm) (w : World) (h1 : PcI w p1 c.ps) (g1 : PkI w k1 c.ks) (h2 : PcI w p2 d.ps) (g2 : PkI w k2 d.ks) (hlp : c.ps.length ≤ 8796093022208) (hlk : c.ks.length ≤ 8796093022208) (e0 : c.kd = d.kd) (e1 : c.tk = d.tk) (e2 : c.bk = d.bk) (e3 : c.ky = d.ky) (e4 : c.id = d.id) (e5 : c.n = d.n) (e6 : c.sm = d.sm) (e7 : ¬ c.ps.length = d.ps.length) : Calls Tryz.prog 17 #[cmV p1 k1 c, cmV p2 k2 d] w fun e w' => e = .returned (.bool false) ∧ Below w.heap.size w w' := by
  obtain ⟨pa1, pc1, rfl, f1⟩ := h1.form
  obtain ⟨ka1, kc1, rfl, f2⟩ := g1.form
  obtain ⟨pa2, pc2, rfl, f3⟩ := h2.form
  obtain ⟨ka2, kc2, rfl, f4⟩ := g2.form
  clear h1 g1 h2 g2 f1 f2 f3 f4
  unfold cmV
  obtain ⟨kd, tk, bk, ky, id, n, sm, ps, ks⟩ := c
  obtain ⟨kd2, tk2, bk2, ky2, id2, n2, sm2, ps2, ks2⟩ := d
  simp only at *
  subst e0
  subst e1
  subst e2
  subst e3
  subst e4
  subst e5
  subst e6
  generalize ps.length = pn at *
  generalize ks.length = kn at *
  generalize ps2.length = pn2 at *
  generalize ks2.length = kn2 at *
  have BA := hid (below_al (below_al (Below.refl w.heap.size w) (.cells #[.int .i64 kd, .string tk, .string bk, .string ky, .int .i64 id, .int .i64 n, .string sm, .slice pa1 pn pc1, .slice ka1 kn kc1] 34)) (.cells #[.int .i64 kd, .string tk, .string bk, .string ky, .int .i64 id, .int .i64 n, .string sm, .slice pa2 pn2 pc2, .slice ka2 kn2 kc2] 34))
  have ZC : Hid (∀ W, Below ((w.alloc (.cells #[.int .i64 kd, .string tk, .string bk, .string ky, .int .i64 id, .int .i64 n, .string sm, .slice pa1 pn pc1, .slice ka1 kn kc1] 34)).alloc (.cells #[.int .i64 kd, .string tk, .string bk, .string ky, .int .i64 id, .int .i64 n, .string sm, .slice pa2 pn2 pc2, .slice ka2 kn2 kc2] 34)).heap.size ((w.alloc (.cells #[.int .i64 kd, .string tk, .string bk, .string ky, .int .i64 id, .int .i64 n, .string sm, .slice pa1 pn pc1, .slice ka1 kn kc1] 34)).alloc (.cells #[.int .i64 kd, .string tk, .string bk, .string ky, .int .i64 id, .int .i64 n, .string sm, .slice pa2 pn2 pc2, .slice ka2 kn2 kc2] 34)) W → W.cell? ⟨w.heap.size, 0, none⟩ = some (.int .i64 kd) ∧ W.cell? ⟨w.heap.size, 1, none⟩ = some (.string tk) ∧ W.cell? ⟨w.heap.size, 2, none⟩ = some (.string bk) ∧ W.cell? ⟨w.heap.size, 3, none⟩ = some (.string ky) ∧ W.cell? ⟨w.heap.size, 4, none⟩ = some (.int .i64 id) ∧ W.cell? ⟨w.heap.size, 5, none⟩ = some (.int .i64 n) ∧ W.cell? ⟨w.heap.size, 6, none⟩ = some (.string sm) ∧ W.cell? ⟨w.heap.size, 7, none⟩ = some (.slice pa1 pn pc1) ∧ W.cell? ⟨w.heap.size, 8, none⟩ = some (.slice ka1 kn kc1) ∧ W.cell? ⟨w.heap.size + 1, 0, none⟩ = some (.int .i64 kd) ∧ W.cell? ⟨w.heap.size + 1, 1, none⟩ = some (.string tk) ∧ W.cell? ⟨w.heap.size + 1, 2, none⟩ = some (.string bk) ∧ W.cell? ⟨w.heap.size + 1, 3, none⟩ = some (.string ky) ∧ W.cell? ⟨w.heap.size + 1, 4, none⟩ = some (.int .i64 id) ∧ W.cell? ⟨w.heap.size + 1, 5, none⟩ = some (.int .i64 n) ∧ W.cell? ⟨w.heap.size + 1, 6, none⟩ = some (.string sm) ∧ W.cell? ⟨w.heap.size + 1, 7, none⟩ = some (.slice pa2 pn2 pc2) ∧ W.cell? ⟨w.heap.size + 1, 8, none⟩ = some (.slice ka2 kn2 kc2)) := fun W hW => by
    have q := (row_old (srow w [.int .i64 kd, .string tk, .string bk, .string ky, .int .i64 id, .int .i64 n, .string sm, .slice pa1 pn pc1, .slice ka1 kn kc1] 34) (.cells #[.int .i64 kd, .string tk, .string bk, .string ky, .int .i64 id, .int .i64 n, .string sm, .slice pa2 pn2 pc2, .slice ka2 kn2 kc2] 34)).keep (hW.keep (fun _ => False)) (fun h => h)
    have r := srow (w.alloc (.cells #[.int .i64 kd, .string tk, .string bk, .string ky, .int .i64 id, .int .i64 n, .string sm, .slice pa1 pn pc1, .slice ka1 kn kc1] 34)) [.int .i64 kd, .string tk, .string bk, .string ky, .int .i64 id, .int .i64 n, .string sm, .slice pa2 pn2 pc2, .slice ka2 kn2 kc2] 34
    rw [show (w.alloc (.cells #[.int .i64 kd, .string tk, .string bk, .string ky, .int .i64 id, .int .i64 n, .string sm, .slice pa1 pn pc1, .slice ka1 kn kc1] 34)).heap.size = w.heap.size + 1 from by simp] at r
    replace r := r.keep (hW.keep (fun _ => False)) (fun h => h)
    exact ⟨q.cellAt rfl, q.cellAt rfl, q.cellAt rfl, q.cellAt rfl, q.cellAt rfl, q.cellAt rfl, q.cellAt rfl, q.cellAt rfl, q.cellAt rfl, r.cellAt rfl, r.cellAt rfl, r.cellAt rfl, r.cellAt rfl, r.cellAt rfl, r.cellAt rfl, r.cellAt rfl, r.cellAt rfl, r.cellAt rfl⟩
  obtain ⟨y0, y1, y2, y3, y4, y5, y6, y7, y8, z0, z1, z2, z3, z4, z5, z6, z7, z8⟩ := ZC.out _ (Below.refl _ _)
  have q0 : (kd != kd) = false := by simp
  have q1 : (tk.toList != tk.toList) = false := by simp
  have q2 : (bk.toList != bk.toList) = false := by simp
  have q3 : (ky.toList != ky.toList) = false := by simp
  have q4 : (id != id) = false := by simp
  have q5 : (n != n) = false := by simp
  have q6 : (sm.toList != sm.toList) = false := by simp
  have q7 : ((pn : Int) != (pn2 : Int)) = true := by simp; omega
  have q7b : (pn != pn2) = true := by simp; omega
  clear e7
  go_enter Tryz.func17, Tryz.ntmps17
  go_wp2
  go_ret
  exact ⟨rfl, BA.out⟩
set_option maxRecDepth 100000 in
set_option maxHeartbeats 4000000 in
theorem rsm_kl (p1 k1 p2 k2 : Value) (c d : Cm) (w : World) (h1 : PcI w p1 c.ps) (g1 : PkI w k1 c.ks) (h2 : PcI w p2 d.ps) (g2 : PkI w k2 d.ks) (hlp : c.ps.length ≤ 8796093022208) (hlk : c.ks.length ≤ 8796093022208) (e0 : c.kd = d.kd) (e1 : c.tk = d.tk) (e2 : c.bk = d.bk) (e3 : c.ky = d.ky) (e4 : c.id = d.id) (e5 : c.n = d.n) (e6 : c.sm = d.sm) (e7 : c.ps.length = d.ps.length) (e8 : ¬ c.ks.length = d.ks.length) : Calls Tryz.prog 17 #[cmV p1 k1 c, cmV p2 k2 d] w fun e w' => e = .returned (.bool false) ∧ Below w.heap.size w w' := by
  obtain ⟨pa1, pc1, rfl, f1⟩ := h1.form
  obtain ⟨ka1, kc1, rfl, f2⟩ := g1.form
  obtain ⟨pa2, pc2, rfl, f3⟩ := h2.form
  obtain ⟨ka2, kc2, rfl, f4⟩ := g2.form
  clear h1 g1 h2 g2 f1 f2 f3 f4
  unfold cmV
  obtain ⟨kd, tk, bk, ky, id, n, sm, ps, ks⟩ := c
  obtain ⟨kd2, tk2, bk2, ky2, id2, n2, sm2, ps2, ks2⟩ := d
  simp only at *
  subst e0
  subst e1
  subst e2
  subst e3
  subst e4
  subst e5
  subst e6
  generalize ps.length = pn at *
  generalize ks.length = kn at *
  generalize ps2.length = pn2 at *
  generalize ks2.length = kn2 at *
  have BA := hid (below_al (below_al (Below.refl w.heap.size w) (.cells #[.int .i64 kd, .string tk, .string bk, .string ky, .int .i64 id, .int .i64 n, .string sm, .slice pa1 pn pc1, .slice ka1 kn kc1] 34)) (.cells #[.int .i64 kd, .string tk, .string bk, .string ky, .int .i64 id, .int .i64 n, .string sm, .slice pa2 pn2 pc2, .slice ka2 kn2 kc2] 34))
  have ZC : Hid (∀ W, Below ((w.alloc (.cells #[.int .i64 kd, .string tk, .string bk, .string ky, .int .i64 id, .int .i64 n, .string sm, .slice pa1 pn pc1, .slice ka1 kn kc1] 34)).alloc (.cells #[.int .i64 kd, .string tk, .string bk, .string ky, .int .i64 id, .int .i64 n, .string sm, .slice pa2 pn2 pc2, .slice ka2 kn2 kc2] 34)).heap.size ((w.alloc (.cells #[.int .i64 kd, .string tk, .string bk, .string ky, .int .i64 id, .int .i64 n, .string sm, .slice pa1 pn pc1, .slice ka1 kn kc1] 34)).alloc (.cells #[.int .i64 kd, .string tk, .string bk, .string ky, .int .i64 id, .int .i64 n, .string sm, .slice pa2 pn2 pc2, .slice ka2 kn2 kc2] 34)) W → W.cell? ⟨w.heap.size, 0, none⟩ = some (.int .i64 kd) ∧ W.cell? ⟨w.heap.size, 1, none⟩ = some (.string tk) ∧ W.cell? ⟨w.heap.size, 2, none⟩ = some (.string bk) ∧ W.cell? ⟨w.heap.size, 3, none⟩ = some (.string ky) ∧ W.cell? ⟨w.heap.size, 4, none⟩ = some (.int .i64 id) ∧ W.cell? ⟨w.heap.size, 5, none⟩ = some (.int .i64 n) ∧ W.cell? ⟨w.heap.size, 6, none⟩ = some (.string sm) ∧ W.cell? ⟨w.heap.size, 7, none⟩ = some (.slice pa1 pn pc1) ∧ W.cell? ⟨w.heap.size, 8, none⟩ = some (.slice ka1 kn kc1) ∧ W.cell? ⟨w.heap.size + 1, 0, none⟩ = some (.int .i64 kd) ∧ W.cell? ⟨w.heap.size + 1, 1, none⟩ = some (.string tk) ∧ W.cell? ⟨w.heap.size + 1, 2, none⟩ = some (.string bk) ∧ W.cell? ⟨w.heap.size + 1, 3, none⟩ = some (.string ky) ∧ W.cell? ⟨w.heap.size + 1, 4, none⟩ = some (.int .i64 id) ∧ W.cell? ⟨w.heap.size + 1, 5, none⟩ = some (.int .i64 n) ∧ W.cell? ⟨w.heap.size + 1, 6, none⟩ = some (.string sm) ∧ W.cell? ⟨w.heap.size + 1, 7, none⟩ = some (.slice pa2 pn2 pc2) ∧ W.cell? ⟨w.heap.size + 1, 8, none⟩ = some (.slice ka2 kn2 kc2)) := fun W hW => by
    have q := (row_old (srow w [.int .i64 kd, .string tk, .string bk, .string ky, .int .i64 id, .int .i64 n, .string sm, .slice pa1 pn pc1, .slice ka1 kn kc1] 34) (.cells #[.int .i64 kd, .string tk, .string bk, .string ky, .int .i64 id, .int .i64 n, .string sm, .slice pa2 pn2 pc2, .slice ka2 kn2 kc2] 34)).keep (hW.keep (fun _ => False)) (fun h => h)
    have r := srow (w.alloc (.cells #[.int .i64 kd, .string tk, .string bk, .string ky, .int .i64 id, .int .i64 n, .string sm, .slice pa1 pn pc1, .slice ka1 kn kc1] 34)) [.int .i64 kd, .string tk, .string bk, .string ky, .int .i64 id, .int .i64 n, .string sm, .slice pa2 pn2 pc2, .slice ka2 kn2 kc2] 34
    rw [show (w.alloc (.cells #[.int .i64 kd, .string tk, .string bk, .string ky, .int .i64 id, .int .i64 n, .string sm, .slice pa1 pn pc1, .slice ka1 kn kc1] 34)).heap.size = w.heap.size + 1 from by simp] at r
    replace r := r.keep (hW.keep (fun _ => False)) (fun h => h)
    exact ⟨q.cellAt rfl, q.cellAt rfl, q.cellAt rfl, q.cellAt rfl, q.cellAt rfl, q.cellAt rfl, q.cellAt rfl, q.cellAt rfl, q.cellAt rfl, r.cellAt rfl, r.cellAt rfl, r.cellAt rfl, r.cellAt rfl, r.cellAt rfl, r.cellAt rfl, r.cellAt rfl, r.cellAt rfl, r.cellAt rfl⟩
  obtain ⟨y0, y1, y2, y3, y4, y5, y6, y7, y8, z0, z1, z2, z3, z4, z5, z6, z7, z8⟩ := ZC.out _ (Below.refl _ _)
  have q0 : (kd != kd) = false := by simp
  have q1 : (tk.toList != tk.toList) = false := by simp
  have q2 : (bk.toList != bk.toList) = false := by simp
  have q3 : (ky.toList != ky.toList) = false := by simp
  have q4 : (id != id) = false := by simp
  have q5 : (n != n) = false := by simp
  have q6 : (sm.toList != sm.toList) = false := by simp
  have q7 : ((pn : Int) != (pn2 : Int)) = false := by rw [e7]; simp
  have q7b : (pn != pn2) = false := by rw [e7]; simp
  have q8 : ((kn : Int) != (kn2 : Int)) = true := by simp; omega
  have q8b : (kn != kn2) = true := by simp; omega
  clear e7
  clear e8
  go_enter Tryz.func17, Tryz.ntmps17
  go_wp2
  go_ret
  exact ⟨rfl, BA.out⟩
end Go.Proofs.YtikkpfchbcfhlaaGreat
namespace Go.Proofs.YtikkpfchbcfhlaaGreat
open Go.RowKit Go.Maps
set_option linter.unusedVariables false
set_option linter.unusedSimpArgs false

set_option maxRecDepth 100000 in
set_option maxHeartbeats 4000000 in
theorem rsm_ps (p1 k1 p2 k2 : Value) (c d : Cm) (w : World) (h1 : PcI w p1 c.ps) (g1 : PkI w k1 c.ks) (h2 : PcI w p2 d.ps) (g2 : PkI w k2 d.ks) (hlp : c.ps.length ≤ 8796093022208) (hlk : c.ks.length ≤ 8796093022208) (e0 : c.kd = d.kd) (e1 : c.tk = d.tk) (e2 : c.bk = d.bk) (e3 : c.ky = d.ky) (e4 : c.id = d.id) (e5 : c.n = d.n) (e6 : c.sm = d.sm) (e7 : c.ps.length = d.ps.length) (e8 : c.ks.length = d.ks.length) (m : Nat) (hm : m < c.ps.length) (hm2 : m < d.ps.length) (hne : c.ps[m] ≠ d.ps[m]) (hlo : ∀ (j : Nat) (h : j < m), c.ps[j]'(by omega) = d.ps[j]'(by omega)) : Calls Tryz.prog 17 #[cmV p1 k1 c, cmV p2 k2 d] w fun e w' => e = .returned (.bool false) ∧ Below w.heap.size w w' := by
  obtain ⟨pa1, pc1, rfl, f1⟩ := h1.form
  obtain ⟨ka1, kc1, rfl, f2⟩ := g1.form
  obtain ⟨pa2, pc2, rfl, f3⟩ := h2.form
  obtain ⟨ka2, kc2, rfl, f4⟩ := g2.form
  have HP : Hid (∀ (k : Nat) (hk : k < c.ps.length) (hk2 : k < d.ps.length) (W : World), Below w.heap.size w W → ∃ b1 o1 b2 o2, pa1 = some ⟨b1, o1, none⟩ ∧ pa2 = some ⟨b2, o2, none⟩ ∧ W.cell? ⟨b1, o1 + k * 2, none⟩ = some (.string c.ps[k].id) ∧ W.cell? ⟨b1, o1 + k * 2 + 1, none⟩ = some (.int .i64 c.ps[k].sz) ∧ W.cell? ⟨b2, o2 + k * 2, none⟩ = some (.string d.ps[k].id) ∧ W.cell? ⟨b2, o2 + k * 2 + 1, none⟩ = some (.int .i64 d.ps[k].sz)) := fun k hk hk2 W hW => by
    obtain ⟨b1, o1, e1, hb1, p1, p2⟩ := f1 k hk
    obtain ⟨b2, o2, e2, hb2, q1, q2⟩ := f3 k hk2
    exact ⟨b1, o1, b2, o2, e1, e2, (hW.cell (p := ⟨b1, o1 + k * 2, none⟩) hb1).trans p1, (hW.cell (p := ⟨b1, o1 + k * 2 + 1, none⟩) hb1).trans p2, (hW.cell (p := ⟨b2, o2 + k * 2, none⟩) hb2).trans q1, (hW.cell (p := ⟨b2, o2 + k * 2 + 1, none⟩) hb2).trans q2⟩
  have HEP : Hid (∀ (k : Nat) (hk : k < c.ps.length) (hk2 : k < d.ps.length), k < m → c.ps[k] = d.ps[k]) := fun k hk hk2 h => hlo k h
  have HNP : Hid (∀ (h1 : m < c.ps.length) (h2 : m < d.ps.length), c.ps[m] ≠ d.ps[m]) := fun _ _ => hne
  clear h1 g1 h2 g2 f1 f2 f3 f4 hne hlo
  unfold cmV
  obtain ⟨kd, tk, bk, ky, id, n, sm, ps, ks⟩ := c
  obtain ⟨kd2, tk2, bk2, ky2, id2, n2, sm2, ps2, ks2⟩ := d
  simp only at *
  subst e0
  subst e1
  subst e2
  subst e3
  subst e4
  subst e5
  subst e6
  have BA := hid (below_al (below_al (Below.refl w.heap.size w) (.cells #[.int .i64 kd, .string tk, .string bk, .string ky, .int .i64 id, .int .i64 n, .string sm, .slice pa1 ps.length pc1, .slice ka1 ks.length kc1] 34)) (.cells #[.int .i64 kd, .string tk, .string bk, .string ky, .int .i64 id, .int .i64 n, .string sm, .slice pa2 ps2.length pc2, .slice ka2 ks2.length kc2] 34))
  have ZC : Hid (∀ W, Below ((w.alloc (.cells #[.int .i64 kd, .string tk, .string bk, .string ky, .int .i64 id, .int .i64 n, .string sm, .slice pa1 ps.length pc1, .slice ka1 ks.length kc1] 34)).alloc (.cells #[.int .i64 kd, .string tk, .string bk, .string ky, .int .i64 id, .int .i64 n, .string sm, .slice pa2 ps2.length pc2, .slice ka2 ks2.length kc2] 34)).heap.size ((w.alloc (.cells #[.int .i64 kd, .string tk, .string bk, .string ky, .int .i64 id, .int .i64 n, .string sm, .slice pa1 ps.length pc1, .slice ka1 ks.length kc1] 34)).alloc (.cells #[.int .i64 kd, .string tk, .string bk, .string ky, .int .i64 id, .int .i64 n, .string sm, .slice pa2 ps2.length pc2, .slice ka2 ks2.length kc2] 34)) W → W.cell? ⟨w.heap.size, 0, none⟩ = some (.int .i64 kd) ∧ W.cell? ⟨w.heap.size, 1, none⟩ = some (.string tk) ∧ W.cell? ⟨w.heap.size, 2, none⟩ = some (.string bk) ∧ W.cell? ⟨w.heap.size, 3, none⟩ = some (.string ky) ∧ W.cell? ⟨w.heap.size, 4, none⟩ = some (.int .i64 id) ∧ W.cell? ⟨w.heap.size, 5, none⟩ = some (.int .i64 n) ∧ W.cell? ⟨w.heap.size, 6, none⟩ = some (.string sm) ∧ W.cell? ⟨w.heap.size, 7, none⟩ = some (.slice pa1 ps.length pc1) ∧ W.cell? ⟨w.heap.size, 8, none⟩ = some (.slice ka1 ks.length kc1) ∧ W.cell? ⟨w.heap.size + 1, 0, none⟩ = some (.int .i64 kd) ∧ W.cell? ⟨w.heap.size + 1, 1, none⟩ = some (.string tk) ∧ W.cell? ⟨w.heap.size + 1, 2, none⟩ = some (.string bk) ∧ W.cell? ⟨w.heap.size + 1, 3, none⟩ = some (.string ky) ∧ W.cell? ⟨w.heap.size + 1, 4, none⟩ = some (.int .i64 id) ∧ W.cell? ⟨w.heap.size + 1, 5, none⟩ = some (.int .i64 n) ∧ W.cell? ⟨w.heap.size + 1, 6, none⟩ = some (.string sm) ∧ W.cell? ⟨w.heap.size + 1, 7, none⟩ = some (.slice pa2 ps2.length pc2) ∧ W.cell? ⟨w.heap.size + 1, 8, none⟩ = some (.slice ka2 ks2.length kc2)) := fun W hW => by
    have q := (row_old (srow w [.int .i64 kd, .string tk, .string bk, .string ky, .int .i64 id, .int .i64 n, .string sm, .slice pa1 ps.length pc1, .slice ka1 ks.length kc1] 34) (.cells #[.int .i64 kd, .string tk, .string bk, .string ky, .int .i64 id, .int .i64 n, .string sm, .slice pa2 ps2.length pc2, .slice ka2 ks2.length kc2] 34)).keep (hW.keep (fun _ => False)) (fun h => h)
    have r := srow (w.alloc (.cells #[.int .i64 kd, .string tk, .string bk, .string ky, .int .i64 id, .int .i64 n, .string sm, .slice pa1 ps.length pc1, .slice ka1 ks.length kc1] 34)) [.int .i64 kd, .string tk, .string bk, .string ky, .int .i64 id, .int .i64 n, .string sm, .slice pa2 ps2.length pc2, .slice ka2 ks2.length kc2] 34
    rw [show (w.alloc (.cells #[.int .i64 kd, .string tk, .string bk, .string ky, .int .i64 id, .int .i64 n, .string sm, .slice pa1 ps.length pc1, .slice ka1 ks.length kc1] 34)).heap.size = w.heap.size + 1 from by simp] at r
    replace r := r.keep (hW.keep (fun _ => False)) (fun h => h)
    exact ⟨q.cellAt rfl, q.cellAt rfl, q.cellAt rfl, q.cellAt rfl, q.cellAt rfl, q.cellAt rfl, q.cellAt rfl, q.cellAt rfl, q.cellAt rfl, r.cellAt rfl, r.cellAt rfl, r.cellAt rfl, r.cellAt rfl, r.cellAt rfl, r.cellAt rfl, r.cellAt rfl, r.cellAt rfl, r.cellAt rfl⟩
  obtain ⟨y0, y1, y2, y3, y4, y5, y6, y7, y8, z0, z1, z2, z3, z4, z5, z6, z7, z8⟩ := ZC.out _ (Below.refl _ _)
  have q0 : (kd != kd) = false := by simp
  have q1 : (tk.toList != tk.toList) = false := by simp
  have q2 : (bk.toList != bk.toList) = false := by simp
  have q3 : (ky.toList != ky.toList) = false := by simp
  have q4 : (id != id) = false := by simp
  have q5 : (n != n) = false := by simp
  have q6 : (sm.toList != sm.toList) = false := by simp
  have q7 : ((ps.length : Int) != (ps2.length : Int)) = false := by rw [e7]; simp
  have q7b : (ps.length != ps2.length) = false := by rw [e7]; simp
  have q8 : ((ks.length : Int) != (ks2.length : Int)) = false := by rw [e8]; simp
  have q8b : (ks.length != ks2.length) = false := by rw [e8]; simp
  have E7 := hid e7
  have E8 := hid e8
  clear e7 e8
  have HM := hid hm
  clear hm hm2
  have HLP := hid hlp
  have HLK := hid hlk
  clear hlp hlk
  have gp := gdP16
  have gk := gdK16
  go_enter Tryz.func17, Tryz.ntmps17
  go_wp2
  clear y0 y1 y2 y3 y4 y5 y6 y7 y8 z0 z1 z2 z3 z4 z5 z6 z7 z8 q0 q1 q2 q3 q4 q5 q6 q7 q8 q7b q8b
  have BX0 := hid (Below.refl ((w.alloc (.cells #[.int .i64 kd, .string tk, .string bk, .string ky, .int .i64 id, .int .i64 n, .string sm, .slice pa1 ps.length pc1, .slice ka1 ks.length kc1] 34)).alloc (.cells #[.int .i64 kd, .string tk, .string bk, .string ky, .int .i64 id, .int .i64 n, .string sm, .slice pa2 ps2.length pc2, .slice ka2 ks2.length kc2] 34)).heap.size ((w.alloc (.cells #[.int .i64 kd, .string tk, .string bk, .string ky, .int .i64 id, .int .i64 n, .string sm, .slice pa1 ps.length pc1, .slice ka1 ks.length kc1] 34)).alloc (.cells #[.int .i64 kd, .string tk, .string bk, .string ky, .int .i64 id, .int .i64 n, .string sm, .slice pa2 ps2.length pc2, .slice ka2 ks2.length kc2] 34)))
  generalize ((w.alloc (.cells #[.int .i64 kd, .string tk, .string bk, .string ky, .int .i64 id, .int .i64 n, .string sm, .slice pa1 ps.length pc1, .slice ka1 ks.length kc1] 34)).alloc (.cells #[.int .i64 kd, .string tk, .string bk, .string ky, .int .i64 id, .int .i64 n, .string sm, .slice pa2 ps2.length pc2, .slice ka2 ks2.length kc2] 34)) = X at *
  go_loopw [5] (fun i wr => ∃ (k : Nat), k ≤ m ∧ i = .int .i64 (k : Int) ∧ Hid (Below X.heap.size X wr)) (fun i _ => ps.length - (intOf i).toNat)
  case atStart => exact ⟨0, Nat.zero_le _, rfl, BX0⟩
  case round =>
    obtain ⟨k, hk, rfl, HB⟩ := hrel
    clear BX0
    obtain ⟨y0, y1, y2, y3, y4, y5, y6, y7, y8, z0, z1, z2, z3, z4, z5, z6, z7, z8⟩ := ZC.out _ HB.out
    have hm := HM.out
    have hlt : k < ps.length := by omega
    by_cases hkm : k < m
    · have HKM := hid hkm
      have hk1 : (k : Int) < (ps.length : Int) := by omega
      have hk0 : (0 : Int) ≤ (k : Int) := by omega
      have hk2 : (k : Int) < (ps2.length : Int) := by have := E7.out; omega
      have hwk : wrap64 ((k : Int) + 1) = ((k + 1 : Nat) : Int) := by have := HLP.out; rw [IntWalk.wrap64_in _ (by omega)]; omega
      have hkd : k < ps2.length := by have := E7.out; omega
      have HCE := hid (fun W hW => HP.out k hlt hkd W hW)
      have hee := HEP.out k hlt hkd hkm
      generalize hx2 : ps2[k] = x2v at *
      generalize ps[k] = x1v at *
      clear hx2
      subst hee
      obtain ⟨xa, xb⟩ := x1v
      simp only at HCE
      have nq := fun W => eqP16 xa xb W
      obtain ⟨b1, o1, b2, o2, rfl, rfl, u0, u1, u2, u3⟩ := HCE.out _ (below_on BA.out HB.out)
      have ZW : Hid (∀ W, Below wr.heap.size wr W → (fun w' => w'.cell? ⟨w.heap.size, 7, none⟩ = some (.slice (some ⟨b1, o1, none⟩) ps.length pc1) ∧ w'.cell? ⟨w.heap.size + 1, 7, none⟩ = some (.slice (some ⟨b2, o2, none⟩) ps2.length pc2) ∧ w'.cell? ⟨b1, o1 + k * 2, none⟩ = some (.string xa) ∧ w'.cell? ⟨b1, o1 + k * 2 + 1, none⟩ = some (.int .i64 xb) ∧ w'.cell? ⟨b2, o2 + k * 2, none⟩ = some (.string xa) ∧ w'.cell? ⟨b2, o2 + k * 2 + 1, none⟩ = some (.int .i64 xb)) W) := fun W hW => by
        have hW2 := below_on HB.out hW
        obtain ⟨a0, a1, a2, a3, a4, a5, a6, a7, a8, c0, c1, c2, c3, c4, c5, c6, c7, c8⟩ := ZC.out _ hW2
        obtain ⟨r1, r2, r3, r4, er1, er2, v0, v1, v2, v3⟩ := HCE.out _ (below_on BA.out hW2)
        injection er1 with er1; injection er1 with er1 er1'; subst er1 er1'
        injection er2 with er2; injection er2 with er2 er2'; subst er2 er2'
        exact ⟨a7, c7, v0, v1, v2, v3⟩
      have HLT := hid hlt
      clear HCE hlt hk hkd hkm
      go_upto_region 6 with fail
      clear u0 u1 u2 u3 y0 y1 y2 y3 y4 y5 y6 y7 y8 z0 z1 z2 z3 z4 z5 z6 z7 z8
      have B0 := hid (Below.refl wr.heap.size wr).drew
      refine wp_region_held_drew (S := (fun w' => w'.cell? ⟨w.heap.size, 7, none⟩ = some (.slice (some ⟨b1, o1, none⟩) ps.length pc1) ∧ w'.cell? ⟨w.heap.size + 1, 7, none⟩ = some (.slice (some ⟨b2, o2, none⟩) ps2.length pc2) ∧ w'.cell? ⟨b1, o1 + k * 2, none⟩ = some (.string xa) ∧ w'.cell? ⟨b1, o1 + k * 2 + 1, none⟩ = some (.int .i64 xb) ∧ w'.cell? ⟨b2, o2 + k * 2, none⟩ = some (.string xa) ∧ w'.cell? ⟨b2, o2 + k * 2 + 1, none⟩ = some (.int .i64 xb))) (by kernel_rfl) (ZW.out _ B0.out) (fun hHeld => ?_)
      refine wpAnyH_take (i := 0) (v := ?vv23) rfl (by kernel_rfl) (by kernel_rfl) (by kernel_rfl) (fun _ _ _ h => h) (Or.inl ⟨by rfl, ?hy23⟩) (by assumption) ?rest23
      case hy23 => (intro w hSw; (try dsimp only at hSw); go_simp; first | done | with_reducible rfl)
      try simp only [Act.put, List.getElem_toArray, List.getElem_cons_succ, List.getElem_cons_zero, List.setIfInBounds_toArray, List.set_cons_zero, List.set_cons_succ]
      refine wpAnyH_take (i := 1) (v := ?vv24) rfl (by kernel_rfl) (by kernel_rfl) (by kernel_rfl) (fun _ _ _ h => h) (Or.inl ⟨by rfl, ?hy24⟩) (by assumption) ?rest24
      case hy24 => (intro w hSw; (try dsimp only at hSw); go_simp; first | done | with_reducible rfl)
      try simp only [Act.put, List.getElem_toArray, List.getElem_cons_succ, List.getElem_cons_zero, List.setIfInBounds_toArray, List.set_cons_zero, List.set_cons_succ]
      refine wpAnyH_take (i := 2) (v := ?vv25) rfl (by kernel_rfl) (by kernel_rfl) (by kernel_rfl) (fun _ _ _ h => h) (Or.inl ⟨by rfl, ?hy25⟩) (by assumption) ?rest25
      case hy25 => (intro w hSw; (try dsimp only at hSw); go_simp; first | done | with_reducible rfl)
      try simp only [Act.put, List.getElem_toArray, List.getElem_cons_succ, List.getElem_cons_zero, List.setIfInBounds_toArray, List.set_cons_zero, List.set_cons_succ]
      refine wpAnyH_take (i := 3) (v := ?vv26) rfl (by kernel_rfl) (by kernel_rfl) (by kernel_rfl) (fun _ _ _ h => h) (Or.inl ⟨by rfl, ?hy26⟩) (by assumption) ?rest26
      case hy26 => (intro w hSw; (try dsimp only at hSw); go_simp; first | done | with_reducible rfl)
      try simp only [Act.put, List.getElem_toArray, List.getElem_cons_succ, List.getElem_cons_zero, List.setIfInBounds_toArray, List.set_cons_zero, List.set_cons_succ]
      refine wpAnyH_take (i := 4) (v := ?vv27) rfl (by kernel_rfl) (by kernel_rfl) (by kernel_rfl) (fun _ _ _ h => h) (Or.inl ⟨by rfl, ?hy27⟩) (by assumption) ?rest27
      case hy27 => (intro w hSw; (try dsimp only at hSw); go_simp; first | done | with_reducible rfl)
      try simp only [Act.put, List.getElem_toArray, List.getElem_cons_succ, List.getElem_cons_zero, List.setIfInBounds_toArray, List.set_cons_zero, List.set_cons_succ]
      refine wpAnyH_take (i := 5) (v := ?vv28) rfl (by kernel_rfl) (by kernel_rfl) (by kernel_rfl) (fun _ _ _ h => h) (Or.inl ⟨by rfl, ?hy28⟩) (by assumption) ?rest28
      case hy28 => (intro w hSw; (try dsimp only at hSw); go_simp; first | done | with_reducible rfl)
      try simp only [Act.put, List.getElem_toArray, List.getElem_cons_succ, List.getElem_cons_zero, List.setIfInBounds_toArray, List.set_cons_zero, List.set_cons_succ]
      refine wpAnyH_take (i := 6) (v := ?vv29) rfl (by kernel_rfl) (by kernel_rfl) (by kernel_rfl) (fun _ _ _ h => h) (Or.inl ⟨by rfl, ?hy29⟩) (by assumption) ?rest29
      case hy29 => (intro w hSw; (try dsimp only at hSw); go_simp; first | done | with_reducible rfl)
      try simp only [Act.put, List.getElem_toArray, List.getElem_cons_succ, List.getElem_cons_zero, List.setIfInBounds_toArray, List.set_cons_zero, List.set_cons_succ]
      refine wpAnyH_take (i := 7) (v := ?vv30) rfl (by kernel_rfl) (by kernel_rfl) (by kernel_rfl) (fun _ _ _ h => h) (Or.inl ⟨by rfl, ?hy30⟩) (by assumption) ?rest30
      case hy30 => (intro w hSw; (try dsimp only at hSw); go_simp; first | done | with_reducible rfl)
      try simp only [Act.put, List.getElem_toArray, List.getElem_cons_succ, List.getElem_cons_zero, List.setIfInBounds_toArray, List.set_cons_zero, List.set_cons_succ]
      refine wpAnyH_take (i := 8) (v := ?vv31) rfl (by kernel_rfl) (by kernel_rfl) (by kernel_rfl) (fun _ _ _ h => h) (Or.inl ⟨by rfl, ?hy31⟩) (by assumption) ?rest31
      case hy31 => (intro w hSw; (try dsimp only at hSw); go_simp; first | done | with_reducible rfl)
      try simp only [Act.put, List.getElem_toArray, List.getElem_cons_succ, List.getElem_cons_zero, List.setIfInBounds_toArray, List.set_cons_zero, List.set_cons_succ]
      refine wpAnyH_take (i := 9) (v := ?vv32) rfl (by kernel_rfl) (by kernel_rfl) (by kernel_rfl) (fun _ _ _ h => h) (Or.inl ⟨by rfl, ?hy32⟩) (by assumption) ?rest32
      case hy32 => (intro w hSw; (try dsimp only at hSw); go_simp; first | done | with_reducible rfl)
      try simp only [Act.put, List.getElem_toArray, List.getElem_cons_succ, List.getElem_cons_zero, List.setIfInBounds_toArray, List.set_cons_zero, List.set_cons_succ]
      refine wpAnyH_take (i := 10) (v := ?vv33) rfl (by kernel_rfl) (by kernel_rfl) (by kernel_rfl) (fun _ _ _ h => h) (Or.inl ⟨by rfl, ?hy33⟩) (by assumption) ?rest33
      case hy33 => (intro w hSw; (try dsimp only at hSw); go_simp; first | done | with_reducible rfl)
      try simp only [Act.put, List.getElem_toArray, List.getElem_cons_succ, List.getElem_cons_zero, List.setIfInBounds_toArray, List.set_cons_zero, List.set_cons_succ]
      refine wpAnyH_done (by kernel_rfl) ?_ _
      have HB2 := hid (below_on HB.out B0.out)
      clear ZW B0 nq
      go_wp2_with fail
      have hlt := HLT.out
      exact ⟨⟨k + 1, HKM.out, by first | rw [hwk] | rfl | simp, HB2⟩, by (try rw [hwk]); simp [intOf]; omega⟩
    · obtain rfl : k = m := by omega
      have hk1 : (k : Int) < (ps.length : Int) := by omega
      have hk0 : (0 : Int) ≤ (k : Int) := by omega
      have hk2 : (k : Int) < (ps2.length : Int) := by have := E7.out; omega
      have hwk : wrap64 ((k : Int) + 1) = ((k + 1 : Nat) : Int) := by have := HLP.out; rw [IntWalk.wrap64_in _ (by omega)]; omega
      have hkd : k < ps2.length := by have := E7.out; omega
      have HCE := hid (fun W hW => HP.out k hlt hkd W hW)
      have hee := HNP.out hlt hkd
      generalize hx2 : ps2[k] = x2v at *
      generalize ps[k] = x1v at *
      clear hx2
      obtain ⟨xa, xb⟩ := x1v
      obtain ⟨xc, xd⟩ := x2v
      simp only at HCE
      have nq := fun W => neP16 xa xc xb xd W (fun h => hee (by rw [h.1, h.2]))
      clear hee
      obtain ⟨b1, o1, b2, o2, rfl, rfl, u0, u1, u2, u3⟩ := HCE.out _ (below_on BA.out HB.out)
      have ZW : Hid (∀ W, Below wr.heap.size wr W → (fun w' => w'.cell? ⟨w.heap.size, 7, none⟩ = some (.slice (some ⟨b1, o1, none⟩) ps.length pc1) ∧ w'.cell? ⟨w.heap.size + 1, 7, none⟩ = some (.slice (some ⟨b2, o2, none⟩) ps2.length pc2) ∧ w'.cell? ⟨b1, o1 + k * 2, none⟩ = some (.string xa) ∧ w'.cell? ⟨b1, o1 + k * 2 + 1, none⟩ = some (.int .i64 xb) ∧ w'.cell? ⟨b2, o2 + k * 2, none⟩ = some (.string xc) ∧ w'.cell? ⟨b2, o2 + k * 2 + 1, none⟩ = some (.int .i64 xd)) W) := fun W hW => by
        have hW2 := below_on HB.out hW
        obtain ⟨a0, a1, a2, a3, a4, a5, a6, a7, a8, c0, c1, c2, c3, c4, c5, c6, c7, c8⟩ := ZC.out _ hW2
        obtain ⟨r1, r2, r3, r4, er1, er2, v0, v1, v2, v3⟩ := HCE.out _ (below_on BA.out hW2)
        injection er1 with er1; injection er1 with er1 er1'; subst er1 er1'
        injection er2 with er2; injection er2 with er2 er2'; subst er2 er2'
        exact ⟨a7, c7, v0, v1, v2, v3⟩
      have HLT := hid hlt
      clear HCE hlt hk hkd hkm
      go_upto_region 6 with fail
      clear u0 u1 u2 u3 y0 y1 y2 y3 y4 y5 y6 y7 y8 z0 z1 z2 z3 z4 z5 z6 z7 z8
      have B0 := hid (Below.refl wr.heap.size wr).drew
      refine wp_region_held_drew (S := (fun w' => w'.cell? ⟨w.heap.size, 7, none⟩ = some (.slice (some ⟨b1, o1, none⟩) ps.length pc1) ∧ w'.cell? ⟨w.heap.size + 1, 7, none⟩ = some (.slice (some ⟨b2, o2, none⟩) ps2.length pc2) ∧ w'.cell? ⟨b1, o1 + k * 2, none⟩ = some (.string xa) ∧ w'.cell? ⟨b1, o1 + k * 2 + 1, none⟩ = some (.int .i64 xb) ∧ w'.cell? ⟨b2, o2 + k * 2, none⟩ = some (.string xc) ∧ w'.cell? ⟨b2, o2 + k * 2 + 1, none⟩ = some (.int .i64 xd))) (by kernel_rfl) (ZW.out _ B0.out) (fun hHeld => ?_)
      refine wpAnyH_take (i := 0) (v := ?vv34) rfl (by kernel_rfl) (by kernel_rfl) (by kernel_rfl) (fun _ _ _ h => h) (Or.inl ⟨by rfl, ?hy34⟩) (by assumption) ?rest34
      case hy34 => (intro w hSw; (try dsimp only at hSw); go_simp; first | done | with_reducible rfl)
      try simp only [Act.put, List.getElem_toArray, List.getElem_cons_succ, List.getElem_cons_zero, List.setIfInBounds_toArray, List.set_cons_zero, List.set_cons_succ]
      refine wpAnyH_take (i := 1) (v := ?vv35) rfl (by kernel_rfl) (by kernel_rfl) (by kernel_rfl) (fun _ _ _ h => h) (Or.inl ⟨by rfl, ?hy35⟩) (by assumption) ?rest35
      case hy35 => (intro w hSw; (try dsimp only at hSw); go_simp; first | done | with_reducible rfl)
      try simp only [Act.put, List.getElem_toArray, List.getElem_cons_succ, List.getElem_cons_zero, List.setIfInBounds_toArray, List.set_cons_zero, List.set_cons_succ]
      refine wpAnyH_take (i := 2) (v := ?vv36) rfl (by kernel_rfl) (by kernel_rfl) (by kernel_rfl) (fun _ _ _ h => h) (Or.inl ⟨by rfl, ?hy36⟩) (by assumption) ?rest36
      case hy36 => (intro w hSw; (try dsimp only at hSw); go_simp; first | done | with_reducible rfl)
      try simp only [Act.put, List.getElem_toArray, List.getElem_cons_succ, List.getElem_cons_zero, List.setIfInBounds_toArray, List.set_cons_zero, List.set_cons_succ]
      refine wpAnyH_take (i := 3) (v := ?vv37) rfl (by kernel_rfl) (by kernel_rfl) (by kernel_rfl) (fun _ _ _ h => h) (Or.inl ⟨by rfl, ?hy37⟩) (by assumption) ?rest37
      case hy37 => (intro w hSw; (try dsimp only at hSw); go_simp; first | done | with_reducible rfl)
      try simp only [Act.put, List.getElem_toArray, List.getElem_cons_succ, List.getElem_cons_zero, List.setIfInBounds_toArray, List.set_cons_zero, List.set_cons_succ]
      refine wpAnyH_take (i := 4) (v := ?vv38) rfl (by kernel_rfl) (by kernel_rfl) (by kernel_rfl) (fun _ _ _ h => h) (Or.inl ⟨by rfl, ?hy38⟩) (by assumption) ?rest38
      case hy38 => (intro w hSw; (try dsimp only at hSw); go_simp; first | done | with_reducible rfl)
      try simp only [Act.put, List.getElem_toArray, List.getElem_cons_succ, List.getElem_cons_zero, List.setIfInBounds_toArray, List.set_cons_zero, List.set_cons_succ]
      refine wpAnyH_take (i := 5) (v := ?vv39) rfl (by kernel_rfl) (by kernel_rfl) (by kernel_rfl) (fun _ _ _ h => h) (Or.inl ⟨by rfl, ?hy39⟩) (by assumption) ?rest39
      case hy39 => (intro w hSw; (try dsimp only at hSw); go_simp; first | done | with_reducible rfl)
      try simp only [Act.put, List.getElem_toArray, List.getElem_cons_succ, List.getElem_cons_zero, List.setIfInBounds_toArray, List.set_cons_zero, List.set_cons_succ]
      refine wpAnyH_take (i := 6) (v := ?vv40) rfl (by kernel_rfl) (by kernel_rfl) (by kernel_rfl) (fun _ _ _ h => h) (Or.inl ⟨by rfl, ?hy40⟩) (by assumption) ?rest40
      case hy40 => (intro w hSw; (try dsimp only at hSw); go_simp; first | done | with_reducible rfl)
      try simp only [Act.put, List.getElem_toArray, List.getElem_cons_succ, List.getElem_cons_zero, List.setIfInBounds_toArray, List.set_cons_zero, List.set_cons_succ]
      refine wpAnyH_take (i := 7) (v := ?vv41) rfl (by kernel_rfl) (by kernel_rfl) (by kernel_rfl) (fun _ _ _ h => h) (Or.inl ⟨by rfl, ?hy41⟩) (by assumption) ?rest41
      case hy41 => (intro w hSw; (try dsimp only at hSw); go_simp; first | done | with_reducible rfl)
      try simp only [Act.put, List.getElem_toArray, List.getElem_cons_succ, List.getElem_cons_zero, List.setIfInBounds_toArray, List.set_cons_zero, List.set_cons_succ]
      refine wpAnyH_take (i := 8) (v := ?vv42) rfl (by kernel_rfl) (by kernel_rfl) (by kernel_rfl) (fun _ _ _ h => h) (Or.inl ⟨by rfl, ?hy42⟩) (by assumption) ?rest42
      case hy42 => (intro w hSw; (try dsimp only at hSw); go_simp; first | done | with_reducible rfl)
      try simp only [Act.put, List.getElem_toArray, List.getElem_cons_succ, List.getElem_cons_zero, List.setIfInBounds_toArray, List.set_cons_zero, List.set_cons_succ]
      refine wpAnyH_take (i := 9) (v := ?vv43) rfl (by kernel_rfl) (by kernel_rfl) (by kernel_rfl) (fun _ _ _ h => h) (Or.inl ⟨by rfl, ?hy43⟩) (by assumption) ?rest43
      case hy43 => (intro w hSw; (try dsimp only at hSw); go_simp; first | done | with_reducible rfl)
      try simp only [Act.put, List.getElem_toArray, List.getElem_cons_succ, List.getElem_cons_zero, List.setIfInBounds_toArray, List.set_cons_zero, List.set_cons_succ]
      refine wpAnyH_take (i := 10) (v := ?vv44) rfl (by kernel_rfl) (by kernel_rfl) (by kernel_rfl) (fun _ _ _ h => h) (Or.inl ⟨by rfl, ?hy44⟩) (by assumption) ?rest44
      case hy44 => (intro w hSw; (try dsimp only at hSw); go_simp; first | done | with_reducible rfl)
      try simp only [Act.put, List.getElem_toArray, List.getElem_cons_succ, List.getElem_cons_zero, List.setIfInBounds_toArray, List.set_cons_zero, List.set_cons_succ]
      refine wpAnyH_done (by kernel_rfl) ?_ _
      have HB2 := hid (below_on HB.out B0.out)
      clear ZW B0 nq
      go_wp2_with fail
      go_ret
      exact ⟨rfl, below_on BA.out HB2.out⟩
end Go.Proofs.YtikkpfchbcfhlaaGreat
namespace Go.Proofs.YtikkpfchbcfhlaaGreat
open Go.RowKit Go.Maps
set_option linter.unusedVariables false
set_option linter.unusedSimpArgs false

set_option maxRecDepth 100000 in
set_option maxHeartbeats 4000000 in
theorem rsm_ks (p1 k1 p2 k2 : Value) (c d : Cm) (w : World) (h1 : PcI w p1 c.ps) (g1 : PkI w k1 c.ks) (h2 : PcI w p2 d.ps) (g2 : PkI w k2 d.ks) (hlp : c.ps.length ≤ 8796093022208) (hlk : c.ks.length ≤ 8796093022208) (e0 : c.kd = d.kd) (e1 : c.tk = d.tk) (e2 : c.bk = d.bk) (e3 : c.ky = d.ky) (e4 : c.id = d.id) (e5 : c.n = d.n) (e6 : c.sm = d.sm) (e7 : c.ps.length = d.ps.length) (e8 : c.ks.length = d.ks.length) (hps : c.ps = d.ps) (m : Nat) (hm : m < c.ks.length) (hm2 : m < d.ks.length) (hne : c.ks[m] ≠ d.ks[m]) (hlo : ∀ (j : Nat) (h : j < m), c.ks[j]'(by omega) = d.ks[j]'(by omega)) : Calls Tryz.prog 17 #[cmV p1 k1 c, cmV p2 k2 d] w fun e w' => e = .returned (.bool false) ∧ Below w.heap.size w w' := by
  obtain ⟨pa1, pc1, rfl, f1⟩ := h1.form
  obtain ⟨ka1, kc1, rfl, f2⟩ := g1.form
  obtain ⟨pa2, pc2, rfl, f3⟩ := h2.form
  obtain ⟨ka2, kc2, rfl, f4⟩ := g2.form
  have HP : Hid (∀ (k : Nat) (hk : k < c.ps.length) (hk2 : k < d.ps.length) (W : World), Below w.heap.size w W → ∃ b1 o1 b2 o2, pa1 = some ⟨b1, o1, none⟩ ∧ pa2 = some ⟨b2, o2, none⟩ ∧ W.cell? ⟨b1, o1 + k * 2, none⟩ = some (.string c.ps[k].id) ∧ W.cell? ⟨b1, o1 + k * 2 + 1, none⟩ = some (.int .i64 c.ps[k].sz) ∧ W.cell? ⟨b2, o2 + k * 2, none⟩ = some (.string d.ps[k].id) ∧ W.cell? ⟨b2, o2 + k * 2 + 1, none⟩ = some (.int .i64 d.ps[k].sz)) := fun k hk hk2 W hW => by
    obtain ⟨b1, o1, e1, hb1, p1, p2⟩ := f1 k hk
    obtain ⟨b2, o2, e2, hb2, q1, q2⟩ := f3 k hk2
    exact ⟨b1, o1, b2, o2, e1, e2, (hW.cell (p := ⟨b1, o1 + k * 2, none⟩) hb1).trans p1, (hW.cell (p := ⟨b1, o1 + k * 2 + 1, none⟩) hb1).trans p2, (hW.cell (p := ⟨b2, o2 + k * 2, none⟩) hb2).trans q1, (hW.cell (p := ⟨b2, o2 + k * 2 + 1, none⟩) hb2).trans q2⟩
  have HEP : Hid (∀ (k : Nat) (hk : k < c.ps.length) (hk2 : k < d.ps.length), c.ps[k] = d.ps[k]) := fun k hk hk2 => by simp only [hps]
  have HK : Hid (∀ (k : Nat) (hk : k < c.ks.length) (hk2 : k < d.ks.length) (W : World), Below w.heap.size w W → ∃ b1 o1 b2 o2, ka1 = some ⟨b1, o1, none⟩ ∧ ka2 = some ⟨b2, o2, none⟩ ∧ W.cell? ⟨b1, o1 + k * 2, none⟩ = some (.int .i64 c.ks[k].n) ∧ W.cell? ⟨b1, o1 + k * 2 + 1, none⟩ = some (.string c.ks[k].su) ∧ W.cell? ⟨b2, o2 + k * 2, none⟩ = some (.int .i64 d.ks[k].n) ∧ W.cell? ⟨b2, o2 + k * 2 + 1, none⟩ = some (.string d.ks[k].su)) := fun k hk hk2 W hW => by
    obtain ⟨b1, o1, e1, hb1, p1, p2⟩ := f2 k hk
    obtain ⟨b2, o2, e2, hb2, q1, q2⟩ := f4 k hk2
    exact ⟨b1, o1, b2, o2, e1, e2, (hW.cell (p := ⟨b1, o1 + k * 2, none⟩) hb1).trans p1, (hW.cell (p := ⟨b1, o1 + k * 2 + 1, none⟩) hb1).trans p2, (hW.cell (p := ⟨b2, o2 + k * 2, none⟩) hb2).trans q1, (hW.cell (p := ⟨b2, o2 + k * 2 + 1, none⟩) hb2).trans q2⟩
  have HEK : Hid (∀ (k : Nat) (hk : k < c.ks.length) (hk2 : k < d.ks.length), k < m → c.ks[k] = d.ks[k]) := fun k hk hk2 h => hlo k h
  have HNK : Hid (∀ (h1 : m < c.ks.length) (h2 : m < d.ks.length), c.ks[m] ≠ d.ks[m]) := fun _ _ => hne
  clear h1 g1 h2 g2 f1 f2 f3 f4 hps hne hlo
  unfold cmV
  obtain ⟨kd, tk, bk, ky, id, n, sm, ps, ks⟩ := c
  obtain ⟨kd2, tk2, bk2, ky2, id2, n2, sm2, ps2, ks2⟩ := d
  simp only at *
  subst e0
  subst e1
  subst e2
  subst e3
  subst e4
  subst e5
  subst e6
  have BA := hid (below_al (below_al (Below.refl w.heap.size w) (.cells #[.int .i64 kd, .string tk, .string bk, .string ky, .int .i64 id, .int .i64 n, .string sm, .slice pa1 ps.length pc1, .slice ka1 ks.length kc1] 34)) (.cells #[.int .i64 kd, .string tk, .string bk, .string ky, .int .i64 id, .int .i64 n, .string sm, .slice pa2 ps2.length pc2, .slice ka2 ks2.length kc2] 34))
  have ZC : Hid (∀ W, Below ((w.alloc (.cells #[.int .i64 kd, .string tk, .string bk, .string ky, .int .i64 id, .int .i64 n, .string sm, .slice pa1 ps.length pc1, .slice ka1 ks.length kc1] 34)).alloc (.cells #[.int .i64 kd, .string tk, .string bk, .string ky, .int .i64 id, .int .i64 n, .string sm, .slice pa2 ps2.length pc2, .slice ka2 ks2.length kc2] 34)).heap.size ((w.alloc (.cells #[.int .i64 kd, .string tk, .string bk, .string ky, .int .i64 id, .int .i64 n, .string sm, .slice pa1 ps.length pc1, .slice ka1 ks.length kc1] 34)).alloc (.cells #[.int .i64 kd, .string tk, .string bk, .string ky, .int .i64 id, .int .i64 n, .string sm, .slice pa2 ps2.length pc2, .slice ka2 ks2.length kc2] 34)) W → W.cell? ⟨w.heap.size, 0, none⟩ = some (.int .i64 kd) ∧ W.cell? ⟨w.heap.size, 1, none⟩ = some (.string tk) ∧ W.cell? ⟨w.heap.size, 2, none⟩ = some (.string bk) ∧ W.cell? ⟨w.heap.size, 3, none⟩ = some (.string ky) ∧ W.cell? ⟨w.heap.size, 4, none⟩ = some (.int .i64 id) ∧ W.cell? ⟨w.heap.size, 5, none⟩ = some (.int .i64 n) ∧ W.cell? ⟨w.heap.size, 6, none⟩ = some (.string sm) ∧ W.cell? ⟨w.heap.size, 7, none⟩ = some (.slice pa1 ps.length pc1) ∧ W.cell? ⟨w.heap.size, 8, none⟩ = some (.slice ka1 ks.length kc1) ∧ W.cell? ⟨w.heap.size + 1, 0, none⟩ = some (.int .i64 kd) ∧ W.cell? ⟨w.heap.size + 1, 1, none⟩ = some (.string tk) ∧ W.cell? ⟨w.heap.size + 1, 2, none⟩ = some (.string bk) ∧ W.cell? ⟨w.heap.size + 1, 3, none⟩ = some (.string ky) ∧ W.cell? ⟨w.heap.size + 1, 4, none⟩ = some (.int .i64 id) ∧ W.cell? ⟨w.heap.size + 1, 5, none⟩ = some (.int .i64 n) ∧ W.cell? ⟨w.heap.size + 1, 6, none⟩ = some (.string sm) ∧ W.cell? ⟨w.heap.size + 1, 7, none⟩ = some (.slice pa2 ps2.length pc2) ∧ W.cell? ⟨w.heap.size + 1, 8, none⟩ = some (.slice ka2 ks2.length kc2)) := fun W hW => by
    have q := (row_old (srow w [.int .i64 kd, .string tk, .string bk, .string ky, .int .i64 id, .int .i64 n, .string sm, .slice pa1 ps.length pc1, .slice ka1 ks.length kc1] 34) (.cells #[.int .i64 kd, .string tk, .string bk, .string ky, .int .i64 id, .int .i64 n, .string sm, .slice pa2 ps2.length pc2, .slice ka2 ks2.length kc2] 34)).keep (hW.keep (fun _ => False)) (fun h => h)
    have r := srow (w.alloc (.cells #[.int .i64 kd, .string tk, .string bk, .string ky, .int .i64 id, .int .i64 n, .string sm, .slice pa1 ps.length pc1, .slice ka1 ks.length kc1] 34)) [.int .i64 kd, .string tk, .string bk, .string ky, .int .i64 id, .int .i64 n, .string sm, .slice pa2 ps2.length pc2, .slice ka2 ks2.length kc2] 34
    rw [show (w.alloc (.cells #[.int .i64 kd, .string tk, .string bk, .string ky, .int .i64 id, .int .i64 n, .string sm, .slice pa1 ps.length pc1, .slice ka1 ks.length kc1] 34)).heap.size = w.heap.size + 1 from by simp] at r
    replace r := r.keep (hW.keep (fun _ => False)) (fun h => h)
    exact ⟨q.cellAt rfl, q.cellAt rfl, q.cellAt rfl, q.cellAt rfl, q.cellAt rfl, q.cellAt rfl, q.cellAt rfl, q.cellAt rfl, q.cellAt rfl, r.cellAt rfl, r.cellAt rfl, r.cellAt rfl, r.cellAt rfl, r.cellAt rfl, r.cellAt rfl, r.cellAt rfl, r.cellAt rfl, r.cellAt rfl⟩
  obtain ⟨y0, y1, y2, y3, y4, y5, y6, y7, y8, z0, z1, z2, z3, z4, z5, z6, z7, z8⟩ := ZC.out _ (Below.refl _ _)
  have q0 : (kd != kd) = false := by simp
  have q1 : (tk.toList != tk.toList) = false := by simp
  have q2 : (bk.toList != bk.toList) = false := by simp
  have q3 : (ky.toList != ky.toList) = false := by simp
  have q4 : (id != id) = false := by simp
  have q5 : (n != n) = false := by simp
  have q6 : (sm.toList != sm.toList) = false := by simp
  have q7 : ((ps.length : Int) != (ps2.length : Int)) = false := by rw [e7]; simp
  have q7b : (ps.length != ps2.length) = false := by rw [e7]; simp
  have q8 : ((ks.length : Int) != (ks2.length : Int)) = false := by rw [e8]; simp
  have q8b : (ks.length != ks2.length) = false := by rw [e8]; simp
  have E7 := hid e7
  have E8 := hid e8
  clear e7 e8
  have HM := hid hm
  clear hm hm2
  have HLP := hid hlp
  have HLK := hid hlk
  clear hlp hlk
  have gp := gdP16
  have gk := gdK16
  go_enter Tryz.func17, Tryz.ntmps17
  go_wp2
  clear y0 y1 y2 y3 y4 y5 y6 y7 y8 z0 z1 z2 z3 z4 z5 z6 z7 z8 q0 q1 q2 q3 q4 q5 q6 q7 q8 q7b q8b
  have BX0 := hid (Below.refl ((w.alloc (.cells #[.int .i64 kd, .string tk, .string bk, .string ky, .int .i64 id, .int .i64 n, .string sm, .slice pa1 ps.length pc1, .slice ka1 ks.length kc1] 34)).alloc (.cells #[.int .i64 kd, .string tk, .string bk, .string ky, .int .i64 id, .int .i64 n, .string sm, .slice pa2 ps2.length pc2, .slice ka2 ks2.length kc2] 34)).heap.size ((w.alloc (.cells #[.int .i64 kd, .string tk, .string bk, .string ky, .int .i64 id, .int .i64 n, .string sm, .slice pa1 ps.length pc1, .slice ka1 ks.length kc1] 34)).alloc (.cells #[.int .i64 kd, .string tk, .string bk, .string ky, .int .i64 id, .int .i64 n, .string sm, .slice pa2 ps2.length pc2, .slice ka2 ks2.length kc2] 34)))
  generalize ((w.alloc (.cells #[.int .i64 kd, .string tk, .string bk, .string ky, .int .i64 id, .int .i64 n, .string sm, .slice pa1 ps.length pc1, .slice ka1 ks.length kc1] 34)).alloc (.cells #[.int .i64 kd, .string tk, .string bk, .string ky, .int .i64 id, .int .i64 n, .string sm, .slice pa2 ps2.length pc2, .slice ka2 ks2.length kc2] 34)) = X at *
  go_loopw [5] (fun i wr => ∃ (k : Nat), k ≤ ps.length ∧ i = .int .i64 (k : Int) ∧ Hid (Below X.heap.size X wr)) (fun i _ => ps.length - (intOf i).toNat)
  case atStart => exact ⟨0, Nat.zero_le _, rfl, BX0⟩
  case round =>
    obtain ⟨k, hk, rfl, HB⟩ := hrel
    clear BX0
    obtain ⟨y0, y1, y2, y3, y4, y5, y6, y7, y8, z0, z1, z2, z3, z4, z5, z6, z7, z8⟩ := ZC.out _ HB.out
    by_cases hlt : k < ps.length
    · have hk1 : (k : Int) < (ps.length : Int) := by omega
      have hk0 : (0 : Int) ≤ (k : Int) := by omega
      have hk2 : (k : Int) < (ps2.length : Int) := by have := E7.out; omega
      have hwk : wrap64 ((k : Int) + 1) = ((k + 1 : Nat) : Int) := by have := HLP.out; rw [IntWalk.wrap64_in _ (by omega)]; omega
      have hkd : k < ps2.length := by have := E7.out; omega
      have HCE := hid (fun W hW => HP.out k hlt hkd W hW)
      have hee := HEP.out k hlt hkd 
      generalize hx2 : ps2[k] = x2v at *
      generalize ps[k] = x1v at *
      clear hx2
      subst hee
      obtain ⟨xa, xb⟩ := x1v
      simp only at HCE
      have nq := fun W => eqP16 xa xb W
      obtain ⟨b1, o1, b2, o2, rfl, rfl, u0, u1, u2, u3⟩ := HCE.out _ (below_on BA.out HB.out)
      have ZW : Hid (∀ W, Below wr.heap.size wr W → (fun w' => w'.cell? ⟨w.heap.size, 7, none⟩ = some (.slice (some ⟨b1, o1, none⟩) ps.length pc1) ∧ w'.cell? ⟨w.heap.size + 1, 7, none⟩ = some (.slice (some ⟨b2, o2, none⟩) ps2.length pc2) ∧ w'.cell? ⟨b1, o1 + k * 2, none⟩ = some (.string xa) ∧ w'.cell? ⟨b1, o1 + k * 2 + 1, none⟩ = some (.int .i64 xb) ∧ w'.cell? ⟨b2, o2 + k * 2, none⟩ = some (.string xa) ∧ w'.cell? ⟨b2, o2 + k * 2 + 1, none⟩ = some (.int .i64 xb)) W) := fun W hW => by
        have hW2 := below_on HB.out hW
        obtain ⟨a0, a1, a2, a3, a4, a5, a6, a7, a8, c0, c1, c2, c3, c4, c5, c6, c7, c8⟩ := ZC.out _ hW2
        obtain ⟨r1, r2, r3, r4, er1, er2, v0, v1, v2, v3⟩ := HCE.out _ (below_on BA.out hW2)
        injection er1 with er1; injection er1 with er1 er1'; subst er1 er1'
        injection er2 with er2; injection er2 with er2 er2'; subst er2 er2'
        exact ⟨a7, c7, v0, v1, v2, v3⟩
      have HLT := hid hlt
      clear HCE hlt hk hkd 
      go_upto_region 6 with fail
      clear u0 u1 u2 u3 y0 y1 y2 y3 y4 y5 y6 y7 y8 z0 z1 z2 z3 z4 z5 z6 z7 z8
      have B0 := hid (Below.refl wr.heap.size wr).drew
      refine wp_region_held_drew (S := (fun w' => w'.cell? ⟨w.heap.size, 7, none⟩ = some (.slice (some ⟨b1, o1, none⟩) ps.length pc1) ∧ w'.cell? ⟨w.heap.size + 1, 7, none⟩ = some (.slice (some ⟨b2, o2, none⟩) ps2.length pc2) ∧ w'.cell? ⟨b1, o1 + k * 2, none⟩ = some (.string xa) ∧ w'.cell? ⟨b1, o1 + k * 2 + 1, none⟩ = some (.int .i64 xb) ∧ w'.cell? ⟨b2, o2 + k * 2, none⟩ = some (.string xa) ∧ w'.cell? ⟨b2, o2 + k * 2 + 1, none⟩ = some (.int .i64 xb))) (by kernel_rfl) (ZW.out _ B0.out) (fun hHeld => ?_)
      refine wpAnyH_take (i := 0) (v := ?vv45) rfl (by kernel_rfl) (by kernel_rfl) (by kernel_rfl) (fun _ _ _ h => h) (Or.inl ⟨by rfl, ?hy45⟩) (by assumption) ?rest45
      case hy45 => (intro w hSw; (try dsimp only at hSw); go_simp; first | done | with_reducible rfl)
      try simp only [Act.put, List.getElem_toArray, List.getElem_cons_succ, List.getElem_cons_zero, List.setIfInBounds_toArray, List.set_cons_zero, List.set_cons_succ]
      refine wpAnyH_take (i := 1) (v := ?vv46) rfl (by kernel_rfl) (by kernel_rfl) (by kernel_rfl) (fun _ _ _ h => h) (Or.inl ⟨by rfl, ?hy46⟩) (by assumption) ?rest46
      case hy46 => (intro w hSw; (try dsimp only at hSw); go_simp; first | done | with_reducible rfl)
      try simp only [Act.put, List.getElem_toArray, List.getElem_cons_succ, List.getElem_cons_zero, List.setIfInBounds_toArray, List.set_cons_zero, List.set_cons_succ]
      refine wpAnyH_take (i := 2) (v := ?vv47) rfl (by kernel_rfl) (by kernel_rfl) (by kernel_rfl) (fun _ _ _ h => h) (Or.inl ⟨by rfl, ?hy47⟩) (by assumption) ?rest47
      case hy47 => (intro w hSw; (try dsimp only at hSw); go_simp; first | done | with_reducible rfl)
      try simp only [Act.put, List.getElem_toArray, List.getElem_cons_succ, List.getElem_cons_zero, List.setIfInBounds_toArray, List.set_cons_zero, List.set_cons_succ]
      refine wpAnyH_take (i := 3) (v := ?vv48) rfl (by kernel_rfl) (by kernel_rfl) (by kernel_rfl) (fun _ _ _ h => h) (Or.inl ⟨by rfl, ?hy48⟩) (by assumption) ?rest48
      case hy48 => (intro w hSw; (try dsimp only at hSw); go_simp; first | done | with_reducible rfl)
      try simp only [Act.put, List.getElem_toArray, List.getElem_cons_succ, List.getElem_cons_zero, List.setIfInBounds_toArray, List.set_cons_zero, List.set_cons_succ]
      refine wpAnyH_take (i := 4) (v := ?vv49) rfl (by kernel_rfl) (by kernel_rfl) (by kernel_rfl) (fun _ _ _ h => h) (Or.inl ⟨by rfl, ?hy49⟩) (by assumption) ?rest49
      case hy49 => (intro w hSw; (try dsimp only at hSw); go_simp; first | done | with_reducible rfl)
      try simp only [Act.put, List.getElem_toArray, List.getElem_cons_succ, List.getElem_cons_zero, List.setIfInBounds_toArray, List.set_cons_zero, List.set_cons_succ]
      refine wpAnyH_take (i := 5) (v := ?vv50) rfl (by kernel_rfl) (by kernel_rfl) (by kernel_rfl) (fun _ _ _ h => h) (Or.inl ⟨by rfl, ?hy50⟩) (by assumption) ?rest50
      case hy50 => (intro w hSw; (try dsimp only at hSw); go_simp; first | done | with_reducible rfl)
      try simp only [Act.put, List.getElem_toArray, List.getElem_cons_succ, List.getElem_cons_zero, List.setIfInBounds_toArray, List.set_cons_zero, List.set_cons_succ]
      refine wpAnyH_take (i := 6) (v := ?vv51) rfl (by kernel_rfl) (by kernel_rfl) (by kernel_rfl) (fun _ _ _ h => h) (Or.inl ⟨by rfl, ?hy51⟩) (by assumption) ?rest51
      case hy51 => (intro w hSw; (try dsimp only at hSw); go_simp; first | done | with_reducible rfl)
      try simp only [Act.put, List.getElem_toArray, List.getElem_cons_succ, List.getElem_cons_zero, List.setIfInBounds_toArray, List.set_cons_zero, List.set_cons_succ]
      refine wpAnyH_take (i := 7) (v := ?vv52) rfl (by kernel_rfl) (by kernel_rfl) (by kernel_rfl) (fun _ _ _ h => h) (Or.inl ⟨by rfl, ?hy52⟩) (by assumption) ?rest52
      case hy52 => (intro w hSw; (try dsimp only at hSw); go_simp; first | done | with_reducible rfl)
      try simp only [Act.put, List.getElem_toArray, List.getElem_cons_succ, List.getElem_cons_zero, List.setIfInBounds_toArray, List.set_cons_zero, List.set_cons_succ]
      refine wpAnyH_take (i := 8) (v := ?vv53) rfl (by kernel_rfl) (by kernel_rfl) (by kernel_rfl) (fun _ _ _ h => h) (Or.inl ⟨by rfl, ?hy53⟩) (by assumption) ?rest53
      case hy53 => (intro w hSw; (try dsimp only at hSw); go_simp; first | done | with_reducible rfl)
      try simp only [Act.put, List.getElem_toArray, List.getElem_cons_succ, List.getElem_cons_zero, List.setIfInBounds_toArray, List.set_cons_zero, List.set_cons_succ]
      refine wpAnyH_take (i := 9) (v := ?vv54) rfl (by kernel_rfl) (by kernel_rfl) (by kernel_rfl) (fun _ _ _ h => h) (Or.inl ⟨by rfl, ?hy54⟩) (by assumption) ?rest54
      case hy54 => (intro w hSw; (try dsimp only at hSw); go_simp; first | done | with_reducible rfl)
      try simp only [Act.put, List.getElem_toArray, List.getElem_cons_succ, List.getElem_cons_zero, List.setIfInBounds_toArray, List.set_cons_zero, List.set_cons_succ]
      refine wpAnyH_take (i := 10) (v := ?vv55) rfl (by kernel_rfl) (by kernel_rfl) (by kernel_rfl) (fun _ _ _ h => h) (Or.inl ⟨by rfl, ?hy55⟩) (by assumption) ?rest55
      case hy55 => (intro w hSw; (try dsimp only at hSw); go_simp; first | done | with_reducible rfl)
      try simp only [Act.put, List.getElem_toArray, List.getElem_cons_succ, List.getElem_cons_zero, List.setIfInBounds_toArray, List.set_cons_zero, List.set_cons_succ]
      refine wpAnyH_done (by kernel_rfl) ?_ _
      have HB2 := hid (below_on HB.out B0.out)
      clear ZW B0 nq
      go_wp2_with fail
      have hlt := HLT.out
      exact ⟨⟨k + 1, hlt, by first | rw [hwk] | rfl | simp, HB2⟩, by (try rw [hwk]); simp [intOf]; omega⟩
    · have hd : decide ((k : Int) < (ps.length : Int)) = false := decide_eq_false (by omega)
      have hd2 : decide (k < ps.length) = false := decide_eq_false hlt
      clear hlt hk HP HEP
      go_wp2
      clear hd hd2 y0 y1 y2 y3 y4 y5 y6 y7 y8 z0 z1 z2 z3 z4 z5 z6 z7 z8
      have HBo := HB
      clear HB
      go_loopw [6] (fun i wr => ∃ (k : Nat), k ≤ m ∧ i = .int .i64 (k : Int) ∧ Hid (Below X.heap.size X wr)) (fun i _ => ks.length - (intOf i).toNat)
      case atStart => exact ⟨0, Nat.zero_le _, rfl, HBo⟩
      case round =>
        obtain ⟨k, hk, rfl, HB⟩ := hrel
        clear HBo
        obtain ⟨y0, y1, y2, y3, y4, y5, y6, y7, y8, z0, z1, z2, z3, z4, z5, z6, z7, z8⟩ := ZC.out _ HB.out
        have hm := HM.out
        have hlt : k < ks.length := by omega
        by_cases hkm : k < m
        · have HKM := hid hkm
          have hk1 : (k : Int) < (ks.length : Int) := by omega
          have hk0 : (0 : Int) ≤ (k : Int) := by omega
          have hk2 : (k : Int) < (ks2.length : Int) := by have := E8.out; omega
          have hwk : wrap64 ((k : Int) + 1) = ((k + 1 : Nat) : Int) := by have := HLK.out; rw [IntWalk.wrap64_in _ (by omega)]; omega
          have hkd : k < ks2.length := by have := E8.out; omega
          have HCE := hid (fun W hW => HK.out k hlt hkd W hW)
          have hee := HEK.out k hlt hkd hkm
          generalize hx2 : ks2[k] = x2v at *
          generalize ks[k] = x1v at *
          clear hx2
          subst hee
          obtain ⟨xa, xb⟩ := x1v
          simp only at HCE
          have nq := fun W => eqK16 xb xa W
          obtain ⟨b1, o1, b2, o2, rfl, rfl, u0, u1, u2, u3⟩ := HCE.out _ (below_on BA.out HB.out)
          have ZW : Hid (∀ W, Below wr.heap.size wr W → (fun w' => w'.cell? ⟨w.heap.size, 8, none⟩ = some (.slice (some ⟨b1, o1, none⟩) ks.length kc1) ∧ w'.cell? ⟨w.heap.size + 1, 8, none⟩ = some (.slice (some ⟨b2, o2, none⟩) ks2.length kc2) ∧ w'.cell? ⟨b1, o1 + k * 2, none⟩ = some (.int .i64 xa) ∧ w'.cell? ⟨b1, o1 + k * 2 + 1, none⟩ = some (.string xb) ∧ w'.cell? ⟨b2, o2 + k * 2, none⟩ = some (.int .i64 xa) ∧ w'.cell? ⟨b2, o2 + k * 2 + 1, none⟩ = some (.string xb)) W) := fun W hW => by
            have hW2 := below_on HB.out hW
            obtain ⟨a0, a1, a2, a3, a4, a5, a6, a7, a8, c0, c1, c2, c3, c4, c5, c6, c7, c8⟩ := ZC.out _ hW2
            obtain ⟨r1, r2, r3, r4, er1, er2, v0, v1, v2, v3⟩ := HCE.out _ (below_on BA.out hW2)
            injection er1 with er1; injection er1 with er1 er1'; subst er1 er1'
            injection er2 with er2; injection er2 with er2 er2'; subst er2 er2'
            exact ⟨a8, c8, v0, v1, v2, v3⟩
          have HLT := hid hlt
          clear HCE hlt hk hkd hkm
          go_upto_region 11 with fail
          clear u0 u1 u2 u3 y0 y1 y2 y3 y4 y5 y6 y7 y8 z0 z1 z2 z3 z4 z5 z6 z7 z8
          have B0 := hid (Below.refl wr.heap.size wr).drew
          refine wp_region_held_drew (S := (fun w' => w'.cell? ⟨w.heap.size, 8, none⟩ = some (.slice (some ⟨b1, o1, none⟩) ks.length kc1) ∧ w'.cell? ⟨w.heap.size + 1, 8, none⟩ = some (.slice (some ⟨b2, o2, none⟩) ks2.length kc2) ∧ w'.cell? ⟨b1, o1 + k * 2, none⟩ = some (.int .i64 xa) ∧ w'.cell? ⟨b1, o1 + k * 2 + 1, none⟩ = some (.string xb) ∧ w'.cell? ⟨b2, o2 + k * 2, none⟩ = some (.int .i64 xa) ∧ w'.cell? ⟨b2, o2 + k * 2 + 1, none⟩ = some (.string xb))) (by kernel_rfl) (ZW.out _ B0.out) (fun hHeld => ?_)
          refine wpAnyH_take (i := 0) (v := ?vv56) rfl (by kernel_rfl) (by kernel_rfl) (by kernel_rfl) (fun _ _ _ h => h) (Or.inl ⟨by rfl, ?hy56⟩) (by assumption) ?rest56
          case hy56 => (intro w hSw; (try dsimp only at hSw); go_simp; first | done | with_reducible rfl)
          try simp only [Act.put, List.getElem_toArray, List.getElem_cons_succ, List.getElem_cons_zero, List.setIfInBounds_toArray, List.set_cons_zero, List.set_cons_succ]
          refine wpAnyH_take (i := 1) (v := ?vv57) rfl (by kernel_rfl) (by kernel_rfl) (by kernel_rfl) (fun _ _ _ h => h) (Or.inl ⟨by rfl, ?hy57⟩) (by assumption) ?rest57
          case hy57 => (intro w hSw; (try dsimp only at hSw); go_simp; first | done | with_reducible rfl)
          try simp only [Act.put, List.getElem_toArray, List.getElem_cons_succ, List.getElem_cons_zero, List.setIfInBounds_toArray, List.set_cons_zero, List.set_cons_succ]
          refine wpAnyH_take (i := 2) (v := ?vv58) rfl (by kernel_rfl) (by kernel_rfl) (by kernel_rfl) (fun _ _ _ h => h) (Or.inl ⟨by rfl, ?hy58⟩) (by assumption) ?rest58
          case hy58 => (intro w hSw; (try dsimp only at hSw); go_simp; first | done | with_reducible rfl)
          try simp only [Act.put, List.getElem_toArray, List.getElem_cons_succ, List.getElem_cons_zero, List.setIfInBounds_toArray, List.set_cons_zero, List.set_cons_succ]
          refine wpAnyH_take (i := 3) (v := ?vv59) rfl (by kernel_rfl) (by kernel_rfl) (by kernel_rfl) (fun _ _ _ h => h) (Or.inl ⟨by rfl, ?hy59⟩) (by assumption) ?rest59
          case hy59 => (intro w hSw; (try dsimp only at hSw); go_simp; first | done | with_reducible rfl)
          try simp only [Act.put, List.getElem_toArray, List.getElem_cons_succ, List.getElem_cons_zero, List.setIfInBounds_toArray, List.set_cons_zero, List.set_cons_succ]
          refine wpAnyH_take (i := 4) (v := ?vv60) rfl (by kernel_rfl) (by kernel_rfl) (by kernel_rfl) (fun _ _ _ h => h) (Or.inl ⟨by rfl, ?hy60⟩) (by assumption) ?rest60
          case hy60 => (intro w hSw; (try dsimp only at hSw); go_simp; first | done | with_reducible rfl)
          try simp only [Act.put, List.getElem_toArray, List.getElem_cons_succ, List.getElem_cons_zero, List.setIfInBounds_toArray, List.set_cons_zero, List.set_cons_succ]
          refine wpAnyH_take (i := 5) (v := ?vv61) rfl (by kernel_rfl) (by kernel_rfl) (by kernel_rfl) (fun _ _ _ h => h) (Or.inl ⟨by rfl, ?hy61⟩) (by assumption) ?rest61
          case hy61 => (intro w hSw; (try dsimp only at hSw); go_simp; first | done | with_reducible rfl)
          try simp only [Act.put, List.getElem_toArray, List.getElem_cons_succ, List.getElem_cons_zero, List.setIfInBounds_toArray, List.set_cons_zero, List.set_cons_succ]
          refine wpAnyH_take (i := 6) (v := ?vv62) rfl (by kernel_rfl) (by kernel_rfl) (by kernel_rfl) (fun _ _ _ h => h) (Or.inl ⟨by rfl, ?hy62⟩) (by assumption) ?rest62
          case hy62 => (intro w hSw; (try dsimp only at hSw); go_simp; first | done | with_reducible rfl)
          try simp only [Act.put, List.getElem_toArray, List.getElem_cons_succ, List.getElem_cons_zero, List.setIfInBounds_toArray, List.set_cons_zero, List.set_cons_succ]
          refine wpAnyH_take (i := 7) (v := ?vv63) rfl (by kernel_rfl) (by kernel_rfl) (by kernel_rfl) (fun _ _ _ h => h) (Or.inl ⟨by rfl, ?hy63⟩) (by assumption) ?rest63
          case hy63 => (intro w hSw; (try dsimp only at hSw); go_simp; first | done | with_reducible rfl)
          try simp only [Act.put, List.getElem_toArray, List.getElem_cons_succ, List.getElem_cons_zero, List.setIfInBounds_toArray, List.set_cons_zero, List.set_cons_succ]
          refine wpAnyH_take (i := 8) (v := ?vv64) rfl (by kernel_rfl) (by kernel_rfl) (by kernel_rfl) (fun _ _ _ h => h) (Or.inl ⟨by rfl, ?hy64⟩) (by assumption) ?rest64
          case hy64 => (intro w hSw; (try dsimp only at hSw); go_simp; first | done | with_reducible rfl)
          try simp only [Act.put, List.getElem_toArray, List.getElem_cons_succ, List.getElem_cons_zero, List.setIfInBounds_toArray, List.set_cons_zero, List.set_cons_succ]
          refine wpAnyH_take (i := 9) (v := ?vv65) rfl (by kernel_rfl) (by kernel_rfl) (by kernel_rfl) (fun _ _ _ h => h) (Or.inl ⟨by rfl, ?hy65⟩) (by assumption) ?rest65
          case hy65 => (intro w hSw; (try dsimp only at hSw); go_simp; first | done | with_reducible rfl)
          try simp only [Act.put, List.getElem_toArray, List.getElem_cons_succ, List.getElem_cons_zero, List.setIfInBounds_toArray, List.set_cons_zero, List.set_cons_succ]
          refine wpAnyH_take (i := 10) (v := ?vv66) rfl (by kernel_rfl) (by kernel_rfl) (by kernel_rfl) (fun _ _ _ h => h) (Or.inl ⟨by rfl, ?hy66⟩) (by assumption) ?rest66
          case hy66 => (intro w hSw; (try dsimp only at hSw); go_simp; first | done | with_reducible rfl)
          try simp only [Act.put, List.getElem_toArray, List.getElem_cons_succ, List.getElem_cons_zero, List.setIfInBounds_toArray, List.set_cons_zero, List.set_cons_succ]
          refine wpAnyH_done (by kernel_rfl) ?_ _
          have HB2 := hid (below_on HB.out B0.out)
          clear ZW B0 nq
          go_wp2_with fail
          have hlt := HLT.out
          exact ⟨⟨k + 1, HKM.out, by first | rw [hwk] | rfl | simp, HB2⟩, by (try rw [hwk]); simp [intOf]; omega⟩
        · obtain rfl : k = m := by omega
          have hk1 : (k : Int) < (ks.length : Int) := by omega
          have hk0 : (0 : Int) ≤ (k : Int) := by omega
          have hk2 : (k : Int) < (ks2.length : Int) := by have := E8.out; omega
          have hwk : wrap64 ((k : Int) + 1) = ((k + 1 : Nat) : Int) := by have := HLK.out; rw [IntWalk.wrap64_in _ (by omega)]; omega
          have hkd : k < ks2.length := by have := E8.out; omega
          have HCE := hid (fun W hW => HK.out k hlt hkd W hW)
          have hee := HNK.out hlt hkd
          generalize hx2 : ks2[k] = x2v at *
          generalize ks[k] = x1v at *
          clear hx2
          obtain ⟨xa, xb⟩ := x1v
          obtain ⟨xc, xd⟩ := x2v
          simp only at HCE
          have nq := fun W => neK16 xb xd xa xc W (fun h => hee (by rw [h.1, h.2]))
          clear hee
          obtain ⟨b1, o1, b2, o2, rfl, rfl, u0, u1, u2, u3⟩ := HCE.out _ (below_on BA.out HB.out)
          have ZW : Hid (∀ W, Below wr.heap.size wr W → (fun w' => w'.cell? ⟨w.heap.size, 8, none⟩ = some (.slice (some ⟨b1, o1, none⟩) ks.length kc1) ∧ w'.cell? ⟨w.heap.size + 1, 8, none⟩ = some (.slice (some ⟨b2, o2, none⟩) ks2.length kc2) ∧ w'.cell? ⟨b1, o1 + k * 2, none⟩ = some (.int .i64 xa) ∧ w'.cell? ⟨b1, o1 + k * 2 + 1, none⟩ = some (.string xb) ∧ w'.cell? ⟨b2, o2 + k * 2, none⟩ = some (.int .i64 xc) ∧ w'.cell? ⟨b2, o2 + k * 2 + 1, none⟩ = some (.string xd)) W) := fun W hW => by
            have hW2 := below_on HB.out hW
            obtain ⟨a0, a1, a2, a3, a4, a5, a6, a7, a8, c0, c1, c2, c3, c4, c5, c6, c7, c8⟩ := ZC.out _ hW2
            obtain ⟨r1, r2, r3, r4, er1, er2, v0, v1, v2, v3⟩ := HCE.out _ (below_on BA.out hW2)
            injection er1 with er1; injection er1 with er1 er1'; subst er1 er1'
            injection er2 with er2; injection er2 with er2 er2'; subst er2 er2'
            exact ⟨a8, c8, v0, v1, v2, v3⟩
          have HLT := hid hlt
          clear HCE hlt hk hkd hkm
          go_upto_region 11 with fail
          clear u0 u1 u2 u3 y0 y1 y2 y3 y4 y5 y6 y7 y8 z0 z1 z2 z3 z4 z5 z6 z7 z8
          have B0 := hid (Below.refl wr.heap.size wr).drew
          refine wp_region_held_drew (S := (fun w' => w'.cell? ⟨w.heap.size, 8, none⟩ = some (.slice (some ⟨b1, o1, none⟩) ks.length kc1) ∧ w'.cell? ⟨w.heap.size + 1, 8, none⟩ = some (.slice (some ⟨b2, o2, none⟩) ks2.length kc2) ∧ w'.cell? ⟨b1, o1 + k * 2, none⟩ = some (.int .i64 xa) ∧ w'.cell? ⟨b1, o1 + k * 2 + 1, none⟩ = some (.string xb) ∧ w'.cell? ⟨b2, o2 + k * 2, none⟩ = some (.int .i64 xc) ∧ w'.cell? ⟨b2, o2 + k * 2 + 1, none⟩ = some (.string xd))) (by kernel_rfl) (ZW.out _ B0.out) (fun hHeld => ?_)
          refine wpAnyH_take (i := 0) (v := ?vv67) rfl (by kernel_rfl) (by kernel_rfl) (by kernel_rfl) (fun _ _ _ h => h) (Or.inl ⟨by rfl, ?hy67⟩) (by assumption) ?rest67
          case hy67 => (intro w hSw; (try dsimp only at hSw); go_simp; first | done | with_reducible rfl)
          try simp only [Act.put, List.getElem_toArray, List.getElem_cons_succ, List.getElem_cons_zero, List.setIfInBounds_toArray, List.set_cons_zero, List.set_cons_succ]
          refine wpAnyH_take (i := 1) (v := ?vv68) rfl (by kernel_rfl) (by kernel_rfl) (by kernel_rfl) (fun _ _ _ h => h) (Or.inl ⟨by rfl, ?hy68⟩) (by assumption) ?rest68
          case hy68 => (intro w hSw; (try dsimp only at hSw); go_simp; first | done | with_reducible rfl)
          try simp only [Act.put, List.getElem_toArray, List.getElem_cons_succ, List.getElem_cons_zero, List.setIfInBounds_toArray, List.set_cons_zero, List.set_cons_succ]
          refine wpAnyH_take (i := 2) (v := ?vv69) rfl (by kernel_rfl) (by kernel_rfl) (by kernel_rfl) (fun _ _ _ h => h) (Or.inl ⟨by rfl, ?hy69⟩) (by assumption) ?rest69
          case hy69 => (intro w hSw; (try dsimp only at hSw); go_simp; first | done | with_reducible rfl)
          try simp only [Act.put, List.getElem_toArray, List.getElem_cons_succ, List.getElem_cons_zero, List.setIfInBounds_toArray, List.set_cons_zero, List.set_cons_succ]
          refine wpAnyH_take (i := 3) (v := ?vv70) rfl (by kernel_rfl) (by kernel_rfl) (by kernel_rfl) (fun _ _ _ h => h) (Or.inl ⟨by rfl, ?hy70⟩) (by assumption) ?rest70
          case hy70 => (intro w hSw; (try dsimp only at hSw); go_simp; first | done | with_reducible rfl)
          try simp only [Act.put, List.getElem_toArray, List.getElem_cons_succ, List.getElem_cons_zero, List.setIfInBounds_toArray, List.set_cons_zero, List.set_cons_succ]
          refine wpAnyH_take (i := 4) (v := ?vv71) rfl (by kernel_rfl) (by kernel_rfl) (by kernel_rfl) (fun _ _ _ h => h) (Or.inl ⟨by rfl, ?hy71⟩) (by assumption) ?rest71
          case hy71 => (intro w hSw; (try dsimp only at hSw); go_simp; first | done | with_reducible rfl)
          try simp only [Act.put, List.getElem_toArray, List.getElem_cons_succ, List.getElem_cons_zero, List.setIfInBounds_toArray, List.set_cons_zero, List.set_cons_succ]
          refine wpAnyH_take (i := 5) (v := ?vv72) rfl (by kernel_rfl) (by kernel_rfl) (by kernel_rfl) (fun _ _ _ h => h) (Or.inl ⟨by rfl, ?hy72⟩) (by assumption) ?rest72
          case hy72 => (intro w hSw; (try dsimp only at hSw); go_simp; first | done | with_reducible rfl)
          try simp only [Act.put, List.getElem_toArray, List.getElem_cons_succ, List.getElem_cons_zero, List.setIfInBounds_toArray, List.set_cons_zero, List.set_cons_succ]
          refine wpAnyH_take (i := 6) (v := ?vv73) rfl (by kernel_rfl) (by kernel_rfl) (by kernel_rfl) (fun _ _ _ h => h) (Or.inl ⟨by rfl, ?hy73⟩) (by assumption) ?rest73
          case hy73 => (intro w hSw; (try dsimp only at hSw); go_simp; first | done | with_reducible rfl)
          try simp only [Act.put, List.getElem_toArray, List.getElem_cons_succ, List.getElem_cons_zero, List.setIfInBounds_toArray, List.set_cons_zero, List.set_cons_succ]
          refine wpAnyH_take (i := 7) (v := ?vv74) rfl (by kernel_rfl) (by kernel_rfl) (by kernel_rfl) (fun _ _ _ h => h) (Or.inl ⟨by rfl, ?hy74⟩) (by assumption) ?rest74
          case hy74 => (intro w hSw; (try dsimp only at hSw); go_simp; first | done | with_reducible rfl)
          try simp only [Act.put, List.getElem_toArray, List.getElem_cons_succ, List.getElem_cons_zero, List.setIfInBounds_toArray, List.set_cons_zero, List.set_cons_succ]
          refine wpAnyH_take (i := 8) (v := ?vv75) rfl (by kernel_rfl) (by kernel_rfl) (by kernel_rfl) (fun _ _ _ h => h) (Or.inl ⟨by rfl, ?hy75⟩) (by assumption) ?rest75
          case hy75 => (intro w hSw; (try dsimp only at hSw); go_simp; first | done | with_reducible rfl)
          try simp only [Act.put, List.getElem_toArray, List.getElem_cons_succ, List.getElem_cons_zero, List.setIfInBounds_toArray, List.set_cons_zero, List.set_cons_succ]
          refine wpAnyH_take (i := 9) (v := ?vv76) rfl (by kernel_rfl) (by kernel_rfl) (by kernel_rfl) (fun _ _ _ h => h) (Or.inl ⟨by rfl, ?hy76⟩) (by assumption) ?rest76
          case hy76 => (intro w hSw; (try dsimp only at hSw); go_simp; first | done | with_reducible rfl)
          try simp only [Act.put, List.getElem_toArray, List.getElem_cons_succ, List.getElem_cons_zero, List.setIfInBounds_toArray, List.set_cons_zero, List.set_cons_succ]
          refine wpAnyH_take (i := 10) (v := ?vv77) rfl (by kernel_rfl) (by kernel_rfl) (by kernel_rfl) (fun _ _ _ h => h) (Or.inl ⟨by rfl, ?hy77⟩) (by assumption) ?rest77
          case hy77 => (intro w hSw; (try dsimp only at hSw); go_simp; first | done | with_reducible rfl)
          try simp only [Act.put, List.getElem_toArray, List.getElem_cons_succ, List.getElem_cons_zero, List.setIfInBounds_toArray, List.set_cons_zero, List.set_cons_succ]
          refine wpAnyH_done (by kernel_rfl) ?_ _
          have HB2 := hid (below_on HB.out B0.out)
          clear ZW B0 nq
          go_wp2_with fail
          go_ret
          exact ⟨rfl, below_on BA.out HB2.out⟩
end Go.Proofs.YtikkpfchbcfhlaaGreat
namespace Go.Proofs.YtikkpfchbcfhlaaGreat
open Go.RowKit Go.Maps
set_option linter.unusedVariables false
set_option linter.unusedSimpArgs false

theorem first_ne16 {α : Type} : ∀ (l r : List α), l.length = r.length → l ≠ r → ∃ (m : Nat) (h1 : m < l.length) (h2 : m < r.length), l[m] ≠ r[m] ∧ ∀ (j : Nat) (h : j < m), l[j]'(by omega) = r[j]'(by omega)
  | [], [], _, h => absurd rfl h
  | [], _ :: _, h, _ => by simp at h
  | _ :: _, [], h, _ => by simp at h
  | a :: l, b :: r, hl, hn => by
    by_cases hab : a = b
    · subst hab
      obtain ⟨m, h1, h2, hne, hlo⟩ := first_ne16 l r (by simpa using hl) (fun h => hn (by rw [h]))
      refine ⟨m + 1, by simp; omega, by simp; omega, by simpa using hne, fun j hj => ?_⟩
      cases j with
      | zero => rfl
      | succ j => simpa using hlo j (by omega)
    · exact ⟨0, by simp, by simp, by simpa using hab, fun j hj => absurd hj (by omega)⟩
theorem cm_ext16 {c d : Cm} (e0 : c.kd = d.kd) (e1 : c.tk = d.tk) (e2 : c.bk = d.bk) (e3 : c.ky = d.ky) (e4 : c.id = d.id) (e5 : c.n = d.n) (e6 : c.sm = d.sm) (e7 : c.ps = d.ps) (e8 : c.ks = d.ks) : c = d := by
  cases c
  cases d
  simp_all
theorem rsm_ne (p1 k1 p2 k2 : Value) (c d : Cm) (w : World) (h1 : PcI w p1 c.ps) (g1 : PkI w k1 c.ks) (h2 : PcI w p2 d.ps) (g2 : PkI w k2 d.ks) (hlp : c.ps.length ≤ 8796093022208) (hlk : c.ks.length ≤ 8796093022208) (hn : c ≠ d) : Calls Tryz.prog 17 #[cmV p1 k1 c, cmV p2 k2 d] w fun e w' => e = .returned (.bool false) ∧ Below w.heap.size w w' := by
  by_cases e0 : c.kd = d.kd
  case neg => exact rsm_f0 p1 k1 p2 k2 c d w h1 g1 h2 g2 hlp hlk e0
  by_cases e1 : c.tk = d.tk
  case neg => exact rsm_f1 p1 k1 p2 k2 c d w h1 g1 h2 g2 hlp hlk e0 e1
  by_cases e2 : c.bk = d.bk
  case neg => exact rsm_f2 p1 k1 p2 k2 c d w h1 g1 h2 g2 hlp hlk e0 e1 e2
  by_cases e3 : c.ky = d.ky
  case neg => exact rsm_f3 p1 k1 p2 k2 c d w h1 g1 h2 g2 hlp hlk e0 e1 e2 e3
  by_cases e4 : c.id = d.id
  case neg => exact rsm_f4 p1 k1 p2 k2 c d w h1 g1 h2 g2 hlp hlk e0 e1 e2 e3 e4
  by_cases e5 : c.n = d.n
  case neg => exact rsm_f5 p1 k1 p2 k2 c d w h1 g1 h2 g2 hlp hlk e0 e1 e2 e3 e4 e5
  by_cases e6 : c.sm = d.sm
  case neg => exact rsm_f6 p1 k1 p2 k2 c d w h1 g1 h2 g2 hlp hlk e0 e1 e2 e3 e4 e5 e6
  by_cases e7 : c.ps.length = d.ps.length
  case neg => exact rsm_pl p1 k1 p2 k2 c d w h1 g1 h2 g2 hlp hlk e0 e1 e2 e3 e4 e5 e6 e7
  by_cases e8 : c.ks.length = d.ks.length
  case neg => exact rsm_kl p1 k1 p2 k2 c d w h1 g1 h2 g2 hlp hlk e0 e1 e2 e3 e4 e5 e6 e7 e8
  by_cases e9 : c.ps = d.ps
  case neg =>
    obtain ⟨m, a1, a2, hne, hlo⟩ := first_ne16 _ _ e7 e9
    exact rsm_ps p1 k1 p2 k2 c d w h1 g1 h2 g2 hlp hlk e0 e1 e2 e3 e4 e5 e6 e7 e8 m a1 a2 hne hlo
  obtain ⟨m, a1, a2, hne, hlo⟩ := first_ne16 _ _ e8 (fun h => hn (cm_ext16 e0 e1 e2 e3 e4 e5 e6 e9 h))
  exact rsm_ks p1 k1 p2 k2 c d w h1 g1 h2 g2 hlp hlk e0 e1 e2 e3 e4 e5 e6 e7 e8 e9 m a1 a2 hne hlo
/-- one text, one command; and no text begins another's -/
theorem cmT_pre {c d : Cm} (hc : cmOk c = true) (hd : cmOk d = true) (R : List UInt8) (h : (cmT d).data.toList = (cmT c).data.toList ++ R) : c = d := by
  have h1 : (cmT d).data.toList = cmB d ++ [] := by unfold cmT; rw [if_pos hd]; simp
  have h2 : (cmT c).data.toList = cmB c := by unfold cmT; rw [if_pos hc]
  have a := rdC_put hd (cmT d) [] h1
  have b := rdC_put hc (cmT d) R (by rw [h, h2])
  rw [a] at b
  injection b with _ _ b
  exact b.symm
end Go.Proofs.YtikkpfchbcfhlaaGreat
