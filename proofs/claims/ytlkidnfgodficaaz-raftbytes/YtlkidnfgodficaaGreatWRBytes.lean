/- The walk of the law RaftBytes. -/
import Derived.Test.YtlkidnfgodficaaGreatRmG
import Derived.Test.YtlkidnfgodficaaGreatRmE
import Derived.Test.YtlkidnfgodficaaGreatJoined22
import Derived.Test.YtlkidnfgodficaaGreatJoined09
import Derived.Test.YtlkidnfgodficaaGreatMsZ
namespace Go.Proofs.YtlkidnfgodficaaGreat
open Go.RowKit Go.Maps
set_option linter.unusedVariables false
set_option linter.unusedSimpArgs false

set_option maxRecDepth 100000 in
set_option maxHeartbeats 8000000 in
theorem raftBytes_walk0 (v : Value) (m : Ms) (t : ByteArray) (w : World) (hv : EntI w v m.es) (zl : m.es.length ≤ 4398046511104) (ht : t.size ≤ 140737488355328) :
    Calls Tryz.prog 3 #[msV v m, .string t] w fun e w' => e = .returned (.bool true) ∧ Below w.heap.size w w' := by
  obtain ⟨ad, cap, rfl, -⟩ := hv.form
  have HV := hid hv
  have LD := hid (mdV_len t)
  have AW := hid (fun W => awake10 W)
  have DC1 := hid (fun W => mdecode_any t W ht)
  have EN1 : Hid (∀ W, Below w.heap.size w W → Calls Tryz.prog 6 #[.agg #[.int .i64 m.kd, .int .i64 m.fr, .int .i64 m.to_, .int .i64 m.tm, .int .i64 m.ix, .int .i64 m.lt, .int .i64 m.cm, .int .i64 m.rd, .int .i64 m.at_, .bool m.ys, .slice ad m.es.length cap, .string m.da]] W fun e w' => e = .returned (.tuple #[.string (mgS m), .int .i64 (mgE m)]) ∧ Below W.heap.size W w') := fun W b => mencode_any _ m W (hv.next b) (by omega)
  have RF : Hid (∀ (v : Value) (m : Ms) W, EntI W v m.es → m.es.length ≤ 4398046511104 → Calls Tryz.prog 8 #[.agg #[.int .i64 m.kd, .int .i64 m.fr, .int .i64 m.to_, .int .i64 m.tm, .int .i64 m.ix, .int .i64 m.lt, .int .i64 m.cm, .int .i64 m.rd, .int .i64 m.at_, .bool m.ys, v, .string m.da]] W fun e w' => ∃ ad cap, e = .returned (.agg #[.int .i64 m.kd, .int .i64 m.fr, .int .i64 m.to_, .int .i64 m.tm, .int .i64 m.ix, .int .i64 m.lt, .int .i64 m.cm, .int .i64 m.rd, .int .i64 m.at_, .bool m.ys, .slice ad m.es.length cap, .string m.da]) ∧ EntI w' (.slice ad m.es.length cap) m.es ∧ Below W.heap.size W w') := fun v m W h1 h2 => (mref_any v m W h1 h2).mono fun e w' ⟨ad, cap, he, ho, hb⟩ => ⟨ad, cap, he, ho.ents, hb⟩
  have SM : Hid (∀ (v1 v2 : Value) (m : Ms) W, EntI W v1 m.es → EntI W v2 m.es → m.es.length ≤ 4398046511104 → Calls Tryz.prog 14 #[.agg #[.int .i64 m.kd, .int .i64 m.fr, .int .i64 m.to_, .int .i64 m.tm, .int .i64 m.ix, .int .i64 m.lt, .int .i64 m.cm, .int .i64 m.rd, .int .i64 m.at_, .bool m.ys, v1, .string m.da], .agg #[.int .i64 m.kd, .int .i64 m.fr, .int .i64 m.to_, .int .i64 m.tm, .int .i64 m.ix, .int .i64 m.lt, .int .i64 m.cm, .int .i64 m.rd, .int .i64 m.at_, .bool m.ys, v2, .string m.da]] W fun e w' => e = .returned (.bool true) ∧ Below W.heap.size W w') := fun v1 v2 m W h1 h2 h3 => qsame_true v1 v2 m W h1 h2 h3
  have QE : Hid (∀ (v : Value) W, EntI W v m.es → Calls Tryz.prog 7 #[.agg #[.int .i64 m.kd, .int .i64 m.fr, .int .i64 m.to_, .int .i64 m.tm, .int .i64 m.ix, .int .i64 m.lt, .int .i64 m.cm, .int .i64 m.rd, .int .i64 m.at_, .bool m.ys, v, .string m.da]] W fun e w' => e = .returned (.tuple #[.string (mgS m), .int .i64 (mgE m)]) ∧ Below W.heap.size W w') := fun v W h => qencode_any v m W h (by omega)
  have DC2 := hid (fun W => qdecode_any t W ht)
  have CK1 : Hid (∀ W, Below w.heap.size w W → Calls Tryz.prog 12 #[.agg #[.int .i64 m.kd, .int .i64 m.fr, .int .i64 m.to_, .int .i64 m.tm, .int .i64 m.ix, .int .i64 m.lt, .int .i64 m.cm, .int .i64 m.rd, .int .i64 m.at_, .bool m.ys, .slice ad m.es.length cap, .string m.da]] W fun e w' => e = .returned (.bool (msOk m)) ∧ Below W.heap.size W w') := fun W b => mcheck_any _ m W (hv.next b) (by omega)
  have CK2 : Hid (∀ (v : Value) W, EntI W v m.es → Calls Tryz.prog 13 #[.agg #[.int .i64 m.kd, .int .i64 m.fr, .int .i64 m.to_, .int .i64 m.tm, .int .i64 m.ix, .int .i64 m.lt, .int .i64 m.cm, .int .i64 m.rd, .int .i64 m.at_, .bool m.ys, v, .string m.da]] W fun e w' => e = .returned (.bool (msOk m)) ∧ Below W.heap.size W w') := fun v W h => qcheck_any v m W h (by omega)
  have HZL := hid zl
  have R0 : Hid (RowIs (w.alloc (.cells #[.int .i64 m.kd, .int .i64 m.fr, .int .i64 m.to_, .int .i64 m.tm, .int .i64 m.ix, .int .i64 m.lt, .int .i64 m.cm, .int .i64 m.rd, .int .i64 m.at_, .bool m.ys, .slice ad m.es.length cap, .string m.da] 24)) w.heap.size [.int .i64 m.kd, .int .i64 m.fr, .int .i64 m.to_, .int .i64 m.tm, .int .i64 m.ix, .int .i64 m.lt, .int .i64 m.cm, .int .i64 m.rd, .int .i64 m.at_, .bool m.ys, .slice ad m.es.length cap, .string m.da] 24) := srow w _ _
  have B0 : Hid (Below w.heap.size w (w.alloc (.cells #[.int .i64 m.kd, .int .i64 m.fr, .int .i64 m.to_, .int .i64 m.tm, .int .i64 m.ix, .int .i64 m.lt, .int .i64 m.cm, .int .i64 m.rd, .int .i64 m.at_, .bool m.ys, .slice ad m.es.length cap, .string m.da] 24))) := below_al (Below.refl _ _) _
  have y0 := R0.out.cellAt (o := 0) rfl
  have y1 := R0.out.cellAt (o := 1) rfl
  have y2 := R0.out.cellAt (o := 2) rfl
  have y3 := R0.out.cellAt (o := 3) rfl
  have y4 := R0.out.cellAt (o := 4) rfl
  have y5 := R0.out.cellAt (o := 5) rfl
  have y6 := R0.out.cellAt (o := 6) rfl
  have y7 := R0.out.cellAt (o := 7) rfl
  have y8 := R0.out.cellAt (o := 8) rfl
  have y9 := R0.out.cellAt (o := 9) rfl
  have y10 := R0.out.cellAt (o := 10) rfl
  have y11 := R0.out.cellAt (o := 11) rfl
  unfold msV at DC1 DC2 ⊢
  clear hv zl ht
  generalize hD : mdV t = D at *
  clear hD
  generalize mdE t = DE at *
  generalize mgS m = G at *
  generalize mgE m = GE at *
  have qi := (by simp : (GE == GE) = true)
  have qd := (by simp : (DE == DE) = true)
  have ql := (by simp : (G.toList == G.toList) = true)
  go_enter Tryz.func3, Tryz.ntmps3
  go_wp2_with fail
  refine (EN1.out _ B0.out).mono ?_
  rintro e w1 ⟨rfl, b1⟩
  have B1 := hid (below_on B0.out b1)
  have R1 := hid (R0.out.keep (b1.keep (fun _ => False)) (fun h => h))
  clear EN1 b1 B0 R0 y0 y1 y2 y3 y4 y5 y6 y7 y8 y9 y10 y11
  have y0 := R1.out.cellAt (o := 0) rfl
  have y1 := R1.out.cellAt (o := 1) rfl
  have y2 := R1.out.cellAt (o := 2) rfl
  have y3 := R1.out.cellAt (o := 3) rfl
  have y4 := R1.out.cellAt (o := 4) rfl
  have y5 := R1.out.cellAt (o := 5) rfl
  have y6 := R1.out.cellAt (o := 6) rfl
  have y7 := R1.out.cellAt (o := 7) rfl
  have y8 := R1.out.cellAt (o := 8) rfl
  have y9 := R1.out.cellAt (o := 9) rfl
  have y10 := R1.out.cellAt (o := 10) rfl
  have y11 := R1.out.cellAt (o := 11) rfl
  have RF1 := hid (RF.out _ m w1 (HV.out.next B1.out) HZL.out)
  go_wp2_with fail
  refine RF1.out.mono ?_
  rintro e w2 ⟨ad3, cap3, rfl, i2, b2⟩
  have B2 := hid (below_on B1.out b2)
  have R2 := hid (R1.out.keep (b2.keep (fun _ => False)) (fun h => h))
  have QE1 := hid (QE.out _ w2 i2)
  clear RF1 b2 B1 R1 y0 y1 y2 y3 y4 y5 y6 y7 y8 y9 y10 y11 i2 QE
  go_wp2_with fail
  refine QE1.out.mono ?_
  rintro e w3 ⟨rfl, b3⟩
  have B3 := hid (below_on B2.out b3)
  have R3 := hid (R2.out.keep (b3.keep (fun _ => False)) (fun h => h))
  clear QE1 b3 B2 R2
  go_wp2_with fail
  refine (DC1.out _).mono ?_
  rintro e w4 ⟨ad1, cap1, rfl, o4, b4⟩
  obtain ⟨g4, hg4⟩ : ∃ g, g = w4.heap.size := ⟨_, rfl⟩
  have B4 : Hid (Below w.heap.size w (w4.alloc (.cells #[.int .i64 D.kd, .int .i64 D.fr, .int .i64 D.to_, .int .i64 D.tm, .int .i64 D.ix, .int .i64 D.lt, .int .i64 D.cm, .int .i64 D.rd, .int .i64 D.at_, .bool D.ys, .slice ad1 D.es.length cap1, .string D.da] 24))) := below_al (below_on B3.out b4) _
  have R4 : Hid (RowIs (w4.alloc (.cells #[.int .i64 D.kd, .int .i64 D.fr, .int .i64 D.to_, .int .i64 D.tm, .int .i64 D.ix, .int .i64 D.lt, .int .i64 D.cm, .int .i64 D.rd, .int .i64 D.at_, .bool D.ys, .slice ad1 D.es.length cap1, .string D.da] 24)) w.heap.size [.int .i64 m.kd, .int .i64 m.fr, .int .i64 m.to_, .int .i64 m.tm, .int .i64 m.ix, .int .i64 m.lt, .int .i64 m.cm, .int .i64 m.rd, .int .i64 m.at_, .bool m.ys, .slice ad m.es.length cap, .string m.da] 24) := row_old (R3.out.keep (b4.keep (fun _ => False)) (fun h => h)) _
  have X4 : Hid (RowIs (w4.alloc (.cells #[.int .i64 D.kd, .int .i64 D.fr, .int .i64 D.to_, .int .i64 D.tm, .int .i64 D.ix, .int .i64 D.lt, .int .i64 D.cm, .int .i64 D.rd, .int .i64 D.at_, .bool D.ys, .slice ad1 D.es.length cap1, .string D.da] 24)) g4 [.int .i64 D.kd, .int .i64 D.fr, .int .i64 D.to_, .int .i64 D.tm, .int .i64 D.ix, .int .i64 D.lt, .int .i64 D.cm, .int .i64 D.rd, .int .i64 D.at_, .bool D.ys, .slice ad1 D.es.length cap1, .string D.da] 24) := by subst hg4; exact srow w4 _ _
  have I4 : Hid (EntI (w4.alloc (.cells #[.int .i64 D.kd, .int .i64 D.fr, .int .i64 D.to_, .int .i64 D.tm, .int .i64 D.ix, .int .i64 D.lt, .int .i64 D.cm, .int .i64 D.rd, .int .i64 D.at_, .bool D.ys, .slice ad1 D.es.length cap1, .string D.da] 24)) (.slice ad1 D.es.length cap1) D.es) := o4.ents.next (below_al (Below.refl _ _) _)
  have HG4 := hid hg4
  clear DC1 b4 o4 B3 R3 hg4
  go_wp2_with fail
  rw [← HG4.out]
  clear HG4
  refine (DC2.out _).mono ?_
  rintro e w5 ⟨ad2, cap2, rfl, o5, b5⟩
  obtain ⟨g5, hg5⟩ : ∃ g, g = w5.heap.size := ⟨_, rfl⟩
  have bb5 := b5.trans ((below_al (Below.refl _ _) (.cells #[.int .i64 D.kd, .int .i64 D.fr, .int .i64 D.to_, .int .i64 D.tm, .int .i64 D.ix, .int .i64 D.lt, .int .i64 D.cm, .int .i64 D.rd, .int .i64 D.at_, .bool D.ys, .slice ad2 D.es.length cap2, .string D.da] 32)).mono b5.size)
  have B5 : Hid (Below w.heap.size w (w5.alloc (.cells #[.int .i64 D.kd, .int .i64 D.fr, .int .i64 D.to_, .int .i64 D.tm, .int .i64 D.ix, .int .i64 D.lt, .int .i64 D.cm, .int .i64 D.rd, .int .i64 D.at_, .bool D.ys, .slice ad2 D.es.length cap2, .string D.da] 32)).drew) := (below_on B4.out bb5).drew
  have r5 := R4.out.keep (bb5.keep (fun _ => False)) (fun h => h)
  have x5 := X4.out.keep (bb5.keep (fun _ => False)) (fun h => h)
  have R5 : Hid (RowIs (w5.alloc (.cells #[.int .i64 D.kd, .int .i64 D.fr, .int .i64 D.to_, .int .i64 D.tm, .int .i64 D.ix, .int .i64 D.lt, .int .i64 D.cm, .int .i64 D.rd, .int .i64 D.at_, .bool D.ys, .slice ad2 D.es.length cap2, .string D.da] 32)).drew w.heap.size [.int .i64 m.kd, .int .i64 m.fr, .int .i64 m.to_, .int .i64 m.tm, .int .i64 m.ix, .int .i64 m.lt, .int .i64 m.cm, .int .i64 m.rd, .int .i64 m.at_, .bool m.ys, .slice ad m.es.length cap, .string m.da] 24) := r5
  have X5 : Hid (RowIs (w5.alloc (.cells #[.int .i64 D.kd, .int .i64 D.fr, .int .i64 D.to_, .int .i64 D.tm, .int .i64 D.ix, .int .i64 D.lt, .int .i64 D.cm, .int .i64 D.rd, .int .i64 D.at_, .bool D.ys, .slice ad2 D.es.length cap2, .string D.da] 32)).drew g4 [.int .i64 D.kd, .int .i64 D.fr, .int .i64 D.to_, .int .i64 D.tm, .int .i64 D.ix, .int .i64 D.lt, .int .i64 D.cm, .int .i64 D.rd, .int .i64 D.at_, .bool D.ys, .slice ad1 D.es.length cap1, .string D.da] 24) := x5
  clear r5 x5
  have I5 : Hid (EntI (w5.alloc (.cells #[.int .i64 D.kd, .int .i64 D.fr, .int .i64 D.to_, .int .i64 D.tm, .int .i64 D.ix, .int .i64 D.lt, .int .i64 D.cm, .int .i64 D.rd, .int .i64 D.at_, .bool D.ys, .slice ad2 D.es.length cap2, .string D.da] 32)).drew (.slice ad1 D.es.length cap1) D.es) := I4.out.next bb5.drew
  have J5 : Hid (EntI (w5.alloc (.cells #[.int .i64 D.kd, .int .i64 D.fr, .int .i64 D.to_, .int .i64 D.tm, .int .i64 D.ix, .int .i64 D.lt, .int .i64 D.cm, .int .i64 D.rd, .int .i64 D.at_, .bool D.ys, .slice ad2 D.es.length cap2, .string D.da] 32)).drew (.slice ad2 D.es.length cap2) D.es) := o5.ents.next (below_al (Below.refl _ _) _).drew
  have Y5 : Hid (RowIs (w5.alloc (.cells #[.int .i64 D.kd, .int .i64 D.fr, .int .i64 D.to_, .int .i64 D.tm, .int .i64 D.ix, .int .i64 D.lt, .int .i64 D.cm, .int .i64 D.rd, .int .i64 D.at_, .bool D.ys, .slice ad2 D.es.length cap2, .string D.da] 32)).drew g5 [.int .i64 D.kd, .int .i64 D.fr, .int .i64 D.to_, .int .i64 D.tm, .int .i64 D.ix, .int .i64 D.lt, .int .i64 D.cm, .int .i64 D.rd, .int .i64 D.at_, .bool D.ys, .slice ad2 D.es.length cap2, .string D.da] 32) := by subst hg5; exact srow w5 _ _
  have HG5 := hid hg5
  clear DC2 b5 bb5 o5 B4 R4 X4 I4 hg5
  have CS : Hid (∀ W, RowIs W w.heap.size [.int .i64 m.kd, .int .i64 m.fr, .int .i64 m.to_, .int .i64 m.tm, .int .i64 m.ix, .int .i64 m.lt, .int .i64 m.cm, .int .i64 m.rd, .int .i64 m.at_, .bool m.ys, .slice ad m.es.length cap, .string m.da] 24 → RowIs W g4 [.int .i64 D.kd, .int .i64 D.fr, .int .i64 D.to_, .int .i64 D.tm, .int .i64 D.ix, .int .i64 D.lt, .int .i64 D.cm, .int .i64 D.rd, .int .i64 D.at_, .bool D.ys, .slice ad1 D.es.length cap1, .string D.da] 24 → RowIs W g5 [.int .i64 D.kd, .int .i64 D.fr, .int .i64 D.to_, .int .i64 D.tm, .int .i64 D.ix, .int .i64 D.lt, .int .i64 D.cm, .int .i64 D.rd, .int .i64 D.at_, .bool D.ys, .slice ad2 D.es.length cap2, .string D.da] 32 → (W.cell? ⟨w.heap.size, 0, none⟩ = some (.int .i64 m.kd) ∧ W.cell? ⟨w.heap.size, 1, none⟩ = some (.int .i64 m.fr) ∧ W.cell? ⟨w.heap.size, 2, none⟩ = some (.int .i64 m.to_) ∧ W.cell? ⟨w.heap.size, 3, none⟩ = some (.int .i64 m.tm) ∧ W.cell? ⟨w.heap.size, 4, none⟩ = some (.int .i64 m.ix) ∧ W.cell? ⟨w.heap.size, 5, none⟩ = some (.int .i64 m.lt) ∧ W.cell? ⟨w.heap.size, 6, none⟩ = some (.int .i64 m.cm) ∧ W.cell? ⟨w.heap.size, 7, none⟩ = some (.int .i64 m.rd) ∧ W.cell? ⟨w.heap.size, 8, none⟩ = some (.int .i64 m.at_) ∧ W.cell? ⟨w.heap.size, 9, none⟩ = some (.bool m.ys) ∧ W.cell? ⟨w.heap.size, 10, none⟩ = some (.slice ad m.es.length cap) ∧ W.cell? ⟨w.heap.size, 11, none⟩ = some (.string m.da)) ∧ (W.cell? ⟨g4, 0, none⟩ = some (.int .i64 D.kd) ∧ W.cell? ⟨g4, 1, none⟩ = some (.int .i64 D.fr) ∧ W.cell? ⟨g4, 2, none⟩ = some (.int .i64 D.to_) ∧ W.cell? ⟨g4, 3, none⟩ = some (.int .i64 D.tm) ∧ W.cell? ⟨g4, 4, none⟩ = some (.int .i64 D.ix) ∧ W.cell? ⟨g4, 5, none⟩ = some (.int .i64 D.lt) ∧ W.cell? ⟨g4, 6, none⟩ = some (.int .i64 D.cm) ∧ W.cell? ⟨g4, 7, none⟩ = some (.int .i64 D.rd) ∧ W.cell? ⟨g4, 8, none⟩ = some (.int .i64 D.at_) ∧ W.cell? ⟨g4, 9, none⟩ = some (.bool D.ys) ∧ W.cell? ⟨g4, 10, none⟩ = some (.slice ad1 D.es.length cap1) ∧ W.cell? ⟨g4, 11, none⟩ = some (.string D.da)) ∧ (W.cell? ⟨g5, 0, none⟩ = some (.int .i64 D.kd) ∧ W.cell? ⟨g5, 1, none⟩ = some (.int .i64 D.fr) ∧ W.cell? ⟨g5, 2, none⟩ = some (.int .i64 D.to_) ∧ W.cell? ⟨g5, 3, none⟩ = some (.int .i64 D.tm) ∧ W.cell? ⟨g5, 4, none⟩ = some (.int .i64 D.ix) ∧ W.cell? ⟨g5, 5, none⟩ = some (.int .i64 D.lt) ∧ W.cell? ⟨g5, 6, none⟩ = some (.int .i64 D.cm) ∧ W.cell? ⟨g5, 7, none⟩ = some (.int .i64 D.rd) ∧ W.cell? ⟨g5, 8, none⟩ = some (.int .i64 D.at_) ∧ W.cell? ⟨g5, 9, none⟩ = some (.bool D.ys) ∧ W.cell? ⟨g5, 10, none⟩ = some (.slice ad2 D.es.length cap2) ∧ W.cell? ⟨g5, 11, none⟩ = some (.string D.da))) := fun W h1 h2 h3 => ⟨⟨h1.cellAt rfl, h1.cellAt rfl, h1.cellAt rfl, h1.cellAt rfl, h1.cellAt rfl, h1.cellAt rfl, h1.cellAt rfl, h1.cellAt rfl, h1.cellAt rfl, h1.cellAt rfl, h1.cellAt rfl, h1.cellAt rfl⟩, ⟨h2.cellAt rfl, h2.cellAt rfl, h2.cellAt rfl, h2.cellAt rfl, h2.cellAt rfl, h2.cellAt rfl, h2.cellAt rfl, h2.cellAt rfl, h2.cellAt rfl, h2.cellAt rfl, h2.cellAt rfl, h2.cellAt rfl⟩, ⟨h3.cellAt rfl, h3.cellAt rfl, h3.cellAt rfl, h3.cellAt rfl, h3.cellAt rfl, h3.cellAt rfl, h3.cellAt rfl, h3.cellAt rfl, h3.cellAt rfl, h3.cellAt rfl, h3.cellAt rfl, h3.cellAt rfl⟩⟩
  have Z0 := CS.out _ R5.out X5.out Y5.out
  go_wp2
  rw [← HG5.out]
  clear HG5
  refine wp_region_held_drew (S := fun W => (W.cell? ⟨w.heap.size, 0, none⟩ = some (.int .i64 m.kd) ∧ W.cell? ⟨w.heap.size, 1, none⟩ = some (.int .i64 m.fr) ∧ W.cell? ⟨w.heap.size, 2, none⟩ = some (.int .i64 m.to_) ∧ W.cell? ⟨w.heap.size, 3, none⟩ = some (.int .i64 m.tm) ∧ W.cell? ⟨w.heap.size, 4, none⟩ = some (.int .i64 m.ix) ∧ W.cell? ⟨w.heap.size, 5, none⟩ = some (.int .i64 m.lt) ∧ W.cell? ⟨w.heap.size, 6, none⟩ = some (.int .i64 m.cm) ∧ W.cell? ⟨w.heap.size, 7, none⟩ = some (.int .i64 m.rd) ∧ W.cell? ⟨w.heap.size, 8, none⟩ = some (.int .i64 m.at_) ∧ W.cell? ⟨w.heap.size, 9, none⟩ = some (.bool m.ys) ∧ W.cell? ⟨w.heap.size, 10, none⟩ = some (.slice ad m.es.length cap) ∧ W.cell? ⟨w.heap.size, 11, none⟩ = some (.string m.da)) ∧ (W.cell? ⟨g4, 0, none⟩ = some (.int .i64 D.kd) ∧ W.cell? ⟨g4, 1, none⟩ = some (.int .i64 D.fr) ∧ W.cell? ⟨g4, 2, none⟩ = some (.int .i64 D.to_) ∧ W.cell? ⟨g4, 3, none⟩ = some (.int .i64 D.tm) ∧ W.cell? ⟨g4, 4, none⟩ = some (.int .i64 D.ix) ∧ W.cell? ⟨g4, 5, none⟩ = some (.int .i64 D.lt) ∧ W.cell? ⟨g4, 6, none⟩ = some (.int .i64 D.cm) ∧ W.cell? ⟨g4, 7, none⟩ = some (.int .i64 D.rd) ∧ W.cell? ⟨g4, 8, none⟩ = some (.int .i64 D.at_) ∧ W.cell? ⟨g4, 9, none⟩ = some (.bool D.ys) ∧ W.cell? ⟨g4, 10, none⟩ = some (.slice ad1 D.es.length cap1) ∧ W.cell? ⟨g4, 11, none⟩ = some (.string D.da)) ∧ (W.cell? ⟨g5, 0, none⟩ = some (.int .i64 D.kd) ∧ W.cell? ⟨g5, 1, none⟩ = some (.int .i64 D.fr) ∧ W.cell? ⟨g5, 2, none⟩ = some (.int .i64 D.to_) ∧ W.cell? ⟨g5, 3, none⟩ = some (.int .i64 D.tm) ∧ W.cell? ⟨g5, 4, none⟩ = some (.int .i64 D.ix) ∧ W.cell? ⟨g5, 5, none⟩ = some (.int .i64 D.lt) ∧ W.cell? ⟨g5, 6, none⟩ = some (.int .i64 D.cm) ∧ W.cell? ⟨g5, 7, none⟩ = some (.int .i64 D.rd) ∧ W.cell? ⟨g5, 8, none⟩ = some (.int .i64 D.at_) ∧ W.cell? ⟨g5, 9, none⟩ = some (.bool D.ys) ∧ W.cell? ⟨g5, 10, none⟩ = some (.slice ad2 D.es.length cap2) ∧ W.cell? ⟨g5, 11, none⟩ = some (.string D.da))) (by kernel_rfl) Z0 (fun hHeld => ?_)
  generalize (w5.alloc (.cells #[.int .i64 D.kd, .int .i64 D.fr, .int .i64 D.to_, .int .i64 D.tm, .int .i64 D.ix, .int .i64 D.lt, .int .i64 D.cm, .int .i64 D.rd, .int .i64 D.at_, .bool D.ys, .slice ad2 D.es.length cap2, .string D.da] 32)).drew = V0 at *
  refine wpAnyH_ready (rs := [0]) (by kernel_rfl) (by simp) ?_
  refine AllReadyH.cons rfl (fun K hK => ?_) AllReadyH.nil
  go_simp
  refine (AW.out _).mono ?_
  rintro e u6 ⟨rfl, bq⟩
  have B6 := hid (below_on B5.out bq)
  have R6 := hid (R5.out.keep (bq.keep (fun _ => False)) (fun h => h))
  have X6 := hid (X5.out.keep (bq.keep (fun _ => False)) (fun h => h))
  have Y6 := hid (Y5.out.keep (bq.keep (fun _ => False)) (fun h => h))
  have I6 := hid (I5.out.next bq)
  have J6 := hid (J5.out.next bq)
  clear bq hHeld B5 R5 X5 Y5 I5 J5
  go_wp2_with fail
  refine hK.out _ _ (CS.out _ R6.out X6.out Y6.out) (fun hHeld => ?_)
  clear hK K
  try simp only [Act.put, List.getElem_toArray, List.getElem_cons_succ, List.getElem_cons_zero, List.setIfInBounds_toArray, List.set_cons_zero, List.set_cons_succ]
  refine wpAnyH_take (i := 1) (v := ?vv1) rfl (by kernel_rfl) (by kernel_rfl) (by kernel_rfl) (fun _ _ _ h => h) (Or.inl ⟨by rfl, ?hy1⟩) (by assumption) ?rest1
  case hy1 => (intro w hSw; (try dsimp only at hSw); go_simp; first | done | with_reducible rfl)
  try simp only [Act.put, List.getElem_toArray, List.getElem_cons_succ, List.getElem_cons_zero, List.setIfInBounds_toArray, List.set_cons_zero, List.set_cons_succ]
  refine wpAnyH_take (i := 2) (v := ?vv2) rfl (by kernel_rfl) (by kernel_rfl) (by kernel_rfl) (fun _ _ _ h => h) (Or.inl ⟨by rfl, ?hy2⟩) (by assumption) ?rest2
  case hy2 => (intro w hSw; (try dsimp only at hSw); go_simp; first | done | with_reducible rfl)
  try simp only [Act.put, List.getElem_toArray, List.getElem_cons_succ, List.getElem_cons_zero, List.setIfInBounds_toArray, List.set_cons_zero, List.set_cons_succ]
  refine wpAnyH_take (i := 4) (v := ?vv3) rfl (by kernel_rfl) (by kernel_rfl) (by kernel_rfl) (fun _ _ _ h => h) (Or.inl ⟨by rfl, ?hy3⟩) (by assumption) ?rest3
  case hy3 => (intro w hSw; (try dsimp only at hSw); go_simp; first | done | with_reducible rfl)
  try simp only [Act.put, List.getElem_toArray, List.getElem_cons_succ, List.getElem_cons_zero, List.setIfInBounds_toArray, List.set_cons_zero, List.set_cons_succ]
  refine wpAnyH_ready (rs := [3]) (by kernel_rfl) (by simp) ?_
  refine AllReadyH.cons rfl (fun K hK => ?_) AllReadyH.nil
  go_simp
  refine (CK1.out _ B6.out).mono ?_
  rintro e u7 ⟨rfl, bq⟩
  have B7 := hid (below_on B6.out bq)
  have R7 := hid (R6.out.keep (bq.keep (fun _ => False)) (fun h => h))
  have X7 := hid (X6.out.keep (bq.keep (fun _ => False)) (fun h => h))
  have Y7 := hid (Y6.out.keep (bq.keep (fun _ => False)) (fun h => h))
  have I7 := hid (I6.out.next bq)
  have J7 := hid (J6.out.next bq)
  clear bq hHeld B6 R6 X6 Y6 I6 J6
  go_wp2_with fail
  refine hK.out _ _ (CS.out _ R7.out X7.out Y7.out) (fun hHeld => ?_)
  clear hK K
  try simp only [Act.put, List.getElem_toArray, List.getElem_cons_succ, List.getElem_cons_zero, List.setIfInBounds_toArray, List.set_cons_zero, List.set_cons_succ]
  refine wpAnyH_ready (rs := [5]) (by kernel_rfl) (by simp) ?_
  refine AllReadyH.cons rfl (fun K hK => ?_) AllReadyH.nil
  go_simp
  refine (RF.out _ m _ (HV.out.next B7.out) HZL.out).mono ?_
  rintro e u8 ⟨ad6, cap6, rfl, i8, bq⟩
  have B8 := hid (below_on B7.out bq)
  have R8 := hid (R7.out.keep (bq.keep (fun _ => False)) (fun h => h))
  have X8 := hid (X7.out.keep (bq.keep (fun _ => False)) (fun h => h))
  have Y8 := hid (Y7.out.keep (bq.keep (fun _ => False)) (fun h => h))
  have I8 := hid (I7.out.next bq)
  have J8 := hid (J7.out.next bq)
  have CK3 := hid (CK2.out _ _ i8)
  clear i8
  clear bq hHeld B7 R7 X7 Y7 I7 J7
  go_wp2_with fail
  refine hK.out _ _ (CS.out _ R8.out X8.out Y8.out) (fun hHeld => ?_)
  clear hK K
  try simp only [Act.put, List.getElem_toArray, List.getElem_cons_succ, List.getElem_cons_zero, List.setIfInBounds_toArray, List.set_cons_zero, List.set_cons_succ]
  refine wpAnyH_ready (rs := [6]) (by kernel_rfl) (by simp) ?_
  refine AllReadyH.cons rfl (fun K hK => ?_) AllReadyH.nil
  go_simp
  refine CK3.out.mono ?_
  rintro e u9 ⟨rfl, bq⟩
  have B9 := hid (below_on B8.out bq)
  have R9 := hid (R8.out.keep (bq.keep (fun _ => False)) (fun h => h))
  have X9 := hid (X8.out.keep (bq.keep (fun _ => False)) (fun h => h))
  have Y9 := hid (Y8.out.keep (bq.keep (fun _ => False)) (fun h => h))
  have I9 := hid (I8.out.next bq)
  have J9 := hid (J8.out.next bq)
  clear bq hHeld B8 R8 X8 Y8 I8 J8
  go_wp2_with fail
  refine hK.out _ _ (CS.out _ R9.out X9.out Y9.out) (fun hHeld => ?_)
  clear hK K
  try simp only [Act.put, List.getElem_toArray, List.getElem_cons_succ, List.getElem_cons_zero, List.setIfInBounds_toArray, List.set_cons_zero, List.set_cons_succ]
  refine wpAnyH_take (i := 7) (v := ?vv4) rfl (by kernel_rfl) (by kernel_rfl) (by kernel_rfl) (fun _ _ _ h => h) (Or.inl ⟨by rfl, ?hy4⟩) (by assumption) ?rest4
  case hy4 => (intro w hSw; (try dsimp only at hSw); go_simp; first | done | with_reducible rfl)
  try simp only [Act.put, List.getElem_toArray, List.getElem_cons_succ, List.getElem_cons_zero, List.setIfInBounds_toArray, List.set_cons_zero, List.set_cons_succ]
  refine wpAnyH_take (i := 8) (v := ?vv5) rfl (by kernel_rfl) (by kernel_rfl) (by kernel_rfl) (fun _ _ _ h => h) (Or.inl ⟨by rfl, ?hy5⟩) (by assumption) ?rest5
  case hy5 => (intro w hSw; (try dsimp only at hSw); go_simp; first | done | with_reducible rfl)
  try simp only [Act.put, List.getElem_toArray, List.getElem_cons_succ, List.getElem_cons_zero, List.setIfInBounds_toArray, List.set_cons_zero, List.set_cons_succ]
  refine wpAnyH_take (i := 9) (v := ?vv6) rfl (by kernel_rfl) (by kernel_rfl) (by kernel_rfl) (fun _ _ _ h => h) (Or.inl ⟨by rfl, ?hy6⟩) (by assumption) ?rest6
  case hy6 => (intro w hSw; (try dsimp only at hSw); go_simp; first | done | with_reducible rfl)
  try simp only [Act.put, List.getElem_toArray, List.getElem_cons_succ, List.getElem_cons_zero, List.setIfInBounds_toArray, List.set_cons_zero, List.set_cons_succ]
  refine wpAnyH_take (i := 10) (v := ?vv7) rfl (by kernel_rfl) (by kernel_rfl) (by kernel_rfl) (fun _ _ _ h => h) (Or.inl ⟨by rfl, ?hy7⟩) (by assumption) ?rest7
  case hy7 => (intro w hSw; (try dsimp only at hSw); go_simp; first | done | with_reducible rfl)
  try simp only [Act.put, List.getElem_toArray, List.getElem_cons_succ, List.getElem_cons_zero, List.setIfInBounds_toArray, List.set_cons_zero, List.set_cons_succ]
  refine wpAnyH_take (i := 11) (v := ?vv8) rfl (by kernel_rfl) (by kernel_rfl) (by kernel_rfl) (fun _ _ _ h => h) (Or.inl ⟨by rfl, ?hy8⟩) (by assumption) ?rest8
  case hy8 => (intro w hSw; (try dsimp only at hSw); go_simp; first | done | with_reducible rfl)
  try simp only [Act.put, List.getElem_toArray, List.getElem_cons_succ, List.getElem_cons_zero, List.setIfInBounds_toArray, List.set_cons_zero, List.set_cons_succ]
  refine wpAnyH_take (i := 12) (v := ?vv9) rfl (by kernel_rfl) (by kernel_rfl) (by kernel_rfl) (fun _ _ _ h => h) (Or.inl ⟨by rfl, ?hy9⟩) (by assumption) ?rest9
  case hy9 => (intro w hSw; (try dsimp only at hSw); go_simp; first | done | with_reducible rfl)
  try simp only [Act.put, List.getElem_toArray, List.getElem_cons_succ, List.getElem_cons_zero, List.setIfInBounds_toArray, List.set_cons_zero, List.set_cons_succ]
  refine wpAnyH_take (i := 13) (v := ?vv10) rfl (by kernel_rfl) (by kernel_rfl) (by kernel_rfl) (fun _ _ _ h => h) (Or.inl ⟨by rfl, ?hy10⟩) (by assumption) ?rest10
  case hy10 => (intro w hSw; (try dsimp only at hSw); go_simp; first | done | with_reducible rfl)
  try simp only [Act.put, List.getElem_toArray, List.getElem_cons_succ, List.getElem_cons_zero, List.setIfInBounds_toArray, List.set_cons_zero, List.set_cons_succ]
  refine wpAnyH_take (i := 14) (v := ?vv11) rfl (by kernel_rfl) (by kernel_rfl) (by kernel_rfl) (fun _ _ _ h => h) (Or.inl ⟨by rfl, ?hy11⟩) (by assumption) ?rest11
  case hy11 => (intro w hSw; (try dsimp only at hSw); go_simp; first | done | with_reducible rfl)
  try simp only [Act.put, List.getElem_toArray, List.getElem_cons_succ, List.getElem_cons_zero, List.setIfInBounds_toArray, List.set_cons_zero, List.set_cons_succ]
  refine wpAnyH_take (i := 15) (v := ?vv12) rfl (by kernel_rfl) (by kernel_rfl) (by kernel_rfl) (fun _ _ _ h => h) (Or.inl ⟨by rfl, ?hy12⟩) (by assumption) ?rest12
  case hy12 => (intro w hSw; (try dsimp only at hSw); go_simp; first | done | with_reducible rfl)
  try simp only [Act.put, List.getElem_toArray, List.getElem_cons_succ, List.getElem_cons_zero, List.setIfInBounds_toArray, List.set_cons_zero, List.set_cons_succ]
  refine wpAnyH_take (i := 16) (v := ?vv13) rfl (by kernel_rfl) (by kernel_rfl) (by kernel_rfl) (fun _ _ _ h => h) (Or.inl ⟨by rfl, ?hy13⟩) (by assumption) ?rest13
  case hy13 => (intro w hSw; (try dsimp only at hSw); go_simp; first | done | with_reducible rfl)
  try simp only [Act.put, List.getElem_toArray, List.getElem_cons_succ, List.getElem_cons_zero, List.setIfInBounds_toArray, List.set_cons_zero, List.set_cons_succ]
  refine wpAnyH_take (i := 17) (v := ?vv14) rfl (by kernel_rfl) (by kernel_rfl) (by kernel_rfl) (fun _ _ _ h => h) (Or.inl ⟨by rfl, ?hy14⟩) (by assumption) ?rest14
  case hy14 => (intro w hSw; (try dsimp only at hSw); go_simp; first | done | with_reducible rfl)
  try simp only [Act.put, List.getElem_toArray, List.getElem_cons_succ, List.getElem_cons_zero, List.setIfInBounds_toArray, List.set_cons_zero, List.set_cons_succ]
  refine wpAnyH_take (i := 18) (v := ?vv15) rfl (by kernel_rfl) (by kernel_rfl) (by kernel_rfl) (fun _ _ _ h => h) (Or.inl ⟨by rfl, ?hy15⟩) (by assumption) ?rest15
  case hy15 => (intro w hSw; (try dsimp only at hSw); go_simp; first | done | with_reducible rfl)
  try simp only [Act.put, List.getElem_toArray, List.getElem_cons_succ, List.getElem_cons_zero, List.setIfInBounds_toArray, List.set_cons_zero, List.set_cons_succ]
  refine wpAnyH_take (i := 19) (v := ?vv16) rfl (by kernel_rfl) (by kernel_rfl) (by kernel_rfl) (fun _ _ _ h => h) (Or.inl ⟨by rfl, ?hy16⟩) (by assumption) ?rest16
  case hy16 => (intro w hSw; (try dsimp only at hSw); go_simp; first | done | with_reducible rfl)
  try simp only [Act.put, List.getElem_toArray, List.getElem_cons_succ, List.getElem_cons_zero, List.setIfInBounds_toArray, List.set_cons_zero, List.set_cons_succ]
  refine wpAnyH_take (i := 20) (v := ?vv17) rfl (by kernel_rfl) (by kernel_rfl) (by kernel_rfl) (fun _ _ _ h => h) (Or.inl ⟨by rfl, ?hy17⟩) (by assumption) ?rest17
  case hy17 => (intro w hSw; (try dsimp only at hSw); go_simp; first | done | with_reducible rfl)
  try simp only [Act.put, List.getElem_toArray, List.getElem_cons_succ, List.getElem_cons_zero, List.setIfInBounds_toArray, List.set_cons_zero, List.set_cons_succ]
  refine wpAnyH_take (i := 22) (v := ?vv18) rfl (by kernel_rfl) (by kernel_rfl) (by kernel_rfl) (fun _ _ _ h => h) (Or.inl ⟨by rfl, ?hy18⟩) (by assumption) ?rest18
  case hy18 => (intro w hSw; (try dsimp only at hSw); go_simp; first | done | with_reducible rfl)
  try simp only [Act.put, List.getElem_toArray, List.getElem_cons_succ, List.getElem_cons_zero, List.setIfInBounds_toArray, List.set_cons_zero, List.set_cons_succ]
  refine wpAnyH_ready (rs := [21]) (by kernel_rfl) (by simp) ?_
  refine AllReadyH.cons rfl (fun K hK => ?_) AllReadyH.nil
  go_simp
  refine (RF.out _ D _ I9.out (by have := LD.out; omega)).mono ?_
  rintro e u10 ⟨ad7, cap7, rfl, i10, bq⟩
  have B10 := hid (below_on B9.out bq)
  have R10 := hid (R9.out.keep (bq.keep (fun _ => False)) (fun h => h))
  have X10 := hid (X9.out.keep (bq.keep (fun _ => False)) (fun h => h))
  have Y10 := hid (Y9.out.keep (bq.keep (fun _ => False)) (fun h => h))
  have I10 := hid (I9.out.next bq)
  have J10 := hid (J9.out.next bq)
  have SM3 := hid (SM.out _ _ D _ i10 J10.out (by have := LD.out; omega))
  clear i10
  clear bq hHeld B9 R9 X9 Y9 I9 J9
  go_wp2_with fail
  refine hK.out _ _ (CS.out _ R10.out X10.out Y10.out) (fun hHeld => ?_)
  clear hK K
  try simp only [Act.put, List.getElem_toArray, List.getElem_cons_succ, List.getElem_cons_zero, List.setIfInBounds_toArray, List.set_cons_zero, List.set_cons_succ]
  refine wpAnyH_ready (rs := [23]) (by kernel_rfl) (by simp) ?_
  refine AllReadyH.cons rfl (fun K hK => ?_) AllReadyH.nil
  go_simp
  refine SM3.out.mono ?_
  rintro e u11 ⟨rfl, bq⟩
  have B11 := hid (below_on B10.out bq)
  have R11 := hid (R10.out.keep (bq.keep (fun _ => False)) (fun h => h))
  have X11 := hid (X10.out.keep (bq.keep (fun _ => False)) (fun h => h))
  have Y11 := hid (Y10.out.keep (bq.keep (fun _ => False)) (fun h => h))
  have I11 := hid (I10.out.next bq)
  have J11 := hid (J10.out.next bq)
  clear bq hHeld B10 R10 X10 Y10 I10 J10
  go_wp2_with fail
  refine hK.out _ _ (CS.out _ R11.out X11.out Y11.out) (fun hHeld => ?_)
  clear hK K
  try simp only [Act.put, List.getElem_toArray, List.getElem_cons_succ, List.getElem_cons_zero, List.setIfInBounds_toArray, List.set_cons_zero, List.set_cons_succ]
  refine wpAnyH_take (i := 24) (v := ?vv19) rfl (by kernel_rfl) (by kernel_rfl) (by kernel_rfl) (fun _ _ _ h => h) (Or.inl ⟨by rfl, ?hy19⟩) (by assumption) ?rest19
  case hy19 => (intro w hSw; (try dsimp only at hSw); go_simp; first | done | with_reducible rfl)
  try simp only [Act.put, List.getElem_toArray, List.getElem_cons_succ, List.getElem_cons_zero, List.setIfInBounds_toArray, List.set_cons_zero, List.set_cons_succ]
  refine wpAnyH_take (i := 25) (v := ?vv20) rfl (by kernel_rfl) (by kernel_rfl) (by kernel_rfl) (fun _ _ _ h => h) (Or.inl ⟨by rfl, ?hy20⟩) (by assumption) ?rest20
  case hy20 => (intro w hSw; (try dsimp only at hSw); go_simp; first | done | with_reducible rfl)
  try simp only [Act.put, List.getElem_toArray, List.getElem_cons_succ, List.getElem_cons_zero, List.setIfInBounds_toArray, List.set_cons_zero, List.set_cons_succ]
  refine wpAnyH_take (i := 26) (v := ?vv21) rfl (by kernel_rfl) (by kernel_rfl) (by kernel_rfl) (fun _ _ _ h => h) (Or.inl ⟨by rfl, ?hy21⟩) (by assumption) ?rest21
  case hy21 => (intro w hSw; (try dsimp only at hSw); go_simp; first | done | with_reducible rfl)
  try simp only [Act.put, List.getElem_toArray, List.getElem_cons_succ, List.getElem_cons_zero, List.setIfInBounds_toArray, List.set_cons_zero, List.set_cons_succ]
  refine wpAnyH_take (i := 27) (v := ?vv22) rfl (by kernel_rfl) (by kernel_rfl) (by kernel_rfl) (fun _ _ _ h => h) (Or.inl ⟨by rfl, ?hy22⟩) (by assumption) ?rest22
  case hy22 => (intro w hSw; (try dsimp only at hSw); go_simp; first | done | with_reducible rfl)
  try simp only [Act.put, List.getElem_toArray, List.getElem_cons_succ, List.getElem_cons_zero, List.setIfInBounds_toArray, List.set_cons_zero, List.set_cons_succ]
  refine wpAnyH_take (i := 28) (v := ?vv23) rfl (by kernel_rfl) (by kernel_rfl) (by kernel_rfl) (fun _ _ _ h => h) (Or.inl ⟨by rfl, ?hy23⟩) (by assumption) ?rest23
  case hy23 => (intro w hSw; (try dsimp only at hSw); go_simp; first | done | with_reducible rfl)
  try simp only [Act.put, List.getElem_toArray, List.getElem_cons_succ, List.getElem_cons_zero, List.setIfInBounds_toArray, List.set_cons_zero, List.set_cons_succ]
  refine wpAnyH_take (i := 29) (v := ?vv24) rfl (by kernel_rfl) (by kernel_rfl) (by kernel_rfl) (fun _ _ _ h => h) (Or.inl ⟨by rfl, ?hy24⟩) (by assumption) ?rest24
  case hy24 => (intro w hSw; (try dsimp only at hSw); go_simp; first | done | with_reducible rfl)
  try simp only [Act.put, List.getElem_toArray, List.getElem_cons_succ, List.getElem_cons_zero, List.setIfInBounds_toArray, List.set_cons_zero, List.set_cons_succ]
  refine wpAnyH_take (i := 30) (v := ?vv25) rfl (by kernel_rfl) (by kernel_rfl) (by kernel_rfl) (fun _ _ _ h => h) (Or.inl ⟨by rfl, ?hy25⟩) (by assumption) ?rest25
  case hy25 => (intro w hSw; (try dsimp only at hSw); go_simp; first | done | with_reducible rfl)
  try simp only [Act.put, List.getElem_toArray, List.getElem_cons_succ, List.getElem_cons_zero, List.setIfInBounds_toArray, List.set_cons_zero, List.set_cons_succ]
  refine wpAnyH_done (by kernel_rfl) ?_ _
  have BF := B11
  clear B11 R11 X11 Y11 I11 J11
  clear hHeld
  go_wp2
  go_ret
  exact ⟨rfl, BF.out⟩
theorem raftBytes_walk (v : Value) (m : Ms) (t : ByteArray) (w : World) (hv : EntI w v m.es) (hz : ibulk.SzGb m) (ht : t.size ≤ reachBytes) :
    Calls Tryz.prog 3 #[msV v m, .string t] w fun e w' => e = .returned (.bool true) ∧ Below w.heap.size w w' :=
  raftBytes_walk0 v m t w hv hz.el (Nat.le_trans ht (by decide))
end Go.Proofs.YtlkidnfgodficaaGreat
