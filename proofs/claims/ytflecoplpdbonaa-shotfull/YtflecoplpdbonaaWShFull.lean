/- The walk of the law ShotFull. -/
import Derived.Test.YtflecoplpdbonaaSfU
import Derived.Deep.CutRange
import Derived.Deep.RegionHeld3
namespace Go.Proofs.Ytflecoplpdbonaa
open Go.RowKit Go.Maps
set_option linter.unusedVariables false
set_option linter.unusedSimpArgs false

theorem fu_set {X W : World} {b : Nat} (h : Below X.heap.size X W) (hb : X.heap.size ≤ b) (o : Nat) (u : Value) : Below X.heap.size X (W.setCell ⟨b, o, none⟩ u) := h.trans (keep_below (keep_setCell W b o u) (fun j hj e => by omega) h.size)
set_option maxRecDepth 100000 in
set_option maxHeartbeats 4000000 in
theorem full_bad (v0 v1 : Value) (x0 x1 : Sh) (a : Int) (w : World) (h0 : IntsI w v0 x0.ms) (l0 : x0.ms.length ≤ 17592186044416) (h1 : IntsI w v1 x1.ms) (l1 : x1.ms.length ≤ 17592186044416) (hc : chkS x0 ≠ 0) : Calls Try.prog 4 #[shV v0 x0, shV v1 x1, .int .i64 a] w fun e w' => e = .returned (.bool true) ∧ Below w.heap.size w w' := by
  obtain ⟨ad0, cap0, rfl, -⟩ := h0.form
  obtain ⟨ad1, cap1, rfl, -⟩ := h1.form
  have NW : Hid (Calls Try.prog 5 #[] ((w.alloc (.cells #[.int .i64 x0.ix, .int .i64 x0.tm, .slice ad0 x0.ms.length cap0, .string x0.da] 36)).alloc (.cells #[.int .i64 x1.ix, .int .i64 x1.tm, .slice ad1 x1.ms.length cap1, .string x1.da] 36)) fun e w' => e = .returned (.pointer (some ⟨w.heap.size + 2, 0, none⟩)) ∧ FU w w' (w.heap.size + 2) (.slice ad0 x0.ms.length cap0) (.slice ad1 x1.ms.length cap1) x0 x1 d0 w') := fu_newc w _ _ _ _
  have AW := hid (fun W => awake7 W)
  have S0 : Hid (∀ w1 W, FU w w1 (w.heap.size + 2) (.slice ad0 x0.ms.length cap0) (.slice ad1 x1.ms.length cap1) x0 x1 d0 W → Calls Try.prog 9 #[.pointer (some ⟨w.heap.size + 2, 0, none⟩), .agg #[.int .i64 x0.ix, .int .i64 x0.tm, .slice ad0 x0.ms.length cap0, .string x0.da]] W fun e w' => e = .returned (.int .i64 (chkS x0)) ∧ FU w w1 (w.heap.size + 2) (.slice ad0 x0.ms.length cap0) (.slice ad1 x1.ms.length cap1) x0 x1 d0 w') := fun w1 W h => fu_saveN h h0 (by omega) hc
  have CK : Hid (∀ W, Below w.heap.size w W → Calls Try.prog 17 #[.agg #[.int .i64 x0.ix, .int .i64 x0.tm, .slice ad0 x0.ms.length cap0, .string x0.da]] W fun e w' => e = .returned (.int .i64 (chkS x0)) ∧ Below W.heap.size W w') := fun W hW => check_any _ x0 W (h0.next hW) (by omega)
  have hne : (chkS x0 != 0) = true := bne_iff_ne.2 hc
  unfold shV
  generalize chkS x0 = K at *
  clear h0 h1 l0 l1 hc
  go_enter Try.func4, Try.ntmps4
  go_wp2_with fail
  refine NW.out.mono ?_
  rintro e w1 ⟨rfl, hF⟩
  have F1 := hid hF
  clear NW hF
  have p0 := F1.out.a0.cellAt (o := 0) rfl
  have p1 := F1.out.a0.cellAt (o := 1) rfl
  have p2 := F1.out.a0.cellAt (o := 2) rfl
  have p3 := F1.out.a0.cellAt (o := 3) rfl
  go_wp2_with fail
  refine (S0.out _ _ F1.out).mono ?_
  rintro e w2 ⟨rfl, hF⟩
  have F2 := hid hF
  clear hF S0 F1 p0 p1 p2 p3
  go_wp2_with fail
  refine (AW.out _).mono ?_
  rintro e w3 ⟨rfl, hb⟩
  have F3 := hid (F2.out.on hb)
  clear hb F2 AW
  have p0 := F3.out.a0.cellAt (o := 0) rfl
  have p1 := F3.out.a0.cellAt (o := 1) rfl
  have p2 := F3.out.a0.cellAt (o := 2) rfl
  have p3 := F3.out.a0.cellAt (o := 3) rfl
  go_wp2_with fail
  refine (CK.out _ F3.out.below).mono ?_
  rintro e w4 ⟨rfl, hb⟩
  have B4 := hid (below_on F3.out.below hb)
  clear hb F3 CK p0 p1 p2 p3
  go_wp2
  go_ret
  exact ⟨rfl, B4.out⟩
set_option maxRecDepth 100000 in
set_option maxHeartbeats 4000000 in
theorem full_A (v0 v1 : Value) (x0 x1 : Sh) (a : Int) (w : World) (h0 : IntsI w v0 x0.ms) (l0 : x0.ms.length ≤ 17592186044416) (h1 : IntsI w v1 x1.ms) (l1 : x1.ms.length ≤ 17592186044416) (hc : chkS x0 = 0) (t : Int) (hat : wrap64 (((frm (encB x0)).length : Int) + (wrap64 (a.tmod 200 + 200)).tmod 200) = t) (ht : 0 ≤ t) (hE : fuE x0 x1 t = 0) (hD : fuD x0 x1 t = dF (frm (encB x1)) 4 true t) (hy : chkS x1 = 0) : Calls Try.prog 4 #[shV v0 x0, shV v1 x1, .int .i64 a] w fun e w' => e = .returned (.bool true) ∧ Below w.heap.size w w' := by
  obtain ⟨ad0, cap0, rfl, -⟩ := h0.form
  obtain ⟨ad1, cap1, rfl, -⟩ := h1.form
  have NW : Hid (Calls Try.prog 5 #[] ((w.alloc (.cells #[.int .i64 x0.ix, .int .i64 x0.tm, .slice ad0 x0.ms.length cap0, .string x0.da] 36)).alloc (.cells #[.int .i64 x1.ix, .int .i64 x1.tm, .slice ad1 x1.ms.length cap1, .string x1.da] 36)) fun e w' => e = .returned (.pointer (some ⟨w.heap.size + 2, 0, none⟩)) ∧ FU w w' (w.heap.size + 2) (.slice ad0 x0.ms.length cap0) (.slice ad1 x1.ms.length cap1) x0 x1 d0 w') := fu_newc w _ _ _ _
  have AW := hid (fun W => awake7 W)
  have S0 : Hid (∀ w1 W, FU w w1 (w.heap.size + 2) (.slice ad0 x0.ms.length cap0) (.slice ad1 x1.ms.length cap1) x0 x1 d0 W → Calls Try.prog 9 #[.pointer (some ⟨w.heap.size + 2, 0, none⟩), .agg #[.int .i64 x0.ix, .int .i64 x0.tm, .slice ad0 x0.ms.length cap0, .string x0.da]] W fun e w' => e = .returned (.int .i64 0) ∧ FU w w1 (w.heap.size + 2) (.slice ad0 x0.ms.length cap0) (.slice ad1 x1.ms.length cap1) x0 x1 (dF (frm (encB x0)) 2 false 0) w') := fun w1 W h => fu_save0 h h0 (by omega) hc
  have US : Hid (∀ w1 W, FU w w1 (w.heap.size + 2) (.slice ad0 x0.ms.length cap0) (.slice ad1 x1.ms.length cap1) x0 x1 (dF (frm (encB x0)) 2 false 0) W → Calls Try.prog 19 #[.pointer (some ⟨w.heap.size + 2, 0, none⟩)] W fun e w' => e = .returned (.int .i64 ((frm (encB x0)).length : Int)) ∧ FU w w1 (w.heap.size + 2) (.slice ad0 x0.ms.length cap0) (.slice ad1 x1.ms.length cap1) x0 x1 (dF (frm (encB x0)) 2 false 0) w') := fun w1 W h => fu_used h
  have RM : Hid (∀ w1 W, FU w w1 (w.heap.size + 2) (.slice ad0 x0.ms.length cap0) (.slice ad1 x1.ms.length cap1) x0 x1 (dF (frm (encB x0)) 2 false 0) W → Calls Try.prog 18 #[.pointer (some ⟨w.heap.size + 2, 0, none⟩), .int .i64 t] W fun e w' => e = .returned (.tuple #[]) ∧ FU w w1 (w.heap.size + 2) (.slice ad0 x0.ms.length cap0) (.slice ad1 x1.ms.length cap1) x0 x1 (dF (frm (encB x0)) 2 true t) w') := fun w1 W h => fu_room h t ht
  have S1 : Hid (∀ w1 W, FU w w1 (w.heap.size + 2) (.slice ad0 x0.ms.length cap0) (.slice ad1 x1.ms.length cap1) x0 x1 (dF (frm (encB x0)) 2 true t) W → Calls Try.prog 9 #[.pointer (some ⟨w.heap.size + 2, 0, none⟩), .agg #[.int .i64 x1.ix, .int .i64 x1.tm, .slice ad1 x1.ms.length cap1, .string x1.da]] W fun e w' => e = .returned (.int .i64 0) ∧ FU w w1 (w.heap.size + 2) (.slice ad0 x0.ms.length cap0) (.slice ad1 x1.ms.length cap1) x0 x1 (dF (frm (encB x1)) 4 true t) w') := fun w1 W h => by
    have := fu_save1 h h1 (by omega) hc
    rw [hE, hD] at this
    exact this
  have LD : Hid (∀ w1 W, FU w w1 (w.heap.size + 2) (.slice ad0 x0.ms.length cap0) (.slice ad1 x1.ms.length cap1) x0 x1 (dF (frm (encB x1)) 4 true t) W → Calls Try.prog 15 #[.pointer (some ⟨w.heap.size + 2, 0, none⟩)] W fun e w' => ∃ ad cap, e = .returned (.tuple #[.agg #[.int .i64 x1.ix, .int .i64 x1.tm, .slice ad x1.ms.length cap, .string x1.da], .bool true, .int .i64 0]) ∧ IntsI w' (.slice ad x1.ms.length cap) x1.ms ∧ FU w w1 (w.heap.size + 2) (.slice ad0 x0.ms.length cap0) (.slice ad1 x1.ms.length cap1) x0 x1 (dF (frm (encB x1)) 4 true t) w') := fun w1 W h => fu_load x1 h hy (by omega)
  have RF : Hid (∀ (ad : Option Addr) (m cap : Nat) (i j : Int) (d : ByteArray) W, Calls Try.prog 10 #[.agg #[.int .i64 i, .int .i64 j, .slice ad m cap, .string d]] W fun e w' => e = .returned (.agg #[.int .i64 i, .int .i64 j, .slice ad m cap, .string d]) ∧ Below W.heap.size W w') := fun ad m cap i j d W => refOf_any ad m cap ⟨i, j, [], d⟩ W
  have SM : Hid (∀ (u z : Value) W, IntsI W u x1.ms → IntsI W z x1.ms → Calls Try.prog 16 #[.agg #[.int .i64 x1.ix, .int .i64 x1.tm, u, .string x1.da], .agg #[.int .i64 x1.ix, .int .i64 x1.tm, z, .string x1.da]] W fun e w' => e = .returned (.bool true) ∧ Below W.heap.size W w') := fun u z W hu hz => by
    have := rsame_any u z x1 x1 W hu hz (by omega)
    rw [show smS x1 x1 = true from by simp [smS]] at this
    exact this
  have HAT := hid hat
  have HV0 := hid h0
  have HV1 := hid h1
  unfold shV
  clear h0 h1 l0 l1 hc hat ht hE hD hy
  generalize (dF (frm (encB x0)) 2 false 0) = D1 at *
  generalize (dF (frm (encB x0)) 2 true t) = D2 at *
  generalize (dF (frm (encB x1)) 4 true t) = D3 at *
  generalize (frm (encB x0)).length = n0 at *
  go_enter Try.func4, Try.ntmps4
  go_wp2_with fail
  refine NW.out.mono ?_
  rintro e w1 ⟨rfl, hF⟩
  have F1 := hid hF
  clear NW hF
  have p0 := F1.out.a0.cellAt (o := 0) rfl
  have p1 := F1.out.a0.cellAt (o := 1) rfl
  have p2 := F1.out.a0.cellAt (o := 2) rfl
  have p3 := F1.out.a0.cellAt (o := 3) rfl
  go_wp2_with fail
  refine (S0.out _ _ F1.out).mono ?_
  rintro e w2 ⟨rfl, hF⟩
  have F2 := hid hF
  clear hF S0 F1 p0 p1 p2 p3
  go_wp2_with fail
  refine (US.out _ _ F2.out).mono ?_
  rintro e w3 ⟨rfl, hF⟩
  have F3 := hid hF
  clear hF US F2
  have hat := HAT.out
  go_wp2_with fail
  refine (RM.out _ _ F3.out).mono ?_
  rintro e w4 ⟨rfl, hF⟩
  have F4 := hid hF
  clear hF RM F3 hat HAT
  have p0 := F4.out.a1.cellAt (o := 0) rfl
  have p1 := F4.out.a1.cellAt (o := 1) rfl
  have p2 := F4.out.a1.cellAt (o := 2) rfl
  have p3 := F4.out.a1.cellAt (o := 3) rfl
  go_wp2_with fail
  refine (S1.out _ _ F4.out).mono ?_
  rintro e w5 ⟨rfl, hF⟩
  have F5 := hid hF
  clear hF S1 F4 p0 p1 p2 p3
  go_wp2_with fail
  refine (LD.out _ _ F5.out).mono ?_
  rintro e w6 ⟨ad, cap, rfl, hI, hF⟩
  have F6 := hid hF
  have I6 := hid hI
  clear hF hI LD F5
  have K6 := below_al (Below.refl w6.heap.size w6) (.cells #[.int .i64 x1.ix, .int .i64 x1.tm, .slice ad x1.ms.length cap, .string x1.da] 36)
  have G6 : Hid (RowIs (w6.alloc (.cells #[.int .i64 x1.ix, .int .i64 x1.tm, .slice ad x1.ms.length cap, .string x1.da] 36)) w6.heap.size [.int .i64 x1.ix, .int .i64 x1.tm, .slice ad x1.ms.length cap, .string x1.da] 36) := srow w6 _ _
  have H6 := hid (F6.out.on K6)
  have B6 := hid K6
  clear K6
  have p0 := H6.out.a0.cellAt (o := 0) rfl
  have p1 := H6.out.a0.cellAt (o := 1) rfl
  have p2 := H6.out.a0.cellAt (o := 2) rfl
  have p3 := H6.out.a0.cellAt (o := 3) rfl
  go_wp2_with fail
  refine (RF.out _ _ _ _ _ _ _).mono ?_
  rintro e w7 ⟨rfl, hb⟩
  have B7 := hid (below_on B6.out hb)
  have G7 := hid (fu_next G6.out hb)
  have F7 := hid (H6.out.on hb)
  have FW := hid F6.out
  clear hb B6 G6 H6 F6 p0 p1 p2 p3
  have K7 := below_al (Below.refl w7.heap.size w7) (.cells #[.int .i64 x0.ix, .int .i64 x0.tm, .slice ad0 x0.ms.length cap0, .string x0.da] 33)
  have M7 : Hid (RowIs (w7.alloc (.cells #[.int .i64 x0.ix, .int .i64 x0.tm, .slice ad0 x0.ms.length cap0, .string x0.da] 33)) w7.heap.size [.int .i64 x0.ix, .int .i64 x0.tm, .slice ad0 x0.ms.length cap0, .string x0.da] 33) := srow w7 _ _
  have F8 := hid (F7.out.on K7)
  have G8 := hid (fu_next G7.out K7)
  have B8 := hid (below_on B7.out K7)
  have hq : Hid (w6.heap.size ≤ w7.heap.size) := B7.out.size
  have hq2 : Hid (w6.heap.size < w7.heap.size) := G7.out.lt
  clear K7 F7 G7 B7
  have p0 := F8.out.a1.cellAt (o := 0) rfl
  have p1 := F8.out.a1.cellAt (o := 1) rfl
  have p2 := F8.out.a1.cellAt (o := 2) rfl
  have p3 := F8.out.a1.cellAt (o := 3) rfl
  go_wp2_with fail
  refine (RF.out _ _ _ _ _ _ _).mono ?_
  rintro e w8 ⟨rfl, hb⟩
  have B9 := hid (below_on B8.out hb)
  have G9 := hid (fu_next G8.out hb)
  have F9 := hid (F8.out.on hb)
  have M9 := hid (fu_next M7.out hb)
  clear hb B8 G8 F8 M7 p0 p1 p2 p3
  have d0 := M9.out.cellAt (o := 0) rfl
  have f0 : w8.frozen? ⟨w7.heap.size, 0, none⟩ = false := M9.out.frozen
  have d1 := M9.out.cellAt (o := 1) rfl
  have f1 : w8.frozen? ⟨w7.heap.size, 1, none⟩ = false := M9.out.frozen
  have d2 := M9.out.cellAt (o := 2) rfl
  have f2 : w8.frozen? ⟨w7.heap.size, 2, none⟩ = false := M9.out.frozen
  have d3 := M9.out.cellAt (o := 3) rfl
  have f3 : w8.frozen? ⟨w7.heap.size, 3, none⟩ = false := M9.out.frozen
  have hqn : ¬ w6.heap.size = w7.heap.size := Nat.ne_of_lt hq2.out
  have M1 : Hid (RowIs ((((w8.setCell ⟨w7.heap.size, 0, none⟩ (.int .i64 x1.ix)).setCell ⟨w7.heap.size, 1, none⟩ (.int .i64 x1.tm)).setCell ⟨w7.heap.size, 2, none⟩ (.slice ad1 x1.ms.length cap1)).setCell ⟨w7.heap.size, 3, none⟩ (.string x1.da)) w6.heap.size [.int .i64 x1.ix, .int .i64 x1.tm, .slice ad x1.ms.length cap, .string x1.da] 36) := ((((G9.out.keep (keep_setCell _ w7.heap.size 0 (.int .i64 x1.ix)) hqn).keep (keep_setCell _ w7.heap.size 1 (.int .i64 x1.tm)) hqn).keep (keep_setCell _ w7.heap.size 2 (.slice ad1 x1.ms.length cap1)) hqn).keep (keep_setCell _ w7.heap.size 3 (.string x1.da)) hqn)
  have M2 : Hid (RowIs ((((w8.setCell ⟨w7.heap.size, 0, none⟩ (.int .i64 x1.ix)).setCell ⟨w7.heap.size, 1, none⟩ (.int .i64 x1.tm)).setCell ⟨w7.heap.size, 2, none⟩ (.slice ad1 x1.ms.length cap1)).setCell ⟨w7.heap.size, 3, none⟩ (.string x1.da)) w7.heap.size [.int .i64 x1.ix, .int .i64 x1.tm, .slice ad1 x1.ms.length cap1, .string x1.da] 33) := ((((M9.out.set 0 (.int .i64 x1.ix)).set 1 (.int .i64 x1.tm)).set 2 (.slice ad1 x1.ms.length cap1)).set 3 (.string x1.da))
  have BX : Hid (Below w6.heap.size w6 ((((w8.setCell ⟨w7.heap.size, 0, none⟩ (.int .i64 x1.ix)).setCell ⟨w7.heap.size, 1, none⟩ (.int .i64 x1.tm)).setCell ⟨w7.heap.size, 2, none⟩ (.slice ad1 x1.ms.length cap1)).setCell ⟨w7.heap.size, 3, none⟩ (.string x1.da))) := (fu_set (fu_set (fu_set (fu_set B9.out hq.out 0 (.int .i64 x1.ix)) hq.out 1 (.int .i64 x1.tm)) hq.out 2 (.slice ad1 x1.ms.length cap1)) hq.out 3 (.string x1.da))
  clear hqn G9 M9 F9 B9 hq hq2
  go_upto_region 10 with fail
  clear d0 f0 d1 f1 d2 f2 d3 f3
  generalize ((((w8.setCell ⟨w7.heap.size, 0, none⟩ (.int .i64 x1.ix)).setCell ⟨w7.heap.size, 1, none⟩ (.int .i64 x1.tm)).setCell ⟨w7.heap.size, 2, none⟩ (.slice ad1 x1.ms.length cap1)).setCell ⟨w7.heap.size, 3, none⟩ (.string x1.da)) = X at *
  have FX := hid (FW.out.on BX.out)
  have BW := hid FX.out.below
  have I1 := hid (I6.out.next BX.out)
  have I2 := hid (HV1.out.next BW.out)
  have M3 := hid FX.out.a1
  clear FX FW BX I6
  generalize w6.heap.size = q at *
  generalize w7.heap.size = q2 at *
  generalize w.heap.size + 1 = b1 at *
  have ZC : Hid (∀ W, Below X.heap.size X W → (fun w' => w'.cell? ⟨q, 0, none⟩ = some (.int .i64 x1.ix) ∧ w'.cell? ⟨q, 1, none⟩ = some (.int .i64 x1.tm) ∧ w'.cell? ⟨q, 2, none⟩ = some (.slice ad x1.ms.length cap) ∧ w'.cell? ⟨q, 3, none⟩ = some (.string x1.da) ∧ w'.cell? ⟨q2, 0, none⟩ = some (.int .i64 x1.ix) ∧ w'.cell? ⟨q2, 1, none⟩ = some (.int .i64 x1.tm) ∧ w'.cell? ⟨q2, 2, none⟩ = some (.slice ad1 x1.ms.length cap1) ∧ w'.cell? ⟨q2, 3, none⟩ = some (.string x1.da) ∧ w'.cell? ⟨b1, 0, none⟩ = some (.int .i64 x1.ix) ∧ w'.cell? ⟨b1, 1, none⟩ = some (.int .i64 x1.tm) ∧ w'.cell? ⟨b1, 2, none⟩ = some (.slice ad1 x1.ms.length cap1) ∧ w'.cell? ⟨b1, 3, none⟩ = some (.string x1.da)) W) := fun W hW => by
    have m1 := fu_next M1.out hW
    have m2 := fu_next M2.out hW
    have m3 := fu_next M3.out hW
    exact ⟨m1.cellAt rfl, m1.cellAt rfl, m1.cellAt rfl, m1.cellAt rfl, m2.cellAt rfl, m2.cellAt rfl, m2.cellAt rfl, m2.cellAt rfl, m3.cellAt rfl, m3.cellAt rfl, m3.cellAt rfl, m3.cellAt rfl⟩
  have AWX : Hid (∀ W, Below X.heap.size X W → Calls Try.prog 6 #[] W fun e w' => e = .returned (.bool true) ∧ Below W.heap.size W w') := fun W _ => AW.out W
  have RFX : Hid (∀ W, Below X.heap.size X W → Calls Try.prog 10 #[.agg #[.int .i64 x1.ix, .int .i64 x1.tm, .slice ad x1.ms.length cap, .string x1.da]] W fun e w' => e = .returned (.agg #[.int .i64 x1.ix, .int .i64 x1.tm, .slice ad x1.ms.length cap, .string x1.da]) ∧ Below W.heap.size W w') := fun W _ => RF.out _ _ _ _ _ _ W
  have SMX : Hid (∀ W, Below X.heap.size X W → Calls Try.prog 16 #[.agg #[.int .i64 x1.ix, .int .i64 x1.tm, .slice ad x1.ms.length cap, .string x1.da], .agg #[.int .i64 x1.ix, .int .i64 x1.tm, .slice ad1 x1.ms.length cap1, .string x1.da]] W fun e w' => e = .returned (.bool true) ∧ Below W.heap.size W w') := fun W hW => SM.out _ _ W (I1.out.next hW) (I2.out.next hW)
  have D0 := hid (Below.refl X.heap.size X).drew
  clear AW RF SM I1 I2 M1 M2 M3 HV0 HV1
  refine wp_region_held_drew (S := (fun w' => w'.cell? ⟨q, 0, none⟩ = some (.int .i64 x1.ix) ∧ w'.cell? ⟨q, 1, none⟩ = some (.int .i64 x1.tm) ∧ w'.cell? ⟨q, 2, none⟩ = some (.slice ad x1.ms.length cap) ∧ w'.cell? ⟨q, 3, none⟩ = some (.string x1.da) ∧ w'.cell? ⟨q2, 0, none⟩ = some (.int .i64 x1.ix) ∧ w'.cell? ⟨q2, 1, none⟩ = some (.int .i64 x1.tm) ∧ w'.cell? ⟨q2, 2, none⟩ = some (.slice ad1 x1.ms.length cap1) ∧ w'.cell? ⟨q2, 3, none⟩ = some (.string x1.da) ∧ w'.cell? ⟨b1, 0, none⟩ = some (.int .i64 x1.ix) ∧ w'.cell? ⟨b1, 1, none⟩ = some (.int .i64 x1.tm) ∧ w'.cell? ⟨b1, 2, none⟩ = some (.slice ad1 x1.ms.length cap1) ∧ w'.cell? ⟨b1, 3, none⟩ = some (.string x1.da))) (by kernel_rfl) (ZC.out _ D0.out) (fun hHeld => ?_)
  refine wpAnyH_ready (rs := [0]) (by kernel_rfl) (by simp) ?_
  refine AllReadyH.cons rfl (fun K hK => ?_) AllReadyH.nil
  go_simp
  refine (AWX.out _ D0.out).mono ?_
  rintro e wq1 ⟨rfl, bq⟩
  have BQ1 := hid (below_on D0.out bq)
  clear bq hHeld
  go_wp2_with fail
  refine hK.out _ _ (ZC.out _ BQ1.out) (fun hHeld => ?_)
  clear hK K
  try simp only [Act.put, List.getElem_toArray, List.getElem_cons_succ, List.getElem_cons_zero, List.setIfInBounds_toArray, List.set_cons_zero, List.set_cons_succ]
  refine wpAnyH_take (i := 1) (v := ?vv1) rfl (by kernel_rfl) (by kernel_rfl) (by kernel_rfl) (fun _ _ _ h => h) (Or.inl ⟨by rfl, ?hy1⟩) (by assumption) ?rest1
  case hy1 => (intro w hSw; (try dsimp only at hSw); go_simp; first | done | with_reducible rfl)
  try simp only [Act.put, List.getElem_toArray, List.getElem_cons_succ, List.getElem_cons_zero, List.setIfInBounds_toArray, List.set_cons_zero, List.set_cons_succ]
  refine wpAnyH_take (i := 2) (v := ?vv2) rfl (by kernel_rfl) (by kernel_rfl) (by kernel_rfl) (fun _ _ _ h => h) (Or.inl ⟨by rfl, ?hy2⟩) (by assumption) ?rest2
  case hy2 => (intro w hSw; (try dsimp only at hSw); go_simp; first | done | with_reducible rfl)
  try simp only [Act.put, List.getElem_toArray, List.getElem_cons_succ, List.getElem_cons_zero, List.setIfInBounds_toArray, List.set_cons_zero, List.set_cons_succ]
  refine wpAnyH_take (i := 3) (v := ?vv3) rfl (by kernel_rfl) (by kernel_rfl) (by kernel_rfl) (fun _ _ _ h => h) (Or.inl ⟨by rfl, ?hy3⟩) (by assumption) ?rest3
  case hy3 => (intro w hSw; (try dsimp only at hSw); go_simp; first | done | with_reducible rfl)
  try simp only [Act.put, List.getElem_toArray, List.getElem_cons_succ, List.getElem_cons_zero, List.setIfInBounds_toArray, List.set_cons_zero, List.set_cons_succ]
  refine wpAnyH_take (i := 4) (v := ?vv4) rfl (by kernel_rfl) (by kernel_rfl) (by kernel_rfl) (fun _ _ _ h => h) (Or.inl ⟨by rfl, ?hy4⟩) (by assumption) ?rest4
  case hy4 => (intro w hSw; (try dsimp only at hSw); go_simp; first | done | with_reducible rfl)
  try simp only [Act.put, List.getElem_toArray, List.getElem_cons_succ, List.getElem_cons_zero, List.setIfInBounds_toArray, List.set_cons_zero, List.set_cons_succ]
  refine wpAnyH_take (i := 5) (v := ?vv5) rfl (by kernel_rfl) (by kernel_rfl) (by kernel_rfl) (fun _ _ _ h => h) (Or.inl ⟨by rfl, ?hy5⟩) (by assumption) ?rest5
  case hy5 => (intro w hSw; (try dsimp only at hSw); go_simp; first | done | with_reducible rfl)
  try simp only [Act.put, List.getElem_toArray, List.getElem_cons_succ, List.getElem_cons_zero, List.setIfInBounds_toArray, List.set_cons_zero, List.set_cons_succ]
  refine wpAnyH_take (i := 6) (v := ?vv6) rfl (by kernel_rfl) (by kernel_rfl) (by kernel_rfl) (fun _ _ _ h => h) (Or.inl ⟨by rfl, ?hy6⟩) (by assumption) ?rest6
  case hy6 => (intro w hSw; (try dsimp only at hSw); go_simp; first | done | with_reducible rfl)
  try simp only [Act.put, List.getElem_toArray, List.getElem_cons_succ, List.getElem_cons_zero, List.setIfInBounds_toArray, List.set_cons_zero, List.set_cons_succ]
  refine wpAnyH_take (i := 7) (v := ?vv7) rfl (by kernel_rfl) (by kernel_rfl) (by kernel_rfl) (fun _ _ _ h => h) (Or.inl ⟨by rfl, ?hy7⟩) (by assumption) ?rest7
  case hy7 => (intro w hSw; (try dsimp only at hSw); go_simp; first | done | with_reducible rfl)
  try simp only [Act.put, List.getElem_toArray, List.getElem_cons_succ, List.getElem_cons_zero, List.setIfInBounds_toArray, List.set_cons_zero, List.set_cons_succ]
  refine wpAnyH_take (i := 8) (v := ?vv8) rfl (by kernel_rfl) (by kernel_rfl) (by kernel_rfl) (fun _ _ _ h => h) (Or.inl ⟨by rfl, ?hy8⟩) (by assumption) ?rest8
  case hy8 => (intro w hSw; (try dsimp only at hSw); go_simp; first | done | with_reducible rfl)
  try simp only [Act.put, List.getElem_toArray, List.getElem_cons_succ, List.getElem_cons_zero, List.setIfInBounds_toArray, List.set_cons_zero, List.set_cons_succ]
  refine wpAnyH_take (i := 9) (v := ?vv9) rfl (by kernel_rfl) (by kernel_rfl) (by kernel_rfl) (fun _ _ _ h => h) (Or.inl ⟨by rfl, ?hy9⟩) (by assumption) ?rest9
  case hy9 => (intro w hSw; (try dsimp only at hSw); go_simp; first | done | with_reducible rfl)
  try simp only [Act.put, List.getElem_toArray, List.getElem_cons_succ, List.getElem_cons_zero, List.setIfInBounds_toArray, List.set_cons_zero, List.set_cons_succ]
  refine wpAnyH_take (i := 11) (v := ?vv10) rfl (by kernel_rfl) (by kernel_rfl) (by kernel_rfl) (fun _ _ _ h => h) (Or.inl ⟨by rfl, ?hy10⟩) (by assumption) ?rest10
  case hy10 => (intro w hSw; (try dsimp only at hSw); go_simp; first | done | with_reducible rfl)
  try simp only [Act.put, List.getElem_toArray, List.getElem_cons_succ, List.getElem_cons_zero, List.setIfInBounds_toArray, List.set_cons_zero, List.set_cons_succ]
  refine wpAnyH_ready (rs := [10]) (by kernel_rfl) (by simp) ?_
  refine AllReadyH.cons rfl (fun K hK => ?_) AllReadyH.nil
  go_simp
  refine (RFX.out _ BQ1.out).mono ?_
  rintro e wq2 ⟨rfl, bq⟩
  have BQ2 := hid (below_on BQ1.out bq)
  clear bq hHeld
  go_wp2_with fail
  refine hK.out _ _ (ZC.out _ BQ2.out) (fun hHeld => ?_)
  clear hK K
  try simp only [Act.put, List.getElem_toArray, List.getElem_cons_succ, List.getElem_cons_zero, List.setIfInBounds_toArray, List.set_cons_zero, List.set_cons_succ]
  refine wpAnyH_ready (rs := [12]) (by kernel_rfl) (by simp) ?_
  refine AllReadyH.cons rfl (fun K hK => ?_) AllReadyH.nil
  go_simp
  refine (SMX.out _ BQ2.out).mono ?_
  rintro e wq3 ⟨rfl, bq⟩
  have BQ3 := hid (below_on BQ2.out bq)
  clear bq hHeld
  go_wp2_with fail
  refine hK.out _ _ (ZC.out _ BQ3.out) (fun hHeld => ?_)
  clear hK K
  try simp only [Act.put, List.getElem_toArray, List.getElem_cons_succ, List.getElem_cons_zero, List.setIfInBounds_toArray, List.set_cons_zero, List.set_cons_succ]
  refine wpAnyH_take (i := 13) (v := ?vv11) rfl (by kernel_rfl) (by kernel_rfl) (by kernel_rfl) (fun _ _ _ h => h) (Or.inl ⟨by rfl, ?hy11⟩) (by assumption) ?rest11
  case hy11 => (intro w hSw; (try dsimp only at hSw); go_simp; first | done | with_reducible rfl)
  try simp only [Act.put, List.getElem_toArray, List.getElem_cons_succ, List.getElem_cons_zero, List.setIfInBounds_toArray, List.set_cons_zero, List.set_cons_succ]
  refine wpAnyH_take (i := 14) (v := ?vv12) rfl (by kernel_rfl) (by kernel_rfl) (by kernel_rfl) (fun _ _ _ h => h) (Or.inl ⟨by rfl, ?hy12⟩) (by assumption) ?rest12
  case hy12 => (intro w hSw; (try dsimp only at hSw); go_simp; first | done | with_reducible rfl)
  try simp only [Act.put, List.getElem_toArray, List.getElem_cons_succ, List.getElem_cons_zero, List.setIfInBounds_toArray, List.set_cons_zero, List.set_cons_succ]
  refine wpAnyH_take (i := 15) (v := ?vv13) rfl (by kernel_rfl) (by kernel_rfl) (by kernel_rfl) (fun _ _ _ h => h) (Or.inl ⟨by rfl, ?hy13⟩) (by assumption) ?rest13
  case hy13 => (intro w hSw; (try dsimp only at hSw); go_simp; first | done | with_reducible rfl)
  try simp only [Act.put, List.getElem_toArray, List.getElem_cons_succ, List.getElem_cons_zero, List.setIfInBounds_toArray, List.set_cons_zero, List.set_cons_succ]
  refine wpAnyH_take (i := 16) (v := ?vv14) rfl (by kernel_rfl) (by kernel_rfl) (by kernel_rfl) (fun _ _ _ h => h) (Or.inl ⟨by rfl, ?hy14⟩) (by assumption) ?rest14
  case hy14 => (intro w hSw; (try dsimp only at hSw); go_simp; first | done | with_reducible rfl)
  try simp only [Act.put, List.getElem_toArray, List.getElem_cons_succ, List.getElem_cons_zero, List.setIfInBounds_toArray, List.set_cons_zero, List.set_cons_succ]
  refine wpAnyH_take (i := 17) (v := ?vv15) rfl (by kernel_rfl) (by kernel_rfl) (by kernel_rfl) (fun _ _ _ h => h) (Or.inl ⟨by rfl, ?hy15⟩) (by assumption) ?rest15
  case hy15 => (intro w hSw; (try dsimp only at hSw); go_simp; first | done | with_reducible rfl)
  try simp only [Act.put, List.getElem_toArray, List.getElem_cons_succ, List.getElem_cons_zero, List.setIfInBounds_toArray, List.set_cons_zero, List.set_cons_succ]
  refine wpAnyH_take (i := 18) (v := undef) rfl (by kernel_rfl) (by kernel_rfl) (by kernel_rfl) (fun _ _ _ h => h) (Or.inr ⟨by rfl, rfl⟩) (by assumption) ?_
  try simp only [Act.put, List.getElem_toArray, List.getElem_cons_succ, List.getElem_cons_zero, List.setIfInBounds_toArray, List.set_cons_zero, List.set_cons_succ]
  refine wpAnyH_take (i := 19) (v := undef) rfl (by kernel_rfl) (by kernel_rfl) (by kernel_rfl) (fun _ _ _ h => h) (Or.inr ⟨by rfl, rfl⟩) (by assumption) ?_
  try simp only [Act.put, List.getElem_toArray, List.getElem_cons_succ, List.getElem_cons_zero, List.setIfInBounds_toArray, List.set_cons_zero, List.set_cons_succ]
  refine wpAnyH_take (i := 20) (v := ?vv16) rfl (by kernel_rfl) (by kernel_rfl) (by kernel_rfl) (fun _ _ _ h => h) (Or.inl ⟨by rfl, ?hy16⟩) (by assumption) ?rest16
  case hy16 => (intro w hSw; (try dsimp only at hSw); go_simp; first | done | with_reducible rfl)
  try simp only [Act.put, List.getElem_toArray, List.getElem_cons_succ, List.getElem_cons_zero, List.setIfInBounds_toArray, List.set_cons_zero, List.set_cons_succ]
  refine wpAnyH_take (i := 21) (v := ?vv17) rfl (by kernel_rfl) (by kernel_rfl) (by kernel_rfl) (fun _ _ _ h => h) (Or.inl ⟨by rfl, ?hy17⟩) (by assumption) ?rest17
  case hy17 => (intro w hSw; (try dsimp only at hSw); go_simp; first | done | with_reducible rfl)
  try simp only [Act.put, List.getElem_toArray, List.getElem_cons_succ, List.getElem_cons_zero, List.setIfInBounds_toArray, List.set_cons_zero, List.set_cons_succ]
  refine wpAnyH_take (i := 22) (v := undef) rfl (by kernel_rfl) (by kernel_rfl) (by kernel_rfl) (fun _ _ _ h => h) (Or.inr ⟨by rfl, rfl⟩) (by assumption) ?_
  try simp only [Act.put, List.getElem_toArray, List.getElem_cons_succ, List.getElem_cons_zero, List.setIfInBounds_toArray, List.set_cons_zero, List.set_cons_succ]
  refine wpAnyH_take (i := 23) (v := undef) rfl (by kernel_rfl) (by kernel_rfl) (by kernel_rfl) (fun _ _ _ h => h) (Or.inr ⟨by rfl, rfl⟩) (by assumption) ?_
  try simp only [Act.put, List.getElem_toArray, List.getElem_cons_succ, List.getElem_cons_zero, List.setIfInBounds_toArray, List.set_cons_zero, List.set_cons_succ]
  refine wpAnyH_take (i := 24) (v := undef) rfl (by kernel_rfl) (by kernel_rfl) (by kernel_rfl) (fun _ _ _ h => h) (Or.inr ⟨by rfl, rfl⟩) (by assumption) ?_
  try simp only [Act.put, List.getElem_toArray, List.getElem_cons_succ, List.getElem_cons_zero, List.setIfInBounds_toArray, List.set_cons_zero, List.set_cons_succ]
  refine wpAnyH_take (i := 25) (v := undef) rfl (by kernel_rfl) (by kernel_rfl) (by kernel_rfl) (fun _ _ _ h => h) (Or.inr ⟨by rfl, rfl⟩) (by assumption) ?_
  try simp only [Act.put, List.getElem_toArray, List.getElem_cons_succ, List.getElem_cons_zero, List.setIfInBounds_toArray, List.set_cons_zero, List.set_cons_succ]
  refine wpAnyH_take (i := 26) (v := undef) rfl (by kernel_rfl) (by kernel_rfl) (by kernel_rfl) (fun _ _ _ h => h) (Or.inr ⟨by rfl, rfl⟩) (by assumption) ?_
  try simp only [Act.put, List.getElem_toArray, List.getElem_cons_succ, List.getElem_cons_zero, List.setIfInBounds_toArray, List.set_cons_zero, List.set_cons_succ]
  refine wpAnyH_take (i := 27) (v := ?vv18) rfl (by kernel_rfl) (by kernel_rfl) (by kernel_rfl) (fun _ _ _ h => h) (Or.inl ⟨by rfl, ?hy18⟩) (by assumption) ?rest18
  case hy18 => (intro w hSw; (try dsimp only at hSw); go_simp; first | done | with_reducible rfl)
  try simp only [Act.put, List.getElem_toArray, List.getElem_cons_succ, List.getElem_cons_zero, List.setIfInBounds_toArray, List.set_cons_zero, List.set_cons_succ]
  refine wpAnyH_take (i := 28) (v := ?vv19) rfl (by kernel_rfl) (by kernel_rfl) (by kernel_rfl) (fun _ _ _ h => h) (Or.inl ⟨by rfl, ?hy19⟩) (by assumption) ?rest19
  case hy19 => (intro w hSw; (try dsimp only at hSw); go_simp; first | done | with_reducible rfl)
  try simp only [Act.put, List.getElem_toArray, List.getElem_cons_succ, List.getElem_cons_zero, List.setIfInBounds_toArray, List.set_cons_zero, List.set_cons_succ]
  refine wpAnyH_take (i := 29) (v := ?vv20) rfl (by kernel_rfl) (by kernel_rfl) (by kernel_rfl) (fun _ _ _ h => h) (Or.inl ⟨by rfl, ?hy20⟩) (by assumption) ?rest20
  case hy20 => (intro w hSw; (try dsimp only at hSw); go_simp; first | done | with_reducible rfl)
  try simp only [Act.put, List.getElem_toArray, List.getElem_cons_succ, List.getElem_cons_zero, List.setIfInBounds_toArray, List.set_cons_zero, List.set_cons_succ]
  refine wpAnyH_done (by kernel_rfl) ?_ _
  clear hHeld ZC
  go_wp2
  go_ret
  exact ⟨rfl, below_on BW.out BQ3.out⟩
set_option maxRecDepth 100000 in
set_option maxHeartbeats 4000000 in
theorem full_B (v0 v1 : Value) (x0 x1 : Sh) (a : Int) (w : World) (h0 : IntsI w v0 x0.ms) (l0 : x0.ms.length ≤ 17592186044416) (h1 : IntsI w v1 x1.ms) (l1 : x1.ms.length ≤ 17592186044416) (hc : chkS x0 = 0) (t : Int) (hat : wrap64 (((frm (encB x0)).length : Int) + (wrap64 (a.tmod 200 + 200)).tmod 200) = t) (ht : 0 ≤ t) (hE : fuE x0 x1 t = 22) (hD : fuD x0 x1 t = dF (frm (encB x0)) 2 true t) : Calls Try.prog 4 #[shV v0 x0, shV v1 x1, .int .i64 a] w fun e w' => e = .returned (.bool true) ∧ Below w.heap.size w w' := by
  obtain ⟨ad0, cap0, rfl, -⟩ := h0.form
  obtain ⟨ad1, cap1, rfl, -⟩ := h1.form
  have NW : Hid (Calls Try.prog 5 #[] ((w.alloc (.cells #[.int .i64 x0.ix, .int .i64 x0.tm, .slice ad0 x0.ms.length cap0, .string x0.da] 36)).alloc (.cells #[.int .i64 x1.ix, .int .i64 x1.tm, .slice ad1 x1.ms.length cap1, .string x1.da] 36)) fun e w' => e = .returned (.pointer (some ⟨w.heap.size + 2, 0, none⟩)) ∧ FU w w' (w.heap.size + 2) (.slice ad0 x0.ms.length cap0) (.slice ad1 x1.ms.length cap1) x0 x1 d0 w') := fu_newc w _ _ _ _
  have AW := hid (fun W => awake7 W)
  have hy := hc
  have S0 : Hid (∀ w1 W, FU w w1 (w.heap.size + 2) (.slice ad0 x0.ms.length cap0) (.slice ad1 x1.ms.length cap1) x0 x1 d0 W → Calls Try.prog 9 #[.pointer (some ⟨w.heap.size + 2, 0, none⟩), .agg #[.int .i64 x0.ix, .int .i64 x0.tm, .slice ad0 x0.ms.length cap0, .string x0.da]] W fun e w' => e = .returned (.int .i64 0) ∧ FU w w1 (w.heap.size + 2) (.slice ad0 x0.ms.length cap0) (.slice ad1 x1.ms.length cap1) x0 x1 (dF (frm (encB x0)) 2 false 0) w') := fun w1 W h => fu_save0 h h0 (by omega) hc
  have US : Hid (∀ w1 W, FU w w1 (w.heap.size + 2) (.slice ad0 x0.ms.length cap0) (.slice ad1 x1.ms.length cap1) x0 x1 (dF (frm (encB x0)) 2 false 0) W → Calls Try.prog 19 #[.pointer (some ⟨w.heap.size + 2, 0, none⟩)] W fun e w' => e = .returned (.int .i64 ((frm (encB x0)).length : Int)) ∧ FU w w1 (w.heap.size + 2) (.slice ad0 x0.ms.length cap0) (.slice ad1 x1.ms.length cap1) x0 x1 (dF (frm (encB x0)) 2 false 0) w') := fun w1 W h => fu_used h
  have RM : Hid (∀ w1 W, FU w w1 (w.heap.size + 2) (.slice ad0 x0.ms.length cap0) (.slice ad1 x1.ms.length cap1) x0 x1 (dF (frm (encB x0)) 2 false 0) W → Calls Try.prog 18 #[.pointer (some ⟨w.heap.size + 2, 0, none⟩), .int .i64 t] W fun e w' => e = .returned (.tuple #[]) ∧ FU w w1 (w.heap.size + 2) (.slice ad0 x0.ms.length cap0) (.slice ad1 x1.ms.length cap1) x0 x1 (dF (frm (encB x0)) 2 true t) w') := fun w1 W h => fu_room h t ht
  have S1 : Hid (∀ w1 W, FU w w1 (w.heap.size + 2) (.slice ad0 x0.ms.length cap0) (.slice ad1 x1.ms.length cap1) x0 x1 (dF (frm (encB x0)) 2 true t) W → Calls Try.prog 9 #[.pointer (some ⟨w.heap.size + 2, 0, none⟩), .agg #[.int .i64 x1.ix, .int .i64 x1.tm, .slice ad1 x1.ms.length cap1, .string x1.da]] W fun e w' => e = .returned (.int .i64 22) ∧ FU w w1 (w.heap.size + 2) (.slice ad0 x0.ms.length cap0) (.slice ad1 x1.ms.length cap1) x0 x1 (dF (frm (encB x0)) 2 true t) w') := fun w1 W h => by
    have := fu_save1 h h1 (by omega) hc
    rw [hE, hD] at this
    exact this
  have LD : Hid (∀ w1 W, FU w w1 (w.heap.size + 2) (.slice ad0 x0.ms.length cap0) (.slice ad1 x1.ms.length cap1) x0 x1 (dF (frm (encB x0)) 2 true t) W → Calls Try.prog 15 #[.pointer (some ⟨w.heap.size + 2, 0, none⟩)] W fun e w' => ∃ ad cap, e = .returned (.tuple #[.agg #[.int .i64 x0.ix, .int .i64 x0.tm, .slice ad x0.ms.length cap, .string x0.da], .bool true, .int .i64 0]) ∧ IntsI w' (.slice ad x0.ms.length cap) x0.ms ∧ FU w w1 (w.heap.size + 2) (.slice ad0 x0.ms.length cap0) (.slice ad1 x1.ms.length cap1) x0 x1 (dF (frm (encB x0)) 2 true t) w') := fun w1 W h => fu_load x0 h hy (by omega)
  have RF : Hid (∀ (ad : Option Addr) (m cap : Nat) (i j : Int) (d : ByteArray) W, Calls Try.prog 10 #[.agg #[.int .i64 i, .int .i64 j, .slice ad m cap, .string d]] W fun e w' => e = .returned (.agg #[.int .i64 i, .int .i64 j, .slice ad m cap, .string d]) ∧ Below W.heap.size W w') := fun ad m cap i j d W => refOf_any ad m cap ⟨i, j, [], d⟩ W
  have SM : Hid (∀ (u z : Value) W, IntsI W u x0.ms → IntsI W z x0.ms → Calls Try.prog 16 #[.agg #[.int .i64 x0.ix, .int .i64 x0.tm, u, .string x0.da], .agg #[.int .i64 x0.ix, .int .i64 x0.tm, z, .string x0.da]] W fun e w' => e = .returned (.bool true) ∧ Below W.heap.size W w') := fun u z W hu hz => by
    have := rsame_any u z x0 x0 W hu hz (by omega)
    rw [show smS x0 x0 = true from by simp [smS]] at this
    exact this
  have HAT := hid hat
  have HV0 := hid h0
  have HV1 := hid h1
  unfold shV
  clear h0 h1 l0 l1 hc hat ht hE hD hy
  generalize (dF (frm (encB x0)) 2 false 0) = D1 at *
  generalize (dF (frm (encB x0)) 2 true t) = D2 at *
  generalize (frm (encB x0)).length = n0 at *
  go_enter Try.func4, Try.ntmps4
  go_wp2_with fail
  refine NW.out.mono ?_
  rintro e w1 ⟨rfl, hF⟩
  have F1 := hid hF
  clear NW hF
  have p0 := F1.out.a0.cellAt (o := 0) rfl
  have p1 := F1.out.a0.cellAt (o := 1) rfl
  have p2 := F1.out.a0.cellAt (o := 2) rfl
  have p3 := F1.out.a0.cellAt (o := 3) rfl
  go_wp2_with fail
  refine (S0.out _ _ F1.out).mono ?_
  rintro e w2 ⟨rfl, hF⟩
  have F2 := hid hF
  clear hF S0 F1 p0 p1 p2 p3
  go_wp2_with fail
  refine (US.out _ _ F2.out).mono ?_
  rintro e w3 ⟨rfl, hF⟩
  have F3 := hid hF
  clear hF US F2
  have hat := HAT.out
  go_wp2_with fail
  refine (RM.out _ _ F3.out).mono ?_
  rintro e w4 ⟨rfl, hF⟩
  have F4 := hid hF
  clear hF RM F3 hat HAT
  have p0 := F4.out.a1.cellAt (o := 0) rfl
  have p1 := F4.out.a1.cellAt (o := 1) rfl
  have p2 := F4.out.a1.cellAt (o := 2) rfl
  have p3 := F4.out.a1.cellAt (o := 3) rfl
  go_wp2_with fail
  refine (S1.out _ _ F4.out).mono ?_
  rintro e w5 ⟨rfl, hF⟩
  have F5 := hid hF
  clear hF S1 F4 p0 p1 p2 p3
  go_wp2_with fail
  refine (LD.out _ _ F5.out).mono ?_
  rintro e w6 ⟨ad, cap, rfl, hI, hF⟩
  have F6 := hid hF
  have I6 := hid hI
  clear hF hI LD F5
  have K6 := below_al (Below.refl w6.heap.size w6) (.cells #[.int .i64 x0.ix, .int .i64 x0.tm, .slice ad x0.ms.length cap, .string x0.da] 36)
  have G6 : Hid (RowIs (w6.alloc (.cells #[.int .i64 x0.ix, .int .i64 x0.tm, .slice ad x0.ms.length cap, .string x0.da] 36)) w6.heap.size [.int .i64 x0.ix, .int .i64 x0.tm, .slice ad x0.ms.length cap, .string x0.da] 36) := srow w6 _ _
  have H6 := hid (F6.out.on K6)
  have B6 := hid K6
  clear K6
  have p0 := H6.out.a0.cellAt (o := 0) rfl
  have p1 := H6.out.a0.cellAt (o := 1) rfl
  have p2 := H6.out.a0.cellAt (o := 2) rfl
  have p3 := H6.out.a0.cellAt (o := 3) rfl
  go_wp2_with fail
  refine (RF.out _ _ _ _ _ _ _).mono ?_
  rintro e w7 ⟨rfl, hb⟩
  have B7 := hid (below_on B6.out hb)
  have G7 := hid (fu_next G6.out hb)
  have F7 := hid (H6.out.on hb)
  have FW := hid F6.out
  clear hb B6 G6 H6 F6 p0 p1 p2 p3
  have K7 := below_al (Below.refl w7.heap.size w7) (.cells #[.int .i64 x0.ix, .int .i64 x0.tm, .slice ad0 x0.ms.length cap0, .string x0.da] 33)
  have M7 : Hid (RowIs (w7.alloc (.cells #[.int .i64 x0.ix, .int .i64 x0.tm, .slice ad0 x0.ms.length cap0, .string x0.da] 33)) w7.heap.size [.int .i64 x0.ix, .int .i64 x0.tm, .slice ad0 x0.ms.length cap0, .string x0.da] 33) := srow w7 _ _
  have F8 := hid (F7.out.on K7)
  have G8 := hid (fu_next G7.out K7)
  have B8 := hid (below_on B7.out K7)
  have hq : Hid (w6.heap.size ≤ w7.heap.size) := B7.out.size
  have hq2 : Hid (w6.heap.size < w7.heap.size) := G7.out.lt
  clear K7 F7 G7 B7
  have M1 := hid G8.out
  have M2 := hid M7.out
  have BX := hid B8.out
  clear F8 G8 M7 B8 hq hq2
  go_upto_region 10 with fail
  generalize (w7.alloc (.cells #[.int .i64 x0.ix, .int .i64 x0.tm, .slice ad0 x0.ms.length cap0, .string x0.da] 33)) = X at *
  have FX := hid (FW.out.on BX.out)
  have BW := hid FX.out.below
  have I1 := hid (I6.out.next BX.out)
  have I2 := hid (HV0.out.next BW.out)
  have M3 := hid FX.out.a1
  clear FX FW BX I6
  generalize w6.heap.size = q at *
  generalize w7.heap.size = q2 at *
  generalize w.heap.size + 1 = b1 at *
  have ZC : Hid (∀ W, Below X.heap.size X W → (fun w' => w'.cell? ⟨q, 0, none⟩ = some (.int .i64 x0.ix) ∧ w'.cell? ⟨q, 1, none⟩ = some (.int .i64 x0.tm) ∧ w'.cell? ⟨q, 2, none⟩ = some (.slice ad x0.ms.length cap) ∧ w'.cell? ⟨q, 3, none⟩ = some (.string x0.da) ∧ w'.cell? ⟨q2, 0, none⟩ = some (.int .i64 x0.ix) ∧ w'.cell? ⟨q2, 1, none⟩ = some (.int .i64 x0.tm) ∧ w'.cell? ⟨q2, 2, none⟩ = some (.slice ad0 x0.ms.length cap0) ∧ w'.cell? ⟨q2, 3, none⟩ = some (.string x0.da) ∧ w'.cell? ⟨b1, 0, none⟩ = some (.int .i64 x1.ix) ∧ w'.cell? ⟨b1, 1, none⟩ = some (.int .i64 x1.tm) ∧ w'.cell? ⟨b1, 2, none⟩ = some (.slice ad1 x1.ms.length cap1) ∧ w'.cell? ⟨b1, 3, none⟩ = some (.string x1.da)) W) := fun W hW => by
    have m1 := fu_next M1.out hW
    have m2 := fu_next M2.out hW
    have m3 := fu_next M3.out hW
    exact ⟨m1.cellAt rfl, m1.cellAt rfl, m1.cellAt rfl, m1.cellAt rfl, m2.cellAt rfl, m2.cellAt rfl, m2.cellAt rfl, m2.cellAt rfl, m3.cellAt rfl, m3.cellAt rfl, m3.cellAt rfl, m3.cellAt rfl⟩
  have AWX : Hid (∀ W, Below X.heap.size X W → Calls Try.prog 6 #[] W fun e w' => e = .returned (.bool true) ∧ Below W.heap.size W w') := fun W _ => AW.out W
  have RFX : Hid (∀ W, Below X.heap.size X W → Calls Try.prog 10 #[.agg #[.int .i64 x0.ix, .int .i64 x0.tm, .slice ad x0.ms.length cap, .string x0.da]] W fun e w' => e = .returned (.agg #[.int .i64 x0.ix, .int .i64 x0.tm, .slice ad x0.ms.length cap, .string x0.da]) ∧ Below W.heap.size W w') := fun W _ => RF.out _ _ _ _ _ _ W
  have SMX : Hid (∀ W, Below X.heap.size X W → Calls Try.prog 16 #[.agg #[.int .i64 x0.ix, .int .i64 x0.tm, .slice ad x0.ms.length cap, .string x0.da], .agg #[.int .i64 x0.ix, .int .i64 x0.tm, .slice ad0 x0.ms.length cap0, .string x0.da]] W fun e w' => e = .returned (.bool true) ∧ Below W.heap.size W w') := fun W hW => SM.out _ _ W (I1.out.next hW) (I2.out.next hW)
  have D0 := hid (Below.refl X.heap.size X).drew
  clear AW RF SM I1 I2 M1 M2 M3 HV0 HV1
  refine wp_region_held_drew (S := (fun w' => w'.cell? ⟨q, 0, none⟩ = some (.int .i64 x0.ix) ∧ w'.cell? ⟨q, 1, none⟩ = some (.int .i64 x0.tm) ∧ w'.cell? ⟨q, 2, none⟩ = some (.slice ad x0.ms.length cap) ∧ w'.cell? ⟨q, 3, none⟩ = some (.string x0.da) ∧ w'.cell? ⟨q2, 0, none⟩ = some (.int .i64 x0.ix) ∧ w'.cell? ⟨q2, 1, none⟩ = some (.int .i64 x0.tm) ∧ w'.cell? ⟨q2, 2, none⟩ = some (.slice ad0 x0.ms.length cap0) ∧ w'.cell? ⟨q2, 3, none⟩ = some (.string x0.da) ∧ w'.cell? ⟨b1, 0, none⟩ = some (.int .i64 x1.ix) ∧ w'.cell? ⟨b1, 1, none⟩ = some (.int .i64 x1.tm) ∧ w'.cell? ⟨b1, 2, none⟩ = some (.slice ad1 x1.ms.length cap1) ∧ w'.cell? ⟨b1, 3, none⟩ = some (.string x1.da))) (by kernel_rfl) (ZC.out _ D0.out) (fun hHeld => ?_)
  refine wpAnyH_ready (rs := [0]) (by kernel_rfl) (by simp) ?_
  refine AllReadyH.cons rfl (fun K hK => ?_) AllReadyH.nil
  go_simp
  refine (AWX.out _ D0.out).mono ?_
  rintro e wq4 ⟨rfl, bq⟩
  have BQ4 := hid (below_on D0.out bq)
  clear bq hHeld
  go_wp2_with fail
  refine hK.out _ _ (ZC.out _ BQ4.out) (fun hHeld => ?_)
  clear hK K
  try simp only [Act.put, List.getElem_toArray, List.getElem_cons_succ, List.getElem_cons_zero, List.setIfInBounds_toArray, List.set_cons_zero, List.set_cons_succ]
  refine wpAnyH_take (i := 1) (v := ?vv21) rfl (by kernel_rfl) (by kernel_rfl) (by kernel_rfl) (fun _ _ _ h => h) (Or.inl ⟨by rfl, ?hy21⟩) (by assumption) ?rest21
  case hy21 => (intro w hSw; (try dsimp only at hSw); go_simp; first | done | with_reducible rfl)
  try simp only [Act.put, List.getElem_toArray, List.getElem_cons_succ, List.getElem_cons_zero, List.setIfInBounds_toArray, List.set_cons_zero, List.set_cons_succ]
  refine wpAnyH_take (i := 2) (v := ?vv22) rfl (by kernel_rfl) (by kernel_rfl) (by kernel_rfl) (fun _ _ _ h => h) (Or.inl ⟨by rfl, ?hy22⟩) (by assumption) ?rest22
  case hy22 => (intro w hSw; (try dsimp only at hSw); go_simp; first | done | with_reducible rfl)
  try simp only [Act.put, List.getElem_toArray, List.getElem_cons_succ, List.getElem_cons_zero, List.setIfInBounds_toArray, List.set_cons_zero, List.set_cons_succ]
  refine wpAnyH_take (i := 3) (v := ?vv23) rfl (by kernel_rfl) (by kernel_rfl) (by kernel_rfl) (fun _ _ _ h => h) (Or.inl ⟨by rfl, ?hy23⟩) (by assumption) ?rest23
  case hy23 => (intro w hSw; (try dsimp only at hSw); go_simp; first | done | with_reducible rfl)
  try simp only [Act.put, List.getElem_toArray, List.getElem_cons_succ, List.getElem_cons_zero, List.setIfInBounds_toArray, List.set_cons_zero, List.set_cons_succ]
  refine wpAnyH_take (i := 4) (v := ?vv24) rfl (by kernel_rfl) (by kernel_rfl) (by kernel_rfl) (fun _ _ _ h => h) (Or.inl ⟨by rfl, ?hy24⟩) (by assumption) ?rest24
  case hy24 => (intro w hSw; (try dsimp only at hSw); go_simp; first | done | with_reducible rfl)
  try simp only [Act.put, List.getElem_toArray, List.getElem_cons_succ, List.getElem_cons_zero, List.setIfInBounds_toArray, List.set_cons_zero, List.set_cons_succ]
  refine wpAnyH_take (i := 5) (v := ?vv25) rfl (by kernel_rfl) (by kernel_rfl) (by kernel_rfl) (fun _ _ _ h => h) (Or.inl ⟨by rfl, ?hy25⟩) (by assumption) ?rest25
  case hy25 => (intro w hSw; (try dsimp only at hSw); go_simp; first | done | with_reducible rfl)
  try simp only [Act.put, List.getElem_toArray, List.getElem_cons_succ, List.getElem_cons_zero, List.setIfInBounds_toArray, List.set_cons_zero, List.set_cons_succ]
  refine wpAnyH_take (i := 6) (v := ?vv26) rfl (by kernel_rfl) (by kernel_rfl) (by kernel_rfl) (fun _ _ _ h => h) (Or.inl ⟨by rfl, ?hy26⟩) (by assumption) ?rest26
  case hy26 => (intro w hSw; (try dsimp only at hSw); go_simp; first | done | with_reducible rfl)
  try simp only [Act.put, List.getElem_toArray, List.getElem_cons_succ, List.getElem_cons_zero, List.setIfInBounds_toArray, List.set_cons_zero, List.set_cons_succ]
  refine wpAnyH_take (i := 7) (v := ?vv27) rfl (by kernel_rfl) (by kernel_rfl) (by kernel_rfl) (fun _ _ _ h => h) (Or.inl ⟨by rfl, ?hy27⟩) (by assumption) ?rest27
  case hy27 => (intro w hSw; (try dsimp only at hSw); go_simp; first | done | with_reducible rfl)
  try simp only [Act.put, List.getElem_toArray, List.getElem_cons_succ, List.getElem_cons_zero, List.setIfInBounds_toArray, List.set_cons_zero, List.set_cons_succ]
  refine wpAnyH_take (i := 8) (v := ?vv28) rfl (by kernel_rfl) (by kernel_rfl) (by kernel_rfl) (fun _ _ _ h => h) (Or.inl ⟨by rfl, ?hy28⟩) (by assumption) ?rest28
  case hy28 => (intro w hSw; (try dsimp only at hSw); go_simp; first | done | with_reducible rfl)
  try simp only [Act.put, List.getElem_toArray, List.getElem_cons_succ, List.getElem_cons_zero, List.setIfInBounds_toArray, List.set_cons_zero, List.set_cons_succ]
  refine wpAnyH_take (i := 9) (v := ?vv29) rfl (by kernel_rfl) (by kernel_rfl) (by kernel_rfl) (fun _ _ _ h => h) (Or.inl ⟨by rfl, ?hy29⟩) (by assumption) ?rest29
  case hy29 => (intro w hSw; (try dsimp only at hSw); go_simp; first | done | with_reducible rfl)
  try simp only [Act.put, List.getElem_toArray, List.getElem_cons_succ, List.getElem_cons_zero, List.setIfInBounds_toArray, List.set_cons_zero, List.set_cons_succ]
  refine wpAnyH_take (i := 11) (v := ?vv30) rfl (by kernel_rfl) (by kernel_rfl) (by kernel_rfl) (fun _ _ _ h => h) (Or.inl ⟨by rfl, ?hy30⟩) (by assumption) ?rest30
  case hy30 => (intro w hSw; (try dsimp only at hSw); go_simp; first | done | with_reducible rfl)
  try simp only [Act.put, List.getElem_toArray, List.getElem_cons_succ, List.getElem_cons_zero, List.setIfInBounds_toArray, List.set_cons_zero, List.set_cons_succ]
  refine wpAnyH_ready (rs := [10]) (by kernel_rfl) (by simp) ?_
  refine AllReadyH.cons rfl (fun K hK => ?_) AllReadyH.nil
  go_simp
  refine (RFX.out _ BQ4.out).mono ?_
  rintro e wq5 ⟨rfl, bq⟩
  have BQ5 := hid (below_on BQ4.out bq)
  clear bq hHeld
  go_wp2_with fail
  refine hK.out _ _ (ZC.out _ BQ5.out) (fun hHeld => ?_)
  clear hK K
  try simp only [Act.put, List.getElem_toArray, List.getElem_cons_succ, List.getElem_cons_zero, List.setIfInBounds_toArray, List.set_cons_zero, List.set_cons_succ]
  refine wpAnyH_ready (rs := [12]) (by kernel_rfl) (by simp) ?_
  refine AllReadyH.cons rfl (fun K hK => ?_) AllReadyH.nil
  go_simp
  refine (SMX.out _ BQ5.out).mono ?_
  rintro e wq6 ⟨rfl, bq⟩
  have BQ6 := hid (below_on BQ5.out bq)
  clear bq hHeld
  go_wp2_with fail
  refine hK.out _ _ (ZC.out _ BQ6.out) (fun hHeld => ?_)
  clear hK K
  try simp only [Act.put, List.getElem_toArray, List.getElem_cons_succ, List.getElem_cons_zero, List.setIfInBounds_toArray, List.set_cons_zero, List.set_cons_succ]
  refine wpAnyH_take (i := 13) (v := ?vv31) rfl (by kernel_rfl) (by kernel_rfl) (by kernel_rfl) (fun _ _ _ h => h) (Or.inl ⟨by rfl, ?hy31⟩) (by assumption) ?rest31
  case hy31 => (intro w hSw; (try dsimp only at hSw); go_simp; first | done | with_reducible rfl)
  try simp only [Act.put, List.getElem_toArray, List.getElem_cons_succ, List.getElem_cons_zero, List.setIfInBounds_toArray, List.set_cons_zero, List.set_cons_succ]
  refine wpAnyH_take (i := 14) (v := ?vv32) rfl (by kernel_rfl) (by kernel_rfl) (by kernel_rfl) (fun _ _ _ h => h) (Or.inl ⟨by rfl, ?hy32⟩) (by assumption) ?rest32
  case hy32 => (intro w hSw; (try dsimp only at hSw); go_simp; first | done | with_reducible rfl)
  try simp only [Act.put, List.getElem_toArray, List.getElem_cons_succ, List.getElem_cons_zero, List.setIfInBounds_toArray, List.set_cons_zero, List.set_cons_succ]
  refine wpAnyH_take (i := 15) (v := ?vv33) rfl (by kernel_rfl) (by kernel_rfl) (by kernel_rfl) (fun _ _ _ h => h) (Or.inl ⟨by rfl, ?hy33⟩) (by assumption) ?rest33
  case hy33 => (intro w hSw; (try dsimp only at hSw); go_simp; first | done | with_reducible rfl)
  try simp only [Act.put, List.getElem_toArray, List.getElem_cons_succ, List.getElem_cons_zero, List.setIfInBounds_toArray, List.set_cons_zero, List.set_cons_succ]
  refine wpAnyH_take (i := 16) (v := ?vv34) rfl (by kernel_rfl) (by kernel_rfl) (by kernel_rfl) (fun _ _ _ h => h) (Or.inl ⟨by rfl, ?hy34⟩) (by assumption) ?rest34
  case hy34 => (intro w hSw; (try dsimp only at hSw); go_simp; first | done | with_reducible rfl)
  try simp only [Act.put, List.getElem_toArray, List.getElem_cons_succ, List.getElem_cons_zero, List.setIfInBounds_toArray, List.set_cons_zero, List.set_cons_succ]
  refine wpAnyH_take (i := 17) (v := ?vv35) rfl (by kernel_rfl) (by kernel_rfl) (by kernel_rfl) (fun _ _ _ h => h) (Or.inl ⟨by rfl, ?hy35⟩) (by assumption) ?rest35
  case hy35 => (intro w hSw; (try dsimp only at hSw); go_simp; first | done | with_reducible rfl)
  try simp only [Act.put, List.getElem_toArray, List.getElem_cons_succ, List.getElem_cons_zero, List.setIfInBounds_toArray, List.set_cons_zero, List.set_cons_succ]
  refine wpAnyH_take (i := 18) (v := ?vv36) rfl (by kernel_rfl) (by kernel_rfl) (by kernel_rfl) (fun _ _ _ h => h) (Or.inl ⟨by rfl, ?hy36⟩) (by assumption) ?rest36
  case hy36 => (intro w hSw; (try dsimp only at hSw); go_simp; first | done | with_reducible rfl)
  try simp only [Act.put, List.getElem_toArray, List.getElem_cons_succ, List.getElem_cons_zero, List.setIfInBounds_toArray, List.set_cons_zero, List.set_cons_succ]
  refine wpAnyH_take (i := 19) (v := ?vv37) rfl (by kernel_rfl) (by kernel_rfl) (by kernel_rfl) (fun _ _ _ h => h) (Or.inl ⟨by rfl, ?hy37⟩) (by assumption) ?rest37
  case hy37 => (intro w hSw; (try dsimp only at hSw); go_simp; first | done | with_reducible rfl)
  try simp only [Act.put, List.getElem_toArray, List.getElem_cons_succ, List.getElem_cons_zero, List.setIfInBounds_toArray, List.set_cons_zero, List.set_cons_succ]
  refine wpAnyH_take (i := 20) (v := ?vv38) rfl (by kernel_rfl) (by kernel_rfl) (by kernel_rfl) (fun _ _ _ h => h) (Or.inl ⟨by rfl, ?hy38⟩) (by assumption) ?rest38
  case hy38 => (intro w hSw; (try dsimp only at hSw); go_simp; first | done | with_reducible rfl)
  try simp only [Act.put, List.getElem_toArray, List.getElem_cons_succ, List.getElem_cons_zero, List.setIfInBounds_toArray, List.set_cons_zero, List.set_cons_succ]
  refine wpAnyH_take (i := 21) (v := ?vv39) rfl (by kernel_rfl) (by kernel_rfl) (by kernel_rfl) (fun _ _ _ h => h) (Or.inl ⟨by rfl, ?hy39⟩) (by assumption) ?rest39
  case hy39 => (intro w hSw; (try dsimp only at hSw); go_simp; first | done | with_reducible rfl)
  try simp only [Act.put, List.getElem_toArray, List.getElem_cons_succ, List.getElem_cons_zero, List.setIfInBounds_toArray, List.set_cons_zero, List.set_cons_succ]
  refine wpAnyH_take (i := 22) (v := undef) rfl (by kernel_rfl) (by kernel_rfl) (by kernel_rfl) (fun _ _ _ h => h) (Or.inr ⟨by rfl, rfl⟩) (by assumption) ?_
  try simp only [Act.put, List.getElem_toArray, List.getElem_cons_succ, List.getElem_cons_zero, List.setIfInBounds_toArray, List.set_cons_zero, List.set_cons_succ]
  refine wpAnyH_take (i := 23) (v := undef) rfl (by kernel_rfl) (by kernel_rfl) (by kernel_rfl) (fun _ _ _ h => h) (Or.inr ⟨by rfl, rfl⟩) (by assumption) ?_
  try simp only [Act.put, List.getElem_toArray, List.getElem_cons_succ, List.getElem_cons_zero, List.setIfInBounds_toArray, List.set_cons_zero, List.set_cons_succ]
  refine wpAnyH_take (i := 24) (v := undef) rfl (by kernel_rfl) (by kernel_rfl) (by kernel_rfl) (fun _ _ _ h => h) (Or.inr ⟨by rfl, rfl⟩) (by assumption) ?_
  try simp only [Act.put, List.getElem_toArray, List.getElem_cons_succ, List.getElem_cons_zero, List.setIfInBounds_toArray, List.set_cons_zero, List.set_cons_succ]
  refine wpAnyH_take (i := 25) (v := undef) rfl (by kernel_rfl) (by kernel_rfl) (by kernel_rfl) (fun _ _ _ h => h) (Or.inr ⟨by rfl, rfl⟩) (by assumption) ?_
  try simp only [Act.put, List.getElem_toArray, List.getElem_cons_succ, List.getElem_cons_zero, List.setIfInBounds_toArray, List.set_cons_zero, List.set_cons_succ]
  refine wpAnyH_take (i := 26) (v := undef) rfl (by kernel_rfl) (by kernel_rfl) (by kernel_rfl) (fun _ _ _ h => h) (Or.inr ⟨by rfl, rfl⟩) (by assumption) ?_
  try simp only [Act.put, List.getElem_toArray, List.getElem_cons_succ, List.getElem_cons_zero, List.setIfInBounds_toArray, List.set_cons_zero, List.set_cons_succ]
  refine wpAnyH_take (i := 27) (v := ?vv40) rfl (by kernel_rfl) (by kernel_rfl) (by kernel_rfl) (fun _ _ _ h => h) (Or.inl ⟨by rfl, ?hy40⟩) (by assumption) ?rest40
  case hy40 => (intro w hSw; (try dsimp only at hSw); go_simp; first | done | with_reducible rfl)
  try simp only [Act.put, List.getElem_toArray, List.getElem_cons_succ, List.getElem_cons_zero, List.setIfInBounds_toArray, List.set_cons_zero, List.set_cons_succ]
  refine wpAnyH_take (i := 28) (v := ?vv41) rfl (by kernel_rfl) (by kernel_rfl) (by kernel_rfl) (fun _ _ _ h => h) (Or.inl ⟨by rfl, ?hy41⟩) (by assumption) ?rest41
  case hy41 => (intro w hSw; (try dsimp only at hSw); go_simp; first | done | with_reducible rfl)
  try simp only [Act.put, List.getElem_toArray, List.getElem_cons_succ, List.getElem_cons_zero, List.setIfInBounds_toArray, List.set_cons_zero, List.set_cons_succ]
  refine wpAnyH_take (i := 29) (v := ?vv42) rfl (by kernel_rfl) (by kernel_rfl) (by kernel_rfl) (fun _ _ _ h => h) (Or.inl ⟨by rfl, ?hy42⟩) (by assumption) ?rest42
  case hy42 => (intro w hSw; (try dsimp only at hSw); go_simp; first | done | with_reducible rfl)
  try simp only [Act.put, List.getElem_toArray, List.getElem_cons_succ, List.getElem_cons_zero, List.setIfInBounds_toArray, List.set_cons_zero, List.set_cons_succ]
  refine wpAnyH_done (by kernel_rfl) ?_ _
  clear hHeld ZC
  go_wp2
  go_ret
  exact ⟨rfl, below_on BW.out BQ6.out⟩
set_option maxRecDepth 100000 in
set_option maxHeartbeats 4000000 in
theorem full_C (v0 v1 : Value) (x0 x1 : Sh) (a : Int) (w : World) (h0 : IntsI w v0 x0.ms) (l0 : x0.ms.length ≤ 17592186044416) (h1 : IntsI w v1 x1.ms) (l1 : x1.ms.length ≤ 17592186044416) (hc : chkS x0 = 0) (t : Int) (hat : wrap64 (((frm (encB x0)).length : Int) + (wrap64 (a.tmod 200 + 200)).tmod 200) = t) (ht : 0 ≤ t) (hE : fuE x0 x1 t = chkS x1) (hD : fuD x0 x1 t = dF (frm (encB x0)) 2 true t) (k0 : chkS x1 ≠ 0) (k22 : chkS x1 ≠ 22) : Calls Try.prog 4 #[shV v0 x0, shV v1 x1, .int .i64 a] w fun e w' => e = .returned (.bool true) ∧ Below w.heap.size w w' := by
  obtain ⟨ad0, cap0, rfl, -⟩ := h0.form
  obtain ⟨ad1, cap1, rfl, -⟩ := h1.form
  have NW : Hid (Calls Try.prog 5 #[] ((w.alloc (.cells #[.int .i64 x0.ix, .int .i64 x0.tm, .slice ad0 x0.ms.length cap0, .string x0.da] 36)).alloc (.cells #[.int .i64 x1.ix, .int .i64 x1.tm, .slice ad1 x1.ms.length cap1, .string x1.da] 36)) fun e w' => e = .returned (.pointer (some ⟨w.heap.size + 2, 0, none⟩)) ∧ FU w w' (w.heap.size + 2) (.slice ad0 x0.ms.length cap0) (.slice ad1 x1.ms.length cap1) x0 x1 d0 w') := fu_newc w _ _ _ _
  have AW := hid (fun W => awake7 W)
  have hy := hc
  have S0 : Hid (∀ w1 W, FU w w1 (w.heap.size + 2) (.slice ad0 x0.ms.length cap0) (.slice ad1 x1.ms.length cap1) x0 x1 d0 W → Calls Try.prog 9 #[.pointer (some ⟨w.heap.size + 2, 0, none⟩), .agg #[.int .i64 x0.ix, .int .i64 x0.tm, .slice ad0 x0.ms.length cap0, .string x0.da]] W fun e w' => e = .returned (.int .i64 0) ∧ FU w w1 (w.heap.size + 2) (.slice ad0 x0.ms.length cap0) (.slice ad1 x1.ms.length cap1) x0 x1 (dF (frm (encB x0)) 2 false 0) w') := fun w1 W h => fu_save0 h h0 (by omega) hc
  have US : Hid (∀ w1 W, FU w w1 (w.heap.size + 2) (.slice ad0 x0.ms.length cap0) (.slice ad1 x1.ms.length cap1) x0 x1 (dF (frm (encB x0)) 2 false 0) W → Calls Try.prog 19 #[.pointer (some ⟨w.heap.size + 2, 0, none⟩)] W fun e w' => e = .returned (.int .i64 ((frm (encB x0)).length : Int)) ∧ FU w w1 (w.heap.size + 2) (.slice ad0 x0.ms.length cap0) (.slice ad1 x1.ms.length cap1) x0 x1 (dF (frm (encB x0)) 2 false 0) w') := fun w1 W h => fu_used h
  have RM : Hid (∀ w1 W, FU w w1 (w.heap.size + 2) (.slice ad0 x0.ms.length cap0) (.slice ad1 x1.ms.length cap1) x0 x1 (dF (frm (encB x0)) 2 false 0) W → Calls Try.prog 18 #[.pointer (some ⟨w.heap.size + 2, 0, none⟩), .int .i64 t] W fun e w' => e = .returned (.tuple #[]) ∧ FU w w1 (w.heap.size + 2) (.slice ad0 x0.ms.length cap0) (.slice ad1 x1.ms.length cap1) x0 x1 (dF (frm (encB x0)) 2 true t) w') := fun w1 W h => fu_room h t ht
  have S1 : Hid (∀ w1 W, FU w w1 (w.heap.size + 2) (.slice ad0 x0.ms.length cap0) (.slice ad1 x1.ms.length cap1) x0 x1 (dF (frm (encB x0)) 2 true t) W → Calls Try.prog 9 #[.pointer (some ⟨w.heap.size + 2, 0, none⟩), .agg #[.int .i64 x1.ix, .int .i64 x1.tm, .slice ad1 x1.ms.length cap1, .string x1.da]] W fun e w' => e = .returned (.int .i64 (chkS x1)) ∧ FU w w1 (w.heap.size + 2) (.slice ad0 x0.ms.length cap0) (.slice ad1 x1.ms.length cap1) x0 x1 (dF (frm (encB x0)) 2 true t) w') := fun w1 W h => by
    have := fu_save1 h h1 (by omega) hc
    rw [hE, hD] at this
    exact this
  have LD : Hid (∀ w1 W, FU w w1 (w.heap.size + 2) (.slice ad0 x0.ms.length cap0) (.slice ad1 x1.ms.length cap1) x0 x1 (dF (frm (encB x0)) 2 true t) W → Calls Try.prog 15 #[.pointer (some ⟨w.heap.size + 2, 0, none⟩)] W fun e w' => ∃ ad cap, e = .returned (.tuple #[.agg #[.int .i64 x0.ix, .int .i64 x0.tm, .slice ad x0.ms.length cap, .string x0.da], .bool true, .int .i64 0]) ∧ IntsI w' (.slice ad x0.ms.length cap) x0.ms ∧ FU w w1 (w.heap.size + 2) (.slice ad0 x0.ms.length cap0) (.slice ad1 x1.ms.length cap1) x0 x1 (dF (frm (encB x0)) 2 true t) w') := fun w1 W h => fu_load x0 h hy (by omega)
  have RF : Hid (∀ (ad : Option Addr) (m cap : Nat) (i j : Int) (d : ByteArray) W, Calls Try.prog 10 #[.agg #[.int .i64 i, .int .i64 j, .slice ad m cap, .string d]] W fun e w' => e = .returned (.agg #[.int .i64 i, .int .i64 j, .slice ad m cap, .string d]) ∧ Below W.heap.size W w') := fun ad m cap i j d W => refOf_any ad m cap ⟨i, j, [], d⟩ W
  have SM : Hid (∀ (u z : Value) W, IntsI W u x0.ms → IntsI W z x0.ms → Calls Try.prog 16 #[.agg #[.int .i64 x0.ix, .int .i64 x0.tm, u, .string x0.da], .agg #[.int .i64 x0.ix, .int .i64 x0.tm, z, .string x0.da]] W fun e w' => e = .returned (.bool true) ∧ Below W.heap.size W w') := fun u z W hu hz => by
    have := rsame_any u z x0 x0 W hu hz (by omega)
    rw [show smS x0 x0 = true from by simp [smS]] at this
    exact this
  have CK : Hid (∀ W, Below w.heap.size w W → Calls Try.prog 11 #[.agg #[.int .i64 x1.ix, .int .i64 x1.tm, .slice ad1 x1.ms.length cap1, .string x1.da]] W fun e w' => e = .returned (.int .i64 (chkS x1)) ∧ Below W.heap.size W w') := fun W hW => rcheck_any _ x1 W (h1.next hW) (by omega)
  have b0 : (chkS x1 == 0) = false := beq_eq_false_iff_ne.2 k0
  have b22 : (chkS x1 == 22) = false := beq_eq_false_iff_ne.2 k22
  have bK : (chkS x1 == chkS x1) = true := beq_self_eq_true _
  generalize chkS x1 = K at *
  have HAT := hid hat
  have HV0 := hid h0
  have HV1 := hid h1
  unfold shV
  clear h0 h1 l0 l1 hc hat ht hE hD hy k0 k22
  generalize (dF (frm (encB x0)) 2 false 0) = D1 at *
  generalize (dF (frm (encB x0)) 2 true t) = D2 at *
  generalize (frm (encB x0)).length = n0 at *
  go_enter Try.func4, Try.ntmps4
  go_wp2_with fail
  refine NW.out.mono ?_
  rintro e w1 ⟨rfl, hF⟩
  have F1 := hid hF
  clear NW hF
  have p0 := F1.out.a0.cellAt (o := 0) rfl
  have p1 := F1.out.a0.cellAt (o := 1) rfl
  have p2 := F1.out.a0.cellAt (o := 2) rfl
  have p3 := F1.out.a0.cellAt (o := 3) rfl
  go_wp2_with fail
  refine (S0.out _ _ F1.out).mono ?_
  rintro e w2 ⟨rfl, hF⟩
  have F2 := hid hF
  clear hF S0 F1 p0 p1 p2 p3
  go_wp2_with fail
  refine (US.out _ _ F2.out).mono ?_
  rintro e w3 ⟨rfl, hF⟩
  have F3 := hid hF
  clear hF US F2
  have hat := HAT.out
  go_wp2_with fail
  refine (RM.out _ _ F3.out).mono ?_
  rintro e w4 ⟨rfl, hF⟩
  have F4 := hid hF
  clear hF RM F3 hat HAT
  have p0 := F4.out.a1.cellAt (o := 0) rfl
  have p1 := F4.out.a1.cellAt (o := 1) rfl
  have p2 := F4.out.a1.cellAt (o := 2) rfl
  have p3 := F4.out.a1.cellAt (o := 3) rfl
  go_wp2_with fail
  refine (S1.out _ _ F4.out).mono ?_
  rintro e w5 ⟨rfl, hF⟩
  have F5 := hid hF
  clear hF S1 F4 p0 p1 p2 p3
  go_wp2_with fail
  refine (LD.out _ _ F5.out).mono ?_
  rintro e w6 ⟨ad, cap, rfl, hI, hF⟩
  have F6 := hid hF
  have I6 := hid hI
  clear hF hI LD F5
  have K6 := below_al (Below.refl w6.heap.size w6) (.cells #[.int .i64 x0.ix, .int .i64 x0.tm, .slice ad x0.ms.length cap, .string x0.da] 36)
  have G6 : Hid (RowIs (w6.alloc (.cells #[.int .i64 x0.ix, .int .i64 x0.tm, .slice ad x0.ms.length cap, .string x0.da] 36)) w6.heap.size [.int .i64 x0.ix, .int .i64 x0.tm, .slice ad x0.ms.length cap, .string x0.da] 36) := srow w6 _ _
  have H6 := hid (F6.out.on K6)
  have B6 := hid K6
  clear K6
  have p0 := H6.out.a0.cellAt (o := 0) rfl
  have p1 := H6.out.a0.cellAt (o := 1) rfl
  have p2 := H6.out.a0.cellAt (o := 2) rfl
  have p3 := H6.out.a0.cellAt (o := 3) rfl
  go_wp2_with fail
  refine (RF.out _ _ _ _ _ _ _).mono ?_
  rintro e w7 ⟨rfl, hb⟩
  have B7 := hid (below_on B6.out hb)
  have G7 := hid (fu_next G6.out hb)
  have F7 := hid (H6.out.on hb)
  have FW := hid F6.out
  clear hb B6 G6 H6 F6 p0 p1 p2 p3
  have K7 := below_al (Below.refl w7.heap.size w7) (.cells #[.int .i64 x0.ix, .int .i64 x0.tm, .slice ad0 x0.ms.length cap0, .string x0.da] 33)
  have M7 : Hid (RowIs (w7.alloc (.cells #[.int .i64 x0.ix, .int .i64 x0.tm, .slice ad0 x0.ms.length cap0, .string x0.da] 33)) w7.heap.size [.int .i64 x0.ix, .int .i64 x0.tm, .slice ad0 x0.ms.length cap0, .string x0.da] 33) := srow w7 _ _
  have F8 := hid (F7.out.on K7)
  have G8 := hid (fu_next G7.out K7)
  have B8 := hid (below_on B7.out K7)
  have hq : Hid (w6.heap.size ≤ w7.heap.size) := B7.out.size
  have hq2 : Hid (w6.heap.size < w7.heap.size) := G7.out.lt
  clear K7 F7 G7 B7
  have M1 := hid G8.out
  have M2 := hid M7.out
  have BX := hid B8.out
  clear F8 G8 M7 B8 hq hq2
  go_upto_region 10 with fail
  generalize (w7.alloc (.cells #[.int .i64 x0.ix, .int .i64 x0.tm, .slice ad0 x0.ms.length cap0, .string x0.da] 33)) = X at *
  have FX := hid (FW.out.on BX.out)
  have BW := hid FX.out.below
  have I1 := hid (I6.out.next BX.out)
  have I2 := hid (HV0.out.next BW.out)
  have M3 := hid FX.out.a1
  clear FX FW BX I6
  generalize w6.heap.size = q at *
  generalize w7.heap.size = q2 at *
  generalize w.heap.size + 1 = b1 at *
  have ZC : Hid (∀ W, Below X.heap.size X W → (fun w' => w'.cell? ⟨q, 0, none⟩ = some (.int .i64 x0.ix) ∧ w'.cell? ⟨q, 1, none⟩ = some (.int .i64 x0.tm) ∧ w'.cell? ⟨q, 2, none⟩ = some (.slice ad x0.ms.length cap) ∧ w'.cell? ⟨q, 3, none⟩ = some (.string x0.da) ∧ w'.cell? ⟨q2, 0, none⟩ = some (.int .i64 x0.ix) ∧ w'.cell? ⟨q2, 1, none⟩ = some (.int .i64 x0.tm) ∧ w'.cell? ⟨q2, 2, none⟩ = some (.slice ad0 x0.ms.length cap0) ∧ w'.cell? ⟨q2, 3, none⟩ = some (.string x0.da) ∧ w'.cell? ⟨b1, 0, none⟩ = some (.int .i64 x1.ix) ∧ w'.cell? ⟨b1, 1, none⟩ = some (.int .i64 x1.tm) ∧ w'.cell? ⟨b1, 2, none⟩ = some (.slice ad1 x1.ms.length cap1) ∧ w'.cell? ⟨b1, 3, none⟩ = some (.string x1.da)) W) := fun W hW => by
    have m1 := fu_next M1.out hW
    have m2 := fu_next M2.out hW
    have m3 := fu_next M3.out hW
    exact ⟨m1.cellAt rfl, m1.cellAt rfl, m1.cellAt rfl, m1.cellAt rfl, m2.cellAt rfl, m2.cellAt rfl, m2.cellAt rfl, m2.cellAt rfl, m3.cellAt rfl, m3.cellAt rfl, m3.cellAt rfl, m3.cellAt rfl⟩
  have AWX : Hid (∀ W, Below X.heap.size X W → Calls Try.prog 6 #[] W fun e w' => e = .returned (.bool true) ∧ Below W.heap.size W w') := fun W _ => AW.out W
  have RFX : Hid (∀ W, Below X.heap.size X W → Calls Try.prog 10 #[.agg #[.int .i64 x0.ix, .int .i64 x0.tm, .slice ad x0.ms.length cap, .string x0.da]] W fun e w' => e = .returned (.agg #[.int .i64 x0.ix, .int .i64 x0.tm, .slice ad x0.ms.length cap, .string x0.da]) ∧ Below W.heap.size W w') := fun W _ => RF.out _ _ _ _ _ _ W
  have SMX : Hid (∀ W, Below X.heap.size X W → Calls Try.prog 16 #[.agg #[.int .i64 x0.ix, .int .i64 x0.tm, .slice ad x0.ms.length cap, .string x0.da], .agg #[.int .i64 x0.ix, .int .i64 x0.tm, .slice ad0 x0.ms.length cap0, .string x0.da]] W fun e w' => e = .returned (.bool true) ∧ Below W.heap.size W w') := fun W hW => SM.out _ _ W (I1.out.next hW) (I2.out.next hW)
  have RGX : Hid (∀ W, Below X.heap.size X W → Calls Try.prog 10 #[.agg #[.int .i64 x1.ix, .int .i64 x1.tm, .slice ad1 x1.ms.length cap1, .string x1.da]] W fun e w' => e = .returned (.agg #[.int .i64 x1.ix, .int .i64 x1.tm, .slice ad1 x1.ms.length cap1, .string x1.da]) ∧ Below W.heap.size W w') := fun W _ => RF.out _ _ _ _ _ _ W
  have CKX : Hid (∀ W, Below X.heap.size X W → Calls Try.prog 11 #[.agg #[.int .i64 x1.ix, .int .i64 x1.tm, .slice ad1 x1.ms.length cap1, .string x1.da]] W fun e w' => e = .returned (.int .i64 K) ∧ Below W.heap.size W w') := fun W hW => CK.out W (below_on BW.out hW)
  have D0 := hid (Below.refl X.heap.size X).drew
  clear AW RF SM I1 I2 M1 M2 M3 HV0 HV1 CK
  refine wp_region_held_drew (S := (fun w' => w'.cell? ⟨q, 0, none⟩ = some (.int .i64 x0.ix) ∧ w'.cell? ⟨q, 1, none⟩ = some (.int .i64 x0.tm) ∧ w'.cell? ⟨q, 2, none⟩ = some (.slice ad x0.ms.length cap) ∧ w'.cell? ⟨q, 3, none⟩ = some (.string x0.da) ∧ w'.cell? ⟨q2, 0, none⟩ = some (.int .i64 x0.ix) ∧ w'.cell? ⟨q2, 1, none⟩ = some (.int .i64 x0.tm) ∧ w'.cell? ⟨q2, 2, none⟩ = some (.slice ad0 x0.ms.length cap0) ∧ w'.cell? ⟨q2, 3, none⟩ = some (.string x0.da) ∧ w'.cell? ⟨b1, 0, none⟩ = some (.int .i64 x1.ix) ∧ w'.cell? ⟨b1, 1, none⟩ = some (.int .i64 x1.tm) ∧ w'.cell? ⟨b1, 2, none⟩ = some (.slice ad1 x1.ms.length cap1) ∧ w'.cell? ⟨b1, 3, none⟩ = some (.string x1.da))) (by kernel_rfl) (ZC.out _ D0.out) (fun hHeld => ?_)
  refine wpAnyH_ready (rs := [0]) (by kernel_rfl) (by simp) ?_
  refine AllReadyH.cons rfl (fun K hK => ?_) AllReadyH.nil
  go_simp
  refine (AWX.out _ D0.out).mono ?_
  rintro e wq7 ⟨rfl, bq⟩
  have BQ7 := hid (below_on D0.out bq)
  clear bq hHeld
  go_wp2_with fail
  refine hK.out _ _ (ZC.out _ BQ7.out) (fun hHeld => ?_)
  clear hK K
  try simp only [Act.put, List.getElem_toArray, List.getElem_cons_succ, List.getElem_cons_zero, List.setIfInBounds_toArray, List.set_cons_zero, List.set_cons_succ]
  refine wpAnyH_take (i := 1) (v := ?vv43) rfl (by kernel_rfl) (by kernel_rfl) (by kernel_rfl) (fun _ _ _ h => h) (Or.inl ⟨by rfl, ?hy43⟩) (by assumption) ?rest43
  case hy43 => (intro w hSw; (try dsimp only at hSw); go_simp; first | done | with_reducible rfl)
  try simp only [Act.put, List.getElem_toArray, List.getElem_cons_succ, List.getElem_cons_zero, List.setIfInBounds_toArray, List.set_cons_zero, List.set_cons_succ]
  refine wpAnyH_take (i := 2) (v := ?vv44) rfl (by kernel_rfl) (by kernel_rfl) (by kernel_rfl) (fun _ _ _ h => h) (Or.inl ⟨by rfl, ?hy44⟩) (by assumption) ?rest44
  case hy44 => (intro w hSw; (try dsimp only at hSw); go_simp; first | done | with_reducible rfl)
  try simp only [Act.put, List.getElem_toArray, List.getElem_cons_succ, List.getElem_cons_zero, List.setIfInBounds_toArray, List.set_cons_zero, List.set_cons_succ]
  refine wpAnyH_take (i := 3) (v := ?vv45) rfl (by kernel_rfl) (by kernel_rfl) (by kernel_rfl) (fun _ _ _ h => h) (Or.inl ⟨by rfl, ?hy45⟩) (by assumption) ?rest45
  case hy45 => (intro w hSw; (try dsimp only at hSw); go_simp; first | done | with_reducible rfl)
  try simp only [Act.put, List.getElem_toArray, List.getElem_cons_succ, List.getElem_cons_zero, List.setIfInBounds_toArray, List.set_cons_zero, List.set_cons_succ]
  refine wpAnyH_take (i := 4) (v := ?vv46) rfl (by kernel_rfl) (by kernel_rfl) (by kernel_rfl) (fun _ _ _ h => h) (Or.inl ⟨by rfl, ?hy46⟩) (by assumption) ?rest46
  case hy46 => (intro w hSw; (try dsimp only at hSw); go_simp; first | done | with_reducible rfl)
  try simp only [Act.put, List.getElem_toArray, List.getElem_cons_succ, List.getElem_cons_zero, List.setIfInBounds_toArray, List.set_cons_zero, List.set_cons_succ]
  refine wpAnyH_take (i := 5) (v := ?vv47) rfl (by kernel_rfl) (by kernel_rfl) (by kernel_rfl) (fun _ _ _ h => h) (Or.inl ⟨by rfl, ?hy47⟩) (by assumption) ?rest47
  case hy47 => (intro w hSw; (try dsimp only at hSw); go_simp; first | done | with_reducible rfl)
  try simp only [Act.put, List.getElem_toArray, List.getElem_cons_succ, List.getElem_cons_zero, List.setIfInBounds_toArray, List.set_cons_zero, List.set_cons_succ]
  refine wpAnyH_take (i := 6) (v := ?vv48) rfl (by kernel_rfl) (by kernel_rfl) (by kernel_rfl) (fun _ _ _ h => h) (Or.inl ⟨by rfl, ?hy48⟩) (by assumption) ?rest48
  case hy48 => (intro w hSw; (try dsimp only at hSw); go_simp; first | done | with_reducible rfl)
  try simp only [Act.put, List.getElem_toArray, List.getElem_cons_succ, List.getElem_cons_zero, List.setIfInBounds_toArray, List.set_cons_zero, List.set_cons_succ]
  refine wpAnyH_take (i := 7) (v := ?vv49) rfl (by kernel_rfl) (by kernel_rfl) (by kernel_rfl) (fun _ _ _ h => h) (Or.inl ⟨by rfl, ?hy49⟩) (by assumption) ?rest49
  case hy49 => (intro w hSw; (try dsimp only at hSw); go_simp; first | done | with_reducible rfl)
  try simp only [Act.put, List.getElem_toArray, List.getElem_cons_succ, List.getElem_cons_zero, List.setIfInBounds_toArray, List.set_cons_zero, List.set_cons_succ]
  refine wpAnyH_take (i := 8) (v := ?vv50) rfl (by kernel_rfl) (by kernel_rfl) (by kernel_rfl) (fun _ _ _ h => h) (Or.inl ⟨by rfl, ?hy50⟩) (by assumption) ?rest50
  case hy50 => (intro w hSw; (try dsimp only at hSw); go_simp; first | done | with_reducible rfl)
  try simp only [Act.put, List.getElem_toArray, List.getElem_cons_succ, List.getElem_cons_zero, List.setIfInBounds_toArray, List.set_cons_zero, List.set_cons_succ]
  refine wpAnyH_take (i := 9) (v := ?vv51) rfl (by kernel_rfl) (by kernel_rfl) (by kernel_rfl) (fun _ _ _ h => h) (Or.inl ⟨by rfl, ?hy51⟩) (by assumption) ?rest51
  case hy51 => (intro w hSw; (try dsimp only at hSw); go_simp; first | done | with_reducible rfl)
  try simp only [Act.put, List.getElem_toArray, List.getElem_cons_succ, List.getElem_cons_zero, List.setIfInBounds_toArray, List.set_cons_zero, List.set_cons_succ]
  refine wpAnyH_take (i := 11) (v := ?vv52) rfl (by kernel_rfl) (by kernel_rfl) (by kernel_rfl) (fun _ _ _ h => h) (Or.inl ⟨by rfl, ?hy52⟩) (by assumption) ?rest52
  case hy52 => (intro w hSw; (try dsimp only at hSw); go_simp; first | done | with_reducible rfl)
  try simp only [Act.put, List.getElem_toArray, List.getElem_cons_succ, List.getElem_cons_zero, List.setIfInBounds_toArray, List.set_cons_zero, List.set_cons_succ]
  refine wpAnyH_ready (rs := [10]) (by kernel_rfl) (by simp) ?_
  refine AllReadyH.cons rfl (fun K hK => ?_) AllReadyH.nil
  go_simp
  refine (RFX.out _ BQ7.out).mono ?_
  rintro e wq8 ⟨rfl, bq⟩
  have BQ8 := hid (below_on BQ7.out bq)
  clear bq hHeld
  go_wp2_with fail
  refine hK.out _ _ (ZC.out _ BQ8.out) (fun hHeld => ?_)
  clear hK K
  try simp only [Act.put, List.getElem_toArray, List.getElem_cons_succ, List.getElem_cons_zero, List.setIfInBounds_toArray, List.set_cons_zero, List.set_cons_succ]
  refine wpAnyH_ready (rs := [12]) (by kernel_rfl) (by simp) ?_
  refine AllReadyH.cons rfl (fun K hK => ?_) AllReadyH.nil
  go_simp
  refine (SMX.out _ BQ8.out).mono ?_
  rintro e wq9 ⟨rfl, bq⟩
  have BQ9 := hid (below_on BQ8.out bq)
  clear bq hHeld
  go_wp2_with fail
  refine hK.out _ _ (ZC.out _ BQ9.out) (fun hHeld => ?_)
  clear hK K
  try simp only [Act.put, List.getElem_toArray, List.getElem_cons_succ, List.getElem_cons_zero, List.setIfInBounds_toArray, List.set_cons_zero, List.set_cons_succ]
  refine wpAnyH_take (i := 13) (v := ?vv53) rfl (by kernel_rfl) (by kernel_rfl) (by kernel_rfl) (fun _ _ _ h => h) (Or.inl ⟨by rfl, ?hy53⟩) (by assumption) ?rest53
  case hy53 => (intro w hSw; (try dsimp only at hSw); go_simp; first | done | with_reducible rfl)
  try simp only [Act.put, List.getElem_toArray, List.getElem_cons_succ, List.getElem_cons_zero, List.setIfInBounds_toArray, List.set_cons_zero, List.set_cons_succ]
  refine wpAnyH_take (i := 14) (v := ?vv54) rfl (by kernel_rfl) (by kernel_rfl) (by kernel_rfl) (fun _ _ _ h => h) (Or.inl ⟨by rfl, ?hy54⟩) (by assumption) ?rest54
  case hy54 => (intro w hSw; (try dsimp only at hSw); go_simp; first | done | with_reducible rfl)
  try simp only [Act.put, List.getElem_toArray, List.getElem_cons_succ, List.getElem_cons_zero, List.setIfInBounds_toArray, List.set_cons_zero, List.set_cons_succ]
  refine wpAnyH_take (i := 15) (v := ?vv55) rfl (by kernel_rfl) (by kernel_rfl) (by kernel_rfl) (fun _ _ _ h => h) (Or.inl ⟨by rfl, ?hy55⟩) (by assumption) ?rest55
  case hy55 => (intro w hSw; (try dsimp only at hSw); go_simp; first | done | with_reducible rfl)
  try simp only [Act.put, List.getElem_toArray, List.getElem_cons_succ, List.getElem_cons_zero, List.setIfInBounds_toArray, List.set_cons_zero, List.set_cons_succ]
  refine wpAnyH_take (i := 16) (v := ?vv56) rfl (by kernel_rfl) (by kernel_rfl) (by kernel_rfl) (fun _ _ _ h => h) (Or.inl ⟨by rfl, ?hy56⟩) (by assumption) ?rest56
  case hy56 => (intro w hSw; (try dsimp only at hSw); go_simp; first | done | with_reducible rfl)
  try simp only [Act.put, List.getElem_toArray, List.getElem_cons_succ, List.getElem_cons_zero, List.setIfInBounds_toArray, List.set_cons_zero, List.set_cons_succ]
  refine wpAnyH_take (i := 17) (v := ?vv57) rfl (by kernel_rfl) (by kernel_rfl) (by kernel_rfl) (fun _ _ _ h => h) (Or.inl ⟨by rfl, ?hy57⟩) (by assumption) ?rest57
  case hy57 => (intro w hSw; (try dsimp only at hSw); go_simp; first | done | with_reducible rfl)
  try simp only [Act.put, List.getElem_toArray, List.getElem_cons_succ, List.getElem_cons_zero, List.setIfInBounds_toArray, List.set_cons_zero, List.set_cons_succ]
  refine wpAnyH_take (i := 18) (v := ?vv58) rfl (by kernel_rfl) (by kernel_rfl) (by kernel_rfl) (fun _ _ _ h => h) (Or.inl ⟨by rfl, ?hy58⟩) (by assumption) ?rest58
  case hy58 => (intro w hSw; (try dsimp only at hSw); go_simp; first | done | with_reducible rfl)
  try simp only [Act.put, List.getElem_toArray, List.getElem_cons_succ, List.getElem_cons_zero, List.setIfInBounds_toArray, List.set_cons_zero, List.set_cons_succ]
  refine wpAnyH_take (i := 19) (v := ?vv59) rfl (by kernel_rfl) (by kernel_rfl) (by kernel_rfl) (fun _ _ _ h => h) (Or.inl ⟨by rfl, ?hy59⟩) (by assumption) ?rest59
  case hy59 => (intro w hSw; (try dsimp only at hSw); go_simp; first | done | with_reducible rfl)
  try simp only [Act.put, List.getElem_toArray, List.getElem_cons_succ, List.getElem_cons_zero, List.setIfInBounds_toArray, List.set_cons_zero, List.set_cons_succ]
  refine wpAnyH_take (i := 20) (v := ?vv60) rfl (by kernel_rfl) (by kernel_rfl) (by kernel_rfl) (fun _ _ _ h => h) (Or.inl ⟨by rfl, ?hy60⟩) (by assumption) ?rest60
  case hy60 => (intro w hSw; (try dsimp only at hSw); go_simp; first | done | with_reducible rfl)
  try simp only [Act.put, List.getElem_toArray, List.getElem_cons_succ, List.getElem_cons_zero, List.setIfInBounds_toArray, List.set_cons_zero, List.set_cons_succ]
  refine wpAnyH_take (i := 21) (v := ?vv61) rfl (by kernel_rfl) (by kernel_rfl) (by kernel_rfl) (fun _ _ _ h => h) (Or.inl ⟨by rfl, ?hy61⟩) (by assumption) ?rest61
  case hy61 => (intro w hSw; (try dsimp only at hSw); go_simp; first | done | with_reducible rfl)
  try simp only [Act.put, List.getElem_toArray, List.getElem_cons_succ, List.getElem_cons_zero, List.setIfInBounds_toArray, List.set_cons_zero, List.set_cons_succ]
  refine wpAnyH_take (i := 22) (v := ?vv62) rfl (by kernel_rfl) (by kernel_rfl) (by kernel_rfl) (fun _ _ _ h => h) (Or.inl ⟨by rfl, ?hy62⟩) (by assumption) ?rest62
  case hy62 => (intro w hSw; (try dsimp only at hSw); go_simp; first | done | with_reducible rfl)
  try simp only [Act.put, List.getElem_toArray, List.getElem_cons_succ, List.getElem_cons_zero, List.setIfInBounds_toArray, List.set_cons_zero, List.set_cons_succ]
  refine wpAnyH_take (i := 23) (v := ?vv63) rfl (by kernel_rfl) (by kernel_rfl) (by kernel_rfl) (fun _ _ _ h => h) (Or.inl ⟨by rfl, ?hy63⟩) (by assumption) ?rest63
  case hy63 => (intro w hSw; (try dsimp only at hSw); go_simp; first | done | with_reducible rfl)
  try simp only [Act.put, List.getElem_toArray, List.getElem_cons_succ, List.getElem_cons_zero, List.setIfInBounds_toArray, List.set_cons_zero, List.set_cons_succ]
  refine wpAnyH_ready (rs := [24]) (by kernel_rfl) (by simp) ?_
  refine AllReadyH.cons rfl (fun K hK => ?_) AllReadyH.nil
  go_simp
  refine (RGX.out _ BQ9.out).mono ?_
  rintro e wq10 ⟨rfl, bq⟩
  have BQ10 := hid (below_on BQ9.out bq)
  clear bq hHeld
  go_wp2_with fail
  refine hK.out _ _ (ZC.out _ BQ10.out) (fun hHeld => ?_)
  clear hK K
  try simp only [Act.put, List.getElem_toArray, List.getElem_cons_succ, List.getElem_cons_zero, List.setIfInBounds_toArray, List.set_cons_zero, List.set_cons_succ]
  refine wpAnyH_ready (rs := [25]) (by kernel_rfl) (by simp) ?_
  refine AllReadyH.cons rfl (fun K hK => ?_) AllReadyH.nil
  go_simp
  refine (CKX.out _ BQ10.out).mono ?_
  rintro e wq11 ⟨rfl, bq⟩
  have BQ11 := hid (below_on BQ10.out bq)
  clear bq hHeld
  go_wp2_with fail
  refine hK.out _ _ (ZC.out _ BQ11.out) (fun hHeld => ?_)
  clear hK K
  try simp only [Act.put, List.getElem_toArray, List.getElem_cons_succ, List.getElem_cons_zero, List.setIfInBounds_toArray, List.set_cons_zero, List.set_cons_succ]
  refine wpAnyH_take (i := 26) (v := ?vv64) rfl (by kernel_rfl) (by kernel_rfl) (by kernel_rfl) (fun _ _ _ h => h) (Or.inl ⟨by rfl, ?hy64⟩) (by assumption) ?rest64
  case hy64 => (intro w hSw; (try dsimp only at hSw); go_simp; first | done | with_reducible rfl)
  try simp only [Act.put, List.getElem_toArray, List.getElem_cons_succ, List.getElem_cons_zero, List.setIfInBounds_toArray, List.set_cons_zero, List.set_cons_succ]
  refine wpAnyH_take (i := 27) (v := ?vv65) rfl (by kernel_rfl) (by kernel_rfl) (by kernel_rfl) (fun _ _ _ h => h) (Or.inl ⟨by rfl, ?hy65⟩) (by assumption) ?rest65
  case hy65 => (intro w hSw; (try dsimp only at hSw); go_simp; first | done | with_reducible rfl)
  try simp only [Act.put, List.getElem_toArray, List.getElem_cons_succ, List.getElem_cons_zero, List.setIfInBounds_toArray, List.set_cons_zero, List.set_cons_succ]
  refine wpAnyH_take (i := 28) (v := ?vv66) rfl (by kernel_rfl) (by kernel_rfl) (by kernel_rfl) (fun _ _ _ h => h) (Or.inl ⟨by rfl, ?hy66⟩) (by assumption) ?rest66
  case hy66 => (intro w hSw; (try dsimp only at hSw); go_simp; first | done | with_reducible rfl)
  try simp only [Act.put, List.getElem_toArray, List.getElem_cons_succ, List.getElem_cons_zero, List.setIfInBounds_toArray, List.set_cons_zero, List.set_cons_succ]
  refine wpAnyH_take (i := 29) (v := ?vv67) rfl (by kernel_rfl) (by kernel_rfl) (by kernel_rfl) (fun _ _ _ h => h) (Or.inl ⟨by rfl, ?hy67⟩) (by assumption) ?rest67
  case hy67 => (intro w hSw; (try dsimp only at hSw); go_simp; first | done | with_reducible rfl)
  try simp only [Act.put, List.getElem_toArray, List.getElem_cons_succ, List.getElem_cons_zero, List.setIfInBounds_toArray, List.set_cons_zero, List.set_cons_succ]
  refine wpAnyH_done (by kernel_rfl) ?_ _
  clear hHeld ZC
  go_wp2
  go_ret
  exact ⟨rfl, below_on BW.out BQ11.out⟩
theorem shotFull_walk (v0 : Value) (x0 : Sh) (v1 : Value) (x1 : Sh) (a : Int) (w : World) (h0 : IntsI w v0 x0.ms) (l0 : x0.ms.length ≤ 17592186044416) (y0 : x0.da.size ≤ 140737488355328) (h1 : IntsI w v1 x1.ms) (l1 : x1.ms.length ≤ 17592186044416) (y1 : x1.da.size ≤ 140737488355328) (hw : (Lit.int .i64 a).wf = true) :
    Calls Try.prog 4 #[shV v0 x0, shV v1 x1, .int .i64 a] w fun e w' => e = .returned (.bool true) ∧ Below w.heap.size w w' := by
  by_cases hc : chkS x0 = 0
  · obtain ⟨t, hat, ht⟩ := room_val (frm (encB x0)).length a (sh_len hc).1
    rcases fu_is x0 x1 t hc with ⟨hE, hy, hD⟩ | ⟨hE, hD⟩ | ⟨hE, k0, k22, hD⟩
    · exact full_A v0 v1 x0 x1 a w h0 l0 h1 l1 hc t hat ht hE hD hy
    · exact full_B v0 v1 x0 x1 a w h0 l0 h1 l1 hc t hat ht hE hD
    · exact full_C v0 v1 x0 x1 a w h0 l0 h1 l1 hc t hat ht hE hD k0 k22
  · exact full_bad v0 v1 x0 x1 a w h0 l0 h1 l1 hc
end Go.Proofs.Ytflecoplpdbonaa
