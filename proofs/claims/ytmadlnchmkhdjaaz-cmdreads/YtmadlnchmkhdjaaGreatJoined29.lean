/- Joined: The document's Decode of a command of the kind 6. The document's Decode of a command of the kind 7. The document's Decode of a command of the kind 8. The document's Decode of a command of the kind 9. -/
import Derived.Test.YtmadlnchmkhdjaaGreatJoined28
namespace Go.Proofs.YtmadlnchmkhdjaaGreat
open Go.RowKit Go.Maps
set_option linter.unusedVariables false
set_option linter.unusedSimpArgs false

set_option maxRecDepth 100000 in
set_option maxHeartbeats 8000000 in
theorem rdec_6 (s : ByteArray) (w : World) (hs : s.size ≤ 140737488355328) (da de : Int) (hN : dcN s 10 0 0 = ⟨da, de, 6⟩) : Calls Tryz.prog 16 #[.string s] w (GiveQc w s) := by
  have hsm : s.size ≤ maxLen := by unfold maxLen; omega
  have HQ : rdQ s = ⟨(tS s ((tS s ((tS s (da) (de) 64).a) ((tS s (da) (de) 64).e) 63).a) ((tS s ((tS s (da) (de) 64).a) ((tS s (da) (de) 64).e) 63).e) 1024).a, (tS s ((tS s ((tS s (da) (de) 64).a) ((tS s (da) (de) 64).e) 63).a) ((tS s ((tS s (da) (de) 64).a) ((tS s (da) (de) 64).e) 63).e) 1024).e, ⟨6, (tS s (da) (de) 64).x, (tS s ((tS s (da) (de) 64).a) ((tS s (da) (de) 64).e) 63).x, (tS s ((tS s ((tS s (da) (de) 64).a) ((tS s (da) (de) 64).e) 63).a) ((tS s ((tS s (da) (de) 64).a) ((tS s (da) (de) 64).e) 63).e) 1024).x, 0, 0, ⟨#[]⟩, [], []⟩⟩ := by
    have hh : flN ((dcN s 10 0 0).n : Int) = 7 := by rw [hN]; exact (show flN 6 = 7 from by decide)
    unfold rdQ
    simp only [hh]
    simp only [q1, q2, s3, s4, s5, s6, s7, s8, r0, hN, show hasF 7 1 = true from by decide, show hasF 7 2 = true from by decide, show hasF 7 4 = true from by decide, show hasF 7 8 = false from by decide, show hasF 7 16 = false from by decide, show hasF 7 32 = false from by decide, show hasF 7 64 = false from by decide, show hasF 7 128 = false from by decide, if_true, Bool.false_eq_true, if_false]
    try rfl
  have HSM := rdQ_sm s
  have RN : Hid (∀ W, Calls Tryz.prog 44 #[.agg #[.string s, .int .i64 0, .int .i64 0], .int .i64 10] W fun r w' => r = .returned (.tuple #[.agg #[.string s, .int .i64 da, .int .i64 de], .int .i64 6]) ∧ Below W.heap.size W w') := fun W => by
    have := ref_reader_int s 0 0 10 W hsm (by omega) (nS_int s 0 0 10 (by omega))
    rw [show nS s 0 0 (fitI 10 (rdAt s 0).n) 2 = ⟨da, de, 6⟩ from hN] at this
    exact this
  have R1 : Hid (∀ W, Calls Tryz.prog 45 #[.agg #[.string s, .int .i64 (da), .int .i64 (de)], .int .i64 64] W fun r w' => r = .returned (.tuple #[.agg #[.string s, .int .i64 (tS s (da) (de) 64).a, .int .i64 (tS s (da) (de) 64).e], .string (tS s (da) (de) 64).x]) ∧ Below W.heap.size W w') := fun W => ref_reader_text s _ _ 64 W hs
  have R2 : Hid (∀ W, Calls Tryz.prog 45 #[.agg #[.string s, .int .i64 ((tS s (da) (de) 64).a), .int .i64 ((tS s (da) (de) 64).e)], .int .i64 63] W fun r w' => r = .returned (.tuple #[.agg #[.string s, .int .i64 (tS s ((tS s (da) (de) 64).a) ((tS s (da) (de) 64).e) 63).a, .int .i64 (tS s ((tS s (da) (de) 64).a) ((tS s (da) (de) 64).e) 63).e], .string (tS s ((tS s (da) (de) 64).a) ((tS s (da) (de) 64).e) 63).x]) ∧ Below W.heap.size W w') := fun W => ref_reader_text s _ _ 63 W hs
  have R3 : Hid (∀ W, Calls Tryz.prog 45 #[.agg #[.string s, .int .i64 ((tS s ((tS s (da) (de) 64).a) ((tS s (da) (de) 64).e) 63).a), .int .i64 ((tS s ((tS s (da) (de) 64).a) ((tS s (da) (de) 64).e) 63).e)], .int .i64 1024] W fun r w' => r = .returned (.tuple #[.agg #[.string s, .int .i64 (tS s ((tS s ((tS s (da) (de) 64).a) ((tS s (da) (de) 64).e) 63).a) ((tS s ((tS s (da) (de) 64).a) ((tS s (da) (de) 64).e) 63).e) 1024).a, .int .i64 (tS s ((tS s ((tS s (da) (de) 64).a) ((tS s (da) (de) 64).e) 63).a) ((tS s ((tS s (da) (de) 64).a) ((tS s (da) (de) 64).e) 63).e) 1024).e], .string (tS s ((tS s ((tS s (da) (de) 64).a) ((tS s (da) (de) 64).e) 63).a) ((tS s ((tS s (da) (de) 64).a) ((tS s (da) (de) 64).e) 63).e) 1024).x]) ∧ Below W.heap.size W w') := fun W => ref_reader_text s _ _ 1024 W hs
  clear hs hsm hN
  generalize tS s da de 64 = Y1 at *
  obtain ⟨a1, e1, x1⟩ := Y1
  simp only at *
  generalize tS s a1 e1 63 = Y2 at *
  obtain ⟨a2, e2, x2⟩ := Y2
  simp only at *
  generalize tS s a2 e2 1024 = Y3 at *
  obtain ⟨a3, e3, x3⟩ := Y3
  simp only at *
  have HOK : Hid (qcOk s = ((endE s a3 e3 == 0) && cmOk (⟨6, x1, x2, x3, 0, 0, ⟨#[]⟩, [], []⟩ : Cm))) := by show _ = _; unfold qcOk; rw [HQ]
  have HD : Hid (qcC s = (if qcOk s = true then (⟨6, x1, x2, x3, 0, 0, ⟨#[]⟩, [], []⟩ : Cm) else cm0) ∧ qcE s = (if qcOk s = true then 0 else 3)) := by refine ⟨?_, rfl⟩; unfold qcC; rw [HQ]
  rw [HQ] at HSM
  have CK : Hid (∀ pv kv W, PcI W pv (⟨6, x1, x2, x3, 0, 0, ⟨#[]⟩, [], []⟩ : Cm).ps → PkI W kv (⟨6, x1, x2, x3, 0, 0, ⟨#[]⟩, [], []⟩ : Cm).ks → Calls Tryz.prog 14 #[cmV pv kv (⟨6, x1, x2, x3, 0, 0, ⟨#[]⟩, [], []⟩ : Cm)] W fun e w' => e = .returned (.int .i64 (ckN (⟨6, x1, x2, x3, 0, 0, ⟨#[]⟩, [], []⟩ : Cm))) ∧ Below W.heap.size W w') := fun pv kv W h1 h2 => rcheck16_any pv kv _ W h1 h2 HSM.sz
  have RE := hid (fun W => ref_reader_end s a3 e3 W)
  clear HQ HSM
  unfold GiveQc
  unfold ckN cmV at CK
  generalize qcC s = DC at *
  generalize qcE s = DE at *
  generalize qcOk s = OK at *
  generalize cmOk (⟨6, x1, x2, x3, 0, 0, ⟨#[]⟩, [], []⟩ : Cm) = ok at *
  generalize endE s a3 e3 = en at *
  simp only at CK
  have HK1 : Hid (∀ W, Calls Tryz.prog 35 #[.int .i64 6] W fun e w' => e = .returned (.bool true) ∧ w' = W) := fun W => hasKey_any 6 W
  have HI1 : Hid (∀ W, Calls Tryz.prog 37 #[.int .i64 6] W fun e w' => e = .returned (.bool false) ∧ w' = W) := fun W => hasID_any 6 W
  have HS1 : Hid (∀ W, Calls Tryz.prog 39 #[.int .i64 6] W fun e w' => e = .returned (.bool false) ∧ w' = W) := fun W => hasSum_any 6 W
  go_enter Tryz.func16, Tryz.ntmps16
  go_wp2_with fail
  refine (RN.out _).mono ?_
  rintro e0 w1 ⟨rfl, b1⟩
  have S0 := hid (rcs_new (s := s) (a := da) (e := de) (k := 6) b1)
  clear RN b1
  go_upto_region 3 with fail
  generalize ((w1.alloc (.cells #[.string s, .int .i64 da, .int .i64 de] 79)).alloc (.cells #[.int .i64 6, .string ⟨#[]⟩, .string ⟨#[]⟩, .string ⟨#[]⟩, .int .i64 0, .int .i64 0, .string ⟨#[]⟩, .slice none 0 0, .slice none 0 0] 34)) = V0 at *
  generalize w1.heap.size = g at *
  have c0 := S0.out.rd.cellAt (o := 0) rfl
  have c1 := S0.out.rd.cellAt (o := 1) rfl
  have c2 := S0.out.rd.cellAt (o := 2) rfl
  go_wp2_with fail
  refine (R1.out _).mono ?_
  rintro e1' v1 ⟨rfl, b1⟩
  have P1 := hid ((S0.out.call b1).al (.cells #[.string s, .int .i64 a1, .int .i64 e1] 79))
  clear b1 R1 S0 c0 c1 c2
  go_wp2_with fail
  refine (R2.out _).mono ?_
  rintro e2' v2 ⟨rfl, b2⟩
  have P2 := hid ((P1.out.call b2).al (.cells #[.string s, .int .i64 a2, .int .i64 e2] 79))
  have HL2 := hid (P1.out.call b2).bx.lt
  clear b2 R2 P1
  have c0 := P2.out.rd.cellAt (o := 0) rfl
  have f0 : (v2.alloc (.cells #[.string s, .int .i64 a2, .int .i64 e2] 79)).frozen? ⟨g, 0, none⟩ = false := P2.out.rd.frozen
  have c1 := P2.out.rd.cellAt (o := 1) rfl
  have f1 : (v2.alloc (.cells #[.string s, .int .i64 a2, .int .i64 e2] 79)).frozen? ⟨g, 1, none⟩ = false := P2.out.rd.frozen
  have c2 := P2.out.rd.cellAt (o := 2) rfl
  have f2 : (v2.alloc (.cells #[.string s, .int .i64 a2, .int .i64 e2] 79)).frozen? ⟨g, 2, none⟩ = false := P2.out.rd.frozen
  have z1 := P2.out.bx.cellAt (o := 1) rfl
  have y1 : (v2.alloc (.cells #[.string s, .int .i64 a2, .int .i64 e2] 79)).frozen? ⟨g + 1, 1, none⟩ = false := P2.out.bx.frozen
  have z2 := P2.out.bx.cellAt (o := 2) rfl
  have y2 : (v2.alloc (.cells #[.string s, .int .i64 a2, .int .i64 e2] 79)).frozen? ⟨g + 1, 2, none⟩ = false := P2.out.bx.frozen
  have n1 : v2.heap.size ≠ g := by have h9 := HL2.out; omega
  have n2 : g ≠ v2.heap.size := fun h => n1 h.symm
  have n3 : v2.heap.size ≠ g + 1 := by have h9 := HL2.out; omega
  have n4 : g + 1 ≠ v2.heap.size := fun h => n3 h.symm
  go_upto_region 9 with fail
  have S2 := hid ((((P2.out).fld 1 (.string x1) (.slice none 0 0) (.slice none 0 0) ⟨6, x1, ⟨#[]⟩, ⟨#[]⟩, 0, 0, ⟨#[]⟩, [], []⟩ rfl P2.out.op P2.out.ok).fld 2 (.string x2) (.slice none 0 0) (.slice none 0 0) ⟨6, x1, x2, ⟨#[]⟩, 0, 0, ⟨#[]⟩, [], []⟩ rfl (ownP_set (P2.out.op) (by omega)) (ownK_set (P2.out.ok) (by omega))).put a2 e2)
  clear P2 c0 c1 c2 f0 f1 f2 z1 y1 z2 y2 n1 n2 n3 n4 
  clear HL2
  generalize ((((((v2.alloc (.cells #[.string s, .int .i64 a2, .int .i64 e2] 79)).setCell ⟨g + 1, 1, none⟩ (.string x1)).setCell ⟨g + 1, 2, none⟩ (.string x2)).setCell ⟨g, 0, none⟩ (.string s)).setCell ⟨g, 1, none⟩ (.int .i64 a2)).setCell ⟨g, 2, none⟩ (.int .i64 e2)) = V2 at *
  go_wp2_with fail
  refine (HK1.out _).mono ?_
  rintro et1 vt1 ⟨rfl, rfl⟩
  clear HK1
  have c0 := S2.out.rd.cellAt (o := 0) rfl
  have c1 := S2.out.rd.cellAt (o := 1) rfl
  have c2 := S2.out.rd.cellAt (o := 2) rfl
  go_wp2_with fail
  refine (R3.out _).mono ?_
  rintro e3' v3 ⟨rfl, b3⟩
  have P3 := hid ((S2.out.call b3).al (.cells #[.string s, .int .i64 a3, .int .i64 e3] 79))
  have HL3 := hid (S2.out.call b3).bx.lt
  clear b3 R3 S2 c0 c1 c2
  have c0 := P3.out.rd.cellAt (o := 0) rfl
  have f0 : (v3.alloc (.cells #[.string s, .int .i64 a3, .int .i64 e3] 79)).frozen? ⟨g, 0, none⟩ = false := P3.out.rd.frozen
  have c1 := P3.out.rd.cellAt (o := 1) rfl
  have f1 : (v3.alloc (.cells #[.string s, .int .i64 a3, .int .i64 e3] 79)).frozen? ⟨g, 1, none⟩ = false := P3.out.rd.frozen
  have c2 := P3.out.rd.cellAt (o := 2) rfl
  have f2 : (v3.alloc (.cells #[.string s, .int .i64 a3, .int .i64 e3] 79)).frozen? ⟨g, 2, none⟩ = false := P3.out.rd.frozen
  have z3 := P3.out.bx.cellAt (o := 3) rfl
  have y3 : (v3.alloc (.cells #[.string s, .int .i64 a3, .int .i64 e3] 79)).frozen? ⟨g + 1, 3, none⟩ = false := P3.out.bx.frozen
  have n1 : v3.heap.size ≠ g := by have h9 := HL3.out; omega
  have n2 : g ≠ v3.heap.size := fun h => n1 h.symm
  have n3 : v3.heap.size ≠ g + 1 := by have h9 := HL3.out; omega
  have n4 : g + 1 ≠ v3.heap.size := fun h => n3 h.symm
  go_upto_region 13 with fail
  have S3 := hid (((P3.out).fld 3 (.string x3) (.slice none 0 0) (.slice none 0 0) ⟨6, x1, x2, x3, 0, 0, ⟨#[]⟩, [], []⟩ rfl P3.out.op P3.out.ok).put a3 e3)
  clear P3 c0 c1 c2 f0 f1 f2 z3 y3 n1 n2 n3 n4 
  clear HL3
  generalize (((((v3.alloc (.cells #[.string s, .int .i64 a3, .int .i64 e3] 79)).setCell ⟨g + 1, 3, none⟩ (.string x3)).setCell ⟨g, 0, none⟩ (.string s)).setCell ⟨g, 1, none⟩ (.int .i64 a3)).setCell ⟨g, 2, none⟩ (.int .i64 e3)) = V3 at *
  go_wp2_with fail
  refine (HI1.out _).mono ?_
  rintro et2 vt2 ⟨rfl, rfl⟩
  clear HI1
  go_wp2_with fail
  refine (HS1.out _).mono ?_
  rintro et3 vt3 ⟨rfl, rfl⟩
  clear HS1
  have c0 := S3.out.rd.cellAt (o := 0) rfl
  have c1 := S3.out.rd.cellAt (o := 1) rfl
  have c2 := S3.out.rd.cellAt (o := 2) rfl
  go_wp2_with fail
  refine (RE.out _).mono ?_
  rintro e9' v9 ⟨rfl, b9⟩
  have S9 := hid (S3.out.call b9)
  clear RE b9 S3 c0 c1 c2
  have hfd : ∀ W : World, (Instr.field 79 (.agg #[.string s, .int .i64 a3, .int .i64 en]) 2).run Tryz.prog W = .ok (.int .i64 en) W := fun _ => by kernel_rfl
  by_cases hen : en = 0
  · subst hen
    have HNE : w.heap.size ≠ g + 1 := by have := S9.out.lo; omega
    have HNE2 : g + 1 ≠ w.heap.size := fun h => HNE h.symm
    have CK9 := hid (CK.out _ _ _ S9.out.op.pcs S9.out.ok.pks)
    clear CK
    cases ok
    · obtain rfl : OK = false := HOK.out
      obtain ⟨rfl, rfl⟩ := HD.out
      clear HOK HD
      have c0 := S9.out.bx.cellAt (o := 0) rfl
      have c1 := S9.out.bx.cellAt (o := 1) rfl
      have c2 := S9.out.bx.cellAt (o := 2) rfl
      have c3 := S9.out.bx.cellAt (o := 3) rfl
      have c4 := S9.out.bx.cellAt (o := 4) rfl
      have c5 := S9.out.bx.cellAt (o := 5) rfl
      have c6 := S9.out.bx.cellAt (o := 6) rfl
      have c7 := S9.out.bx.cellAt (o := 7) rfl
      have c8 := S9.out.bx.cellAt (o := 8) rfl
      go_wp2_with fail
      refine CK9.out.mono ?_
      rintro e10 w10 ⟨rfl, b10⟩
      have S10 := hid (S9.out.call b10)
      clear CK9 b10 S9 c0 c1 c2 c3 c4 c5 c6 c7 c8
      have d0 := S10.out.rs.cellAt (o := 0) rfl
      have f0 : w10.frozen? ⟨w.heap.size, 0, none⟩ = false := S10.out.rs.frozen
      have d1 := S10.out.rs.cellAt (o := 1) rfl
      have f1 : w10.frozen? ⟨w.heap.size, 1, none⟩ = false := S10.out.rs.frozen
      have d2 := S10.out.rs.cellAt (o := 2) rfl
      have f2 : w10.frozen? ⟨w.heap.size, 2, none⟩ = false := S10.out.rs.frozen
      have d3 := S10.out.rs.cellAt (o := 3) rfl
      have f3 : w10.frozen? ⟨w.heap.size, 3, none⟩ = false := S10.out.rs.frozen
      have d4 := S10.out.rs.cellAt (o := 4) rfl
      have f4 : w10.frozen? ⟨w.heap.size, 4, none⟩ = false := S10.out.rs.frozen
      have d5 := S10.out.rs.cellAt (o := 5) rfl
      have f5 : w10.frozen? ⟨w.heap.size, 5, none⟩ = false := S10.out.rs.frozen
      have d6 := S10.out.rs.cellAt (o := 6) rfl
      have f6 : w10.frozen? ⟨w.heap.size, 6, none⟩ = false := S10.out.rs.frozen
      have d7 := S10.out.rs.cellAt (o := 7) rfl
      have f7 : w10.frozen? ⟨w.heap.size, 7, none⟩ = false := S10.out.rs.frozen
      have d8 := S10.out.rs.cellAt (o := 8) rfl
      have f8 : w10.frozen? ⟨w.heap.size, 8, none⟩ = false := S10.out.rs.frozen
      have FB := hid S10.out.bad
      clear S10
      go_wp2
      exact bodyPost_ret (ret_ct16 (p := 2) (u := 3) rfl _ _ w.heap.size #[.int .i64 0, .string ⟨#[]⟩, .string ⟨#[]⟩, .string ⟨#[]⟩, .int .i64 0, .int .i64 0, .string ⟨#[]⟩, .slice none 0 0, .slice none 0 0] (.int .i64 3) rfl rfl (run_loadVar_row _ _ _ _ _ _ _ FB.out.1 Tryz.underlying34 rfl (by kernel_rfl))) rfl ⟨_, _, rfl, ownP_nil _ _ _, ownK_nil _ _ _, FB.out.2⟩
    · obtain rfl : OK = true := HOK.out
      obtain ⟨rfl, rfl⟩ := HD.out
      clear HOK HD
      have c0 := S9.out.bx.cellAt (o := 0) rfl
      have c1 := S9.out.bx.cellAt (o := 1) rfl
      have c2 := S9.out.bx.cellAt (o := 2) rfl
      have c3 := S9.out.bx.cellAt (o := 3) rfl
      have c4 := S9.out.bx.cellAt (o := 4) rfl
      have c5 := S9.out.bx.cellAt (o := 5) rfl
      have c6 := S9.out.bx.cellAt (o := 6) rfl
      have c7 := S9.out.bx.cellAt (o := 7) rfl
      have c8 := S9.out.bx.cellAt (o := 8) rfl
      go_wp2_with fail
      refine CK9.out.mono ?_
      rintro e10 w10 ⟨rfl, b10⟩
      have S10 := hid (S9.out.call b10)
      clear CK9 b10 S9 c0 c1 c2 c3 c4 c5 c6 c7 c8
      have c0 := S10.out.bx.cellAt (o := 0) rfl
      have c1 := S10.out.bx.cellAt (o := 1) rfl
      have c2 := S10.out.bx.cellAt (o := 2) rfl
      have c3 := S10.out.bx.cellAt (o := 3) rfl
      have c4 := S10.out.bx.cellAt (o := 4) rfl
      have c5 := S10.out.bx.cellAt (o := 5) rfl
      have c6 := S10.out.bx.cellAt (o := 6) rfl
      have c7 := S10.out.bx.cellAt (o := 7) rfl
      have c8 := S10.out.bx.cellAt (o := 8) rfl
      have d0 := S10.out.rs.cellAt (o := 0) rfl
      have f0 : w10.frozen? ⟨w.heap.size, 0, none⟩ = false := S10.out.rs.frozen
      have d1 := S10.out.rs.cellAt (o := 1) rfl
      have f1 : w10.frozen? ⟨w.heap.size, 1, none⟩ = false := S10.out.rs.frozen
      have d2 := S10.out.rs.cellAt (o := 2) rfl
      have f2 : w10.frozen? ⟨w.heap.size, 2, none⟩ = false := S10.out.rs.frozen
      have d3 := S10.out.rs.cellAt (o := 3) rfl
      have f3 : w10.frozen? ⟨w.heap.size, 3, none⟩ = false := S10.out.rs.frozen
      have d4 := S10.out.rs.cellAt (o := 4) rfl
      have f4 : w10.frozen? ⟨w.heap.size, 4, none⟩ = false := S10.out.rs.frozen
      have d5 := S10.out.rs.cellAt (o := 5) rfl
      have f5 : w10.frozen? ⟨w.heap.size, 5, none⟩ = false := S10.out.rs.frozen
      have d6 := S10.out.rs.cellAt (o := 6) rfl
      have f6 : w10.frozen? ⟨w.heap.size, 6, none⟩ = false := S10.out.rs.frozen
      have d7 := S10.out.rs.cellAt (o := 7) rfl
      have f7 : w10.frozen? ⟨w.heap.size, 7, none⟩ = false := S10.out.rs.frozen
      have d8 := S10.out.rs.cellAt (o := 8) rfl
      have f8 : w10.frozen? ⟨w.heap.size, 8, none⟩ = false := S10.out.rs.frozen
      have FB := hid S10.out.fin
      simp only [cmL] at FB
      clear S10
      go_wp2
      exact bodyPost_ret (ret_ct16 (p := 2) (u := 3) rfl _ _ w.heap.size #[.int .i64 6, .string x1, .string x2, .string x3, .int .i64 0, .int .i64 0, .string ⟨#[]⟩, .slice none 0 0, .slice none 0 0] (.int .i64 0) rfl rfl (run_loadVar_row _ _ _ _ _ _ _ FB.out.1 Tryz.underlying34 rfl (by kernel_rfl))) rfl ⟨_, _, rfl, FB.out.2⟩
  · have hq : (en == 0) = false := beq_eq_false_iff_ne.2 hen
    have hq2 : (en != 0) = true := by simp [hen]
    obtain rfl : OK = false := by have := HOK.out; rw [hq] at this; exact this
    obtain ⟨rfl, rfl⟩ := HD.out
    clear hen HOK HD CK
    have d0 := S9.out.rs.cellAt (o := 0) rfl
    have f0 : v9.frozen? ⟨w.heap.size, 0, none⟩ = false := S9.out.rs.frozen
    have d1 := S9.out.rs.cellAt (o := 1) rfl
    have f1 : v9.frozen? ⟨w.heap.size, 1, none⟩ = false := S9.out.rs.frozen
    have d2 := S9.out.rs.cellAt (o := 2) rfl
    have f2 : v9.frozen? ⟨w.heap.size, 2, none⟩ = false := S9.out.rs.frozen
    have d3 := S9.out.rs.cellAt (o := 3) rfl
    have f3 : v9.frozen? ⟨w.heap.size, 3, none⟩ = false := S9.out.rs.frozen
    have d4 := S9.out.rs.cellAt (o := 4) rfl
    have f4 : v9.frozen? ⟨w.heap.size, 4, none⟩ = false := S9.out.rs.frozen
    have d5 := S9.out.rs.cellAt (o := 5) rfl
    have f5 : v9.frozen? ⟨w.heap.size, 5, none⟩ = false := S9.out.rs.frozen
    have d6 := S9.out.rs.cellAt (o := 6) rfl
    have f6 : v9.frozen? ⟨w.heap.size, 6, none⟩ = false := S9.out.rs.frozen
    have d7 := S9.out.rs.cellAt (o := 7) rfl
    have f7 : v9.frozen? ⟨w.heap.size, 7, none⟩ = false := S9.out.rs.frozen
    have d8 := S9.out.rs.cellAt (o := 8) rfl
    have f8 : v9.frozen? ⟨w.heap.size, 8, none⟩ = false := S9.out.rs.frozen
    have FB := hid S9.out.bad
    clear S9
    go_wp2
    exact bodyPost_ret (ret_ct16 (p := 2) (u := 3) rfl _ _ w.heap.size #[.int .i64 0, .string ⟨#[]⟩, .string ⟨#[]⟩, .string ⟨#[]⟩, .int .i64 0, .int .i64 0, .string ⟨#[]⟩, .slice none 0 0, .slice none 0 0] (.int .i64 3) rfl rfl (run_loadVar_row _ _ _ _ _ _ _ FB.out.1 Tryz.underlying34 rfl (by kernel_rfl))) rfl ⟨_, _, rfl, ownP_nil _ _ _, ownK_nil _ _ _, FB.out.2⟩
end Go.Proofs.YtmadlnchmkhdjaaGreat
namespace Go.Proofs.YtmadlnchmkhdjaaGreat
open Go.RowKit Go.Maps
set_option linter.unusedVariables false
set_option linter.unusedSimpArgs false

set_option maxRecDepth 100000 in
set_option maxHeartbeats 8000000 in
theorem rdec_7 (s : ByteArray) (w : World) (hs : s.size ≤ 140737488355328) (da de : Int) (hN : dcN s 10 0 0 = ⟨da, de, 7⟩) : Calls Tryz.prog 16 #[.string s] w (GiveQc w s) := by
  have hsm : s.size ≤ maxLen := by unfold maxLen; omega
  have HQ : rdQ s = ⟨(rdP s ((tS s ((dcN s 100 ((dcN s 1099511627776 ((tS s ((tS s ((tS s (da) (de) 64).a) ((tS s (da) (de) 64).e) 63).a) ((tS s ((tS s (da) (de) 64).a) ((tS s (da) (de) 64).e) 63).e) 1024).a) ((tS s ((tS s ((tS s (da) (de) 64).a) ((tS s (da) (de) 64).e) 63).a) ((tS s ((tS s (da) (de) 64).a) ((tS s (da) (de) 64).e) 63).e) 1024).e)).a) ((dcN s 1099511627776 ((tS s ((tS s ((tS s (da) (de) 64).a) ((tS s (da) (de) 64).e) 63).a) ((tS s ((tS s (da) (de) 64).a) ((tS s (da) (de) 64).e) 63).e) 1024).a) ((tS s ((tS s ((tS s (da) (de) 64).a) ((tS s (da) (de) 64).e) 63).a) ((tS s ((tS s (da) (de) 64).a) ((tS s (da) (de) 64).e) 63).e) 1024).e)).e)).a) ((dcN s 100 ((dcN s 1099511627776 ((tS s ((tS s ((tS s (da) (de) 64).a) ((tS s (da) (de) 64).e) 63).a) ((tS s ((tS s (da) (de) 64).a) ((tS s (da) (de) 64).e) 63).e) 1024).a) ((tS s ((tS s ((tS s (da) (de) 64).a) ((tS s (da) (de) 64).e) 63).a) ((tS s ((tS s (da) (de) 64).a) ((tS s (da) (de) 64).e) 63).e) 1024).e)).a) ((dcN s 1099511627776 ((tS s ((tS s ((tS s (da) (de) 64).a) ((tS s (da) (de) 64).e) 63).a) ((tS s ((tS s (da) (de) 64).a) ((tS s (da) (de) 64).e) 63).e) 1024).a) ((tS s ((tS s ((tS s (da) (de) 64).a) ((tS s (da) (de) 64).e) 63).a) ((tS s ((tS s (da) (de) 64).a) ((tS s (da) (de) 64).e) 63).e) 1024).e)).e)).e) 64).a) ((tS s ((dcN s 100 ((dcN s 1099511627776 ((tS s ((tS s ((tS s (da) (de) 64).a) ((tS s (da) (de) 64).e) 63).a) ((tS s ((tS s (da) (de) 64).a) ((tS s (da) (de) 64).e) 63).e) 1024).a) ((tS s ((tS s ((tS s (da) (de) 64).a) ((tS s (da) (de) 64).e) 63).a) ((tS s ((tS s (da) (de) 64).a) ((tS s (da) (de) 64).e) 63).e) 1024).e)).a) ((dcN s 1099511627776 ((tS s ((tS s ((tS s (da) (de) 64).a) ((tS s (da) (de) 64).e) 63).a) ((tS s ((tS s (da) (de) 64).a) ((tS s (da) (de) 64).e) 63).e) 1024).a) ((tS s ((tS s ((tS s (da) (de) 64).a) ((tS s (da) (de) 64).e) 63).a) ((tS s ((tS s (da) (de) 64).a) ((tS s (da) (de) 64).e) 63).e) 1024).e)).e)).a) ((dcN s 100 ((dcN s 1099511627776 ((tS s ((tS s ((tS s (da) (de) 64).a) ((tS s (da) (de) 64).e) 63).a) ((tS s ((tS s (da) (de) 64).a) ((tS s (da) (de) 64).e) 63).e) 1024).a) ((tS s ((tS s ((tS s (da) (de) 64).a) ((tS s (da) (de) 64).e) 63).a) ((tS s ((tS s (da) (de) 64).a) ((tS s (da) (de) 64).e) 63).e) 1024).e)).a) ((dcN s 1099511627776 ((tS s ((tS s ((tS s (da) (de) 64).a) ((tS s (da) (de) 64).e) 63).a) ((tS s ((tS s (da) (de) 64).a) ((tS s (da) (de) 64).e) 63).e) 1024).a) ((tS s ((tS s ((tS s (da) (de) 64).a) ((tS s (da) (de) 64).e) 63).a) ((tS s ((tS s (da) (de) 64).a) ((tS s (da) (de) 64).e) 63).e) 1024).e)).e)).e) 64).e)).a, (rdP s ((tS s ((dcN s 100 ((dcN s 1099511627776 ((tS s ((tS s ((tS s (da) (de) 64).a) ((tS s (da) (de) 64).e) 63).a) ((tS s ((tS s (da) (de) 64).a) ((tS s (da) (de) 64).e) 63).e) 1024).a) ((tS s ((tS s ((tS s (da) (de) 64).a) ((tS s (da) (de) 64).e) 63).a) ((tS s ((tS s (da) (de) 64).a) ((tS s (da) (de) 64).e) 63).e) 1024).e)).a) ((dcN s 1099511627776 ((tS s ((tS s ((tS s (da) (de) 64).a) ((tS s (da) (de) 64).e) 63).a) ((tS s ((tS s (da) (de) 64).a) ((tS s (da) (de) 64).e) 63).e) 1024).a) ((tS s ((tS s ((tS s (da) (de) 64).a) ((tS s (da) (de) 64).e) 63).a) ((tS s ((tS s (da) (de) 64).a) ((tS s (da) (de) 64).e) 63).e) 1024).e)).e)).a) ((dcN s 100 ((dcN s 1099511627776 ((tS s ((tS s ((tS s (da) (de) 64).a) ((tS s (da) (de) 64).e) 63).a) ((tS s ((tS s (da) (de) 64).a) ((tS s (da) (de) 64).e) 63).e) 1024).a) ((tS s ((tS s ((tS s (da) (de) 64).a) ((tS s (da) (de) 64).e) 63).a) ((tS s ((tS s (da) (de) 64).a) ((tS s (da) (de) 64).e) 63).e) 1024).e)).a) ((dcN s 1099511627776 ((tS s ((tS s ((tS s (da) (de) 64).a) ((tS s (da) (de) 64).e) 63).a) ((tS s ((tS s (da) (de) 64).a) ((tS s (da) (de) 64).e) 63).e) 1024).a) ((tS s ((tS s ((tS s (da) (de) 64).a) ((tS s (da) (de) 64).e) 63).a) ((tS s ((tS s (da) (de) 64).a) ((tS s (da) (de) 64).e) 63).e) 1024).e)).e)).e) 64).a) ((tS s ((dcN s 100 ((dcN s 1099511627776 ((tS s ((tS s ((tS s (da) (de) 64).a) ((tS s (da) (de) 64).e) 63).a) ((tS s ((tS s (da) (de) 64).a) ((tS s (da) (de) 64).e) 63).e) 1024).a) ((tS s ((tS s ((tS s (da) (de) 64).a) ((tS s (da) (de) 64).e) 63).a) ((tS s ((tS s (da) (de) 64).a) ((tS s (da) (de) 64).e) 63).e) 1024).e)).a) ((dcN s 1099511627776 ((tS s ((tS s ((tS s (da) (de) 64).a) ((tS s (da) (de) 64).e) 63).a) ((tS s ((tS s (da) (de) 64).a) ((tS s (da) (de) 64).e) 63).e) 1024).a) ((tS s ((tS s ((tS s (da) (de) 64).a) ((tS s (da) (de) 64).e) 63).a) ((tS s ((tS s (da) (de) 64).a) ((tS s (da) (de) 64).e) 63).e) 1024).e)).e)).a) ((dcN s 100 ((dcN s 1099511627776 ((tS s ((tS s ((tS s (da) (de) 64).a) ((tS s (da) (de) 64).e) 63).a) ((tS s ((tS s (da) (de) 64).a) ((tS s (da) (de) 64).e) 63).e) 1024).a) ((tS s ((tS s ((tS s (da) (de) 64).a) ((tS s (da) (de) 64).e) 63).a) ((tS s ((tS s (da) (de) 64).a) ((tS s (da) (de) 64).e) 63).e) 1024).e)).a) ((dcN s 1099511627776 ((tS s ((tS s ((tS s (da) (de) 64).a) ((tS s (da) (de) 64).e) 63).a) ((tS s ((tS s (da) (de) 64).a) ((tS s (da) (de) 64).e) 63).e) 1024).a) ((tS s ((tS s ((tS s (da) (de) 64).a) ((tS s (da) (de) 64).e) 63).a) ((tS s ((tS s (da) (de) 64).a) ((tS s (da) (de) 64).e) 63).e) 1024).e)).e)).e) 64).e)).e, ⟨7, (tS s (da) (de) 64).x, (tS s ((tS s (da) (de) 64).a) ((tS s (da) (de) 64).e) 63).x, (tS s ((tS s ((tS s (da) (de) 64).a) ((tS s (da) (de) 64).e) 63).a) ((tS s ((tS s (da) (de) 64).a) ((tS s (da) (de) 64).e) 63).e) 1024).x, ((dcN s 1099511627776 ((tS s ((tS s ((tS s (da) (de) 64).a) ((tS s (da) (de) 64).e) 63).a) ((tS s ((tS s (da) (de) 64).a) ((tS s (da) (de) 64).e) 63).e) 1024).a) ((tS s ((tS s ((tS s (da) (de) 64).a) ((tS s (da) (de) 64).e) 63).a) ((tS s ((tS s (da) (de) 64).a) ((tS s (da) (de) 64).e) 63).e) 1024).e)).n : Int), ((dcN s 100 ((dcN s 1099511627776 ((tS s ((tS s ((tS s (da) (de) 64).a) ((tS s (da) (de) 64).e) 63).a) ((tS s ((tS s (da) (de) 64).a) ((tS s (da) (de) 64).e) 63).e) 1024).a) ((tS s ((tS s ((tS s (da) (de) 64).a) ((tS s (da) (de) 64).e) 63).a) ((tS s ((tS s (da) (de) 64).a) ((tS s (da) (de) 64).e) 63).e) 1024).e)).a) ((dcN s 1099511627776 ((tS s ((tS s ((tS s (da) (de) 64).a) ((tS s (da) (de) 64).e) 63).a) ((tS s ((tS s (da) (de) 64).a) ((tS s (da) (de) 64).e) 63).e) 1024).a) ((tS s ((tS s ((tS s (da) (de) 64).a) ((tS s (da) (de) 64).e) 63).a) ((tS s ((tS s (da) (de) 64).a) ((tS s (da) (de) 64).e) 63).e) 1024).e)).e)).n : Int), (tS s ((dcN s 100 ((dcN s 1099511627776 ((tS s ((tS s ((tS s (da) (de) 64).a) ((tS s (da) (de) 64).e) 63).a) ((tS s ((tS s (da) (de) 64).a) ((tS s (da) (de) 64).e) 63).e) 1024).a) ((tS s ((tS s ((tS s (da) (de) 64).a) ((tS s (da) (de) 64).e) 63).a) ((tS s ((tS s (da) (de) 64).a) ((tS s (da) (de) 64).e) 63).e) 1024).e)).a) ((dcN s 1099511627776 ((tS s ((tS s ((tS s (da) (de) 64).a) ((tS s (da) (de) 64).e) 63).a) ((tS s ((tS s (da) (de) 64).a) ((tS s (da) (de) 64).e) 63).e) 1024).a) ((tS s ((tS s ((tS s (da) (de) 64).a) ((tS s (da) (de) 64).e) 63).a) ((tS s ((tS s (da) (de) 64).a) ((tS s (da) (de) 64).e) 63).e) 1024).e)).e)).a) ((dcN s 100 ((dcN s 1099511627776 ((tS s ((tS s ((tS s (da) (de) 64).a) ((tS s (da) (de) 64).e) 63).a) ((tS s ((tS s (da) (de) 64).a) ((tS s (da) (de) 64).e) 63).e) 1024).a) ((tS s ((tS s ((tS s (da) (de) 64).a) ((tS s (da) (de) 64).e) 63).a) ((tS s ((tS s (da) (de) 64).a) ((tS s (da) (de) 64).e) 63).e) 1024).e)).a) ((dcN s 1099511627776 ((tS s ((tS s ((tS s (da) (de) 64).a) ((tS s (da) (de) 64).e) 63).a) ((tS s ((tS s (da) (de) 64).a) ((tS s (da) (de) 64).e) 63).e) 1024).a) ((tS s ((tS s ((tS s (da) (de) 64).a) ((tS s (da) (de) 64).e) 63).a) ((tS s ((tS s (da) (de) 64).a) ((tS s (da) (de) 64).e) 63).e) 1024).e)).e)).e) 64).x, (rdP s ((tS s ((dcN s 100 ((dcN s 1099511627776 ((tS s ((tS s ((tS s (da) (de) 64).a) ((tS s (da) (de) 64).e) 63).a) ((tS s ((tS s (da) (de) 64).a) ((tS s (da) (de) 64).e) 63).e) 1024).a) ((tS s ((tS s ((tS s (da) (de) 64).a) ((tS s (da) (de) 64).e) 63).a) ((tS s ((tS s (da) (de) 64).a) ((tS s (da) (de) 64).e) 63).e) 1024).e)).a) ((dcN s 1099511627776 ((tS s ((tS s ((tS s (da) (de) 64).a) ((tS s (da) (de) 64).e) 63).a) ((tS s ((tS s (da) (de) 64).a) ((tS s (da) (de) 64).e) 63).e) 1024).a) ((tS s ((tS s ((tS s (da) (de) 64).a) ((tS s (da) (de) 64).e) 63).a) ((tS s ((tS s (da) (de) 64).a) ((tS s (da) (de) 64).e) 63).e) 1024).e)).e)).a) ((dcN s 100 ((dcN s 1099511627776 ((tS s ((tS s ((tS s (da) (de) 64).a) ((tS s (da) (de) 64).e) 63).a) ((tS s ((tS s (da) (de) 64).a) ((tS s (da) (de) 64).e) 63).e) 1024).a) ((tS s ((tS s ((tS s (da) (de) 64).a) ((tS s (da) (de) 64).e) 63).a) ((tS s ((tS s (da) (de) 64).a) ((tS s (da) (de) 64).e) 63).e) 1024).e)).a) ((dcN s 1099511627776 ((tS s ((tS s ((tS s (da) (de) 64).a) ((tS s (da) (de) 64).e) 63).a) ((tS s ((tS s (da) (de) 64).a) ((tS s (da) (de) 64).e) 63).e) 1024).a) ((tS s ((tS s ((tS s (da) (de) 64).a) ((tS s (da) (de) 64).e) 63).a) ((tS s ((tS s (da) (de) 64).a) ((tS s (da) (de) 64).e) 63).e) 1024).e)).e)).e) 64).a) ((tS s ((dcN s 100 ((dcN s 1099511627776 ((tS s ((tS s ((tS s (da) (de) 64).a) ((tS s (da) (de) 64).e) 63).a) ((tS s ((tS s (da) (de) 64).a) ((tS s (da) (de) 64).e) 63).e) 1024).a) ((tS s ((tS s ((tS s (da) (de) 64).a) ((tS s (da) (de) 64).e) 63).a) ((tS s ((tS s (da) (de) 64).a) ((tS s (da) (de) 64).e) 63).e) 1024).e)).a) ((dcN s 1099511627776 ((tS s ((tS s ((tS s (da) (de) 64).a) ((tS s (da) (de) 64).e) 63).a) ((tS s ((tS s (da) (de) 64).a) ((tS s (da) (de) 64).e) 63).e) 1024).a) ((tS s ((tS s ((tS s (da) (de) 64).a) ((tS s (da) (de) 64).e) 63).a) ((tS s ((tS s (da) (de) 64).a) ((tS s (da) (de) 64).e) 63).e) 1024).e)).e)).a) ((dcN s 100 ((dcN s 1099511627776 ((tS s ((tS s ((tS s (da) (de) 64).a) ((tS s (da) (de) 64).e) 63).a) ((tS s ((tS s (da) (de) 64).a) ((tS s (da) (de) 64).e) 63).e) 1024).a) ((tS s ((tS s ((tS s (da) (de) 64).a) ((tS s (da) (de) 64).e) 63).a) ((tS s ((tS s (da) (de) 64).a) ((tS s (da) (de) 64).e) 63).e) 1024).e)).a) ((dcN s 1099511627776 ((tS s ((tS s ((tS s (da) (de) 64).a) ((tS s (da) (de) 64).e) 63).a) ((tS s ((tS s (da) (de) 64).a) ((tS s (da) (de) 64).e) 63).e) 1024).a) ((tS s ((tS s ((tS s (da) (de) 64).a) ((tS s (da) (de) 64).e) 63).a) ((tS s ((tS s (da) (de) 64).a) ((tS s (da) (de) 64).e) 63).e) 1024).e)).e)).e) 64).e)).l, []⟩⟩ := by
    have hh : flN ((dcN s 10 0 0).n : Int) = 127 := by rw [hN]; exact (show flN 7 = 127 from by decide)
    unfold rdQ
    simp only [hh]
    simp only [q1, q2, s3, s4, s5, s6, s7, s8, r0, hN, show hasF 127 1 = true from by decide, show hasF 127 2 = true from by decide, show hasF 127 4 = true from by decide, show hasF 127 8 = true from by decide, show hasF 127 16 = true from by decide, show hasF 127 32 = true from by decide, show hasF 127 64 = true from by decide, show hasF 127 128 = false from by decide, if_true, Bool.false_eq_true, if_false]
    try rfl
  have HSM := rdQ_sm s
  have RN : Hid (∀ W, Calls Tryz.prog 44 #[.agg #[.string s, .int .i64 0, .int .i64 0], .int .i64 10] W fun r w' => r = .returned (.tuple #[.agg #[.string s, .int .i64 da, .int .i64 de], .int .i64 7]) ∧ Below W.heap.size W w') := fun W => by
    have := ref_reader_int s 0 0 10 W hsm (by omega) (nS_int s 0 0 10 (by omega))
    rw [show nS s 0 0 (fitI 10 (rdAt s 0).n) 2 = ⟨da, de, 7⟩ from hN] at this
    exact this
  have R1 : Hid (∀ W, Calls Tryz.prog 45 #[.agg #[.string s, .int .i64 (da), .int .i64 (de)], .int .i64 64] W fun r w' => r = .returned (.tuple #[.agg #[.string s, .int .i64 (tS s (da) (de) 64).a, .int .i64 (tS s (da) (de) 64).e], .string (tS s (da) (de) 64).x]) ∧ Below W.heap.size W w') := fun W => ref_reader_text s _ _ 64 W hs
  have R2 : Hid (∀ W, Calls Tryz.prog 45 #[.agg #[.string s, .int .i64 ((tS s (da) (de) 64).a), .int .i64 ((tS s (da) (de) 64).e)], .int .i64 63] W fun r w' => r = .returned (.tuple #[.agg #[.string s, .int .i64 (tS s ((tS s (da) (de) 64).a) ((tS s (da) (de) 64).e) 63).a, .int .i64 (tS s ((tS s (da) (de) 64).a) ((tS s (da) (de) 64).e) 63).e], .string (tS s ((tS s (da) (de) 64).a) ((tS s (da) (de) 64).e) 63).x]) ∧ Below W.heap.size W w') := fun W => ref_reader_text s _ _ 63 W hs
  have R3 : Hid (∀ W, Calls Tryz.prog 45 #[.agg #[.string s, .int .i64 ((tS s ((tS s (da) (de) 64).a) ((tS s (da) (de) 64).e) 63).a), .int .i64 ((tS s ((tS s (da) (de) 64).a) ((tS s (da) (de) 64).e) 63).e)], .int .i64 1024] W fun r w' => r = .returned (.tuple #[.agg #[.string s, .int .i64 (tS s ((tS s ((tS s (da) (de) 64).a) ((tS s (da) (de) 64).e) 63).a) ((tS s ((tS s (da) (de) 64).a) ((tS s (da) (de) 64).e) 63).e) 1024).a, .int .i64 (tS s ((tS s ((tS s (da) (de) 64).a) ((tS s (da) (de) 64).e) 63).a) ((tS s ((tS s (da) (de) 64).a) ((tS s (da) (de) 64).e) 63).e) 1024).e], .string (tS s ((tS s ((tS s (da) (de) 64).a) ((tS s (da) (de) 64).e) 63).a) ((tS s ((tS s (da) (de) 64).a) ((tS s (da) (de) 64).e) 63).e) 1024).x]) ∧ Below W.heap.size W w') := fun W => ref_reader_text s _ _ 1024 W hs
  have R4 : Hid (∀ W, Calls Tryz.prog 44 #[.agg #[.string s, .int .i64 ((tS s ((tS s ((tS s (da) (de) 64).a) ((tS s (da) (de) 64).e) 63).a) ((tS s ((tS s (da) (de) 64).a) ((tS s (da) (de) 64).e) 63).e) 1024).a), .int .i64 ((tS s ((tS s ((tS s (da) (de) 64).a) ((tS s (da) (de) 64).e) 63).a) ((tS s ((tS s (da) (de) 64).a) ((tS s (da) (de) 64).e) 63).e) 1024).e)], .int .i64 1099511627776] W fun r w' => r = .returned (.tuple #[.agg #[.string s, .int .i64 (dcN s 1099511627776 ((tS s ((tS s ((tS s (da) (de) 64).a) ((tS s (da) (de) 64).e) 63).a) ((tS s ((tS s (da) (de) 64).a) ((tS s (da) (de) 64).e) 63).e) 1024).a) ((tS s ((tS s ((tS s (da) (de) 64).a) ((tS s (da) (de) 64).e) 63).a) ((tS s ((tS s (da) (de) 64).a) ((tS s (da) (de) 64).e) 63).e) 1024).e)).a, .int .i64 (dcN s 1099511627776 ((tS s ((tS s ((tS s (da) (de) 64).a) ((tS s (da) (de) 64).e) 63).a) ((tS s ((tS s (da) (de) 64).a) ((tS s (da) (de) 64).e) 63).e) 1024).a) ((tS s ((tS s ((tS s (da) (de) 64).a) ((tS s (da) (de) 64).e) 63).a) ((tS s ((tS s (da) (de) 64).a) ((tS s (da) (de) 64).e) 63).e) 1024).e)).e], .int .i64 ((dcN s 1099511627776 ((tS s ((tS s ((tS s (da) (de) 64).a) ((tS s (da) (de) 64).e) 63).a) ((tS s ((tS s (da) (de) 64).a) ((tS s (da) (de) 64).e) 63).e) 1024).a) ((tS s ((tS s ((tS s (da) (de) 64).a) ((tS s (da) (de) 64).e) 63).a) ((tS s ((tS s (da) (de) 64).a) ((tS s (da) (de) 64).e) 63).e) 1024).e)).n : Int)]) ∧ Below W.heap.size W w') := fun W => ref_reader_int s _ _ 1099511627776 W hsm (by omega) (nS_int s _ _ 1099511627776 (by omega))
  have R5 : Hid (∀ W, Calls Tryz.prog 44 #[.agg #[.string s, .int .i64 ((dcN s 1099511627776 ((tS s ((tS s ((tS s (da) (de) 64).a) ((tS s (da) (de) 64).e) 63).a) ((tS s ((tS s (da) (de) 64).a) ((tS s (da) (de) 64).e) 63).e) 1024).a) ((tS s ((tS s ((tS s (da) (de) 64).a) ((tS s (da) (de) 64).e) 63).a) ((tS s ((tS s (da) (de) 64).a) ((tS s (da) (de) 64).e) 63).e) 1024).e)).a), .int .i64 ((dcN s 1099511627776 ((tS s ((tS s ((tS s (da) (de) 64).a) ((tS s (da) (de) 64).e) 63).a) ((tS s ((tS s (da) (de) 64).a) ((tS s (da) (de) 64).e) 63).e) 1024).a) ((tS s ((tS s ((tS s (da) (de) 64).a) ((tS s (da) (de) 64).e) 63).a) ((tS s ((tS s (da) (de) 64).a) ((tS s (da) (de) 64).e) 63).e) 1024).e)).e)], .int .i64 100] W fun r w' => r = .returned (.tuple #[.agg #[.string s, .int .i64 (dcN s 100 ((dcN s 1099511627776 ((tS s ((tS s ((tS s (da) (de) 64).a) ((tS s (da) (de) 64).e) 63).a) ((tS s ((tS s (da) (de) 64).a) ((tS s (da) (de) 64).e) 63).e) 1024).a) ((tS s ((tS s ((tS s (da) (de) 64).a) ((tS s (da) (de) 64).e) 63).a) ((tS s ((tS s (da) (de) 64).a) ((tS s (da) (de) 64).e) 63).e) 1024).e)).a) ((dcN s 1099511627776 ((tS s ((tS s ((tS s (da) (de) 64).a) ((tS s (da) (de) 64).e) 63).a) ((tS s ((tS s (da) (de) 64).a) ((tS s (da) (de) 64).e) 63).e) 1024).a) ((tS s ((tS s ((tS s (da) (de) 64).a) ((tS s (da) (de) 64).e) 63).a) ((tS s ((tS s (da) (de) 64).a) ((tS s (da) (de) 64).e) 63).e) 1024).e)).e)).a, .int .i64 (dcN s 100 ((dcN s 1099511627776 ((tS s ((tS s ((tS s (da) (de) 64).a) ((tS s (da) (de) 64).e) 63).a) ((tS s ((tS s (da) (de) 64).a) ((tS s (da) (de) 64).e) 63).e) 1024).a) ((tS s ((tS s ((tS s (da) (de) 64).a) ((tS s (da) (de) 64).e) 63).a) ((tS s ((tS s (da) (de) 64).a) ((tS s (da) (de) 64).e) 63).e) 1024).e)).a) ((dcN s 1099511627776 ((tS s ((tS s ((tS s (da) (de) 64).a) ((tS s (da) (de) 64).e) 63).a) ((tS s ((tS s (da) (de) 64).a) ((tS s (da) (de) 64).e) 63).e) 1024).a) ((tS s ((tS s ((tS s (da) (de) 64).a) ((tS s (da) (de) 64).e) 63).a) ((tS s ((tS s (da) (de) 64).a) ((tS s (da) (de) 64).e) 63).e) 1024).e)).e)).e], .int .i64 ((dcN s 100 ((dcN s 1099511627776 ((tS s ((tS s ((tS s (da) (de) 64).a) ((tS s (da) (de) 64).e) 63).a) ((tS s ((tS s (da) (de) 64).a) ((tS s (da) (de) 64).e) 63).e) 1024).a) ((tS s ((tS s ((tS s (da) (de) 64).a) ((tS s (da) (de) 64).e) 63).a) ((tS s ((tS s (da) (de) 64).a) ((tS s (da) (de) 64).e) 63).e) 1024).e)).a) ((dcN s 1099511627776 ((tS s ((tS s ((tS s (da) (de) 64).a) ((tS s (da) (de) 64).e) 63).a) ((tS s ((tS s (da) (de) 64).a) ((tS s (da) (de) 64).e) 63).e) 1024).a) ((tS s ((tS s ((tS s (da) (de) 64).a) ((tS s (da) (de) 64).e) 63).a) ((tS s ((tS s (da) (de) 64).a) ((tS s (da) (de) 64).e) 63).e) 1024).e)).e)).n : Int)]) ∧ Below W.heap.size W w') := fun W => ref_reader_int s _ _ 100 W hsm (by omega) (nS_int s _ _ 100 (by omega))
  have R6 : Hid (∀ W, Calls Tryz.prog 45 #[.agg #[.string s, .int .i64 ((dcN s 100 ((dcN s 1099511627776 ((tS s ((tS s ((tS s (da) (de) 64).a) ((tS s (da) (de) 64).e) 63).a) ((tS s ((tS s (da) (de) 64).a) ((tS s (da) (de) 64).e) 63).e) 1024).a) ((tS s ((tS s ((tS s (da) (de) 64).a) ((tS s (da) (de) 64).e) 63).a) ((tS s ((tS s (da) (de) 64).a) ((tS s (da) (de) 64).e) 63).e) 1024).e)).a) ((dcN s 1099511627776 ((tS s ((tS s ((tS s (da) (de) 64).a) ((tS s (da) (de) 64).e) 63).a) ((tS s ((tS s (da) (de) 64).a) ((tS s (da) (de) 64).e) 63).e) 1024).a) ((tS s ((tS s ((tS s (da) (de) 64).a) ((tS s (da) (de) 64).e) 63).a) ((tS s ((tS s (da) (de) 64).a) ((tS s (da) (de) 64).e) 63).e) 1024).e)).e)).a), .int .i64 ((dcN s 100 ((dcN s 1099511627776 ((tS s ((tS s ((tS s (da) (de) 64).a) ((tS s (da) (de) 64).e) 63).a) ((tS s ((tS s (da) (de) 64).a) ((tS s (da) (de) 64).e) 63).e) 1024).a) ((tS s ((tS s ((tS s (da) (de) 64).a) ((tS s (da) (de) 64).e) 63).a) ((tS s ((tS s (da) (de) 64).a) ((tS s (da) (de) 64).e) 63).e) 1024).e)).a) ((dcN s 1099511627776 ((tS s ((tS s ((tS s (da) (de) 64).a) ((tS s (da) (de) 64).e) 63).a) ((tS s ((tS s (da) (de) 64).a) ((tS s (da) (de) 64).e) 63).e) 1024).a) ((tS s ((tS s ((tS s (da) (de) 64).a) ((tS s (da) (de) 64).e) 63).a) ((tS s ((tS s (da) (de) 64).a) ((tS s (da) (de) 64).e) 63).e) 1024).e)).e)).e)], .int .i64 64] W fun r w' => r = .returned (.tuple #[.agg #[.string s, .int .i64 (tS s ((dcN s 100 ((dcN s 1099511627776 ((tS s ((tS s ((tS s (da) (de) 64).a) ((tS s (da) (de) 64).e) 63).a) ((tS s ((tS s (da) (de) 64).a) ((tS s (da) (de) 64).e) 63).e) 1024).a) ((tS s ((tS s ((tS s (da) (de) 64).a) ((tS s (da) (de) 64).e) 63).a) ((tS s ((tS s (da) (de) 64).a) ((tS s (da) (de) 64).e) 63).e) 1024).e)).a) ((dcN s 1099511627776 ((tS s ((tS s ((tS s (da) (de) 64).a) ((tS s (da) (de) 64).e) 63).a) ((tS s ((tS s (da) (de) 64).a) ((tS s (da) (de) 64).e) 63).e) 1024).a) ((tS s ((tS s ((tS s (da) (de) 64).a) ((tS s (da) (de) 64).e) 63).a) ((tS s ((tS s (da) (de) 64).a) ((tS s (da) (de) 64).e) 63).e) 1024).e)).e)).a) ((dcN s 100 ((dcN s 1099511627776 ((tS s ((tS s ((tS s (da) (de) 64).a) ((tS s (da) (de) 64).e) 63).a) ((tS s ((tS s (da) (de) 64).a) ((tS s (da) (de) 64).e) 63).e) 1024).a) ((tS s ((tS s ((tS s (da) (de) 64).a) ((tS s (da) (de) 64).e) 63).a) ((tS s ((tS s (da) (de) 64).a) ((tS s (da) (de) 64).e) 63).e) 1024).e)).a) ((dcN s 1099511627776 ((tS s ((tS s ((tS s (da) (de) 64).a) ((tS s (da) (de) 64).e) 63).a) ((tS s ((tS s (da) (de) 64).a) ((tS s (da) (de) 64).e) 63).e) 1024).a) ((tS s ((tS s ((tS s (da) (de) 64).a) ((tS s (da) (de) 64).e) 63).a) ((tS s ((tS s (da) (de) 64).a) ((tS s (da) (de) 64).e) 63).e) 1024).e)).e)).e) 64).a, .int .i64 (tS s ((dcN s 100 ((dcN s 1099511627776 ((tS s ((tS s ((tS s (da) (de) 64).a) ((tS s (da) (de) 64).e) 63).a) ((tS s ((tS s (da) (de) 64).a) ((tS s (da) (de) 64).e) 63).e) 1024).a) ((tS s ((tS s ((tS s (da) (de) 64).a) ((tS s (da) (de) 64).e) 63).a) ((tS s ((tS s (da) (de) 64).a) ((tS s (da) (de) 64).e) 63).e) 1024).e)).a) ((dcN s 1099511627776 ((tS s ((tS s ((tS s (da) (de) 64).a) ((tS s (da) (de) 64).e) 63).a) ((tS s ((tS s (da) (de) 64).a) ((tS s (da) (de) 64).e) 63).e) 1024).a) ((tS s ((tS s ((tS s (da) (de) 64).a) ((tS s (da) (de) 64).e) 63).a) ((tS s ((tS s (da) (de) 64).a) ((tS s (da) (de) 64).e) 63).e) 1024).e)).e)).a) ((dcN s 100 ((dcN s 1099511627776 ((tS s ((tS s ((tS s (da) (de) 64).a) ((tS s (da) (de) 64).e) 63).a) ((tS s ((tS s (da) (de) 64).a) ((tS s (da) (de) 64).e) 63).e) 1024).a) ((tS s ((tS s ((tS s (da) (de) 64).a) ((tS s (da) (de) 64).e) 63).a) ((tS s ((tS s (da) (de) 64).a) ((tS s (da) (de) 64).e) 63).e) 1024).e)).a) ((dcN s 1099511627776 ((tS s ((tS s ((tS s (da) (de) 64).a) ((tS s (da) (de) 64).e) 63).a) ((tS s ((tS s (da) (de) 64).a) ((tS s (da) (de) 64).e) 63).e) 1024).a) ((tS s ((tS s ((tS s (da) (de) 64).a) ((tS s (da) (de) 64).e) 63).a) ((tS s ((tS s (da) (de) 64).a) ((tS s (da) (de) 64).e) 63).e) 1024).e)).e)).e) 64).e], .string (tS s ((dcN s 100 ((dcN s 1099511627776 ((tS s ((tS s ((tS s (da) (de) 64).a) ((tS s (da) (de) 64).e) 63).a) ((tS s ((tS s (da) (de) 64).a) ((tS s (da) (de) 64).e) 63).e) 1024).a) ((tS s ((tS s ((tS s (da) (de) 64).a) ((tS s (da) (de) 64).e) 63).a) ((tS s ((tS s (da) (de) 64).a) ((tS s (da) (de) 64).e) 63).e) 1024).e)).a) ((dcN s 1099511627776 ((tS s ((tS s ((tS s (da) (de) 64).a) ((tS s (da) (de) 64).e) 63).a) ((tS s ((tS s (da) (de) 64).a) ((tS s (da) (de) 64).e) 63).e) 1024).a) ((tS s ((tS s ((tS s (da) (de) 64).a) ((tS s (da) (de) 64).e) 63).a) ((tS s ((tS s (da) (de) 64).a) ((tS s (da) (de) 64).e) 63).e) 1024).e)).e)).a) ((dcN s 100 ((dcN s 1099511627776 ((tS s ((tS s ((tS s (da) (de) 64).a) ((tS s (da) (de) 64).e) 63).a) ((tS s ((tS s (da) (de) 64).a) ((tS s (da) (de) 64).e) 63).e) 1024).a) ((tS s ((tS s ((tS s (da) (de) 64).a) ((tS s (da) (de) 64).e) 63).a) ((tS s ((tS s (da) (de) 64).a) ((tS s (da) (de) 64).e) 63).e) 1024).e)).a) ((dcN s 1099511627776 ((tS s ((tS s ((tS s (da) (de) 64).a) ((tS s (da) (de) 64).e) 63).a) ((tS s ((tS s (da) (de) 64).a) ((tS s (da) (de) 64).e) 63).e) 1024).a) ((tS s ((tS s ((tS s (da) (de) 64).a) ((tS s (da) (de) 64).e) 63).a) ((tS s ((tS s (da) (de) 64).a) ((tS s (da) (de) 64).e) 63).e) 1024).e)).e)).e) 64).x]) ∧ Below W.heap.size W w') := fun W => ref_reader_text s _ _ 64 W hs
  have R7 : Hid (∀ W, Calls Tryz.prog 46 #[.agg #[.string s, .int .i64 ((tS s ((dcN s 100 ((dcN s 1099511627776 ((tS s ((tS s ((tS s (da) (de) 64).a) ((tS s (da) (de) 64).e) 63).a) ((tS s ((tS s (da) (de) 64).a) ((tS s (da) (de) 64).e) 63).e) 1024).a) ((tS s ((tS s ((tS s (da) (de) 64).a) ((tS s (da) (de) 64).e) 63).a) ((tS s ((tS s (da) (de) 64).a) ((tS s (da) (de) 64).e) 63).e) 1024).e)).a) ((dcN s 1099511627776 ((tS s ((tS s ((tS s (da) (de) 64).a) ((tS s (da) (de) 64).e) 63).a) ((tS s ((tS s (da) (de) 64).a) ((tS s (da) (de) 64).e) 63).e) 1024).a) ((tS s ((tS s ((tS s (da) (de) 64).a) ((tS s (da) (de) 64).e) 63).a) ((tS s ((tS s (da) (de) 64).a) ((tS s (da) (de) 64).e) 63).e) 1024).e)).e)).a) ((dcN s 100 ((dcN s 1099511627776 ((tS s ((tS s ((tS s (da) (de) 64).a) ((tS s (da) (de) 64).e) 63).a) ((tS s ((tS s (da) (de) 64).a) ((tS s (da) (de) 64).e) 63).e) 1024).a) ((tS s ((tS s ((tS s (da) (de) 64).a) ((tS s (da) (de) 64).e) 63).a) ((tS s ((tS s (da) (de) 64).a) ((tS s (da) (de) 64).e) 63).e) 1024).e)).a) ((dcN s 1099511627776 ((tS s ((tS s ((tS s (da) (de) 64).a) ((tS s (da) (de) 64).e) 63).a) ((tS s ((tS s (da) (de) 64).a) ((tS s (da) (de) 64).e) 63).e) 1024).a) ((tS s ((tS s ((tS s (da) (de) 64).a) ((tS s (da) (de) 64).e) 63).a) ((tS s ((tS s (da) (de) 64).a) ((tS s (da) (de) 64).e) 63).e) 1024).e)).e)).e) 64).a), .int .i64 ((tS s ((dcN s 100 ((dcN s 1099511627776 ((tS s ((tS s ((tS s (da) (de) 64).a) ((tS s (da) (de) 64).e) 63).a) ((tS s ((tS s (da) (de) 64).a) ((tS s (da) (de) 64).e) 63).e) 1024).a) ((tS s ((tS s ((tS s (da) (de) 64).a) ((tS s (da) (de) 64).e) 63).a) ((tS s ((tS s (da) (de) 64).a) ((tS s (da) (de) 64).e) 63).e) 1024).e)).a) ((dcN s 1099511627776 ((tS s ((tS s ((tS s (da) (de) 64).a) ((tS s (da) (de) 64).e) 63).a) ((tS s ((tS s (da) (de) 64).a) ((tS s (da) (de) 64).e) 63).e) 1024).a) ((tS s ((tS s ((tS s (da) (de) 64).a) ((tS s (da) (de) 64).e) 63).a) ((tS s ((tS s (da) (de) 64).a) ((tS s (da) (de) 64).e) 63).e) 1024).e)).e)).a) ((dcN s 100 ((dcN s 1099511627776 ((tS s ((tS s ((tS s (da) (de) 64).a) ((tS s (da) (de) 64).e) 63).a) ((tS s ((tS s (da) (de) 64).a) ((tS s (da) (de) 64).e) 63).e) 1024).a) ((tS s ((tS s ((tS s (da) (de) 64).a) ((tS s (da) (de) 64).e) 63).a) ((tS s ((tS s (da) (de) 64).a) ((tS s (da) (de) 64).e) 63).e) 1024).e)).a) ((dcN s 1099511627776 ((tS s ((tS s ((tS s (da) (de) 64).a) ((tS s (da) (de) 64).e) 63).a) ((tS s ((tS s (da) (de) 64).a) ((tS s (da) (de) 64).e) 63).e) 1024).a) ((tS s ((tS s ((tS s (da) (de) 64).a) ((tS s (da) (de) 64).e) 63).a) ((tS s ((tS s (da) (de) 64).a) ((tS s (da) (de) 64).e) 63).e) 1024).e)).e)).e) 64).e)]] W fun r w' => ∃ ad cap, r = .returned (.tuple #[.agg #[.string s, .int .i64 (rdP s ((tS s ((dcN s 100 ((dcN s 1099511627776 ((tS s ((tS s ((tS s (da) (de) 64).a) ((tS s (da) (de) 64).e) 63).a) ((tS s ((tS s (da) (de) 64).a) ((tS s (da) (de) 64).e) 63).e) 1024).a) ((tS s ((tS s ((tS s (da) (de) 64).a) ((tS s (da) (de) 64).e) 63).a) ((tS s ((tS s (da) (de) 64).a) ((tS s (da) (de) 64).e) 63).e) 1024).e)).a) ((dcN s 1099511627776 ((tS s ((tS s ((tS s (da) (de) 64).a) ((tS s (da) (de) 64).e) 63).a) ((tS s ((tS s (da) (de) 64).a) ((tS s (da) (de) 64).e) 63).e) 1024).a) ((tS s ((tS s ((tS s (da) (de) 64).a) ((tS s (da) (de) 64).e) 63).a) ((tS s ((tS s (da) (de) 64).a) ((tS s (da) (de) 64).e) 63).e) 1024).e)).e)).a) ((dcN s 100 ((dcN s 1099511627776 ((tS s ((tS s ((tS s (da) (de) 64).a) ((tS s (da) (de) 64).e) 63).a) ((tS s ((tS s (da) (de) 64).a) ((tS s (da) (de) 64).e) 63).e) 1024).a) ((tS s ((tS s ((tS s (da) (de) 64).a) ((tS s (da) (de) 64).e) 63).a) ((tS s ((tS s (da) (de) 64).a) ((tS s (da) (de) 64).e) 63).e) 1024).e)).a) ((dcN s 1099511627776 ((tS s ((tS s ((tS s (da) (de) 64).a) ((tS s (da) (de) 64).e) 63).a) ((tS s ((tS s (da) (de) 64).a) ((tS s (da) (de) 64).e) 63).e) 1024).a) ((tS s ((tS s ((tS s (da) (de) 64).a) ((tS s (da) (de) 64).e) 63).a) ((tS s ((tS s (da) (de) 64).a) ((tS s (da) (de) 64).e) 63).e) 1024).e)).e)).e) 64).a) ((tS s ((dcN s 100 ((dcN s 1099511627776 ((tS s ((tS s ((tS s (da) (de) 64).a) ((tS s (da) (de) 64).e) 63).a) ((tS s ((tS s (da) (de) 64).a) ((tS s (da) (de) 64).e) 63).e) 1024).a) ((tS s ((tS s ((tS s (da) (de) 64).a) ((tS s (da) (de) 64).e) 63).a) ((tS s ((tS s (da) (de) 64).a) ((tS s (da) (de) 64).e) 63).e) 1024).e)).a) ((dcN s 1099511627776 ((tS s ((tS s ((tS s (da) (de) 64).a) ((tS s (da) (de) 64).e) 63).a) ((tS s ((tS s (da) (de) 64).a) ((tS s (da) (de) 64).e) 63).e) 1024).a) ((tS s ((tS s ((tS s (da) (de) 64).a) ((tS s (da) (de) 64).e) 63).a) ((tS s ((tS s (da) (de) 64).a) ((tS s (da) (de) 64).e) 63).e) 1024).e)).e)).a) ((dcN s 100 ((dcN s 1099511627776 ((tS s ((tS s ((tS s (da) (de) 64).a) ((tS s (da) (de) 64).e) 63).a) ((tS s ((tS s (da) (de) 64).a) ((tS s (da) (de) 64).e) 63).e) 1024).a) ((tS s ((tS s ((tS s (da) (de) 64).a) ((tS s (da) (de) 64).e) 63).a) ((tS s ((tS s (da) (de) 64).a) ((tS s (da) (de) 64).e) 63).e) 1024).e)).a) ((dcN s 1099511627776 ((tS s ((tS s ((tS s (da) (de) 64).a) ((tS s (da) (de) 64).e) 63).a) ((tS s ((tS s (da) (de) 64).a) ((tS s (da) (de) 64).e) 63).e) 1024).a) ((tS s ((tS s ((tS s (da) (de) 64).a) ((tS s (da) (de) 64).e) 63).a) ((tS s ((tS s (da) (de) 64).a) ((tS s (da) (de) 64).e) 63).e) 1024).e)).e)).e) 64).e)).a, .int .i64 (rdP s ((tS s ((dcN s 100 ((dcN s 1099511627776 ((tS s ((tS s ((tS s (da) (de) 64).a) ((tS s (da) (de) 64).e) 63).a) ((tS s ((tS s (da) (de) 64).a) ((tS s (da) (de) 64).e) 63).e) 1024).a) ((tS s ((tS s ((tS s (da) (de) 64).a) ((tS s (da) (de) 64).e) 63).a) ((tS s ((tS s (da) (de) 64).a) ((tS s (da) (de) 64).e) 63).e) 1024).e)).a) ((dcN s 1099511627776 ((tS s ((tS s ((tS s (da) (de) 64).a) ((tS s (da) (de) 64).e) 63).a) ((tS s ((tS s (da) (de) 64).a) ((tS s (da) (de) 64).e) 63).e) 1024).a) ((tS s ((tS s ((tS s (da) (de) 64).a) ((tS s (da) (de) 64).e) 63).a) ((tS s ((tS s (da) (de) 64).a) ((tS s (da) (de) 64).e) 63).e) 1024).e)).e)).a) ((dcN s 100 ((dcN s 1099511627776 ((tS s ((tS s ((tS s (da) (de) 64).a) ((tS s (da) (de) 64).e) 63).a) ((tS s ((tS s (da) (de) 64).a) ((tS s (da) (de) 64).e) 63).e) 1024).a) ((tS s ((tS s ((tS s (da) (de) 64).a) ((tS s (da) (de) 64).e) 63).a) ((tS s ((tS s (da) (de) 64).a) ((tS s (da) (de) 64).e) 63).e) 1024).e)).a) ((dcN s 1099511627776 ((tS s ((tS s ((tS s (da) (de) 64).a) ((tS s (da) (de) 64).e) 63).a) ((tS s ((tS s (da) (de) 64).a) ((tS s (da) (de) 64).e) 63).e) 1024).a) ((tS s ((tS s ((tS s (da) (de) 64).a) ((tS s (da) (de) 64).e) 63).a) ((tS s ((tS s (da) (de) 64).a) ((tS s (da) (de) 64).e) 63).e) 1024).e)).e)).e) 64).a) ((tS s ((dcN s 100 ((dcN s 1099511627776 ((tS s ((tS s ((tS s (da) (de) 64).a) ((tS s (da) (de) 64).e) 63).a) ((tS s ((tS s (da) (de) 64).a) ((tS s (da) (de) 64).e) 63).e) 1024).a) ((tS s ((tS s ((tS s (da) (de) 64).a) ((tS s (da) (de) 64).e) 63).a) ((tS s ((tS s (da) (de) 64).a) ((tS s (da) (de) 64).e) 63).e) 1024).e)).a) ((dcN s 1099511627776 ((tS s ((tS s ((tS s (da) (de) 64).a) ((tS s (da) (de) 64).e) 63).a) ((tS s ((tS s (da) (de) 64).a) ((tS s (da) (de) 64).e) 63).e) 1024).a) ((tS s ((tS s ((tS s (da) (de) 64).a) ((tS s (da) (de) 64).e) 63).a) ((tS s ((tS s (da) (de) 64).a) ((tS s (da) (de) 64).e) 63).e) 1024).e)).e)).a) ((dcN s 100 ((dcN s 1099511627776 ((tS s ((tS s ((tS s (da) (de) 64).a) ((tS s (da) (de) 64).e) 63).a) ((tS s ((tS s (da) (de) 64).a) ((tS s (da) (de) 64).e) 63).e) 1024).a) ((tS s ((tS s ((tS s (da) (de) 64).a) ((tS s (da) (de) 64).e) 63).a) ((tS s ((tS s (da) (de) 64).a) ((tS s (da) (de) 64).e) 63).e) 1024).e)).a) ((dcN s 1099511627776 ((tS s ((tS s ((tS s (da) (de) 64).a) ((tS s (da) (de) 64).e) 63).a) ((tS s ((tS s (da) (de) 64).a) ((tS s (da) (de) 64).e) 63).e) 1024).a) ((tS s ((tS s ((tS s (da) (de) 64).a) ((tS s (da) (de) 64).e) 63).a) ((tS s ((tS s (da) (de) 64).a) ((tS s (da) (de) 64).e) 63).e) 1024).e)).e)).e) 64).e)).e], .slice ad (rdP s ((tS s ((dcN s 100 ((dcN s 1099511627776 ((tS s ((tS s ((tS s (da) (de) 64).a) ((tS s (da) (de) 64).e) 63).a) ((tS s ((tS s (da) (de) 64).a) ((tS s (da) (de) 64).e) 63).e) 1024).a) ((tS s ((tS s ((tS s (da) (de) 64).a) ((tS s (da) (de) 64).e) 63).a) ((tS s ((tS s (da) (de) 64).a) ((tS s (da) (de) 64).e) 63).e) 1024).e)).a) ((dcN s 1099511627776 ((tS s ((tS s ((tS s (da) (de) 64).a) ((tS s (da) (de) 64).e) 63).a) ((tS s ((tS s (da) (de) 64).a) ((tS s (da) (de) 64).e) 63).e) 1024).a) ((tS s ((tS s ((tS s (da) (de) 64).a) ((tS s (da) (de) 64).e) 63).a) ((tS s ((tS s (da) (de) 64).a) ((tS s (da) (de) 64).e) 63).e) 1024).e)).e)).a) ((dcN s 100 ((dcN s 1099511627776 ((tS s ((tS s ((tS s (da) (de) 64).a) ((tS s (da) (de) 64).e) 63).a) ((tS s ((tS s (da) (de) 64).a) ((tS s (da) (de) 64).e) 63).e) 1024).a) ((tS s ((tS s ((tS s (da) (de) 64).a) ((tS s (da) (de) 64).e) 63).a) ((tS s ((tS s (da) (de) 64).a) ((tS s (da) (de) 64).e) 63).e) 1024).e)).a) ((dcN s 1099511627776 ((tS s ((tS s ((tS s (da) (de) 64).a) ((tS s (da) (de) 64).e) 63).a) ((tS s ((tS s (da) (de) 64).a) ((tS s (da) (de) 64).e) 63).e) 1024).a) ((tS s ((tS s ((tS s (da) (de) 64).a) ((tS s (da) (de) 64).e) 63).a) ((tS s ((tS s (da) (de) 64).a) ((tS s (da) (de) 64).e) 63).e) 1024).e)).e)).e) 64).a) ((tS s ((dcN s 100 ((dcN s 1099511627776 ((tS s ((tS s ((tS s (da) (de) 64).a) ((tS s (da) (de) 64).e) 63).a) ((tS s ((tS s (da) (de) 64).a) ((tS s (da) (de) 64).e) 63).e) 1024).a) ((tS s ((tS s ((tS s (da) (de) 64).a) ((tS s (da) (de) 64).e) 63).a) ((tS s ((tS s (da) (de) 64).a) ((tS s (da) (de) 64).e) 63).e) 1024).e)).a) ((dcN s 1099511627776 ((tS s ((tS s ((tS s (da) (de) 64).a) ((tS s (da) (de) 64).e) 63).a) ((tS s ((tS s (da) (de) 64).a) ((tS s (da) (de) 64).e) 63).e) 1024).a) ((tS s ((tS s ((tS s (da) (de) 64).a) ((tS s (da) (de) 64).e) 63).a) ((tS s ((tS s (da) (de) 64).a) ((tS s (da) (de) 64).e) 63).e) 1024).e)).e)).a) ((dcN s 100 ((dcN s 1099511627776 ((tS s ((tS s ((tS s (da) (de) 64).a) ((tS s (da) (de) 64).e) 63).a) ((tS s ((tS s (da) (de) 64).a) ((tS s (da) (de) 64).e) 63).e) 1024).a) ((tS s ((tS s ((tS s (da) (de) 64).a) ((tS s (da) (de) 64).e) 63).a) ((tS s ((tS s (da) (de) 64).a) ((tS s (da) (de) 64).e) 63).e) 1024).e)).a) ((dcN s 1099511627776 ((tS s ((tS s ((tS s (da) (de) 64).a) ((tS s (da) (de) 64).e) 63).a) ((tS s ((tS s (da) (de) 64).a) ((tS s (da) (de) 64).e) 63).e) 1024).a) ((tS s ((tS s ((tS s (da) (de) 64).a) ((tS s (da) (de) 64).e) 63).a) ((tS s ((tS s (da) (de) 64).a) ((tS s (da) (de) 64).e) 63).e) 1024).e)).e)).e) 64).e)).l.length cap]) ∧ OwnP w' W.heap.size 90 (.slice ad (rdP s ((tS s ((dcN s 100 ((dcN s 1099511627776 ((tS s ((tS s ((tS s (da) (de) 64).a) ((tS s (da) (de) 64).e) 63).a) ((tS s ((tS s (da) (de) 64).a) ((tS s (da) (de) 64).e) 63).e) 1024).a) ((tS s ((tS s ((tS s (da) (de) 64).a) ((tS s (da) (de) 64).e) 63).a) ((tS s ((tS s (da) (de) 64).a) ((tS s (da) (de) 64).e) 63).e) 1024).e)).a) ((dcN s 1099511627776 ((tS s ((tS s ((tS s (da) (de) 64).a) ((tS s (da) (de) 64).e) 63).a) ((tS s ((tS s (da) (de) 64).a) ((tS s (da) (de) 64).e) 63).e) 1024).a) ((tS s ((tS s ((tS s (da) (de) 64).a) ((tS s (da) (de) 64).e) 63).a) ((tS s ((tS s (da) (de) 64).a) ((tS s (da) (de) 64).e) 63).e) 1024).e)).e)).a) ((dcN s 100 ((dcN s 1099511627776 ((tS s ((tS s ((tS s (da) (de) 64).a) ((tS s (da) (de) 64).e) 63).a) ((tS s ((tS s (da) (de) 64).a) ((tS s (da) (de) 64).e) 63).e) 1024).a) ((tS s ((tS s ((tS s (da) (de) 64).a) ((tS s (da) (de) 64).e) 63).a) ((tS s ((tS s (da) (de) 64).a) ((tS s (da) (de) 64).e) 63).e) 1024).e)).a) ((dcN s 1099511627776 ((tS s ((tS s ((tS s (da) (de) 64).a) ((tS s (da) (de) 64).e) 63).a) ((tS s ((tS s (da) (de) 64).a) ((tS s (da) (de) 64).e) 63).e) 1024).a) ((tS s ((tS s ((tS s (da) (de) 64).a) ((tS s (da) (de) 64).e) 63).a) ((tS s ((tS s (da) (de) 64).a) ((tS s (da) (de) 64).e) 63).e) 1024).e)).e)).e) 64).a) ((tS s ((dcN s 100 ((dcN s 1099511627776 ((tS s ((tS s ((tS s (da) (de) 64).a) ((tS s (da) (de) 64).e) 63).a) ((tS s ((tS s (da) (de) 64).a) ((tS s (da) (de) 64).e) 63).e) 1024).a) ((tS s ((tS s ((tS s (da) (de) 64).a) ((tS s (da) (de) 64).e) 63).a) ((tS s ((tS s (da) (de) 64).a) ((tS s (da) (de) 64).e) 63).e) 1024).e)).a) ((dcN s 1099511627776 ((tS s ((tS s ((tS s (da) (de) 64).a) ((tS s (da) (de) 64).e) 63).a) ((tS s ((tS s (da) (de) 64).a) ((tS s (da) (de) 64).e) 63).e) 1024).a) ((tS s ((tS s ((tS s (da) (de) 64).a) ((tS s (da) (de) 64).e) 63).a) ((tS s ((tS s (da) (de) 64).a) ((tS s (da) (de) 64).e) 63).e) 1024).e)).e)).a) ((dcN s 100 ((dcN s 1099511627776 ((tS s ((tS s ((tS s (da) (de) 64).a) ((tS s (da) (de) 64).e) 63).a) ((tS s ((tS s (da) (de) 64).a) ((tS s (da) (de) 64).e) 63).e) 1024).a) ((tS s ((tS s ((tS s (da) (de) 64).a) ((tS s (da) (de) 64).e) 63).a) ((tS s ((tS s (da) (de) 64).a) ((tS s (da) (de) 64).e) 63).e) 1024).e)).a) ((dcN s 1099511627776 ((tS s ((tS s ((tS s (da) (de) 64).a) ((tS s (da) (de) 64).e) 63).a) ((tS s ((tS s (da) (de) 64).a) ((tS s (da) (de) 64).e) 63).e) 1024).a) ((tS s ((tS s ((tS s (da) (de) 64).a) ((tS s (da) (de) 64).e) 63).a) ((tS s ((tS s (da) (de) 64).a) ((tS s (da) (de) 64).e) 63).e) 1024).e)).e)).e) 64).e)).l.length cap) (rdP s ((tS s ((dcN s 100 ((dcN s 1099511627776 ((tS s ((tS s ((tS s (da) (de) 64).a) ((tS s (da) (de) 64).e) 63).a) ((tS s ((tS s (da) (de) 64).a) ((tS s (da) (de) 64).e) 63).e) 1024).a) ((tS s ((tS s ((tS s (da) (de) 64).a) ((tS s (da) (de) 64).e) 63).a) ((tS s ((tS s (da) (de) 64).a) ((tS s (da) (de) 64).e) 63).e) 1024).e)).a) ((dcN s 1099511627776 ((tS s ((tS s ((tS s (da) (de) 64).a) ((tS s (da) (de) 64).e) 63).a) ((tS s ((tS s (da) (de) 64).a) ((tS s (da) (de) 64).e) 63).e) 1024).a) ((tS s ((tS s ((tS s (da) (de) 64).a) ((tS s (da) (de) 64).e) 63).a) ((tS s ((tS s (da) (de) 64).a) ((tS s (da) (de) 64).e) 63).e) 1024).e)).e)).a) ((dcN s 100 ((dcN s 1099511627776 ((tS s ((tS s ((tS s (da) (de) 64).a) ((tS s (da) (de) 64).e) 63).a) ((tS s ((tS s (da) (de) 64).a) ((tS s (da) (de) 64).e) 63).e) 1024).a) ((tS s ((tS s ((tS s (da) (de) 64).a) ((tS s (da) (de) 64).e) 63).a) ((tS s ((tS s (da) (de) 64).a) ((tS s (da) (de) 64).e) 63).e) 1024).e)).a) ((dcN s 1099511627776 ((tS s ((tS s ((tS s (da) (de) 64).a) ((tS s (da) (de) 64).e) 63).a) ((tS s ((tS s (da) (de) 64).a) ((tS s (da) (de) 64).e) 63).e) 1024).a) ((tS s ((tS s ((tS s (da) (de) 64).a) ((tS s (da) (de) 64).e) 63).a) ((tS s ((tS s (da) (de) 64).a) ((tS s (da) (de) 64).e) 63).e) 1024).e)).e)).e) 64).a) ((tS s ((dcN s 100 ((dcN s 1099511627776 ((tS s ((tS s ((tS s (da) (de) 64).a) ((tS s (da) (de) 64).e) 63).a) ((tS s ((tS s (da) (de) 64).a) ((tS s (da) (de) 64).e) 63).e) 1024).a) ((tS s ((tS s ((tS s (da) (de) 64).a) ((tS s (da) (de) 64).e) 63).a) ((tS s ((tS s (da) (de) 64).a) ((tS s (da) (de) 64).e) 63).e) 1024).e)).a) ((dcN s 1099511627776 ((tS s ((tS s ((tS s (da) (de) 64).a) ((tS s (da) (de) 64).e) 63).a) ((tS s ((tS s (da) (de) 64).a) ((tS s (da) (de) 64).e) 63).e) 1024).a) ((tS s ((tS s ((tS s (da) (de) 64).a) ((tS s (da) (de) 64).e) 63).a) ((tS s ((tS s (da) (de) 64).a) ((tS s (da) (de) 64).e) 63).e) 1024).e)).e)).a) ((dcN s 100 ((dcN s 1099511627776 ((tS s ((tS s ((tS s (da) (de) 64).a) ((tS s (da) (de) 64).e) 63).a) ((tS s ((tS s (da) (de) 64).a) ((tS s (da) (de) 64).e) 63).e) 1024).a) ((tS s ((tS s ((tS s (da) (de) 64).a) ((tS s (da) (de) 64).e) 63).a) ((tS s ((tS s (da) (de) 64).a) ((tS s (da) (de) 64).e) 63).e) 1024).e)).a) ((dcN s 1099511627776 ((tS s ((tS s ((tS s (da) (de) 64).a) ((tS s (da) (de) 64).e) 63).a) ((tS s ((tS s (da) (de) 64).a) ((tS s (da) (de) 64).e) 63).e) 1024).a) ((tS s ((tS s ((tS s (da) (de) 64).a) ((tS s (da) (de) 64).e) 63).a) ((tS s ((tS s (da) (de) 64).a) ((tS s (da) (de) 64).e) 63).e) 1024).e)).e)).e) 64).e)).l ∧ Below W.heap.size W w') := fun W => rread_any s _ _ W hs
  clear hs hsm hN
  generalize tS s da de 64 = Y1 at *
  obtain ⟨a1, e1, x1⟩ := Y1
  simp only at *
  generalize tS s a1 e1 63 = Y2 at *
  obtain ⟨a2, e2, x2⟩ := Y2
  simp only at *
  generalize tS s a2 e2 1024 = Y3 at *
  obtain ⟨a3, e3, x3⟩ := Y3
  simp only at *
  generalize dcN s 1099511627776 a3 e3 = Y4 at *
  obtain ⟨a4, e4, x4⟩ := Y4
  simp only at *
  generalize dcN s 100 a4 e4 = Y5 at *
  obtain ⟨a5, e5, x5⟩ := Y5
  simp only at *
  generalize tS s a5 e5 64 = Y6 at *
  obtain ⟨a6, e6, x6⟩ := Y6
  simp only at *
  generalize rdP s a6 e6 = Y7 at *
  obtain ⟨a7, e7, x7⟩ := Y7
  simp only at *
  have HOK : Hid (qcOk s = ((endE s a7 e7 == 0) && cmOk (⟨7, x1, x2, x3, (x4 : Int), (x5 : Int), x6, x7, []⟩ : Cm))) := by show _ = _; unfold qcOk; rw [HQ]
  have HD : Hid (qcC s = (if qcOk s = true then (⟨7, x1, x2, x3, (x4 : Int), (x5 : Int), x6, x7, []⟩ : Cm) else cm0) ∧ qcE s = (if qcOk s = true then 0 else 3)) := by refine ⟨?_, rfl⟩; unfold qcC; rw [HQ]
  rw [HQ] at HSM
  have CK : Hid (∀ pv kv W, PcI W pv (⟨7, x1, x2, x3, (x4 : Int), (x5 : Int), x6, x7, []⟩ : Cm).ps → PkI W kv (⟨7, x1, x2, x3, (x4 : Int), (x5 : Int), x6, x7, []⟩ : Cm).ks → Calls Tryz.prog 14 #[cmV pv kv (⟨7, x1, x2, x3, (x4 : Int), (x5 : Int), x6, x7, []⟩ : Cm)] W fun e w' => e = .returned (.int .i64 (ckN (⟨7, x1, x2, x3, (x4 : Int), (x5 : Int), x6, x7, []⟩ : Cm))) ∧ Below W.heap.size W w') := fun pv kv W h1 h2 => rcheck16_any pv kv _ W h1 h2 HSM.sz
  have RE := hid (fun W => ref_reader_end s a7 e7 W)
  clear HQ HSM
  unfold GiveQc
  unfold ckN cmV at CK
  generalize qcC s = DC at *
  generalize qcE s = DE at *
  generalize qcOk s = OK at *
  generalize cmOk (⟨7, x1, x2, x3, (x4 : Int), (x5 : Int), x6, x7, []⟩ : Cm) = ok at *
  generalize endE s a7 e7 = en at *
  simp only at CK
  have HK1 : Hid (∀ W, Calls Tryz.prog 35 #[.int .i64 7] W fun e w' => e = .returned (.bool true) ∧ w' = W) := fun W => hasKey_any 7 W
  have HI1 : Hid (∀ W, Calls Tryz.prog 37 #[.int .i64 7] W fun e w' => e = .returned (.bool true) ∧ w' = W) := fun W => hasID_any 7 W
  have HS1 : Hid (∀ W, Calls Tryz.prog 39 #[.int .i64 7] W fun e w' => e = .returned (.bool true) ∧ w' = W) := fun W => hasSum_any 7 W
  go_enter Tryz.func16, Tryz.ntmps16
  go_wp2_with fail
  refine (RN.out _).mono ?_
  rintro e0 w1 ⟨rfl, b1⟩
  have S0 := hid (rcs_new (s := s) (a := da) (e := de) (k := 7) b1)
  clear RN b1
  go_upto_region 3 with fail
  generalize ((w1.alloc (.cells #[.string s, .int .i64 da, .int .i64 de] 79)).alloc (.cells #[.int .i64 7, .string ⟨#[]⟩, .string ⟨#[]⟩, .string ⟨#[]⟩, .int .i64 0, .int .i64 0, .string ⟨#[]⟩, .slice none 0 0, .slice none 0 0] 34)) = V0 at *
  generalize w1.heap.size = g at *
  have c0 := S0.out.rd.cellAt (o := 0) rfl
  have c1 := S0.out.rd.cellAt (o := 1) rfl
  have c2 := S0.out.rd.cellAt (o := 2) rfl
  go_wp2_with fail
  refine (R1.out _).mono ?_
  rintro e1' v1 ⟨rfl, b1⟩
  have P1 := hid ((S0.out.call b1).al (.cells #[.string s, .int .i64 a1, .int .i64 e1] 79))
  clear b1 R1 S0 c0 c1 c2
  go_wp2_with fail
  refine (R2.out _).mono ?_
  rintro e2' v2 ⟨rfl, b2⟩
  have P2 := hid ((P1.out.call b2).al (.cells #[.string s, .int .i64 a2, .int .i64 e2] 79))
  have HL2 := hid (P1.out.call b2).bx.lt
  clear b2 R2 P1
  have c0 := P2.out.rd.cellAt (o := 0) rfl
  have f0 : (v2.alloc (.cells #[.string s, .int .i64 a2, .int .i64 e2] 79)).frozen? ⟨g, 0, none⟩ = false := P2.out.rd.frozen
  have c1 := P2.out.rd.cellAt (o := 1) rfl
  have f1 : (v2.alloc (.cells #[.string s, .int .i64 a2, .int .i64 e2] 79)).frozen? ⟨g, 1, none⟩ = false := P2.out.rd.frozen
  have c2 := P2.out.rd.cellAt (o := 2) rfl
  have f2 : (v2.alloc (.cells #[.string s, .int .i64 a2, .int .i64 e2] 79)).frozen? ⟨g, 2, none⟩ = false := P2.out.rd.frozen
  have z1 := P2.out.bx.cellAt (o := 1) rfl
  have y1 : (v2.alloc (.cells #[.string s, .int .i64 a2, .int .i64 e2] 79)).frozen? ⟨g + 1, 1, none⟩ = false := P2.out.bx.frozen
  have z2 := P2.out.bx.cellAt (o := 2) rfl
  have y2 : (v2.alloc (.cells #[.string s, .int .i64 a2, .int .i64 e2] 79)).frozen? ⟨g + 1, 2, none⟩ = false := P2.out.bx.frozen
  have n1 : v2.heap.size ≠ g := by have h9 := HL2.out; omega
  have n2 : g ≠ v2.heap.size := fun h => n1 h.symm
  have n3 : v2.heap.size ≠ g + 1 := by have h9 := HL2.out; omega
  have n4 : g + 1 ≠ v2.heap.size := fun h => n3 h.symm
  go_upto_region 9 with fail
  have S2 := hid ((((P2.out).fld 1 (.string x1) (.slice none 0 0) (.slice none 0 0) ⟨7, x1, ⟨#[]⟩, ⟨#[]⟩, 0, 0, ⟨#[]⟩, [], []⟩ rfl P2.out.op P2.out.ok).fld 2 (.string x2) (.slice none 0 0) (.slice none 0 0) ⟨7, x1, x2, ⟨#[]⟩, 0, 0, ⟨#[]⟩, [], []⟩ rfl (ownP_set (P2.out.op) (by omega)) (ownK_set (P2.out.ok) (by omega))).put a2 e2)
  clear P2 c0 c1 c2 f0 f1 f2 z1 y1 z2 y2 n1 n2 n3 n4 
  clear HL2
  generalize ((((((v2.alloc (.cells #[.string s, .int .i64 a2, .int .i64 e2] 79)).setCell ⟨g + 1, 1, none⟩ (.string x1)).setCell ⟨g + 1, 2, none⟩ (.string x2)).setCell ⟨g, 0, none⟩ (.string s)).setCell ⟨g, 1, none⟩ (.int .i64 a2)).setCell ⟨g, 2, none⟩ (.int .i64 e2)) = V2 at *
  go_wp2_with fail
  refine (HK1.out _).mono ?_
  rintro et1 vt1 ⟨rfl, rfl⟩
  clear HK1
  have c0 := S2.out.rd.cellAt (o := 0) rfl
  have c1 := S2.out.rd.cellAt (o := 1) rfl
  have c2 := S2.out.rd.cellAt (o := 2) rfl
  go_wp2_with fail
  refine (R3.out _).mono ?_
  rintro e3' v3 ⟨rfl, b3⟩
  have P3 := hid ((S2.out.call b3).al (.cells #[.string s, .int .i64 a3, .int .i64 e3] 79))
  have HL3 := hid (S2.out.call b3).bx.lt
  clear b3 R3 S2 c0 c1 c2
  have c0 := P3.out.rd.cellAt (o := 0) rfl
  have f0 : (v3.alloc (.cells #[.string s, .int .i64 a3, .int .i64 e3] 79)).frozen? ⟨g, 0, none⟩ = false := P3.out.rd.frozen
  have c1 := P3.out.rd.cellAt (o := 1) rfl
  have f1 : (v3.alloc (.cells #[.string s, .int .i64 a3, .int .i64 e3] 79)).frozen? ⟨g, 1, none⟩ = false := P3.out.rd.frozen
  have c2 := P3.out.rd.cellAt (o := 2) rfl
  have f2 : (v3.alloc (.cells #[.string s, .int .i64 a3, .int .i64 e3] 79)).frozen? ⟨g, 2, none⟩ = false := P3.out.rd.frozen
  have z3 := P3.out.bx.cellAt (o := 3) rfl
  have y3 : (v3.alloc (.cells #[.string s, .int .i64 a3, .int .i64 e3] 79)).frozen? ⟨g + 1, 3, none⟩ = false := P3.out.bx.frozen
  have n1 : v3.heap.size ≠ g := by have h9 := HL3.out; omega
  have n2 : g ≠ v3.heap.size := fun h => n1 h.symm
  have n3 : v3.heap.size ≠ g + 1 := by have h9 := HL3.out; omega
  have n4 : g + 1 ≠ v3.heap.size := fun h => n3 h.symm
  go_upto_region 13 with fail
  have S3 := hid (((P3.out).fld 3 (.string x3) (.slice none 0 0) (.slice none 0 0) ⟨7, x1, x2, x3, 0, 0, ⟨#[]⟩, [], []⟩ rfl P3.out.op P3.out.ok).put a3 e3)
  clear P3 c0 c1 c2 f0 f1 f2 z3 y3 n1 n2 n3 n4 
  clear HL3
  generalize (((((v3.alloc (.cells #[.string s, .int .i64 a3, .int .i64 e3] 79)).setCell ⟨g + 1, 3, none⟩ (.string x3)).setCell ⟨g, 0, none⟩ (.string s)).setCell ⟨g, 1, none⟩ (.int .i64 a3)).setCell ⟨g, 2, none⟩ (.int .i64 e3)) = V3 at *
  go_wp2_with fail
  refine (HI1.out _).mono ?_
  rintro et2 vt2 ⟨rfl, rfl⟩
  clear HI1
  have c0 := S3.out.rd.cellAt (o := 0) rfl
  have c1 := S3.out.rd.cellAt (o := 1) rfl
  have c2 := S3.out.rd.cellAt (o := 2) rfl
  go_wp2_with fail
  refine (R4.out _).mono ?_
  rintro e4' v4 ⟨rfl, b4⟩
  have P4 := hid ((S3.out.call b4).al (.cells #[.string s, .int .i64 a4, .int .i64 e4] 79))
  have HL4 := hid (S3.out.call b4).bx.lt
  clear b4 R4 S3 c0 c1 c2
  have c0 := P4.out.rd.cellAt (o := 0) rfl
  have f0 : (v4.alloc (.cells #[.string s, .int .i64 a4, .int .i64 e4] 79)).frozen? ⟨g, 0, none⟩ = false := P4.out.rd.frozen
  have c1 := P4.out.rd.cellAt (o := 1) rfl
  have f1 : (v4.alloc (.cells #[.string s, .int .i64 a4, .int .i64 e4] 79)).frozen? ⟨g, 1, none⟩ = false := P4.out.rd.frozen
  have c2 := P4.out.rd.cellAt (o := 2) rfl
  have f2 : (v4.alloc (.cells #[.string s, .int .i64 a4, .int .i64 e4] 79)).frozen? ⟨g, 2, none⟩ = false := P4.out.rd.frozen
  have z4 := P4.out.bx.cellAt (o := 4) rfl
  have y4 : (v4.alloc (.cells #[.string s, .int .i64 a4, .int .i64 e4] 79)).frozen? ⟨g + 1, 4, none⟩ = false := P4.out.bx.frozen
  have n1 : v4.heap.size ≠ g := by have h9 := HL4.out; omega
  have n2 : g ≠ v4.heap.size := fun h => n1 h.symm
  have n3 : v4.heap.size ≠ g + 1 := by have h9 := HL4.out; omega
  have n4 : g + 1 ≠ v4.heap.size := fun h => n3 h.symm
  go_upto_region 17 with fail
  have S4 := hid (((P4.out).fld 4 (.int .i64 (x4 : Int)) (.slice none 0 0) (.slice none 0 0) ⟨7, x1, x2, x3, (x4 : Int), 0, ⟨#[]⟩, [], []⟩ rfl P4.out.op P4.out.ok).put a4 e4)
  clear P4 c0 c1 c2 f0 f1 f2 z4 y4 n1 n2 n3 n4 
  clear HL4
  generalize (((((v4.alloc (.cells #[.string s, .int .i64 a4, .int .i64 e4] 79)).setCell ⟨g + 1, 4, none⟩ (.int .i64 (x4 : Int))).setCell ⟨g, 0, none⟩ (.string s)).setCell ⟨g, 1, none⟩ (.int .i64 a4)).setCell ⟨g, 2, none⟩ (.int .i64 e4)) = V4 at *
  have c0 := S4.out.rd.cellAt (o := 0) rfl
  have c1 := S4.out.rd.cellAt (o := 1) rfl
  have c2 := S4.out.rd.cellAt (o := 2) rfl
  go_wp2_with fail
  refine (R5.out _).mono ?_
  rintro e5' v5 ⟨rfl, b5⟩
  have P5 := hid ((S4.out.call b5).al (.cells #[.string s, .int .i64 a5, .int .i64 e5] 79))
  have HL5 := hid (S4.out.call b5).bx.lt
  clear b5 R5 S4 c0 c1 c2
  have c0 := P5.out.rd.cellAt (o := 0) rfl
  have f0 : (v5.alloc (.cells #[.string s, .int .i64 a5, .int .i64 e5] 79)).frozen? ⟨g, 0, none⟩ = false := P5.out.rd.frozen
  have c1 := P5.out.rd.cellAt (o := 1) rfl
  have f1 : (v5.alloc (.cells #[.string s, .int .i64 a5, .int .i64 e5] 79)).frozen? ⟨g, 1, none⟩ = false := P5.out.rd.frozen
  have c2 := P5.out.rd.cellAt (o := 2) rfl
  have f2 : (v5.alloc (.cells #[.string s, .int .i64 a5, .int .i64 e5] 79)).frozen? ⟨g, 2, none⟩ = false := P5.out.rd.frozen
  have z5 := P5.out.bx.cellAt (o := 5) rfl
  have y5 : (v5.alloc (.cells #[.string s, .int .i64 a5, .int .i64 e5] 79)).frozen? ⟨g + 1, 5, none⟩ = false := P5.out.bx.frozen
  have n1 : v5.heap.size ≠ g := by have h9 := HL5.out; omega
  have n2 : g ≠ v5.heap.size := fun h => n1 h.symm
  have n3 : v5.heap.size ≠ g + 1 := by have h9 := HL5.out; omega
  have n4 : g + 1 ≠ v5.heap.size := fun h => n3 h.symm
  go_upto_region 21 with fail
  have S5 := hid (((P5.out).fld 5 (.int .i64 (x5 : Int)) (.slice none 0 0) (.slice none 0 0) ⟨7, x1, x2, x3, (x4 : Int), (x5 : Int), ⟨#[]⟩, [], []⟩ rfl P5.out.op P5.out.ok).put a5 e5)
  clear P5 c0 c1 c2 f0 f1 f2 z5 y5 n1 n2 n3 n4 
  clear HL5
  generalize (((((v5.alloc (.cells #[.string s, .int .i64 a5, .int .i64 e5] 79)).setCell ⟨g + 1, 5, none⟩ (.int .i64 (x5 : Int))).setCell ⟨g, 0, none⟩ (.string s)).setCell ⟨g, 1, none⟩ (.int .i64 a5)).setCell ⟨g, 2, none⟩ (.int .i64 e5)) = V5 at *
  go_wp2_with fail
  refine (HS1.out _).mono ?_
  rintro et3 vt3 ⟨rfl, rfl⟩
  clear HS1
  have c0 := S5.out.rd.cellAt (o := 0) rfl
  have c1 := S5.out.rd.cellAt (o := 1) rfl
  have c2 := S5.out.rd.cellAt (o := 2) rfl
  go_wp2_with fail
  refine (R6.out _).mono ?_
  rintro e6' v6 ⟨rfl, b6⟩
  have P6 := hid ((S5.out.call b6).al (.cells #[.string s, .int .i64 a6, .int .i64 e6] 79))
  clear b6 R6 S5 c0 c1 c2
  go_wp2_with fail
  refine (R7.out _).mono ?_
  rintro e7' v7 ⟨ad7, cap7, rfl, ho7, b7⟩
  have HO7 := hid (ownP_low ho7 (show g + 2 ≤ _ from P6.out.bx.lt))
  clear ho7
  have P7 := hid ((P6.out.call b7).al (.cells #[.string s, .int .i64 a7, .int .i64 e7] 79))
  have HL7 := hid (P6.out.call b7).bx.lt
  have HP7 := hid (HO7.out.next ((Below.refl v7.heap.size v7).alloc (Nat.le_refl _) (.cells #[.string s, .int .i64 a7, .int .i64 e7] 79)))
  clear HO7
  generalize hl7 : x7.length = ln7 at *
  clear b7 R7 P6
  have c0 := P7.out.rd.cellAt (o := 0) rfl
  have f0 : (v7.alloc (.cells #[.string s, .int .i64 a7, .int .i64 e7] 79)).frozen? ⟨g, 0, none⟩ = false := P7.out.rd.frozen
  have c1 := P7.out.rd.cellAt (o := 1) rfl
  have f1 : (v7.alloc (.cells #[.string s, .int .i64 a7, .int .i64 e7] 79)).frozen? ⟨g, 1, none⟩ = false := P7.out.rd.frozen
  have c2 := P7.out.rd.cellAt (o := 2) rfl
  have f2 : (v7.alloc (.cells #[.string s, .int .i64 a7, .int .i64 e7] 79)).frozen? ⟨g, 2, none⟩ = false := P7.out.rd.frozen
  have z6 := P7.out.bx.cellAt (o := 6) rfl
  have y6 : (v7.alloc (.cells #[.string s, .int .i64 a7, .int .i64 e7] 79)).frozen? ⟨g + 1, 6, none⟩ = false := P7.out.bx.frozen
  have z7 := P7.out.bx.cellAt (o := 7) rfl
  have y7 : (v7.alloc (.cells #[.string s, .int .i64 a7, .int .i64 e7] 79)).frozen? ⟨g + 1, 7, none⟩ = false := P7.out.bx.frozen
  have n1 : v7.heap.size ≠ g := by have h9 := HL7.out; omega
  have n2 : g ≠ v7.heap.size := fun h => n1 h.symm
  have n3 : v7.heap.size ≠ g + 1 := by have h9 := HL7.out; omega
  have n4 : g + 1 ≠ v7.heap.size := fun h => n3 h.symm
  go_upto_region 27 with fail
  have S7 := hid ((((P7.out).fld 6 (.string x6) (.slice none 0 0) (.slice none 0 0) ⟨7, x1, x2, x3, (x4 : Int), (x5 : Int), x6, [], []⟩ rfl P7.out.op P7.out.ok).fld 7 (.slice ad7 ln7 cap7) (.slice ad7 ln7 cap7) (.slice none 0 0) ⟨7, x1, x2, x3, (x4 : Int), (x5 : Int), x6, x7, []⟩ rfl (ownP_set (HP7.out) (by omega)) (ownK_set (P7.out.ok) (by omega))).put a7 e7)
  clear P7 c0 c1 c2 f0 f1 f2 z6 y6 z7 y7 n1 n2 n3 n4 HP7
  clear HL7
  generalize ((((((v7.alloc (.cells #[.string s, .int .i64 a7, .int .i64 e7] 79)).setCell ⟨g + 1, 6, none⟩ (.string x6)).setCell ⟨g + 1, 7, none⟩ (.slice ad7 ln7 cap7)).setCell ⟨g, 0, none⟩ (.string s)).setCell ⟨g, 1, none⟩ (.int .i64 a7)).setCell ⟨g, 2, none⟩ (.int .i64 e7)) = V7 at *
  have c0 := S7.out.rd.cellAt (o := 0) rfl
  have c1 := S7.out.rd.cellAt (o := 1) rfl
  have c2 := S7.out.rd.cellAt (o := 2) rfl
  go_wp2_with fail
  refine (RE.out _).mono ?_
  rintro e9' v9 ⟨rfl, b9⟩
  have S9 := hid (S7.out.call b9)
  clear RE b9 S7 c0 c1 c2
  have hfd : ∀ W : World, (Instr.field 79 (.agg #[.string s, .int .i64 a7, .int .i64 en]) 2).run Tryz.prog W = .ok (.int .i64 en) W := fun _ => by kernel_rfl
  by_cases hen : en = 0
  · subst hen
    have HNE : w.heap.size ≠ g + 1 := by have := S9.out.lo; omega
    have HNE2 : g + 1 ≠ w.heap.size := fun h => HNE h.symm
    have CK9 := hid (CK.out _ _ _ S9.out.op.pcs S9.out.ok.pks)
    clear CK
    cases ok
    · obtain rfl : OK = false := HOK.out
      obtain ⟨rfl, rfl⟩ := HD.out
      clear HOK HD
      have c0 := S9.out.bx.cellAt (o := 0) rfl
      have c1 := S9.out.bx.cellAt (o := 1) rfl
      have c2 := S9.out.bx.cellAt (o := 2) rfl
      have c3 := S9.out.bx.cellAt (o := 3) rfl
      have c4 := S9.out.bx.cellAt (o := 4) rfl
      have c5 := S9.out.bx.cellAt (o := 5) rfl
      have c6 := S9.out.bx.cellAt (o := 6) rfl
      have c7 := S9.out.bx.cellAt (o := 7) rfl
      have c8 := S9.out.bx.cellAt (o := 8) rfl
      go_wp2_with fail
      refine CK9.out.mono ?_
      rintro e10 w10 ⟨rfl, b10⟩
      have S10 := hid (S9.out.call b10)
      clear CK9 b10 S9 c0 c1 c2 c3 c4 c5 c6 c7 c8
      have d0 := S10.out.rs.cellAt (o := 0) rfl
      have f0 : w10.frozen? ⟨w.heap.size, 0, none⟩ = false := S10.out.rs.frozen
      have d1 := S10.out.rs.cellAt (o := 1) rfl
      have f1 : w10.frozen? ⟨w.heap.size, 1, none⟩ = false := S10.out.rs.frozen
      have d2 := S10.out.rs.cellAt (o := 2) rfl
      have f2 : w10.frozen? ⟨w.heap.size, 2, none⟩ = false := S10.out.rs.frozen
      have d3 := S10.out.rs.cellAt (o := 3) rfl
      have f3 : w10.frozen? ⟨w.heap.size, 3, none⟩ = false := S10.out.rs.frozen
      have d4 := S10.out.rs.cellAt (o := 4) rfl
      have f4 : w10.frozen? ⟨w.heap.size, 4, none⟩ = false := S10.out.rs.frozen
      have d5 := S10.out.rs.cellAt (o := 5) rfl
      have f5 : w10.frozen? ⟨w.heap.size, 5, none⟩ = false := S10.out.rs.frozen
      have d6 := S10.out.rs.cellAt (o := 6) rfl
      have f6 : w10.frozen? ⟨w.heap.size, 6, none⟩ = false := S10.out.rs.frozen
      have d7 := S10.out.rs.cellAt (o := 7) rfl
      have f7 : w10.frozen? ⟨w.heap.size, 7, none⟩ = false := S10.out.rs.frozen
      have d8 := S10.out.rs.cellAt (o := 8) rfl
      have f8 : w10.frozen? ⟨w.heap.size, 8, none⟩ = false := S10.out.rs.frozen
      have FB := hid S10.out.bad
      clear S10
      go_wp2
      exact bodyPost_ret (ret_ct16 (p := 2) (u := 3) rfl _ _ w.heap.size #[.int .i64 0, .string ⟨#[]⟩, .string ⟨#[]⟩, .string ⟨#[]⟩, .int .i64 0, .int .i64 0, .string ⟨#[]⟩, .slice none 0 0, .slice none 0 0] (.int .i64 3) rfl rfl (run_loadVar_row _ _ _ _ _ _ _ FB.out.1 Tryz.underlying34 rfl (by kernel_rfl))) rfl ⟨_, _, rfl, ownP_nil _ _ _, ownK_nil _ _ _, FB.out.2⟩
    · obtain rfl : OK = true := HOK.out
      obtain ⟨rfl, rfl⟩ := HD.out
      clear HOK HD
      have c0 := S9.out.bx.cellAt (o := 0) rfl
      have c1 := S9.out.bx.cellAt (o := 1) rfl
      have c2 := S9.out.bx.cellAt (o := 2) rfl
      have c3 := S9.out.bx.cellAt (o := 3) rfl
      have c4 := S9.out.bx.cellAt (o := 4) rfl
      have c5 := S9.out.bx.cellAt (o := 5) rfl
      have c6 := S9.out.bx.cellAt (o := 6) rfl
      have c7 := S9.out.bx.cellAt (o := 7) rfl
      have c8 := S9.out.bx.cellAt (o := 8) rfl
      go_wp2_with fail
      refine CK9.out.mono ?_
      rintro e10 w10 ⟨rfl, b10⟩
      have S10 := hid (S9.out.call b10)
      clear CK9 b10 S9 c0 c1 c2 c3 c4 c5 c6 c7 c8
      have c0 := S10.out.bx.cellAt (o := 0) rfl
      have c1 := S10.out.bx.cellAt (o := 1) rfl
      have c2 := S10.out.bx.cellAt (o := 2) rfl
      have c3 := S10.out.bx.cellAt (o := 3) rfl
      have c4 := S10.out.bx.cellAt (o := 4) rfl
      have c5 := S10.out.bx.cellAt (o := 5) rfl
      have c6 := S10.out.bx.cellAt (o := 6) rfl
      have c7 := S10.out.bx.cellAt (o := 7) rfl
      have c8 := S10.out.bx.cellAt (o := 8) rfl
      have d0 := S10.out.rs.cellAt (o := 0) rfl
      have f0 : w10.frozen? ⟨w.heap.size, 0, none⟩ = false := S10.out.rs.frozen
      have d1 := S10.out.rs.cellAt (o := 1) rfl
      have f1 : w10.frozen? ⟨w.heap.size, 1, none⟩ = false := S10.out.rs.frozen
      have d2 := S10.out.rs.cellAt (o := 2) rfl
      have f2 : w10.frozen? ⟨w.heap.size, 2, none⟩ = false := S10.out.rs.frozen
      have d3 := S10.out.rs.cellAt (o := 3) rfl
      have f3 : w10.frozen? ⟨w.heap.size, 3, none⟩ = false := S10.out.rs.frozen
      have d4 := S10.out.rs.cellAt (o := 4) rfl
      have f4 : w10.frozen? ⟨w.heap.size, 4, none⟩ = false := S10.out.rs.frozen
      have d5 := S10.out.rs.cellAt (o := 5) rfl
      have f5 : w10.frozen? ⟨w.heap.size, 5, none⟩ = false := S10.out.rs.frozen
      have d6 := S10.out.rs.cellAt (o := 6) rfl
      have f6 : w10.frozen? ⟨w.heap.size, 6, none⟩ = false := S10.out.rs.frozen
      have d7 := S10.out.rs.cellAt (o := 7) rfl
      have f7 : w10.frozen? ⟨w.heap.size, 7, none⟩ = false := S10.out.rs.frozen
      have d8 := S10.out.rs.cellAt (o := 8) rfl
      have f8 : w10.frozen? ⟨w.heap.size, 8, none⟩ = false := S10.out.rs.frozen
      have FB := hid S10.out.fin
      simp only [cmL] at FB
      clear S10
      go_wp2
      exact bodyPost_ret (ret_ct16 (p := 2) (u := 3) rfl _ _ w.heap.size #[.int .i64 7, .string x1, .string x2, .string x3, .int .i64 (x4 : Int), .int .i64 (x5 : Int), .string x6, .slice ad7 ln7 cap7, .slice none 0 0] (.int .i64 0) rfl rfl (run_loadVar_row _ _ _ _ _ _ _ FB.out.1 Tryz.underlying34 rfl (by kernel_rfl))) rfl ⟨_, _, rfl, FB.out.2⟩
  · have hq : (en == 0) = false := beq_eq_false_iff_ne.2 hen
    have hq2 : (en != 0) = true := by simp [hen]
    obtain rfl : OK = false := by have := HOK.out; rw [hq] at this; exact this
    obtain ⟨rfl, rfl⟩ := HD.out
    clear hen HOK HD CK
    have d0 := S9.out.rs.cellAt (o := 0) rfl
    have f0 : v9.frozen? ⟨w.heap.size, 0, none⟩ = false := S9.out.rs.frozen
    have d1 := S9.out.rs.cellAt (o := 1) rfl
    have f1 : v9.frozen? ⟨w.heap.size, 1, none⟩ = false := S9.out.rs.frozen
    have d2 := S9.out.rs.cellAt (o := 2) rfl
    have f2 : v9.frozen? ⟨w.heap.size, 2, none⟩ = false := S9.out.rs.frozen
    have d3 := S9.out.rs.cellAt (o := 3) rfl
    have f3 : v9.frozen? ⟨w.heap.size, 3, none⟩ = false := S9.out.rs.frozen
    have d4 := S9.out.rs.cellAt (o := 4) rfl
    have f4 : v9.frozen? ⟨w.heap.size, 4, none⟩ = false := S9.out.rs.frozen
    have d5 := S9.out.rs.cellAt (o := 5) rfl
    have f5 : v9.frozen? ⟨w.heap.size, 5, none⟩ = false := S9.out.rs.frozen
    have d6 := S9.out.rs.cellAt (o := 6) rfl
    have f6 : v9.frozen? ⟨w.heap.size, 6, none⟩ = false := S9.out.rs.frozen
    have d7 := S9.out.rs.cellAt (o := 7) rfl
    have f7 : v9.frozen? ⟨w.heap.size, 7, none⟩ = false := S9.out.rs.frozen
    have d8 := S9.out.rs.cellAt (o := 8) rfl
    have f8 : v9.frozen? ⟨w.heap.size, 8, none⟩ = false := S9.out.rs.frozen
    have FB := hid S9.out.bad
    clear S9
    go_wp2
    exact bodyPost_ret (ret_ct16 (p := 2) (u := 3) rfl _ _ w.heap.size #[.int .i64 0, .string ⟨#[]⟩, .string ⟨#[]⟩, .string ⟨#[]⟩, .int .i64 0, .int .i64 0, .string ⟨#[]⟩, .slice none 0 0, .slice none 0 0] (.int .i64 3) rfl rfl (run_loadVar_row _ _ _ _ _ _ _ FB.out.1 Tryz.underlying34 rfl (by kernel_rfl))) rfl ⟨_, _, rfl, ownP_nil _ _ _, ownK_nil _ _ _, FB.out.2⟩
end Go.Proofs.YtmadlnchmkhdjaaGreat
namespace Go.Proofs.YtmadlnchmkhdjaaGreat
open Go.RowKit Go.Maps
set_option linter.unusedVariables false
set_option linter.unusedSimpArgs false

set_option maxRecDepth 100000 in
set_option maxHeartbeats 8000000 in
theorem rdec_8 (s : ByteArray) (w : World) (hs : s.size ≤ 140737488355328) (da de : Int) (hN : dcN s 10 0 0 = ⟨da, de, 8⟩) : Calls Tryz.prog 16 #[.string s] w (GiveQc w s) := by
  have hsm : s.size ≤ maxLen := by unfold maxLen; omega
  have HQ : rdQ s = ⟨(rdK s ((dcN s 1099511627776 ((tS s ((tS s ((tS s (da) (de) 64).a) ((tS s (da) (de) 64).e) 63).a) ((tS s ((tS s (da) (de) 64).a) ((tS s (da) (de) 64).e) 63).e) 1024).a) ((tS s ((tS s ((tS s (da) (de) 64).a) ((tS s (da) (de) 64).e) 63).a) ((tS s ((tS s (da) (de) 64).a) ((tS s (da) (de) 64).e) 63).e) 1024).e)).a) ((dcN s 1099511627776 ((tS s ((tS s ((tS s (da) (de) 64).a) ((tS s (da) (de) 64).e) 63).a) ((tS s ((tS s (da) (de) 64).a) ((tS s (da) (de) 64).e) 63).e) 1024).a) ((tS s ((tS s ((tS s (da) (de) 64).a) ((tS s (da) (de) 64).e) 63).a) ((tS s ((tS s (da) (de) 64).a) ((tS s (da) (de) 64).e) 63).e) 1024).e)).e)).a, (rdK s ((dcN s 1099511627776 ((tS s ((tS s ((tS s (da) (de) 64).a) ((tS s (da) (de) 64).e) 63).a) ((tS s ((tS s (da) (de) 64).a) ((tS s (da) (de) 64).e) 63).e) 1024).a) ((tS s ((tS s ((tS s (da) (de) 64).a) ((tS s (da) (de) 64).e) 63).a) ((tS s ((tS s (da) (de) 64).a) ((tS s (da) (de) 64).e) 63).e) 1024).e)).a) ((dcN s 1099511627776 ((tS s ((tS s ((tS s (da) (de) 64).a) ((tS s (da) (de) 64).e) 63).a) ((tS s ((tS s (da) (de) 64).a) ((tS s (da) (de) 64).e) 63).e) 1024).a) ((tS s ((tS s ((tS s (da) (de) 64).a) ((tS s (da) (de) 64).e) 63).a) ((tS s ((tS s (da) (de) 64).a) ((tS s (da) (de) 64).e) 63).e) 1024).e)).e)).e, ⟨8, (tS s (da) (de) 64).x, (tS s ((tS s (da) (de) 64).a) ((tS s (da) (de) 64).e) 63).x, (tS s ((tS s ((tS s (da) (de) 64).a) ((tS s (da) (de) 64).e) 63).a) ((tS s ((tS s (da) (de) 64).a) ((tS s (da) (de) 64).e) 63).e) 1024).x, ((dcN s 1099511627776 ((tS s ((tS s ((tS s (da) (de) 64).a) ((tS s (da) (de) 64).e) 63).a) ((tS s ((tS s (da) (de) 64).a) ((tS s (da) (de) 64).e) 63).e) 1024).a) ((tS s ((tS s ((tS s (da) (de) 64).a) ((tS s (da) (de) 64).e) 63).a) ((tS s ((tS s (da) (de) 64).a) ((tS s (da) (de) 64).e) 63).e) 1024).e)).n : Int), 0, ⟨#[]⟩, [], (rdK s ((dcN s 1099511627776 ((tS s ((tS s ((tS s (da) (de) 64).a) ((tS s (da) (de) 64).e) 63).a) ((tS s ((tS s (da) (de) 64).a) ((tS s (da) (de) 64).e) 63).e) 1024).a) ((tS s ((tS s ((tS s (da) (de) 64).a) ((tS s (da) (de) 64).e) 63).a) ((tS s ((tS s (da) (de) 64).a) ((tS s (da) (de) 64).e) 63).e) 1024).e)).a) ((dcN s 1099511627776 ((tS s ((tS s ((tS s (da) (de) 64).a) ((tS s (da) (de) 64).e) 63).a) ((tS s ((tS s (da) (de) 64).a) ((tS s (da) (de) 64).e) 63).e) 1024).a) ((tS s ((tS s ((tS s (da) (de) 64).a) ((tS s (da) (de) 64).e) 63).a) ((tS s ((tS s (da) (de) 64).a) ((tS s (da) (de) 64).e) 63).e) 1024).e)).e)).l⟩⟩ := by
    have hh : flN ((dcN s 10 0 0).n : Int) = 143 := by rw [hN]; exact (show flN 8 = 143 from by decide)
    unfold rdQ
    simp only [hh]
    simp only [q1, q2, s3, s4, s5, s6, s7, s8, r0, hN, show hasF 143 1 = true from by decide, show hasF 143 2 = true from by decide, show hasF 143 4 = true from by decide, show hasF 143 8 = true from by decide, show hasF 143 16 = false from by decide, show hasF 143 32 = false from by decide, show hasF 143 64 = false from by decide, show hasF 143 128 = true from by decide, if_true, Bool.false_eq_true, if_false]
    try rfl
  have HSM := rdQ_sm s
  have RN : Hid (∀ W, Calls Tryz.prog 44 #[.agg #[.string s, .int .i64 0, .int .i64 0], .int .i64 10] W fun r w' => r = .returned (.tuple #[.agg #[.string s, .int .i64 da, .int .i64 de], .int .i64 8]) ∧ Below W.heap.size W w') := fun W => by
    have := ref_reader_int s 0 0 10 W hsm (by omega) (nS_int s 0 0 10 (by omega))
    rw [show nS s 0 0 (fitI 10 (rdAt s 0).n) 2 = ⟨da, de, 8⟩ from hN] at this
    exact this
  have R1 : Hid (∀ W, Calls Tryz.prog 45 #[.agg #[.string s, .int .i64 (da), .int .i64 (de)], .int .i64 64] W fun r w' => r = .returned (.tuple #[.agg #[.string s, .int .i64 (tS s (da) (de) 64).a, .int .i64 (tS s (da) (de) 64).e], .string (tS s (da) (de) 64).x]) ∧ Below W.heap.size W w') := fun W => ref_reader_text s _ _ 64 W hs
  have R2 : Hid (∀ W, Calls Tryz.prog 45 #[.agg #[.string s, .int .i64 ((tS s (da) (de) 64).a), .int .i64 ((tS s (da) (de) 64).e)], .int .i64 63] W fun r w' => r = .returned (.tuple #[.agg #[.string s, .int .i64 (tS s ((tS s (da) (de) 64).a) ((tS s (da) (de) 64).e) 63).a, .int .i64 (tS s ((tS s (da) (de) 64).a) ((tS s (da) (de) 64).e) 63).e], .string (tS s ((tS s (da) (de) 64).a) ((tS s (da) (de) 64).e) 63).x]) ∧ Below W.heap.size W w') := fun W => ref_reader_text s _ _ 63 W hs
  have R3 : Hid (∀ W, Calls Tryz.prog 45 #[.agg #[.string s, .int .i64 ((tS s ((tS s (da) (de) 64).a) ((tS s (da) (de) 64).e) 63).a), .int .i64 ((tS s ((tS s (da) (de) 64).a) ((tS s (da) (de) 64).e) 63).e)], .int .i64 1024] W fun r w' => r = .returned (.tuple #[.agg #[.string s, .int .i64 (tS s ((tS s ((tS s (da) (de) 64).a) ((tS s (da) (de) 64).e) 63).a) ((tS s ((tS s (da) (de) 64).a) ((tS s (da) (de) 64).e) 63).e) 1024).a, .int .i64 (tS s ((tS s ((tS s (da) (de) 64).a) ((tS s (da) (de) 64).e) 63).a) ((tS s ((tS s (da) (de) 64).a) ((tS s (da) (de) 64).e) 63).e) 1024).e], .string (tS s ((tS s ((tS s (da) (de) 64).a) ((tS s (da) (de) 64).e) 63).a) ((tS s ((tS s (da) (de) 64).a) ((tS s (da) (de) 64).e) 63).e) 1024).x]) ∧ Below W.heap.size W w') := fun W => ref_reader_text s _ _ 1024 W hs
  have R4 : Hid (∀ W, Calls Tryz.prog 44 #[.agg #[.string s, .int .i64 ((tS s ((tS s ((tS s (da) (de) 64).a) ((tS s (da) (de) 64).e) 63).a) ((tS s ((tS s (da) (de) 64).a) ((tS s (da) (de) 64).e) 63).e) 1024).a), .int .i64 ((tS s ((tS s ((tS s (da) (de) 64).a) ((tS s (da) (de) 64).e) 63).a) ((tS s ((tS s (da) (de) 64).a) ((tS s (da) (de) 64).e) 63).e) 1024).e)], .int .i64 1099511627776] W fun r w' => r = .returned (.tuple #[.agg #[.string s, .int .i64 (dcN s 1099511627776 ((tS s ((tS s ((tS s (da) (de) 64).a) ((tS s (da) (de) 64).e) 63).a) ((tS s ((tS s (da) (de) 64).a) ((tS s (da) (de) 64).e) 63).e) 1024).a) ((tS s ((tS s ((tS s (da) (de) 64).a) ((tS s (da) (de) 64).e) 63).a) ((tS s ((tS s (da) (de) 64).a) ((tS s (da) (de) 64).e) 63).e) 1024).e)).a, .int .i64 (dcN s 1099511627776 ((tS s ((tS s ((tS s (da) (de) 64).a) ((tS s (da) (de) 64).e) 63).a) ((tS s ((tS s (da) (de) 64).a) ((tS s (da) (de) 64).e) 63).e) 1024).a) ((tS s ((tS s ((tS s (da) (de) 64).a) ((tS s (da) (de) 64).e) 63).a) ((tS s ((tS s (da) (de) 64).a) ((tS s (da) (de) 64).e) 63).e) 1024).e)).e], .int .i64 ((dcN s 1099511627776 ((tS s ((tS s ((tS s (da) (de) 64).a) ((tS s (da) (de) 64).e) 63).a) ((tS s ((tS s (da) (de) 64).a) ((tS s (da) (de) 64).e) 63).e) 1024).a) ((tS s ((tS s ((tS s (da) (de) 64).a) ((tS s (da) (de) 64).e) 63).a) ((tS s ((tS s (da) (de) 64).a) ((tS s (da) (de) 64).e) 63).e) 1024).e)).n : Int)]) ∧ Below W.heap.size W w') := fun W => ref_reader_int s _ _ 1099511627776 W hsm (by omega) (nS_int s _ _ 1099511627776 (by omega))
  have R8 : Hid (∀ W, Calls Tryz.prog 47 #[.agg #[.string s, .int .i64 ((dcN s 1099511627776 ((tS s ((tS s ((tS s (da) (de) 64).a) ((tS s (da) (de) 64).e) 63).a) ((tS s ((tS s (da) (de) 64).a) ((tS s (da) (de) 64).e) 63).e) 1024).a) ((tS s ((tS s ((tS s (da) (de) 64).a) ((tS s (da) (de) 64).e) 63).a) ((tS s ((tS s (da) (de) 64).a) ((tS s (da) (de) 64).e) 63).e) 1024).e)).a), .int .i64 ((dcN s 1099511627776 ((tS s ((tS s ((tS s (da) (de) 64).a) ((tS s (da) (de) 64).e) 63).a) ((tS s ((tS s (da) (de) 64).a) ((tS s (da) (de) 64).e) 63).e) 1024).a) ((tS s ((tS s ((tS s (da) (de) 64).a) ((tS s (da) (de) 64).e) 63).a) ((tS s ((tS s (da) (de) 64).a) ((tS s (da) (de) 64).e) 63).e) 1024).e)).e)]] W fun r w' => ∃ ad cap, r = .returned (.tuple #[.agg #[.string s, .int .i64 (rdK s ((dcN s 1099511627776 ((tS s ((tS s ((tS s (da) (de) 64).a) ((tS s (da) (de) 64).e) 63).a) ((tS s ((tS s (da) (de) 64).a) ((tS s (da) (de) 64).e) 63).e) 1024).a) ((tS s ((tS s ((tS s (da) (de) 64).a) ((tS s (da) (de) 64).e) 63).a) ((tS s ((tS s (da) (de) 64).a) ((tS s (da) (de) 64).e) 63).e) 1024).e)).a) ((dcN s 1099511627776 ((tS s ((tS s ((tS s (da) (de) 64).a) ((tS s (da) (de) 64).e) 63).a) ((tS s ((tS s (da) (de) 64).a) ((tS s (da) (de) 64).e) 63).e) 1024).a) ((tS s ((tS s ((tS s (da) (de) 64).a) ((tS s (da) (de) 64).e) 63).a) ((tS s ((tS s (da) (de) 64).a) ((tS s (da) (de) 64).e) 63).e) 1024).e)).e)).a, .int .i64 (rdK s ((dcN s 1099511627776 ((tS s ((tS s ((tS s (da) (de) 64).a) ((tS s (da) (de) 64).e) 63).a) ((tS s ((tS s (da) (de) 64).a) ((tS s (da) (de) 64).e) 63).e) 1024).a) ((tS s ((tS s ((tS s (da) (de) 64).a) ((tS s (da) (de) 64).e) 63).a) ((tS s ((tS s (da) (de) 64).a) ((tS s (da) (de) 64).e) 63).e) 1024).e)).a) ((dcN s 1099511627776 ((tS s ((tS s ((tS s (da) (de) 64).a) ((tS s (da) (de) 64).e) 63).a) ((tS s ((tS s (da) (de) 64).a) ((tS s (da) (de) 64).e) 63).e) 1024).a) ((tS s ((tS s ((tS s (da) (de) 64).a) ((tS s (da) (de) 64).e) 63).a) ((tS s ((tS s (da) (de) 64).a) ((tS s (da) (de) 64).e) 63).e) 1024).e)).e)).e], .slice ad (rdK s ((dcN s 1099511627776 ((tS s ((tS s ((tS s (da) (de) 64).a) ((tS s (da) (de) 64).e) 63).a) ((tS s ((tS s (da) (de) 64).a) ((tS s (da) (de) 64).e) 63).e) 1024).a) ((tS s ((tS s ((tS s (da) (de) 64).a) ((tS s (da) (de) 64).e) 63).a) ((tS s ((tS s (da) (de) 64).a) ((tS s (da) (de) 64).e) 63).e) 1024).e)).a) ((dcN s 1099511627776 ((tS s ((tS s ((tS s (da) (de) 64).a) ((tS s (da) (de) 64).e) 63).a) ((tS s ((tS s (da) (de) 64).a) ((tS s (da) (de) 64).e) 63).e) 1024).a) ((tS s ((tS s ((tS s (da) (de) 64).a) ((tS s (da) (de) 64).e) 63).a) ((tS s ((tS s (da) (de) 64).a) ((tS s (da) (de) 64).e) 63).e) 1024).e)).e)).l.length cap]) ∧ OwnK w' W.heap.size 60 (.slice ad (rdK s ((dcN s 1099511627776 ((tS s ((tS s ((tS s (da) (de) 64).a) ((tS s (da) (de) 64).e) 63).a) ((tS s ((tS s (da) (de) 64).a) ((tS s (da) (de) 64).e) 63).e) 1024).a) ((tS s ((tS s ((tS s (da) (de) 64).a) ((tS s (da) (de) 64).e) 63).a) ((tS s ((tS s (da) (de) 64).a) ((tS s (da) (de) 64).e) 63).e) 1024).e)).a) ((dcN s 1099511627776 ((tS s ((tS s ((tS s (da) (de) 64).a) ((tS s (da) (de) 64).e) 63).a) ((tS s ((tS s (da) (de) 64).a) ((tS s (da) (de) 64).e) 63).e) 1024).a) ((tS s ((tS s ((tS s (da) (de) 64).a) ((tS s (da) (de) 64).e) 63).a) ((tS s ((tS s (da) (de) 64).a) ((tS s (da) (de) 64).e) 63).e) 1024).e)).e)).l.length cap) (rdK s ((dcN s 1099511627776 ((tS s ((tS s ((tS s (da) (de) 64).a) ((tS s (da) (de) 64).e) 63).a) ((tS s ((tS s (da) (de) 64).a) ((tS s (da) (de) 64).e) 63).e) 1024).a) ((tS s ((tS s ((tS s (da) (de) 64).a) ((tS s (da) (de) 64).e) 63).a) ((tS s ((tS s (da) (de) 64).a) ((tS s (da) (de) 64).e) 63).e) 1024).e)).a) ((dcN s 1099511627776 ((tS s ((tS s ((tS s (da) (de) 64).a) ((tS s (da) (de) 64).e) 63).a) ((tS s ((tS s (da) (de) 64).a) ((tS s (da) (de) 64).e) 63).e) 1024).a) ((tS s ((tS s ((tS s (da) (de) 64).a) ((tS s (da) (de) 64).e) 63).a) ((tS s ((tS s (da) (de) 64).a) ((tS s (da) (de) 64).e) 63).e) 1024).e)).e)).l ∧ Below W.heap.size W w') := fun W => rpicks_any s _ _ W hs
  clear hs hsm hN
  generalize tS s da de 64 = Y1 at *
  obtain ⟨a1, e1, x1⟩ := Y1
  simp only at *
  generalize tS s a1 e1 63 = Y2 at *
  obtain ⟨a2, e2, x2⟩ := Y2
  simp only at *
  generalize tS s a2 e2 1024 = Y3 at *
  obtain ⟨a3, e3, x3⟩ := Y3
  simp only at *
  generalize dcN s 1099511627776 a3 e3 = Y4 at *
  obtain ⟨a4, e4, x4⟩ := Y4
  simp only at *
  generalize rdK s a4 e4 = Y8 at *
  obtain ⟨a8, e8, x8⟩ := Y8
  simp only at *
  have HOK : Hid (qcOk s = ((endE s a8 e8 == 0) && cmOk (⟨8, x1, x2, x3, (x4 : Int), 0, ⟨#[]⟩, [], x8⟩ : Cm))) := by show _ = _; unfold qcOk; rw [HQ]
  have HD : Hid (qcC s = (if qcOk s = true then (⟨8, x1, x2, x3, (x4 : Int), 0, ⟨#[]⟩, [], x8⟩ : Cm) else cm0) ∧ qcE s = (if qcOk s = true then 0 else 3)) := by refine ⟨?_, rfl⟩; unfold qcC; rw [HQ]
  rw [HQ] at HSM
  have CK : Hid (∀ pv kv W, PcI W pv (⟨8, x1, x2, x3, (x4 : Int), 0, ⟨#[]⟩, [], x8⟩ : Cm).ps → PkI W kv (⟨8, x1, x2, x3, (x4 : Int), 0, ⟨#[]⟩, [], x8⟩ : Cm).ks → Calls Tryz.prog 14 #[cmV pv kv (⟨8, x1, x2, x3, (x4 : Int), 0, ⟨#[]⟩, [], x8⟩ : Cm)] W fun e w' => e = .returned (.int .i64 (ckN (⟨8, x1, x2, x3, (x4 : Int), 0, ⟨#[]⟩, [], x8⟩ : Cm))) ∧ Below W.heap.size W w') := fun pv kv W h1 h2 => rcheck16_any pv kv _ W h1 h2 HSM.sz
  have RE := hid (fun W => ref_reader_end s a8 e8 W)
  clear HQ HSM
  unfold GiveQc
  unfold ckN cmV at CK
  generalize qcC s = DC at *
  generalize qcE s = DE at *
  generalize qcOk s = OK at *
  generalize cmOk (⟨8, x1, x2, x3, (x4 : Int), 0, ⟨#[]⟩, [], x8⟩ : Cm) = ok at *
  generalize endE s a8 e8 = en at *
  simp only at CK
  have HK1 : Hid (∀ W, Calls Tryz.prog 35 #[.int .i64 8] W fun e w' => e = .returned (.bool true) ∧ w' = W) := fun W => hasKey_any 8 W
  have HI1 : Hid (∀ W, Calls Tryz.prog 37 #[.int .i64 8] W fun e w' => e = .returned (.bool true) ∧ w' = W) := fun W => hasID_any 8 W
  have HS1 : Hid (∀ W, Calls Tryz.prog 39 #[.int .i64 8] W fun e w' => e = .returned (.bool false) ∧ w' = W) := fun W => hasSum_any 8 W
  go_enter Tryz.func16, Tryz.ntmps16
  go_wp2_with fail
  refine (RN.out _).mono ?_
  rintro e0 w1 ⟨rfl, b1⟩
  have S0 := hid (rcs_new (s := s) (a := da) (e := de) (k := 8) b1)
  clear RN b1
  go_upto_region 3 with fail
  generalize ((w1.alloc (.cells #[.string s, .int .i64 da, .int .i64 de] 79)).alloc (.cells #[.int .i64 8, .string ⟨#[]⟩, .string ⟨#[]⟩, .string ⟨#[]⟩, .int .i64 0, .int .i64 0, .string ⟨#[]⟩, .slice none 0 0, .slice none 0 0] 34)) = V0 at *
  generalize w1.heap.size = g at *
  have c0 := S0.out.rd.cellAt (o := 0) rfl
  have c1 := S0.out.rd.cellAt (o := 1) rfl
  have c2 := S0.out.rd.cellAt (o := 2) rfl
  go_wp2_with fail
  refine (R1.out _).mono ?_
  rintro e1' v1 ⟨rfl, b1⟩
  have P1 := hid ((S0.out.call b1).al (.cells #[.string s, .int .i64 a1, .int .i64 e1] 79))
  clear b1 R1 S0 c0 c1 c2
  go_wp2_with fail
  refine (R2.out _).mono ?_
  rintro e2' v2 ⟨rfl, b2⟩
  have P2 := hid ((P1.out.call b2).al (.cells #[.string s, .int .i64 a2, .int .i64 e2] 79))
  have HL2 := hid (P1.out.call b2).bx.lt
  clear b2 R2 P1
  have c0 := P2.out.rd.cellAt (o := 0) rfl
  have f0 : (v2.alloc (.cells #[.string s, .int .i64 a2, .int .i64 e2] 79)).frozen? ⟨g, 0, none⟩ = false := P2.out.rd.frozen
  have c1 := P2.out.rd.cellAt (o := 1) rfl
  have f1 : (v2.alloc (.cells #[.string s, .int .i64 a2, .int .i64 e2] 79)).frozen? ⟨g, 1, none⟩ = false := P2.out.rd.frozen
  have c2 := P2.out.rd.cellAt (o := 2) rfl
  have f2 : (v2.alloc (.cells #[.string s, .int .i64 a2, .int .i64 e2] 79)).frozen? ⟨g, 2, none⟩ = false := P2.out.rd.frozen
  have z1 := P2.out.bx.cellAt (o := 1) rfl
  have y1 : (v2.alloc (.cells #[.string s, .int .i64 a2, .int .i64 e2] 79)).frozen? ⟨g + 1, 1, none⟩ = false := P2.out.bx.frozen
  have z2 := P2.out.bx.cellAt (o := 2) rfl
  have y2 : (v2.alloc (.cells #[.string s, .int .i64 a2, .int .i64 e2] 79)).frozen? ⟨g + 1, 2, none⟩ = false := P2.out.bx.frozen
  have n1 : v2.heap.size ≠ g := by have h9 := HL2.out; omega
  have n2 : g ≠ v2.heap.size := fun h => n1 h.symm
  have n3 : v2.heap.size ≠ g + 1 := by have h9 := HL2.out; omega
  have n4 : g + 1 ≠ v2.heap.size := fun h => n3 h.symm
  go_upto_region 9 with fail
  have S2 := hid ((((P2.out).fld 1 (.string x1) (.slice none 0 0) (.slice none 0 0) ⟨8, x1, ⟨#[]⟩, ⟨#[]⟩, 0, 0, ⟨#[]⟩, [], []⟩ rfl P2.out.op P2.out.ok).fld 2 (.string x2) (.slice none 0 0) (.slice none 0 0) ⟨8, x1, x2, ⟨#[]⟩, 0, 0, ⟨#[]⟩, [], []⟩ rfl (ownP_set (P2.out.op) (by omega)) (ownK_set (P2.out.ok) (by omega))).put a2 e2)
  clear P2 c0 c1 c2 f0 f1 f2 z1 y1 z2 y2 n1 n2 n3 n4 
  clear HL2
  generalize ((((((v2.alloc (.cells #[.string s, .int .i64 a2, .int .i64 e2] 79)).setCell ⟨g + 1, 1, none⟩ (.string x1)).setCell ⟨g + 1, 2, none⟩ (.string x2)).setCell ⟨g, 0, none⟩ (.string s)).setCell ⟨g, 1, none⟩ (.int .i64 a2)).setCell ⟨g, 2, none⟩ (.int .i64 e2)) = V2 at *
  go_wp2_with fail
  refine (HK1.out _).mono ?_
  rintro et1 vt1 ⟨rfl, rfl⟩
  clear HK1
  have c0 := S2.out.rd.cellAt (o := 0) rfl
  have c1 := S2.out.rd.cellAt (o := 1) rfl
  have c2 := S2.out.rd.cellAt (o := 2) rfl
  go_wp2_with fail
  refine (R3.out _).mono ?_
  rintro e3' v3 ⟨rfl, b3⟩
  have P3 := hid ((S2.out.call b3).al (.cells #[.string s, .int .i64 a3, .int .i64 e3] 79))
  have HL3 := hid (S2.out.call b3).bx.lt
  clear b3 R3 S2 c0 c1 c2
  have c0 := P3.out.rd.cellAt (o := 0) rfl
  have f0 : (v3.alloc (.cells #[.string s, .int .i64 a3, .int .i64 e3] 79)).frozen? ⟨g, 0, none⟩ = false := P3.out.rd.frozen
  have c1 := P3.out.rd.cellAt (o := 1) rfl
  have f1 : (v3.alloc (.cells #[.string s, .int .i64 a3, .int .i64 e3] 79)).frozen? ⟨g, 1, none⟩ = false := P3.out.rd.frozen
  have c2 := P3.out.rd.cellAt (o := 2) rfl
  have f2 : (v3.alloc (.cells #[.string s, .int .i64 a3, .int .i64 e3] 79)).frozen? ⟨g, 2, none⟩ = false := P3.out.rd.frozen
  have z3 := P3.out.bx.cellAt (o := 3) rfl
  have y3 : (v3.alloc (.cells #[.string s, .int .i64 a3, .int .i64 e3] 79)).frozen? ⟨g + 1, 3, none⟩ = false := P3.out.bx.frozen
  have n1 : v3.heap.size ≠ g := by have h9 := HL3.out; omega
  have n2 : g ≠ v3.heap.size := fun h => n1 h.symm
  have n3 : v3.heap.size ≠ g + 1 := by have h9 := HL3.out; omega
  have n4 : g + 1 ≠ v3.heap.size := fun h => n3 h.symm
  go_upto_region 13 with fail
  have S3 := hid (((P3.out).fld 3 (.string x3) (.slice none 0 0) (.slice none 0 0) ⟨8, x1, x2, x3, 0, 0, ⟨#[]⟩, [], []⟩ rfl P3.out.op P3.out.ok).put a3 e3)
  clear P3 c0 c1 c2 f0 f1 f2 z3 y3 n1 n2 n3 n4 
  clear HL3
  generalize (((((v3.alloc (.cells #[.string s, .int .i64 a3, .int .i64 e3] 79)).setCell ⟨g + 1, 3, none⟩ (.string x3)).setCell ⟨g, 0, none⟩ (.string s)).setCell ⟨g, 1, none⟩ (.int .i64 a3)).setCell ⟨g, 2, none⟩ (.int .i64 e3)) = V3 at *
  go_wp2_with fail
  refine (HI1.out _).mono ?_
  rintro et2 vt2 ⟨rfl, rfl⟩
  clear HI1
  have c0 := S3.out.rd.cellAt (o := 0) rfl
  have c1 := S3.out.rd.cellAt (o := 1) rfl
  have c2 := S3.out.rd.cellAt (o := 2) rfl
  go_wp2_with fail
  refine (R4.out _).mono ?_
  rintro e4' v4 ⟨rfl, b4⟩
  have P4 := hid ((S3.out.call b4).al (.cells #[.string s, .int .i64 a4, .int .i64 e4] 79))
  have HL4 := hid (S3.out.call b4).bx.lt
  clear b4 R4 S3 c0 c1 c2
  have c0 := P4.out.rd.cellAt (o := 0) rfl
  have f0 : (v4.alloc (.cells #[.string s, .int .i64 a4, .int .i64 e4] 79)).frozen? ⟨g, 0, none⟩ = false := P4.out.rd.frozen
  have c1 := P4.out.rd.cellAt (o := 1) rfl
  have f1 : (v4.alloc (.cells #[.string s, .int .i64 a4, .int .i64 e4] 79)).frozen? ⟨g, 1, none⟩ = false := P4.out.rd.frozen
  have c2 := P4.out.rd.cellAt (o := 2) rfl
  have f2 : (v4.alloc (.cells #[.string s, .int .i64 a4, .int .i64 e4] 79)).frozen? ⟨g, 2, none⟩ = false := P4.out.rd.frozen
  have z4 := P4.out.bx.cellAt (o := 4) rfl
  have y4 : (v4.alloc (.cells #[.string s, .int .i64 a4, .int .i64 e4] 79)).frozen? ⟨g + 1, 4, none⟩ = false := P4.out.bx.frozen
  have n1 : v4.heap.size ≠ g := by have h9 := HL4.out; omega
  have n2 : g ≠ v4.heap.size := fun h => n1 h.symm
  have n3 : v4.heap.size ≠ g + 1 := by have h9 := HL4.out; omega
  have n4 : g + 1 ≠ v4.heap.size := fun h => n3 h.symm
  go_upto_region 17 with fail
  have S4 := hid (((P4.out).fld 4 (.int .i64 (x4 : Int)) (.slice none 0 0) (.slice none 0 0) ⟨8, x1, x2, x3, (x4 : Int), 0, ⟨#[]⟩, [], []⟩ rfl P4.out.op P4.out.ok).put a4 e4)
  clear P4 c0 c1 c2 f0 f1 f2 z4 y4 n1 n2 n3 n4 
  clear HL4
  generalize (((((v4.alloc (.cells #[.string s, .int .i64 a4, .int .i64 e4] 79)).setCell ⟨g + 1, 4, none⟩ (.int .i64 (x4 : Int))).setCell ⟨g, 0, none⟩ (.string s)).setCell ⟨g, 1, none⟩ (.int .i64 a4)).setCell ⟨g, 2, none⟩ (.int .i64 e4)) = V4 at *
  go_wp2_with fail
  refine (HS1.out _).mono ?_
  rintro et3 vt3 ⟨rfl, rfl⟩
  clear HS1
  have c0 := S4.out.rd.cellAt (o := 0) rfl
  have c1 := S4.out.rd.cellAt (o := 1) rfl
  have c2 := S4.out.rd.cellAt (o := 2) rfl
  go_wp2_with fail
  refine (R8.out _).mono ?_
  rintro e8' v8 ⟨ad8, cap8, rfl, ho8, b8⟩
  have HO8 := hid (ownK_low ho8 (show g + 2 ≤ _ from S4.out.bx.lt))
  clear ho8
  have P8 := hid ((S4.out.call b8).al (.cells #[.string s, .int .i64 a8, .int .i64 e8] 79))
  have HL8 := hid (S4.out.call b8).bx.lt
  have HP8 := hid (HO8.out.next ((Below.refl v8.heap.size v8).alloc (Nat.le_refl _) (.cells #[.string s, .int .i64 a8, .int .i64 e8] 79)))
  clear HO8
  generalize hl8 : x8.length = ln8 at *
  clear b8 R8 S4 c0 c1 c2
  have c0 := P8.out.rd.cellAt (o := 0) rfl
  have f0 : (v8.alloc (.cells #[.string s, .int .i64 a8, .int .i64 e8] 79)).frozen? ⟨g, 0, none⟩ = false := P8.out.rd.frozen
  have c1 := P8.out.rd.cellAt (o := 1) rfl
  have f1 : (v8.alloc (.cells #[.string s, .int .i64 a8, .int .i64 e8] 79)).frozen? ⟨g, 1, none⟩ = false := P8.out.rd.frozen
  have c2 := P8.out.rd.cellAt (o := 2) rfl
  have f2 : (v8.alloc (.cells #[.string s, .int .i64 a8, .int .i64 e8] 79)).frozen? ⟨g, 2, none⟩ = false := P8.out.rd.frozen
  have z8 := P8.out.bx.cellAt (o := 8) rfl
  have y8 : (v8.alloc (.cells #[.string s, .int .i64 a8, .int .i64 e8] 79)).frozen? ⟨g + 1, 8, none⟩ = false := P8.out.bx.frozen
  have n1 : v8.heap.size ≠ g := by have h9 := HL8.out; omega
  have n2 : g ≠ v8.heap.size := fun h => n1 h.symm
  have n3 : v8.heap.size ≠ g + 1 := by have h9 := HL8.out; omega
  have n4 : g + 1 ≠ v8.heap.size := fun h => n3 h.symm
  go_upto_region 31 with fail
  have S8 := hid (((P8.out).fld 8 (.slice ad8 ln8 cap8) (.slice none 0 0) (.slice ad8 ln8 cap8) ⟨8, x1, x2, x3, (x4 : Int), 0, ⟨#[]⟩, [], x8⟩ rfl P8.out.op HP8.out).put a8 e8)
  clear P8 c0 c1 c2 f0 f1 f2 z8 y8 n1 n2 n3 n4 HP8
  clear HL8
  generalize (((((v8.alloc (.cells #[.string s, .int .i64 a8, .int .i64 e8] 79)).setCell ⟨g + 1, 8, none⟩ (.slice ad8 ln8 cap8)).setCell ⟨g, 0, none⟩ (.string s)).setCell ⟨g, 1, none⟩ (.int .i64 a8)).setCell ⟨g, 2, none⟩ (.int .i64 e8)) = V8 at *
  have c0 := S8.out.rd.cellAt (o := 0) rfl
  have c1 := S8.out.rd.cellAt (o := 1) rfl
  have c2 := S8.out.rd.cellAt (o := 2) rfl
  go_wp2_with fail
  refine (RE.out _).mono ?_
  rintro e9' v9 ⟨rfl, b9⟩
  have S9 := hid (S8.out.call b9)
  clear RE b9 S8 c0 c1 c2
  have hfd : ∀ W : World, (Instr.field 79 (.agg #[.string s, .int .i64 a8, .int .i64 en]) 2).run Tryz.prog W = .ok (.int .i64 en) W := fun _ => by kernel_rfl
  by_cases hen : en = 0
  · subst hen
    have HNE : w.heap.size ≠ g + 1 := by have := S9.out.lo; omega
    have HNE2 : g + 1 ≠ w.heap.size := fun h => HNE h.symm
    have CK9 := hid (CK.out _ _ _ S9.out.op.pcs S9.out.ok.pks)
    clear CK
    cases ok
    · obtain rfl : OK = false := HOK.out
      obtain ⟨rfl, rfl⟩ := HD.out
      clear HOK HD
      have c0 := S9.out.bx.cellAt (o := 0) rfl
      have c1 := S9.out.bx.cellAt (o := 1) rfl
      have c2 := S9.out.bx.cellAt (o := 2) rfl
      have c3 := S9.out.bx.cellAt (o := 3) rfl
      have c4 := S9.out.bx.cellAt (o := 4) rfl
      have c5 := S9.out.bx.cellAt (o := 5) rfl
      have c6 := S9.out.bx.cellAt (o := 6) rfl
      have c7 := S9.out.bx.cellAt (o := 7) rfl
      have c8 := S9.out.bx.cellAt (o := 8) rfl
      go_wp2_with fail
      refine CK9.out.mono ?_
      rintro e10 w10 ⟨rfl, b10⟩
      have S10 := hid (S9.out.call b10)
      clear CK9 b10 S9 c0 c1 c2 c3 c4 c5 c6 c7 c8
      have d0 := S10.out.rs.cellAt (o := 0) rfl
      have f0 : w10.frozen? ⟨w.heap.size, 0, none⟩ = false := S10.out.rs.frozen
      have d1 := S10.out.rs.cellAt (o := 1) rfl
      have f1 : w10.frozen? ⟨w.heap.size, 1, none⟩ = false := S10.out.rs.frozen
      have d2 := S10.out.rs.cellAt (o := 2) rfl
      have f2 : w10.frozen? ⟨w.heap.size, 2, none⟩ = false := S10.out.rs.frozen
      have d3 := S10.out.rs.cellAt (o := 3) rfl
      have f3 : w10.frozen? ⟨w.heap.size, 3, none⟩ = false := S10.out.rs.frozen
      have d4 := S10.out.rs.cellAt (o := 4) rfl
      have f4 : w10.frozen? ⟨w.heap.size, 4, none⟩ = false := S10.out.rs.frozen
      have d5 := S10.out.rs.cellAt (o := 5) rfl
      have f5 : w10.frozen? ⟨w.heap.size, 5, none⟩ = false := S10.out.rs.frozen
      have d6 := S10.out.rs.cellAt (o := 6) rfl
      have f6 : w10.frozen? ⟨w.heap.size, 6, none⟩ = false := S10.out.rs.frozen
      have d7 := S10.out.rs.cellAt (o := 7) rfl
      have f7 : w10.frozen? ⟨w.heap.size, 7, none⟩ = false := S10.out.rs.frozen
      have d8 := S10.out.rs.cellAt (o := 8) rfl
      have f8 : w10.frozen? ⟨w.heap.size, 8, none⟩ = false := S10.out.rs.frozen
      have FB := hid S10.out.bad
      clear S10
      go_wp2
      exact bodyPost_ret (ret_ct16 (p := 2) (u := 3) rfl _ _ w.heap.size #[.int .i64 0, .string ⟨#[]⟩, .string ⟨#[]⟩, .string ⟨#[]⟩, .int .i64 0, .int .i64 0, .string ⟨#[]⟩, .slice none 0 0, .slice none 0 0] (.int .i64 3) rfl rfl (run_loadVar_row _ _ _ _ _ _ _ FB.out.1 Tryz.underlying34 rfl (by kernel_rfl))) rfl ⟨_, _, rfl, ownP_nil _ _ _, ownK_nil _ _ _, FB.out.2⟩
    · obtain rfl : OK = true := HOK.out
      obtain ⟨rfl, rfl⟩ := HD.out
      clear HOK HD
      have c0 := S9.out.bx.cellAt (o := 0) rfl
      have c1 := S9.out.bx.cellAt (o := 1) rfl
      have c2 := S9.out.bx.cellAt (o := 2) rfl
      have c3 := S9.out.bx.cellAt (o := 3) rfl
      have c4 := S9.out.bx.cellAt (o := 4) rfl
      have c5 := S9.out.bx.cellAt (o := 5) rfl
      have c6 := S9.out.bx.cellAt (o := 6) rfl
      have c7 := S9.out.bx.cellAt (o := 7) rfl
      have c8 := S9.out.bx.cellAt (o := 8) rfl
      go_wp2_with fail
      refine CK9.out.mono ?_
      rintro e10 w10 ⟨rfl, b10⟩
      have S10 := hid (S9.out.call b10)
      clear CK9 b10 S9 c0 c1 c2 c3 c4 c5 c6 c7 c8
      have c0 := S10.out.bx.cellAt (o := 0) rfl
      have c1 := S10.out.bx.cellAt (o := 1) rfl
      have c2 := S10.out.bx.cellAt (o := 2) rfl
      have c3 := S10.out.bx.cellAt (o := 3) rfl
      have c4 := S10.out.bx.cellAt (o := 4) rfl
      have c5 := S10.out.bx.cellAt (o := 5) rfl
      have c6 := S10.out.bx.cellAt (o := 6) rfl
      have c7 := S10.out.bx.cellAt (o := 7) rfl
      have c8 := S10.out.bx.cellAt (o := 8) rfl
      have d0 := S10.out.rs.cellAt (o := 0) rfl
      have f0 : w10.frozen? ⟨w.heap.size, 0, none⟩ = false := S10.out.rs.frozen
      have d1 := S10.out.rs.cellAt (o := 1) rfl
      have f1 : w10.frozen? ⟨w.heap.size, 1, none⟩ = false := S10.out.rs.frozen
      have d2 := S10.out.rs.cellAt (o := 2) rfl
      have f2 : w10.frozen? ⟨w.heap.size, 2, none⟩ = false := S10.out.rs.frozen
      have d3 := S10.out.rs.cellAt (o := 3) rfl
      have f3 : w10.frozen? ⟨w.heap.size, 3, none⟩ = false := S10.out.rs.frozen
      have d4 := S10.out.rs.cellAt (o := 4) rfl
      have f4 : w10.frozen? ⟨w.heap.size, 4, none⟩ = false := S10.out.rs.frozen
      have d5 := S10.out.rs.cellAt (o := 5) rfl
      have f5 : w10.frozen? ⟨w.heap.size, 5, none⟩ = false := S10.out.rs.frozen
      have d6 := S10.out.rs.cellAt (o := 6) rfl
      have f6 : w10.frozen? ⟨w.heap.size, 6, none⟩ = false := S10.out.rs.frozen
      have d7 := S10.out.rs.cellAt (o := 7) rfl
      have f7 : w10.frozen? ⟨w.heap.size, 7, none⟩ = false := S10.out.rs.frozen
      have d8 := S10.out.rs.cellAt (o := 8) rfl
      have f8 : w10.frozen? ⟨w.heap.size, 8, none⟩ = false := S10.out.rs.frozen
      have FB := hid S10.out.fin
      simp only [cmL] at FB
      clear S10
      go_wp2
      exact bodyPost_ret (ret_ct16 (p := 2) (u := 3) rfl _ _ w.heap.size #[.int .i64 8, .string x1, .string x2, .string x3, .int .i64 (x4 : Int), .int .i64 0, .string ⟨#[]⟩, .slice none 0 0, .slice ad8 ln8 cap8] (.int .i64 0) rfl rfl (run_loadVar_row _ _ _ _ _ _ _ FB.out.1 Tryz.underlying34 rfl (by kernel_rfl))) rfl ⟨_, _, rfl, FB.out.2⟩
  · have hq : (en == 0) = false := beq_eq_false_iff_ne.2 hen
    have hq2 : (en != 0) = true := by simp [hen]
    obtain rfl : OK = false := by have := HOK.out; rw [hq] at this; exact this
    obtain ⟨rfl, rfl⟩ := HD.out
    clear hen HOK HD CK
    have d0 := S9.out.rs.cellAt (o := 0) rfl
    have f0 : v9.frozen? ⟨w.heap.size, 0, none⟩ = false := S9.out.rs.frozen
    have d1 := S9.out.rs.cellAt (o := 1) rfl
    have f1 : v9.frozen? ⟨w.heap.size, 1, none⟩ = false := S9.out.rs.frozen
    have d2 := S9.out.rs.cellAt (o := 2) rfl
    have f2 : v9.frozen? ⟨w.heap.size, 2, none⟩ = false := S9.out.rs.frozen
    have d3 := S9.out.rs.cellAt (o := 3) rfl
    have f3 : v9.frozen? ⟨w.heap.size, 3, none⟩ = false := S9.out.rs.frozen
    have d4 := S9.out.rs.cellAt (o := 4) rfl
    have f4 : v9.frozen? ⟨w.heap.size, 4, none⟩ = false := S9.out.rs.frozen
    have d5 := S9.out.rs.cellAt (o := 5) rfl
    have f5 : v9.frozen? ⟨w.heap.size, 5, none⟩ = false := S9.out.rs.frozen
    have d6 := S9.out.rs.cellAt (o := 6) rfl
    have f6 : v9.frozen? ⟨w.heap.size, 6, none⟩ = false := S9.out.rs.frozen
    have d7 := S9.out.rs.cellAt (o := 7) rfl
    have f7 : v9.frozen? ⟨w.heap.size, 7, none⟩ = false := S9.out.rs.frozen
    have d8 := S9.out.rs.cellAt (o := 8) rfl
    have f8 : v9.frozen? ⟨w.heap.size, 8, none⟩ = false := S9.out.rs.frozen
    have FB := hid S9.out.bad
    clear S9
    go_wp2
    exact bodyPost_ret (ret_ct16 (p := 2) (u := 3) rfl _ _ w.heap.size #[.int .i64 0, .string ⟨#[]⟩, .string ⟨#[]⟩, .string ⟨#[]⟩, .int .i64 0, .int .i64 0, .string ⟨#[]⟩, .slice none 0 0, .slice none 0 0] (.int .i64 3) rfl rfl (run_loadVar_row _ _ _ _ _ _ _ FB.out.1 Tryz.underlying34 rfl (by kernel_rfl))) rfl ⟨_, _, rfl, ownP_nil _ _ _, ownK_nil _ _ _, FB.out.2⟩
end Go.Proofs.YtmadlnchmkhdjaaGreat
namespace Go.Proofs.YtmadlnchmkhdjaaGreat
open Go.RowKit Go.Maps
set_option linter.unusedVariables false
set_option linter.unusedSimpArgs false

set_option maxRecDepth 100000 in
set_option maxHeartbeats 8000000 in
theorem rdec_9 (s : ByteArray) (w : World) (hs : s.size ≤ 140737488355328) (da de : Int) (hN : dcN s 10 0 0 = ⟨da, de, 9⟩) : Calls Tryz.prog 16 #[.string s] w (GiveQc w s) := by
  have hsm : s.size ≤ maxLen := by unfold maxLen; omega
  have HQ : rdQ s = ⟨(dcN s 1099511627776 ((tS s ((tS s ((tS s (da) (de) 64).a) ((tS s (da) (de) 64).e) 63).a) ((tS s ((tS s (da) (de) 64).a) ((tS s (da) (de) 64).e) 63).e) 1024).a) ((tS s ((tS s ((tS s (da) (de) 64).a) ((tS s (da) (de) 64).e) 63).a) ((tS s ((tS s (da) (de) 64).a) ((tS s (da) (de) 64).e) 63).e) 1024).e)).a, (dcN s 1099511627776 ((tS s ((tS s ((tS s (da) (de) 64).a) ((tS s (da) (de) 64).e) 63).a) ((tS s ((tS s (da) (de) 64).a) ((tS s (da) (de) 64).e) 63).e) 1024).a) ((tS s ((tS s ((tS s (da) (de) 64).a) ((tS s (da) (de) 64).e) 63).a) ((tS s ((tS s (da) (de) 64).a) ((tS s (da) (de) 64).e) 63).e) 1024).e)).e, ⟨9, (tS s (da) (de) 64).x, (tS s ((tS s (da) (de) 64).a) ((tS s (da) (de) 64).e) 63).x, (tS s ((tS s ((tS s (da) (de) 64).a) ((tS s (da) (de) 64).e) 63).a) ((tS s ((tS s (da) (de) 64).a) ((tS s (da) (de) 64).e) 63).e) 1024).x, ((dcN s 1099511627776 ((tS s ((tS s ((tS s (da) (de) 64).a) ((tS s (da) (de) 64).e) 63).a) ((tS s ((tS s (da) (de) 64).a) ((tS s (da) (de) 64).e) 63).e) 1024).a) ((tS s ((tS s ((tS s (da) (de) 64).a) ((tS s (da) (de) 64).e) 63).a) ((tS s ((tS s (da) (de) 64).a) ((tS s (da) (de) 64).e) 63).e) 1024).e)).n : Int), 0, ⟨#[]⟩, [], []⟩⟩ := by
    have hh : flN ((dcN s 10 0 0).n : Int) = 15 := by rw [hN]; exact (show flN 9 = 15 from by decide)
    unfold rdQ
    simp only [hh]
    simp only [q1, q2, s3, s4, s5, s6, s7, s8, r0, hN, show hasF 15 1 = true from by decide, show hasF 15 2 = true from by decide, show hasF 15 4 = true from by decide, show hasF 15 8 = true from by decide, show hasF 15 16 = false from by decide, show hasF 15 32 = false from by decide, show hasF 15 64 = false from by decide, show hasF 15 128 = false from by decide, if_true, Bool.false_eq_true, if_false]
    try rfl
  have HSM := rdQ_sm s
  have RN : Hid (∀ W, Calls Tryz.prog 44 #[.agg #[.string s, .int .i64 0, .int .i64 0], .int .i64 10] W fun r w' => r = .returned (.tuple #[.agg #[.string s, .int .i64 da, .int .i64 de], .int .i64 9]) ∧ Below W.heap.size W w') := fun W => by
    have := ref_reader_int s 0 0 10 W hsm (by omega) (nS_int s 0 0 10 (by omega))
    rw [show nS s 0 0 (fitI 10 (rdAt s 0).n) 2 = ⟨da, de, 9⟩ from hN] at this
    exact this
  have R1 : Hid (∀ W, Calls Tryz.prog 45 #[.agg #[.string s, .int .i64 (da), .int .i64 (de)], .int .i64 64] W fun r w' => r = .returned (.tuple #[.agg #[.string s, .int .i64 (tS s (da) (de) 64).a, .int .i64 (tS s (da) (de) 64).e], .string (tS s (da) (de) 64).x]) ∧ Below W.heap.size W w') := fun W => ref_reader_text s _ _ 64 W hs
  have R2 : Hid (∀ W, Calls Tryz.prog 45 #[.agg #[.string s, .int .i64 ((tS s (da) (de) 64).a), .int .i64 ((tS s (da) (de) 64).e)], .int .i64 63] W fun r w' => r = .returned (.tuple #[.agg #[.string s, .int .i64 (tS s ((tS s (da) (de) 64).a) ((tS s (da) (de) 64).e) 63).a, .int .i64 (tS s ((tS s (da) (de) 64).a) ((tS s (da) (de) 64).e) 63).e], .string (tS s ((tS s (da) (de) 64).a) ((tS s (da) (de) 64).e) 63).x]) ∧ Below W.heap.size W w') := fun W => ref_reader_text s _ _ 63 W hs
  have R3 : Hid (∀ W, Calls Tryz.prog 45 #[.agg #[.string s, .int .i64 ((tS s ((tS s (da) (de) 64).a) ((tS s (da) (de) 64).e) 63).a), .int .i64 ((tS s ((tS s (da) (de) 64).a) ((tS s (da) (de) 64).e) 63).e)], .int .i64 1024] W fun r w' => r = .returned (.tuple #[.agg #[.string s, .int .i64 (tS s ((tS s ((tS s (da) (de) 64).a) ((tS s (da) (de) 64).e) 63).a) ((tS s ((tS s (da) (de) 64).a) ((tS s (da) (de) 64).e) 63).e) 1024).a, .int .i64 (tS s ((tS s ((tS s (da) (de) 64).a) ((tS s (da) (de) 64).e) 63).a) ((tS s ((tS s (da) (de) 64).a) ((tS s (da) (de) 64).e) 63).e) 1024).e], .string (tS s ((tS s ((tS s (da) (de) 64).a) ((tS s (da) (de) 64).e) 63).a) ((tS s ((tS s (da) (de) 64).a) ((tS s (da) (de) 64).e) 63).e) 1024).x]) ∧ Below W.heap.size W w') := fun W => ref_reader_text s _ _ 1024 W hs
  have R4 : Hid (∀ W, Calls Tryz.prog 44 #[.agg #[.string s, .int .i64 ((tS s ((tS s ((tS s (da) (de) 64).a) ((tS s (da) (de) 64).e) 63).a) ((tS s ((tS s (da) (de) 64).a) ((tS s (da) (de) 64).e) 63).e) 1024).a), .int .i64 ((tS s ((tS s ((tS s (da) (de) 64).a) ((tS s (da) (de) 64).e) 63).a) ((tS s ((tS s (da) (de) 64).a) ((tS s (da) (de) 64).e) 63).e) 1024).e)], .int .i64 1099511627776] W fun r w' => r = .returned (.tuple #[.agg #[.string s, .int .i64 (dcN s 1099511627776 ((tS s ((tS s ((tS s (da) (de) 64).a) ((tS s (da) (de) 64).e) 63).a) ((tS s ((tS s (da) (de) 64).a) ((tS s (da) (de) 64).e) 63).e) 1024).a) ((tS s ((tS s ((tS s (da) (de) 64).a) ((tS s (da) (de) 64).e) 63).a) ((tS s ((tS s (da) (de) 64).a) ((tS s (da) (de) 64).e) 63).e) 1024).e)).a, .int .i64 (dcN s 1099511627776 ((tS s ((tS s ((tS s (da) (de) 64).a) ((tS s (da) (de) 64).e) 63).a) ((tS s ((tS s (da) (de) 64).a) ((tS s (da) (de) 64).e) 63).e) 1024).a) ((tS s ((tS s ((tS s (da) (de) 64).a) ((tS s (da) (de) 64).e) 63).a) ((tS s ((tS s (da) (de) 64).a) ((tS s (da) (de) 64).e) 63).e) 1024).e)).e], .int .i64 ((dcN s 1099511627776 ((tS s ((tS s ((tS s (da) (de) 64).a) ((tS s (da) (de) 64).e) 63).a) ((tS s ((tS s (da) (de) 64).a) ((tS s (da) (de) 64).e) 63).e) 1024).a) ((tS s ((tS s ((tS s (da) (de) 64).a) ((tS s (da) (de) 64).e) 63).a) ((tS s ((tS s (da) (de) 64).a) ((tS s (da) (de) 64).e) 63).e) 1024).e)).n : Int)]) ∧ Below W.heap.size W w') := fun W => ref_reader_int s _ _ 1099511627776 W hsm (by omega) (nS_int s _ _ 1099511627776 (by omega))
  clear hs hsm hN
  generalize tS s da de 64 = Y1 at *
  obtain ⟨a1, e1, x1⟩ := Y1
  simp only at *
  generalize tS s a1 e1 63 = Y2 at *
  obtain ⟨a2, e2, x2⟩ := Y2
  simp only at *
  generalize tS s a2 e2 1024 = Y3 at *
  obtain ⟨a3, e3, x3⟩ := Y3
  simp only at *
  generalize dcN s 1099511627776 a3 e3 = Y4 at *
  obtain ⟨a4, e4, x4⟩ := Y4
  simp only at *
  have HOK : Hid (qcOk s = ((endE s a4 e4 == 0) && cmOk (⟨9, x1, x2, x3, (x4 : Int), 0, ⟨#[]⟩, [], []⟩ : Cm))) := by show _ = _; unfold qcOk; rw [HQ]
  have HD : Hid (qcC s = (if qcOk s = true then (⟨9, x1, x2, x3, (x4 : Int), 0, ⟨#[]⟩, [], []⟩ : Cm) else cm0) ∧ qcE s = (if qcOk s = true then 0 else 3)) := by refine ⟨?_, rfl⟩; unfold qcC; rw [HQ]
  rw [HQ] at HSM
  have CK : Hid (∀ pv kv W, PcI W pv (⟨9, x1, x2, x3, (x4 : Int), 0, ⟨#[]⟩, [], []⟩ : Cm).ps → PkI W kv (⟨9, x1, x2, x3, (x4 : Int), 0, ⟨#[]⟩, [], []⟩ : Cm).ks → Calls Tryz.prog 14 #[cmV pv kv (⟨9, x1, x2, x3, (x4 : Int), 0, ⟨#[]⟩, [], []⟩ : Cm)] W fun e w' => e = .returned (.int .i64 (ckN (⟨9, x1, x2, x3, (x4 : Int), 0, ⟨#[]⟩, [], []⟩ : Cm))) ∧ Below W.heap.size W w') := fun pv kv W h1 h2 => rcheck16_any pv kv _ W h1 h2 HSM.sz
  have RE := hid (fun W => ref_reader_end s a4 e4 W)
  clear HQ HSM
  unfold GiveQc
  unfold ckN cmV at CK
  generalize qcC s = DC at *
  generalize qcE s = DE at *
  generalize qcOk s = OK at *
  generalize cmOk (⟨9, x1, x2, x3, (x4 : Int), 0, ⟨#[]⟩, [], []⟩ : Cm) = ok at *
  generalize endE s a4 e4 = en at *
  simp only at CK
  have HK1 : Hid (∀ W, Calls Tryz.prog 35 #[.int .i64 9] W fun e w' => e = .returned (.bool true) ∧ w' = W) := fun W => hasKey_any 9 W
  have HI1 : Hid (∀ W, Calls Tryz.prog 37 #[.int .i64 9] W fun e w' => e = .returned (.bool true) ∧ w' = W) := fun W => hasID_any 9 W
  have HS1 : Hid (∀ W, Calls Tryz.prog 39 #[.int .i64 9] W fun e w' => e = .returned (.bool false) ∧ w' = W) := fun W => hasSum_any 9 W
  go_enter Tryz.func16, Tryz.ntmps16
  go_wp2_with fail
  refine (RN.out _).mono ?_
  rintro e0 w1 ⟨rfl, b1⟩
  have S0 := hid (rcs_new (s := s) (a := da) (e := de) (k := 9) b1)
  clear RN b1
  go_upto_region 3 with fail
  generalize ((w1.alloc (.cells #[.string s, .int .i64 da, .int .i64 de] 79)).alloc (.cells #[.int .i64 9, .string ⟨#[]⟩, .string ⟨#[]⟩, .string ⟨#[]⟩, .int .i64 0, .int .i64 0, .string ⟨#[]⟩, .slice none 0 0, .slice none 0 0] 34)) = V0 at *
  generalize w1.heap.size = g at *
  have c0 := S0.out.rd.cellAt (o := 0) rfl
  have c1 := S0.out.rd.cellAt (o := 1) rfl
  have c2 := S0.out.rd.cellAt (o := 2) rfl
  go_wp2_with fail
  refine (R1.out _).mono ?_
  rintro e1' v1 ⟨rfl, b1⟩
  have P1 := hid ((S0.out.call b1).al (.cells #[.string s, .int .i64 a1, .int .i64 e1] 79))
  clear b1 R1 S0 c0 c1 c2
  go_wp2_with fail
  refine (R2.out _).mono ?_
  rintro e2' v2 ⟨rfl, b2⟩
  have P2 := hid ((P1.out.call b2).al (.cells #[.string s, .int .i64 a2, .int .i64 e2] 79))
  have HL2 := hid (P1.out.call b2).bx.lt
  clear b2 R2 P1
  have c0 := P2.out.rd.cellAt (o := 0) rfl
  have f0 : (v2.alloc (.cells #[.string s, .int .i64 a2, .int .i64 e2] 79)).frozen? ⟨g, 0, none⟩ = false := P2.out.rd.frozen
  have c1 := P2.out.rd.cellAt (o := 1) rfl
  have f1 : (v2.alloc (.cells #[.string s, .int .i64 a2, .int .i64 e2] 79)).frozen? ⟨g, 1, none⟩ = false := P2.out.rd.frozen
  have c2 := P2.out.rd.cellAt (o := 2) rfl
  have f2 : (v2.alloc (.cells #[.string s, .int .i64 a2, .int .i64 e2] 79)).frozen? ⟨g, 2, none⟩ = false := P2.out.rd.frozen
  have z1 := P2.out.bx.cellAt (o := 1) rfl
  have y1 : (v2.alloc (.cells #[.string s, .int .i64 a2, .int .i64 e2] 79)).frozen? ⟨g + 1, 1, none⟩ = false := P2.out.bx.frozen
  have z2 := P2.out.bx.cellAt (o := 2) rfl
  have y2 : (v2.alloc (.cells #[.string s, .int .i64 a2, .int .i64 e2] 79)).frozen? ⟨g + 1, 2, none⟩ = false := P2.out.bx.frozen
  have n1 : v2.heap.size ≠ g := by have h9 := HL2.out; omega
  have n2 : g ≠ v2.heap.size := fun h => n1 h.symm
  have n3 : v2.heap.size ≠ g + 1 := by have h9 := HL2.out; omega
  have n4 : g + 1 ≠ v2.heap.size := fun h => n3 h.symm
  go_upto_region 9 with fail
  have S2 := hid ((((P2.out).fld 1 (.string x1) (.slice none 0 0) (.slice none 0 0) ⟨9, x1, ⟨#[]⟩, ⟨#[]⟩, 0, 0, ⟨#[]⟩, [], []⟩ rfl P2.out.op P2.out.ok).fld 2 (.string x2) (.slice none 0 0) (.slice none 0 0) ⟨9, x1, x2, ⟨#[]⟩, 0, 0, ⟨#[]⟩, [], []⟩ rfl (ownP_set (P2.out.op) (by omega)) (ownK_set (P2.out.ok) (by omega))).put a2 e2)
  clear P2 c0 c1 c2 f0 f1 f2 z1 y1 z2 y2 n1 n2 n3 n4 
  clear HL2
  generalize ((((((v2.alloc (.cells #[.string s, .int .i64 a2, .int .i64 e2] 79)).setCell ⟨g + 1, 1, none⟩ (.string x1)).setCell ⟨g + 1, 2, none⟩ (.string x2)).setCell ⟨g, 0, none⟩ (.string s)).setCell ⟨g, 1, none⟩ (.int .i64 a2)).setCell ⟨g, 2, none⟩ (.int .i64 e2)) = V2 at *
  go_wp2_with fail
  refine (HK1.out _).mono ?_
  rintro et1 vt1 ⟨rfl, rfl⟩
  clear HK1
  have c0 := S2.out.rd.cellAt (o := 0) rfl
  have c1 := S2.out.rd.cellAt (o := 1) rfl
  have c2 := S2.out.rd.cellAt (o := 2) rfl
  go_wp2_with fail
  refine (R3.out _).mono ?_
  rintro e3' v3 ⟨rfl, b3⟩
  have P3 := hid ((S2.out.call b3).al (.cells #[.string s, .int .i64 a3, .int .i64 e3] 79))
  have HL3 := hid (S2.out.call b3).bx.lt
  clear b3 R3 S2 c0 c1 c2
  have c0 := P3.out.rd.cellAt (o := 0) rfl
  have f0 : (v3.alloc (.cells #[.string s, .int .i64 a3, .int .i64 e3] 79)).frozen? ⟨g, 0, none⟩ = false := P3.out.rd.frozen
  have c1 := P3.out.rd.cellAt (o := 1) rfl
  have f1 : (v3.alloc (.cells #[.string s, .int .i64 a3, .int .i64 e3] 79)).frozen? ⟨g, 1, none⟩ = false := P3.out.rd.frozen
  have c2 := P3.out.rd.cellAt (o := 2) rfl
  have f2 : (v3.alloc (.cells #[.string s, .int .i64 a3, .int .i64 e3] 79)).frozen? ⟨g, 2, none⟩ = false := P3.out.rd.frozen
  have z3 := P3.out.bx.cellAt (o := 3) rfl
  have y3 : (v3.alloc (.cells #[.string s, .int .i64 a3, .int .i64 e3] 79)).frozen? ⟨g + 1, 3, none⟩ = false := P3.out.bx.frozen
  have n1 : v3.heap.size ≠ g := by have h9 := HL3.out; omega
  have n2 : g ≠ v3.heap.size := fun h => n1 h.symm
  have n3 : v3.heap.size ≠ g + 1 := by have h9 := HL3.out; omega
  have n4 : g + 1 ≠ v3.heap.size := fun h => n3 h.symm
  go_upto_region 13 with fail
  have S3 := hid (((P3.out).fld 3 (.string x3) (.slice none 0 0) (.slice none 0 0) ⟨9, x1, x2, x3, 0, 0, ⟨#[]⟩, [], []⟩ rfl P3.out.op P3.out.ok).put a3 e3)
  clear P3 c0 c1 c2 f0 f1 f2 z3 y3 n1 n2 n3 n4 
  clear HL3
  generalize (((((v3.alloc (.cells #[.string s, .int .i64 a3, .int .i64 e3] 79)).setCell ⟨g + 1, 3, none⟩ (.string x3)).setCell ⟨g, 0, none⟩ (.string s)).setCell ⟨g, 1, none⟩ (.int .i64 a3)).setCell ⟨g, 2, none⟩ (.int .i64 e3)) = V3 at *
  go_wp2_with fail
  refine (HI1.out _).mono ?_
  rintro et2 vt2 ⟨rfl, rfl⟩
  clear HI1
  have c0 := S3.out.rd.cellAt (o := 0) rfl
  have c1 := S3.out.rd.cellAt (o := 1) rfl
  have c2 := S3.out.rd.cellAt (o := 2) rfl
  go_wp2_with fail
  refine (R4.out _).mono ?_
  rintro e4' v4 ⟨rfl, b4⟩
  have P4 := hid ((S3.out.call b4).al (.cells #[.string s, .int .i64 a4, .int .i64 e4] 79))
  have HL4 := hid (S3.out.call b4).bx.lt
  clear b4 R4 S3 c0 c1 c2
  have c0 := P4.out.rd.cellAt (o := 0) rfl
  have f0 : (v4.alloc (.cells #[.string s, .int .i64 a4, .int .i64 e4] 79)).frozen? ⟨g, 0, none⟩ = false := P4.out.rd.frozen
  have c1 := P4.out.rd.cellAt (o := 1) rfl
  have f1 : (v4.alloc (.cells #[.string s, .int .i64 a4, .int .i64 e4] 79)).frozen? ⟨g, 1, none⟩ = false := P4.out.rd.frozen
  have c2 := P4.out.rd.cellAt (o := 2) rfl
  have f2 : (v4.alloc (.cells #[.string s, .int .i64 a4, .int .i64 e4] 79)).frozen? ⟨g, 2, none⟩ = false := P4.out.rd.frozen
  have z4 := P4.out.bx.cellAt (o := 4) rfl
  have y4 : (v4.alloc (.cells #[.string s, .int .i64 a4, .int .i64 e4] 79)).frozen? ⟨g + 1, 4, none⟩ = false := P4.out.bx.frozen
  have n1 : v4.heap.size ≠ g := by have h9 := HL4.out; omega
  have n2 : g ≠ v4.heap.size := fun h => n1 h.symm
  have n3 : v4.heap.size ≠ g + 1 := by have h9 := HL4.out; omega
  have n4 : g + 1 ≠ v4.heap.size := fun h => n3 h.symm
  go_upto_region 17 with fail
  have S4 := hid (((P4.out).fld 4 (.int .i64 (x4 : Int)) (.slice none 0 0) (.slice none 0 0) ⟨9, x1, x2, x3, (x4 : Int), 0, ⟨#[]⟩, [], []⟩ rfl P4.out.op P4.out.ok).put a4 e4)
  clear P4 c0 c1 c2 f0 f1 f2 z4 y4 n1 n2 n3 n4 
  clear HL4
  generalize (((((v4.alloc (.cells #[.string s, .int .i64 a4, .int .i64 e4] 79)).setCell ⟨g + 1, 4, none⟩ (.int .i64 (x4 : Int))).setCell ⟨g, 0, none⟩ (.string s)).setCell ⟨g, 1, none⟩ (.int .i64 a4)).setCell ⟨g, 2, none⟩ (.int .i64 e4)) = V4 at *
  go_wp2_with fail
  refine (HS1.out _).mono ?_
  rintro et3 vt3 ⟨rfl, rfl⟩
  clear HS1
  have c0 := S4.out.rd.cellAt (o := 0) rfl
  have c1 := S4.out.rd.cellAt (o := 1) rfl
  have c2 := S4.out.rd.cellAt (o := 2) rfl
  go_wp2_with fail
  refine (RE.out _).mono ?_
  rintro e9' v9 ⟨rfl, b9⟩
  have S9 := hid (S4.out.call b9)
  clear RE b9 S4 c0 c1 c2
  have hfd : ∀ W : World, (Instr.field 79 (.agg #[.string s, .int .i64 a4, .int .i64 en]) 2).run Tryz.prog W = .ok (.int .i64 en) W := fun _ => by kernel_rfl
  by_cases hen : en = 0
  · subst hen
    have HNE : w.heap.size ≠ g + 1 := by have := S9.out.lo; omega
    have HNE2 : g + 1 ≠ w.heap.size := fun h => HNE h.symm
    have CK9 := hid (CK.out _ _ _ S9.out.op.pcs S9.out.ok.pks)
    clear CK
    cases ok
    · obtain rfl : OK = false := HOK.out
      obtain ⟨rfl, rfl⟩ := HD.out
      clear HOK HD
      have c0 := S9.out.bx.cellAt (o := 0) rfl
      have c1 := S9.out.bx.cellAt (o := 1) rfl
      have c2 := S9.out.bx.cellAt (o := 2) rfl
      have c3 := S9.out.bx.cellAt (o := 3) rfl
      have c4 := S9.out.bx.cellAt (o := 4) rfl
      have c5 := S9.out.bx.cellAt (o := 5) rfl
      have c6 := S9.out.bx.cellAt (o := 6) rfl
      have c7 := S9.out.bx.cellAt (o := 7) rfl
      have c8 := S9.out.bx.cellAt (o := 8) rfl
      go_wp2_with fail
      refine CK9.out.mono ?_
      rintro e10 w10 ⟨rfl, b10⟩
      have S10 := hid (S9.out.call b10)
      clear CK9 b10 S9 c0 c1 c2 c3 c4 c5 c6 c7 c8
      have d0 := S10.out.rs.cellAt (o := 0) rfl
      have f0 : w10.frozen? ⟨w.heap.size, 0, none⟩ = false := S10.out.rs.frozen
      have d1 := S10.out.rs.cellAt (o := 1) rfl
      have f1 : w10.frozen? ⟨w.heap.size, 1, none⟩ = false := S10.out.rs.frozen
      have d2 := S10.out.rs.cellAt (o := 2) rfl
      have f2 : w10.frozen? ⟨w.heap.size, 2, none⟩ = false := S10.out.rs.frozen
      have d3 := S10.out.rs.cellAt (o := 3) rfl
      have f3 : w10.frozen? ⟨w.heap.size, 3, none⟩ = false := S10.out.rs.frozen
      have d4 := S10.out.rs.cellAt (o := 4) rfl
      have f4 : w10.frozen? ⟨w.heap.size, 4, none⟩ = false := S10.out.rs.frozen
      have d5 := S10.out.rs.cellAt (o := 5) rfl
      have f5 : w10.frozen? ⟨w.heap.size, 5, none⟩ = false := S10.out.rs.frozen
      have d6 := S10.out.rs.cellAt (o := 6) rfl
      have f6 : w10.frozen? ⟨w.heap.size, 6, none⟩ = false := S10.out.rs.frozen
      have d7 := S10.out.rs.cellAt (o := 7) rfl
      have f7 : w10.frozen? ⟨w.heap.size, 7, none⟩ = false := S10.out.rs.frozen
      have d8 := S10.out.rs.cellAt (o := 8) rfl
      have f8 : w10.frozen? ⟨w.heap.size, 8, none⟩ = false := S10.out.rs.frozen
      have FB := hid S10.out.bad
      clear S10
      go_wp2
      exact bodyPost_ret (ret_ct16 (p := 2) (u := 3) rfl _ _ w.heap.size #[.int .i64 0, .string ⟨#[]⟩, .string ⟨#[]⟩, .string ⟨#[]⟩, .int .i64 0, .int .i64 0, .string ⟨#[]⟩, .slice none 0 0, .slice none 0 0] (.int .i64 3) rfl rfl (run_loadVar_row _ _ _ _ _ _ _ FB.out.1 Tryz.underlying34 rfl (by kernel_rfl))) rfl ⟨_, _, rfl, ownP_nil _ _ _, ownK_nil _ _ _, FB.out.2⟩
    · obtain rfl : OK = true := HOK.out
      obtain ⟨rfl, rfl⟩ := HD.out
      clear HOK HD
      have c0 := S9.out.bx.cellAt (o := 0) rfl
      have c1 := S9.out.bx.cellAt (o := 1) rfl
      have c2 := S9.out.bx.cellAt (o := 2) rfl
      have c3 := S9.out.bx.cellAt (o := 3) rfl
      have c4 := S9.out.bx.cellAt (o := 4) rfl
      have c5 := S9.out.bx.cellAt (o := 5) rfl
      have c6 := S9.out.bx.cellAt (o := 6) rfl
      have c7 := S9.out.bx.cellAt (o := 7) rfl
      have c8 := S9.out.bx.cellAt (o := 8) rfl
      go_wp2_with fail
      refine CK9.out.mono ?_
      rintro e10 w10 ⟨rfl, b10⟩
      have S10 := hid (S9.out.call b10)
      clear CK9 b10 S9 c0 c1 c2 c3 c4 c5 c6 c7 c8
      have c0 := S10.out.bx.cellAt (o := 0) rfl
      have c1 := S10.out.bx.cellAt (o := 1) rfl
      have c2 := S10.out.bx.cellAt (o := 2) rfl
      have c3 := S10.out.bx.cellAt (o := 3) rfl
      have c4 := S10.out.bx.cellAt (o := 4) rfl
      have c5 := S10.out.bx.cellAt (o := 5) rfl
      have c6 := S10.out.bx.cellAt (o := 6) rfl
      have c7 := S10.out.bx.cellAt (o := 7) rfl
      have c8 := S10.out.bx.cellAt (o := 8) rfl
      have d0 := S10.out.rs.cellAt (o := 0) rfl
      have f0 : w10.frozen? ⟨w.heap.size, 0, none⟩ = false := S10.out.rs.frozen
      have d1 := S10.out.rs.cellAt (o := 1) rfl
      have f1 : w10.frozen? ⟨w.heap.size, 1, none⟩ = false := S10.out.rs.frozen
      have d2 := S10.out.rs.cellAt (o := 2) rfl
      have f2 : w10.frozen? ⟨w.heap.size, 2, none⟩ = false := S10.out.rs.frozen
      have d3 := S10.out.rs.cellAt (o := 3) rfl
      have f3 : w10.frozen? ⟨w.heap.size, 3, none⟩ = false := S10.out.rs.frozen
      have d4 := S10.out.rs.cellAt (o := 4) rfl
      have f4 : w10.frozen? ⟨w.heap.size, 4, none⟩ = false := S10.out.rs.frozen
      have d5 := S10.out.rs.cellAt (o := 5) rfl
      have f5 : w10.frozen? ⟨w.heap.size, 5, none⟩ = false := S10.out.rs.frozen
      have d6 := S10.out.rs.cellAt (o := 6) rfl
      have f6 : w10.frozen? ⟨w.heap.size, 6, none⟩ = false := S10.out.rs.frozen
      have d7 := S10.out.rs.cellAt (o := 7) rfl
      have f7 : w10.frozen? ⟨w.heap.size, 7, none⟩ = false := S10.out.rs.frozen
      have d8 := S10.out.rs.cellAt (o := 8) rfl
      have f8 : w10.frozen? ⟨w.heap.size, 8, none⟩ = false := S10.out.rs.frozen
      have FB := hid S10.out.fin
      simp only [cmL] at FB
      clear S10
      go_wp2
      exact bodyPost_ret (ret_ct16 (p := 2) (u := 3) rfl _ _ w.heap.size #[.int .i64 9, .string x1, .string x2, .string x3, .int .i64 (x4 : Int), .int .i64 0, .string ⟨#[]⟩, .slice none 0 0, .slice none 0 0] (.int .i64 0) rfl rfl (run_loadVar_row _ _ _ _ _ _ _ FB.out.1 Tryz.underlying34 rfl (by kernel_rfl))) rfl ⟨_, _, rfl, FB.out.2⟩
  · have hq : (en == 0) = false := beq_eq_false_iff_ne.2 hen
    have hq2 : (en != 0) = true := by simp [hen]
    obtain rfl : OK = false := by have := HOK.out; rw [hq] at this; exact this
    obtain ⟨rfl, rfl⟩ := HD.out
    clear hen HOK HD CK
    have d0 := S9.out.rs.cellAt (o := 0) rfl
    have f0 : v9.frozen? ⟨w.heap.size, 0, none⟩ = false := S9.out.rs.frozen
    have d1 := S9.out.rs.cellAt (o := 1) rfl
    have f1 : v9.frozen? ⟨w.heap.size, 1, none⟩ = false := S9.out.rs.frozen
    have d2 := S9.out.rs.cellAt (o := 2) rfl
    have f2 : v9.frozen? ⟨w.heap.size, 2, none⟩ = false := S9.out.rs.frozen
    have d3 := S9.out.rs.cellAt (o := 3) rfl
    have f3 : v9.frozen? ⟨w.heap.size, 3, none⟩ = false := S9.out.rs.frozen
    have d4 := S9.out.rs.cellAt (o := 4) rfl
    have f4 : v9.frozen? ⟨w.heap.size, 4, none⟩ = false := S9.out.rs.frozen
    have d5 := S9.out.rs.cellAt (o := 5) rfl
    have f5 : v9.frozen? ⟨w.heap.size, 5, none⟩ = false := S9.out.rs.frozen
    have d6 := S9.out.rs.cellAt (o := 6) rfl
    have f6 : v9.frozen? ⟨w.heap.size, 6, none⟩ = false := S9.out.rs.frozen
    have d7 := S9.out.rs.cellAt (o := 7) rfl
    have f7 : v9.frozen? ⟨w.heap.size, 7, none⟩ = false := S9.out.rs.frozen
    have d8 := S9.out.rs.cellAt (o := 8) rfl
    have f8 : v9.frozen? ⟨w.heap.size, 8, none⟩ = false := S9.out.rs.frozen
    have FB := hid S9.out.bad
    clear S9
    go_wp2
    exact bodyPost_ret (ret_ct16 (p := 2) (u := 3) rfl _ _ w.heap.size #[.int .i64 0, .string ⟨#[]⟩, .string ⟨#[]⟩, .string ⟨#[]⟩, .int .i64 0, .int .i64 0, .string ⟨#[]⟩, .slice none 0 0, .slice none 0 0] (.int .i64 3) rfl rfl (run_loadVar_row _ _ _ _ _ _ _ FB.out.1 Tryz.underlying34 rfl (by kernel_rfl))) rfl ⟨_, _, rfl, ownP_nil _ _ _, ownK_nil _ _ _, FB.out.2⟩
end Go.Proofs.YtmadlnchmkhdjaaGreat
