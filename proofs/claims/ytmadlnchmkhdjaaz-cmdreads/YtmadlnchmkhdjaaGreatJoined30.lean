/- Joined: The document's Decode of a command of the kind 10. The document's Decode of a command, whatever the text. The walk of the law CmdReads. -/
import Derived.Test.YtmadlnchmkhdjaaGreatJoined28
import Derived.Test.YtmadlnchmkhdjaaGreatJoined29
import Derived.Test.YtmadlnchmkhdjaaGreatJoined23
import Derived.Test.YtmadlnchmkhdjaaGreatJoined27
import Derived.Test.YtmadlnchmkhdjaaGreatJoined31
namespace Go.Proofs.YtmadlnchmkhdjaaGreat
open Go.RowKit Go.Maps
set_option linter.unusedVariables false
set_option linter.unusedSimpArgs false

set_option maxRecDepth 100000 in
set_option maxHeartbeats 8000000 in
theorem rdec_10 (s : ByteArray) (w : World) (hs : s.size ≤ 140737488355328) (da de : Int) (hN : dcN s 10 0 0 = ⟨da, de, 10⟩) : Calls Tryz.prog 16 #[.string s] w (GiveQc w s) := by
  have hsm : s.size ≤ maxLen := by unfold maxLen; omega
  have HQ : rdQ s = ⟨(dcN s 1099511627776 (da) (de)).a, (dcN s 1099511627776 (da) (de)).e, ⟨10, ⟨#[]⟩, ⟨#[]⟩, ⟨#[]⟩, ((dcN s 1099511627776 (da) (de)).n : Int), 0, ⟨#[]⟩, [], []⟩⟩ := by
    have hh : flN ((dcN s 10 0 0).n : Int) = 8 := by rw [hN]; exact (show flN 10 = 8 from by decide)
    unfold rdQ
    simp only [hh]
    simp only [q1, q2, s3, s4, s5, s6, s7, s8, r0, hN, show hasF 8 1 = false from by decide, show hasF 8 2 = false from by decide, show hasF 8 4 = false from by decide, show hasF 8 8 = true from by decide, show hasF 8 16 = false from by decide, show hasF 8 32 = false from by decide, show hasF 8 64 = false from by decide, show hasF 8 128 = false from by decide, if_true, Bool.false_eq_true, if_false]
    try rfl
  have HSM := rdQ_sm s
  have RN : Hid (∀ W, Calls Tryz.prog 44 #[.agg #[.string s, .int .i64 0, .int .i64 0], .int .i64 10] W fun r w' => r = .returned (.tuple #[.agg #[.string s, .int .i64 da, .int .i64 de], .int .i64 10]) ∧ Below W.heap.size W w') := fun W => by
    have := ref_reader_int s 0 0 10 W hsm (by omega) (nS_int s 0 0 10 (by omega))
    rw [show nS s 0 0 (fitI 10 (rdAt s 0).n) 2 = ⟨da, de, 10⟩ from hN] at this
    exact this
  have R4 : Hid (∀ W, Calls Tryz.prog 44 #[.agg #[.string s, .int .i64 (da), .int .i64 (de)], .int .i64 1099511627776] W fun r w' => r = .returned (.tuple #[.agg #[.string s, .int .i64 (dcN s 1099511627776 (da) (de)).a, .int .i64 (dcN s 1099511627776 (da) (de)).e], .int .i64 ((dcN s 1099511627776 (da) (de)).n : Int)]) ∧ Below W.heap.size W w') := fun W => ref_reader_int s _ _ 1099511627776 W hsm (by omega) (nS_int s _ _ 1099511627776 (by omega))
  clear hs hsm hN
  generalize dcN s 1099511627776 da de = Y4 at *
  obtain ⟨a4, e4, x4⟩ := Y4
  simp only at *
  have HOK : Hid (qcOk s = ((endE s a4 e4 == 0) && cmOk (⟨10, ⟨#[]⟩, ⟨#[]⟩, ⟨#[]⟩, (x4 : Int), 0, ⟨#[]⟩, [], []⟩ : Cm))) := by show _ = _; unfold qcOk; rw [HQ]
  have HD : Hid (qcC s = (if qcOk s = true then (⟨10, ⟨#[]⟩, ⟨#[]⟩, ⟨#[]⟩, (x4 : Int), 0, ⟨#[]⟩, [], []⟩ : Cm) else cm0) ∧ qcE s = (if qcOk s = true then 0 else 3)) := by refine ⟨?_, rfl⟩; unfold qcC; rw [HQ]
  rw [HQ] at HSM
  have CK : Hid (∀ pv kv W, PcI W pv (⟨10, ⟨#[]⟩, ⟨#[]⟩, ⟨#[]⟩, (x4 : Int), 0, ⟨#[]⟩, [], []⟩ : Cm).ps → PkI W kv (⟨10, ⟨#[]⟩, ⟨#[]⟩, ⟨#[]⟩, (x4 : Int), 0, ⟨#[]⟩, [], []⟩ : Cm).ks → Calls Tryz.prog 14 #[cmV pv kv (⟨10, ⟨#[]⟩, ⟨#[]⟩, ⟨#[]⟩, (x4 : Int), 0, ⟨#[]⟩, [], []⟩ : Cm)] W fun e w' => e = .returned (.int .i64 (ckN (⟨10, ⟨#[]⟩, ⟨#[]⟩, ⟨#[]⟩, (x4 : Int), 0, ⟨#[]⟩, [], []⟩ : Cm))) ∧ Below W.heap.size W w') := fun pv kv W h1 h2 => rcheck16_any pv kv _ W h1 h2 HSM.sz
  have RE := hid (fun W => ref_reader_end s a4 e4 W)
  clear HQ HSM
  unfold GiveQc
  unfold ckN cmV at CK
  generalize qcC s = DC at *
  generalize qcE s = DE at *
  generalize qcOk s = OK at *
  generalize cmOk (⟨10, ⟨#[]⟩, ⟨#[]⟩, ⟨#[]⟩, (x4 : Int), 0, ⟨#[]⟩, [], []⟩ : Cm) = ok at *
  generalize endE s a4 e4 = en at *
  simp only at CK
  have HK1 : Hid (∀ W, Calls Tryz.prog 35 #[.int .i64 10] W fun e w' => e = .returned (.bool false) ∧ w' = W) := fun W => hasKey_any 10 W
  have HI1 : Hid (∀ W, Calls Tryz.prog 37 #[.int .i64 10] W fun e w' => e = .returned (.bool true) ∧ w' = W) := fun W => hasID_any 10 W
  have HS1 : Hid (∀ W, Calls Tryz.prog 39 #[.int .i64 10] W fun e w' => e = .returned (.bool false) ∧ w' = W) := fun W => hasSum_any 10 W
  go_enter Tryz.func16, Tryz.ntmps16
  go_wp2_with fail
  refine (RN.out _).mono ?_
  rintro e0 w1 ⟨rfl, b1⟩
  have S0 := hid (rcs_new (s := s) (a := da) (e := de) (k := 10) b1)
  clear RN b1
  go_upto_region 3 with fail
  generalize ((w1.alloc (.cells #[.string s, .int .i64 da, .int .i64 de] 79)).alloc (.cells #[.int .i64 10, .string ⟨#[]⟩, .string ⟨#[]⟩, .string ⟨#[]⟩, .int .i64 0, .int .i64 0, .string ⟨#[]⟩, .slice none 0 0, .slice none 0 0] 34)) = V0 at *
  generalize w1.heap.size = g at *
  go_wp2_with fail
  refine (HK1.out _).mono ?_
  rintro et1 vt1 ⟨rfl, rfl⟩
  clear HK1
  go_wp2_with fail
  refine (HI1.out _).mono ?_
  rintro et2 vt2 ⟨rfl, rfl⟩
  clear HI1
  have c0 := S0.out.rd.cellAt (o := 0) rfl
  have c1 := S0.out.rd.cellAt (o := 1) rfl
  have c2 := S0.out.rd.cellAt (o := 2) rfl
  go_wp2_with fail
  refine (R4.out _).mono ?_
  rintro e4' v4 ⟨rfl, b4⟩
  have P4 := hid ((S0.out.call b4).al (.cells #[.string s, .int .i64 a4, .int .i64 e4] 79))
  have HL4 := hid (S0.out.call b4).bx.lt
  clear b4 R4 S0 c0 c1 c2
  have c0 := P4.out.rd.cellAt (o := 0) rfl
  have f0 : (v4.alloc (.cells #[.string s, .int .i64 a4, .int .i64 e4] 79)).frozen? ⟨g, 0, none⟩ = false := P4.out.rd.frozen
  have c1 := P4.out.rd.cellAt (o := 1) rfl
  have f1 : (v4.alloc (.cells #[.string s, .int .i64 a4, .int .i64 e4] 79)).frozen? ⟨g, 1, none⟩ = false := P4.out.rd.frozen
  have c2 := P4.out.rd.cellAt (o := 2) rfl
  have f2 : (v4.alloc (.cells #[.string s, .int .i64 a4, .int .i64 e4] 79)).frozen? ⟨g, 2, none⟩ = false := P4.out.rd.frozen
  have z4 := P4.out.bx.cellAt (o := 4) rfl
  have y4 : (v4.alloc (.cells #[.string s, .int .i64 a4, .int .i64 e4] 79)).frozen? ⟨g + 1, 4, none⟩ = false := P4.out.bx.frozen
  have n1 : v4.heap.size ≠ g := by have h9 := HL4.out; omega
  have n2 : g ≠ v4.heap.size := fun h => n1 h.symm
  have n3 : v4.heap.size ≠ g + 1 := by have h9 := HL4.out; omega
  have n4 : g + 1 ≠ v4.heap.size := fun h => n3 h.symm
  go_upto_region 17 with fail
  have S4 := hid (((P4.out).fld 4 (.int .i64 (x4 : Int)) (.slice none 0 0) (.slice none 0 0) ⟨10, ⟨#[]⟩, ⟨#[]⟩, ⟨#[]⟩, (x4 : Int), 0, ⟨#[]⟩, [], []⟩ rfl P4.out.op P4.out.ok).put a4 e4)
  clear P4 c0 c1 c2 f0 f1 f2 z4 y4 n1 n2 n3 n4 
  clear HL4
  generalize (((((v4.alloc (.cells #[.string s, .int .i64 a4, .int .i64 e4] 79)).setCell ⟨g + 1, 4, none⟩ (.int .i64 (x4 : Int))).setCell ⟨g, 0, none⟩ (.string s)).setCell ⟨g, 1, none⟩ (.int .i64 a4)).setCell ⟨g, 2, none⟩ (.int .i64 e4)) = V4 at *
  go_wp2_with fail
  refine (HS1.out _).mono ?_
  rintro et3 vt3 ⟨rfl, rfl⟩
  clear HS1
  have c0 := S4.out.rd.cellAt (o := 0) rfl
  have c1 := S4.out.rd.cellAt (o := 1) rfl
  have c2 := S4.out.rd.cellAt (o := 2) rfl
  go_wp2_with fail
  refine (RE.out _).mono ?_
  rintro e9' v9 ⟨rfl, b9⟩
  have S9 := hid (S4.out.call b9)
  clear RE b9 S4 c0 c1 c2
  have hfd : ∀ W : World, (Instr.field 79 (.agg #[.string s, .int .i64 a4, .int .i64 en]) 2).run Tryz.prog W = .ok (.int .i64 en) W := fun _ => by kernel_rfl
  by_cases hen : en = 0
  · subst hen
    have HNE : w.heap.size ≠ g + 1 := by have := S9.out.lo; omega
    have HNE2 : g + 1 ≠ w.heap.size := fun h => HNE h.symm
    have CK9 := hid (CK.out _ _ _ S9.out.op.pcs S9.out.ok.pks)
    clear CK
    cases ok
    · obtain rfl : OK = false := HOK.out
      obtain ⟨rfl, rfl⟩ := HD.out
      clear HOK HD
      have c0 := S9.out.bx.cellAt (o := 0) rfl
      have c1 := S9.out.bx.cellAt (o := 1) rfl
      have c2 := S9.out.bx.cellAt (o := 2) rfl
      have c3 := S9.out.bx.cellAt (o := 3) rfl
      have c4 := S9.out.bx.cellAt (o := 4) rfl
      have c5 := S9.out.bx.cellAt (o := 5) rfl
      have c6 := S9.out.bx.cellAt (o := 6) rfl
      have c7 := S9.out.bx.cellAt (o := 7) rfl
      have c8 := S9.out.bx.cellAt (o := 8) rfl
      go_wp2_with fail
      refine CK9.out.mono ?_
      rintro e10 w10 ⟨rfl, b10⟩
      have S10 := hid (S9.out.call b10)
      clear CK9 b10 S9 c0 c1 c2 c3 c4 c5 c6 c7 c8
      have d0 := S10.out.rs.cellAt (o := 0) rfl
      have f0 : w10.frozen? ⟨w.heap.size, 0, none⟩ = false := S10.out.rs.frozen
      have d1 := S10.out.rs.cellAt (o := 1) rfl
      have f1 : w10.frozen? ⟨w.heap.size, 1, none⟩ = false := S10.out.rs.frozen
      have d2 := S10.out.rs.cellAt (o := 2) rfl
      have f2 : w10.frozen? ⟨w.heap.size, 2, none⟩ = false := S10.out.rs.frozen
      have d3 := S10.out.rs.cellAt (o := 3) rfl
      have f3 : w10.frozen? ⟨w.heap.size, 3, none⟩ = false := S10.out.rs.frozen
      have d4 := S10.out.rs.cellAt (o := 4) rfl
      have f4 : w10.frozen? ⟨w.heap.size, 4, none⟩ = false := S10.out.rs.frozen
      have d5 := S10.out.rs.cellAt (o := 5) rfl
      have f5 : w10.frozen? ⟨w.heap.size, 5, none⟩ = false := S10.out.rs.frozen
      have d6 := S10.out.rs.cellAt (o := 6) rfl
      have f6 : w10.frozen? ⟨w.heap.size, 6, none⟩ = false := S10.out.rs.frozen
      have d7 := S10.out.rs.cellAt (o := 7) rfl
      have f7 : w10.frozen? ⟨w.heap.size, 7, none⟩ = false := S10.out.rs.frozen
      have d8 := S10.out.rs.cellAt (o := 8) rfl
      have f8 : w10.frozen? ⟨w.heap.size, 8, none⟩ = false := S10.out.rs.frozen
      have FB := hid S10.out.bad
      clear S10
      go_wp2
      exact bodyPost_ret (ret_ct16 (p := 2) (u := 3) rfl _ _ w.heap.size #[.int .i64 0, .string ⟨#[]⟩, .string ⟨#[]⟩, .string ⟨#[]⟩, .int .i64 0, .int .i64 0, .string ⟨#[]⟩, .slice none 0 0, .slice none 0 0] (.int .i64 3) rfl rfl (run_loadVar_row _ _ _ _ _ _ _ FB.out.1 Tryz.underlying34 rfl (by kernel_rfl))) rfl ⟨_, _, rfl, ownP_nil _ _ _, ownK_nil _ _ _, FB.out.2⟩
    · obtain rfl : OK = true := HOK.out
      obtain ⟨rfl, rfl⟩ := HD.out
      clear HOK HD
      have c0 := S9.out.bx.cellAt (o := 0) rfl
      have c1 := S9.out.bx.cellAt (o := 1) rfl
      have c2 := S9.out.bx.cellAt (o := 2) rfl
      have c3 := S9.out.bx.cellAt (o := 3) rfl
      have c4 := S9.out.bx.cellAt (o := 4) rfl
      have c5 := S9.out.bx.cellAt (o := 5) rfl
      have c6 := S9.out.bx.cellAt (o := 6) rfl
      have c7 := S9.out.bx.cellAt (o := 7) rfl
      have c8 := S9.out.bx.cellAt (o := 8) rfl
      go_wp2_with fail
      refine CK9.out.mono ?_
      rintro e10 w10 ⟨rfl, b10⟩
      have S10 := hid (S9.out.call b10)
      clear CK9 b10 S9 c0 c1 c2 c3 c4 c5 c6 c7 c8
      have c0 := S10.out.bx.cellAt (o := 0) rfl
      have c1 := S10.out.bx.cellAt (o := 1) rfl
      have c2 := S10.out.bx.cellAt (o := 2) rfl
      have c3 := S10.out.bx.cellAt (o := 3) rfl
      have c4 := S10.out.bx.cellAt (o := 4) rfl
      have c5 := S10.out.bx.cellAt (o := 5) rfl
      have c6 := S10.out.bx.cellAt (o := 6) rfl
      have c7 := S10.out.bx.cellAt (o := 7) rfl
      have c8 := S10.out.bx.cellAt (o := 8) rfl
      have d0 := S10.out.rs.cellAt (o := 0) rfl
      have f0 : w10.frozen? ⟨w.heap.size, 0, none⟩ = false := S10.out.rs.frozen
      have d1 := S10.out.rs.cellAt (o := 1) rfl
      have f1 : w10.frozen? ⟨w.heap.size, 1, none⟩ = false := S10.out.rs.frozen
      have d2 := S10.out.rs.cellAt (o := 2) rfl
      have f2 : w10.frozen? ⟨w.heap.size, 2, none⟩ = false := S10.out.rs.frozen
      have d3 := S10.out.rs.cellAt (o := 3) rfl
      have f3 : w10.frozen? ⟨w.heap.size, 3, none⟩ = false := S10.out.rs.frozen
      have d4 := S10.out.rs.cellAt (o := 4) rfl
      have f4 : w10.frozen? ⟨w.heap.size, 4, none⟩ = false := S10.out.rs.frozen
      have d5 := S10.out.rs.cellAt (o := 5) rfl
      have f5 : w10.frozen? ⟨w.heap.size, 5, none⟩ = false := S10.out.rs.frozen
      have d6 := S10.out.rs.cellAt (o := 6) rfl
      have f6 : w10.frozen? ⟨w.heap.size, 6, none⟩ = false := S10.out.rs.frozen
      have d7 := S10.out.rs.cellAt (o := 7) rfl
      have f7 : w10.frozen? ⟨w.heap.size, 7, none⟩ = false := S10.out.rs.frozen
      have d8 := S10.out.rs.cellAt (o := 8) rfl
      have f8 : w10.frozen? ⟨w.heap.size, 8, none⟩ = false := S10.out.rs.frozen
      have FB := hid S10.out.fin
      simp only [cmL] at FB
      clear S10
      go_wp2
      exact bodyPost_ret (ret_ct16 (p := 2) (u := 3) rfl _ _ w.heap.size #[.int .i64 10, .string ⟨#[]⟩, .string ⟨#[]⟩, .string ⟨#[]⟩, .int .i64 (x4 : Int), .int .i64 0, .string ⟨#[]⟩, .slice none 0 0, .slice none 0 0] (.int .i64 0) rfl rfl (run_loadVar_row _ _ _ _ _ _ _ FB.out.1 Tryz.underlying34 rfl (by kernel_rfl))) rfl ⟨_, _, rfl, FB.out.2⟩
  · have hq : (en == 0) = false := beq_eq_false_iff_ne.2 hen
    have hq2 : (en != 0) = true := by simp [hen]
    obtain rfl : OK = false := by have := HOK.out; rw [hq] at this; exact this
    obtain ⟨rfl, rfl⟩ := HD.out
    clear hen HOK HD CK
    have d0 := S9.out.rs.cellAt (o := 0) rfl
    have f0 : v9.frozen? ⟨w.heap.size, 0, none⟩ = false := S9.out.rs.frozen
    have d1 := S9.out.rs.cellAt (o := 1) rfl
    have f1 : v9.frozen? ⟨w.heap.size, 1, none⟩ = false := S9.out.rs.frozen
    have d2 := S9.out.rs.cellAt (o := 2) rfl
    have f2 : v9.frozen? ⟨w.heap.size, 2, none⟩ = false := S9.out.rs.frozen
    have d3 := S9.out.rs.cellAt (o := 3) rfl
    have f3 : v9.frozen? ⟨w.heap.size, 3, none⟩ = false := S9.out.rs.frozen
    have d4 := S9.out.rs.cellAt (o := 4) rfl
    have f4 : v9.frozen? ⟨w.heap.size, 4, none⟩ = false := S9.out.rs.frozen
    have d5 := S9.out.rs.cellAt (o := 5) rfl
    have f5 : v9.frozen? ⟨w.heap.size, 5, none⟩ = false := S9.out.rs.frozen
    have d6 := S9.out.rs.cellAt (o := 6) rfl
    have f6 : v9.frozen? ⟨w.heap.size, 6, none⟩ = false := S9.out.rs.frozen
    have d7 := S9.out.rs.cellAt (o := 7) rfl
    have f7 : v9.frozen? ⟨w.heap.size, 7, none⟩ = false := S9.out.rs.frozen
    have d8 := S9.out.rs.cellAt (o := 8) rfl
    have f8 : v9.frozen? ⟨w.heap.size, 8, none⟩ = false := S9.out.rs.frozen
    have FB := hid S9.out.bad
    clear S9
    go_wp2
    exact bodyPost_ret (ret_ct16 (p := 2) (u := 3) rfl _ _ w.heap.size #[.int .i64 0, .string ⟨#[]⟩, .string ⟨#[]⟩, .string ⟨#[]⟩, .int .i64 0, .int .i64 0, .string ⟨#[]⟩, .slice none 0 0, .slice none 0 0] (.int .i64 3) rfl rfl (run_loadVar_row _ _ _ _ _ _ _ FB.out.1 Tryz.underlying34 rfl (by kernel_rfl))) rfl ⟨_, _, rfl, ownP_nil _ _ _, ownK_nil _ _ _, FB.out.2⟩
end Go.Proofs.YtmadlnchmkhdjaaGreat
namespace Go.Proofs.YtmadlnchmkhdjaaGreat
open Go.RowKit Go.Maps
set_option linter.unusedVariables false
set_option linter.unusedSimpArgs false

theorem rdecode16_any (s : ByteArray) (w : World) (hs : s.size ≤ 140737488355328) : Calls Tryz.prog 16 #[.string s] w (GiveQc w s) := by
  have hl := dcN_le s 10 0 0 (by omega)
  obtain ⟨D, hD⟩ : ∃ D, dcN s 10 0 0 = D := ⟨_, rfl⟩
  rw [hD] at hl
  obtain ⟨da, de, n⟩ := D
  simp only at hl
  have hn : n = 0 ∨ n = 1 ∨ n = 2 ∨ n = 3 ∨ n = 4 ∨ n = 5 ∨ n = 6 ∨ n = 7 ∨ n = 8 ∨ n = 9 ∨ n = 10 := by omega
  clear hl
  rcases hn with rfl | rfl | rfl | rfl | rfl | rfl | rfl | rfl | rfl | rfl | rfl
  · exact rdec_0 s w hs da de hD
  · exact rdec_1 s w hs da de hD
  · exact rdec_2 s w hs da de hD
  · exact rdec_3 s w hs da de hD
  · exact rdec_4 s w hs da de hD
  · exact rdec_5 s w hs da de hD
  · exact rdec_6 s w hs da de hD
  · exact rdec_7 s w hs da de hD
  · exact rdec_8 s w hs da de hD
  · exact rdec_9 s w hs da de hD
  · exact rdec_10 s w hs da de hD
theorem cdC_sm (s : ByteArray) : SmQ (cdC s) := by
  rw [← (qc_same s).1]
  unfold qcC
  split
  · exact rdQ_sm s
  · exact ⟨Nat.zero_le _, Nat.zero_le _, Nat.zero_le _, Nat.zero_le _, ⟨Nat.zero_le _, fun p hp => by cases hp⟩, ⟨Nat.zero_le _, fun p hp => by cases hp⟩⟩
theorem rdecode16_same (s : ByteArray) (w : World) (hs : s.size ≤ 140737488355328) : Calls Tryz.prog 16 #[.string s] w fun q w' => ∃ pv kv, q = .returned (.tuple #[cmV pv kv (cdC s), .int .i64 (cdCE s)]) ∧ OwnP w' w.heap.size 90 pv (cdC s).ps ∧ OwnK w' w.heap.size 60 kv (cdC s).ks ∧ Below w.heap.size w w' := by
  have := rdecode16_any s w hs
  unfold GiveQc at this
  rw [(qc_same s).1, (qc_same s).2] at this
  exact this
end Go.Proofs.YtmadlnchmkhdjaaGreat
namespace Go.Proofs.YtmadlnchmkhdjaaGreat
open Go.RowKit Go.Maps
set_option linter.unusedVariables false
set_option linter.unusedSimpArgs false

theorem maxL_of {w : World} (h : w.ShapedOpen Tryz.prog) : MaxL w := containsLaid.s1_3 w h
set_option maxRecDepth 100000 in
set_option maxHeartbeats 4000000 in
theorem cmdReads_walk (s : ByteArray) (w : World) (hs : s.size ≤ reachBytes) (hm : MaxL w) : Calls Tryz.prog 4 #[.string s] w fun e w' => e = .returned (.bool true) ∧ Below w.heap.size w w' := by
  have hs : s.size ≤ 140737488355328 := by have hr : reachBytes < 2 ^ 47 := reachBytes_lt; omega
  have DE := hid (cdecode_any s w hs hm)
  have RD := hid (fun W => rdecode16_same s W hs)
  have hz := (cdC_sm s).sz
  have AW : Hid (∀ W, Below w.heap.size w W → Calls Tryz.prog 12 #[] W fun e w' => e = .returned (.bool true) ∧ Below W.heap.size W w') := fun W hW => awake16 W (hm.keep (hW.keep _))
  have RF : Hid (∀ p1 k1 W, PcI W p1 (cdC s).ps → PkI W k1 (cdC s).ks → Calls Tryz.prog 9 #[cmV p1 k1 (cdC s)] W fun e w' => ∃ p2 k2, e = .returned (cmV p2 k2 (cdC s)) ∧ PcI w' p2 (cdC s).ps ∧ PkI w' k2 (cdC s).ks ∧ Below W.heap.size W w') := fun p1 k1 W h1 h2 => (cref_any _ _ _ W h1 h2 hz.pl hz.kl).mono fun e w' ⟨p2, k2, he, ho, hok, hb⟩ => ⟨p2, k2, he, ho.pcs, hok.pks, hb⟩
  have SM : Hid (∀ p1 k1 p2 k2 W, PcI W p1 (cdC s).ps → PkI W k1 (cdC s).ks → PcI W p2 (cdC s).ps → PkI W k2 (cdC s).ks → Calls Tryz.prog 17 #[cmV p1 k1 (cdC s), cmV p2 k2 (cdC s)] W fun e w' => e = .returned (.bool true) ∧ Below W.heap.size W w') := fun p1 k1 p2 k2 W h1 h2 h3 h4 => rsm_true p1 k1 p2 k2 _ _ W h1 h2 h3 h4 (by have := hz.pl; omega) (by have := hz.kl; omega) rfl rfl rfl rfl rfl rfl rfl rfl rfl rfl rfl
  clear hm hs hz
  unfold cmV at *
  generalize cdC s = c at *
  generalize cdCE s = CE at *
  obtain ⟨kd, tk, bk, ky, id, n, sm, ps, ks⟩ := c
  simp only at *
  have q2 : (CE == CE) = true := by simp
  go_enter Tryz.func4, Tryz.ntmps4
  go_wp2_with fail
  refine DE.out.mono ?_
  rintro e1 v1 ⟨pv, kv, rfl, op1, ok1, b1⟩
  obtain ⟨pa, pc, rfl⟩ := op1.form
  obtain ⟨ka, kc, rfl⟩ := ok1.form
  have I1 := hid op1.pcs
  have J1 := hid ok1.pks
  have N1 := hid b1
  clear DE op1 ok1 b1
  go_wp2_with fail
  refine (RD.out _).mono ?_
  rintro e2 v2 ⟨pv, kv, rfl, op2, ok2, b2⟩
  obtain ⟨qa, qc, rfl⟩ := op2.form
  obtain ⟨ra, rc, rfl⟩ := ok2.form
  have A1 := below_al (Below.refl v1.heap.size v1) (.cells #[.int .i64 kd, .string tk, .string bk, .string ky, .int .i64 id, .int .i64 n, .string sm, .slice pa ps.length pc, .slice ka ks.length kc] 25)
  have A2 := below_al (Below.refl v2.heap.size v2) (.cells #[.int .i64 kd, .string tk, .string bk, .string ky, .int .i64 id, .int .i64 n, .string sm, .slice qa ps.length qc, .slice ra ks.length rc] 34)
  have I2 := hid (op2.pcs.next A2)
  have J2 := hid (ok2.pks.next A2)
  have I3 := hid (((I1.out.next A1).next b2).next A2)
  have J3 := hid (((J1.out.next A1).next b2).next A2)
  have M1 : Hid (RowIs (v2.alloc (.cells #[.int .i64 kd, .string tk, .string bk, .string ky, .int .i64 id, .int .i64 n, .string sm, .slice qa ps.length qc, .slice ra ks.length rc] 34)) v1.heap.size [.int .i64 kd, .string tk, .string bk, .string ky, .int .i64 id, .int .i64 n, .string sm, .slice pa ps.length pc, .slice ka ks.length kc] 25) := row_old ((srow v1 _ _).keep (b2.keep (fun _ => False)) (fun h => h)) _
  have M2 : Hid (RowIs (v2.alloc (.cells #[.int .i64 kd, .string tk, .string bk, .string ky, .int .i64 id, .int .i64 n, .string sm, .slice qa ps.length qc, .slice ra ks.length rc] 34)) v2.heap.size [.int .i64 kd, .string tk, .string bk, .string ky, .int .i64 id, .int .i64 n, .string sm, .slice qa ps.length qc, .slice ra ks.length rc] 34) := srow v2 _ _
  have BA : Hid (Below w.heap.size w (v2.alloc (.cells #[.int .i64 kd, .string tk, .string bk, .string ky, .int .i64 id, .int .i64 n, .string sm, .slice qa ps.length qc, .slice ra ks.length rc] 34))) := below_al (below_on (below_al N1.out _) b2) _
  clear I1 J1 N1 RD op2 ok2 b2 A1 A2
  generalize hpn : ps.length = pn at *
  generalize hkn : ks.length = kn at *
  clear hpn hkn
  go_upto_region 3 with fail
  generalize (v2.alloc (.cells #[.int .i64 kd, .string tk, .string bk, .string ky, .int .i64 id, .int .i64 n, .string sm, .slice qa pn qc, .slice ra kn rc] 34)) = X at *
  generalize v1.heap.size = g1 at *
  generalize v2.heap.size = g2 at *
  have ZC : Hid (∀ W, Below X.heap.size X W → (fun w' => w'.cell? ⟨g1, 0, none⟩ = some (.int .i64 kd) ∧ w'.cell? ⟨g1, 1, none⟩ = some (.string tk) ∧ w'.cell? ⟨g1, 2, none⟩ = some (.string bk) ∧ w'.cell? ⟨g1, 3, none⟩ = some (.string ky) ∧ w'.cell? ⟨g1, 4, none⟩ = some (.int .i64 id) ∧ w'.cell? ⟨g1, 5, none⟩ = some (.int .i64 n) ∧ w'.cell? ⟨g1, 6, none⟩ = some (.string sm) ∧ w'.cell? ⟨g1, 7, none⟩ = some (.slice pa pn pc) ∧ w'.cell? ⟨g1, 8, none⟩ = some (.slice ka kn kc) ∧ w'.cell? ⟨g2, 0, none⟩ = some (.int .i64 kd) ∧ w'.cell? ⟨g2, 1, none⟩ = some (.string tk) ∧ w'.cell? ⟨g2, 2, none⟩ = some (.string bk) ∧ w'.cell? ⟨g2, 3, none⟩ = some (.string ky) ∧ w'.cell? ⟨g2, 4, none⟩ = some (.int .i64 id) ∧ w'.cell? ⟨g2, 5, none⟩ = some (.int .i64 n) ∧ w'.cell? ⟨g2, 6, none⟩ = some (.string sm) ∧ w'.cell? ⟨g2, 7, none⟩ = some (.slice qa pn qc) ∧ w'.cell? ⟨g2, 8, none⟩ = some (.slice ra kn rc)) W) := fun W hW => by
    have k := hW.keep (fun _ => False)
    have m1 := M1.out.keep k (fun h => h)
    have m2 := M2.out.keep k (fun h => h)
    exact ⟨m1.cellAt rfl, m1.cellAt rfl, m1.cellAt rfl, m1.cellAt rfl, m1.cellAt rfl, m1.cellAt rfl, m1.cellAt rfl, m1.cellAt rfl, m1.cellAt rfl, m2.cellAt rfl, m2.cellAt rfl, m2.cellAt rfl, m2.cellAt rfl, m2.cellAt rfl, m2.cellAt rfl, m2.cellAt rfl, m2.cellAt rfl, m2.cellAt rfl⟩
  have D0 := hid (Below.refl X.heap.size X).drew
  clear M1 M2
  refine wp_region_held_drew (S := (fun w' => w'.cell? ⟨g1, 0, none⟩ = some (.int .i64 kd) ∧ w'.cell? ⟨g1, 1, none⟩ = some (.string tk) ∧ w'.cell? ⟨g1, 2, none⟩ = some (.string bk) ∧ w'.cell? ⟨g1, 3, none⟩ = some (.string ky) ∧ w'.cell? ⟨g1, 4, none⟩ = some (.int .i64 id) ∧ w'.cell? ⟨g1, 5, none⟩ = some (.int .i64 n) ∧ w'.cell? ⟨g1, 6, none⟩ = some (.string sm) ∧ w'.cell? ⟨g1, 7, none⟩ = some (.slice pa pn pc) ∧ w'.cell? ⟨g1, 8, none⟩ = some (.slice ka kn kc) ∧ w'.cell? ⟨g2, 0, none⟩ = some (.int .i64 kd) ∧ w'.cell? ⟨g2, 1, none⟩ = some (.string tk) ∧ w'.cell? ⟨g2, 2, none⟩ = some (.string bk) ∧ w'.cell? ⟨g2, 3, none⟩ = some (.string ky) ∧ w'.cell? ⟨g2, 4, none⟩ = some (.int .i64 id) ∧ w'.cell? ⟨g2, 5, none⟩ = some (.int .i64 n) ∧ w'.cell? ⟨g2, 6, none⟩ = some (.string sm) ∧ w'.cell? ⟨g2, 7, none⟩ = some (.slice qa pn qc) ∧ w'.cell? ⟨g2, 8, none⟩ = some (.slice ra kn rc))) (by kernel_rfl) (ZC.out _ D0.out) (fun hHeld => ?_)
  refine wpAnyH_ready (rs := [0]) (by kernel_rfl) (by simp) ?_
  refine AllReadyH.cons rfl (fun K hK => ?_) AllReadyH.nil
  go_simp
  refine (AW.out _ (below_on BA.out D0.out)).mono ?_
  rintro e uD1 ⟨rfl, bq⟩
  have D1 := hid (below_on D0.out bq)
  clear bq hHeld D0 AW
  go_wp2_with fail
  refine hK.out _ _ (ZC.out _ D1.out) (fun hHeld => ?_)
  clear hK K
  try simp only [Act.put, List.getElem_toArray, List.getElem_cons_succ, List.getElem_cons_zero, List.setIfInBounds_toArray, List.set_cons_zero, List.set_cons_succ]
  refine wpAnyH_take (i := 1) (v := ?vv1) rfl (by kernel_rfl) (by kernel_rfl) (by kernel_rfl) (fun _ _ _ h => h) (Or.inl ⟨by rfl, ?hy1⟩) (by assumption) ?rest1
  case hy1 => (intro w hSw; (try dsimp only at hSw); go_simp; first | done | with_reducible rfl)
  try simp only [Act.put, List.getElem_toArray, List.getElem_cons_succ, List.getElem_cons_zero, List.setIfInBounds_toArray, List.set_cons_zero, List.set_cons_succ]
  refine wpAnyH_take (i := 2) (v := ?vv2) rfl (by kernel_rfl) (by kernel_rfl) (by kernel_rfl) (fun _ _ _ h => h) (Or.inl ⟨by rfl, ?hy2⟩) (by assumption) ?rest2
  case hy2 => (intro w hSw; (try dsimp only at hSw); go_simp; first | done | with_reducible rfl)
  try simp only [Act.put, List.getElem_toArray, List.getElem_cons_succ, List.getElem_cons_zero, List.setIfInBounds_toArray, List.set_cons_zero, List.set_cons_succ]
  refine wpAnyH_take (i := 4) (v := ?vv3) rfl (by kernel_rfl) (by kernel_rfl) (by kernel_rfl) (fun _ _ _ h => h) (Or.inl ⟨by rfl, ?hy3⟩) (by assumption) ?rest3
  case hy3 => (intro w hSw; (try dsimp only at hSw); go_simp; first | done | with_reducible rfl)
  try simp only [Act.put, List.getElem_toArray, List.getElem_cons_succ, List.getElem_cons_zero, List.setIfInBounds_toArray, List.set_cons_zero, List.set_cons_succ]
  refine wpAnyH_ready (rs := [3]) (by kernel_rfl) (by simp) ?_
  refine AllReadyH.cons rfl (fun K hK => ?_) AllReadyH.nil
  go_simp
  refine (RF.out _ _ _ (I3.out.next D1.out) (J3.out.next D1.out)).mono ?_
  rintro e uD2 ⟨p9, k9, rfl, i9, j9, bq⟩
  have D2 := hid (below_on D1.out bq)
  have I9 := hid i9
  have J9 := hid j9
  clear bq hHeld D1 RF i9 j9 I3 J3
  go_wp2_with fail
  refine hK.out _ _ (ZC.out _ D2.out) (fun hHeld => ?_)
  clear hK K
  try simp only [Act.put, List.getElem_toArray, List.getElem_cons_succ, List.getElem_cons_zero, List.setIfInBounds_toArray, List.set_cons_zero, List.set_cons_succ]
  refine wpAnyH_ready (rs := [5]) (by kernel_rfl) (by simp) ?_
  refine AllReadyH.cons rfl (fun K hK => ?_) AllReadyH.nil
  go_simp
  refine (SM.out _ _ _ _ _ I9.out J9.out (I2.out.next D2.out) (J2.out.next D2.out)).mono ?_
  rintro e uD3 ⟨rfl, bq⟩
  have D3 := hid (below_on D2.out bq)
  clear bq hHeld D2 SM I9 J9 I2 J2
  go_wp2_with fail
  refine hK.out _ _ (ZC.out _ D3.out) (fun hHeld => ?_)
  clear hK K
  try simp only [Act.put, List.getElem_toArray, List.getElem_cons_succ, List.getElem_cons_zero, List.setIfInBounds_toArray, List.set_cons_zero, List.set_cons_succ]
  refine wpAnyH_take (i := 6) (v := ?vv4) rfl (by kernel_rfl) (by kernel_rfl) (by kernel_rfl) (fun _ _ _ h => h) (Or.inl ⟨by rfl, ?hy4⟩) (by assumption) ?rest4
  case hy4 => (intro w hSw; (try dsimp only at hSw); go_simp; first | done | with_reducible rfl)
  try simp only [Act.put, List.getElem_toArray, List.getElem_cons_succ, List.getElem_cons_zero, List.setIfInBounds_toArray, List.set_cons_zero, List.set_cons_succ]
  refine wpAnyH_take (i := 7) (v := ?vv5) rfl (by kernel_rfl) (by kernel_rfl) (by kernel_rfl) (fun _ _ _ h => h) (Or.inl ⟨by rfl, ?hy5⟩) (by assumption) ?rest5
  case hy5 => (intro w hSw; (try dsimp only at hSw); go_simp; first | done | with_reducible rfl)
  try simp only [Act.put, List.getElem_toArray, List.getElem_cons_succ, List.getElem_cons_zero, List.setIfInBounds_toArray, List.set_cons_zero, List.set_cons_succ]
  refine wpAnyH_take (i := 8) (v := ?vv6) rfl (by kernel_rfl) (by kernel_rfl) (by kernel_rfl) (fun _ _ _ h => h) (Or.inl ⟨by rfl, ?hy6⟩) (by assumption) ?rest6
  case hy6 => (intro w hSw; (try dsimp only at hSw); go_simp; first | done | with_reducible rfl)
  try simp only [Act.put, List.getElem_toArray, List.getElem_cons_succ, List.getElem_cons_zero, List.setIfInBounds_toArray, List.set_cons_zero, List.set_cons_succ]
  refine wpAnyH_take (i := 9) (v := ?vv7) rfl (by kernel_rfl) (by kernel_rfl) (by kernel_rfl) (fun _ _ _ h => h) (Or.inl ⟨by rfl, ?hy7⟩) (by assumption) ?rest7
  case hy7 => (intro w hSw; (try dsimp only at hSw); go_simp; first | done | with_reducible rfl)
  try simp only [Act.put, List.getElem_toArray, List.getElem_cons_succ, List.getElem_cons_zero, List.setIfInBounds_toArray, List.set_cons_zero, List.set_cons_succ]
  refine wpAnyH_take (i := 10) (v := ?vv8) rfl (by kernel_rfl) (by kernel_rfl) (by kernel_rfl) (fun _ _ _ h => h) (Or.inl ⟨by rfl, ?hy8⟩) (by assumption) ?rest8
  case hy8 => (intro w hSw; (try dsimp only at hSw); go_simp; first | done | with_reducible rfl)
  try simp only [Act.put, List.getElem_toArray, List.getElem_cons_succ, List.getElem_cons_zero, List.setIfInBounds_toArray, List.set_cons_zero, List.set_cons_succ]
  refine wpAnyH_take (i := 11) (v := ?vv9) rfl (by kernel_rfl) (by kernel_rfl) (by kernel_rfl) (fun _ _ _ h => h) (Or.inl ⟨by rfl, ?hy9⟩) (by assumption) ?rest9
  case hy9 => (intro w hSw; (try dsimp only at hSw); go_simp; first | done | with_reducible rfl)
  try simp only [Act.put, List.getElem_toArray, List.getElem_cons_succ, List.getElem_cons_zero, List.setIfInBounds_toArray, List.set_cons_zero, List.set_cons_succ]
  refine wpAnyH_take (i := 12) (v := ?vv10) rfl (by kernel_rfl) (by kernel_rfl) (by kernel_rfl) (fun _ _ _ h => h) (Or.inl ⟨by rfl, ?hy10⟩) (by assumption) ?rest10
  case hy10 => (intro w hSw; (try dsimp only at hSw); go_simp; first | done | with_reducible rfl)
  try simp only [Act.put, List.getElem_toArray, List.getElem_cons_succ, List.getElem_cons_zero, List.setIfInBounds_toArray, List.set_cons_zero, List.set_cons_succ]
  refine wpAnyH_done (by kernel_rfl) ?_ _
  clear hHeld ZC
  go_wp2
  go_ret
  exact ⟨rfl, below_on BA.out D3.out⟩
end Go.Proofs.YtmadlnchmkhdjaaGreat
