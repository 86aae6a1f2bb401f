/- A message's text: the document's walk. -/
import Derived.Test.YtlkidnfgodficaaGreatJoined19
import Derived.Test.YtlkidnfgodficaaGreatJoined20
import Derived.Test.YtlkidnfgodficaaGreatJoined23
namespace Go.Proofs.YtlkidnfgodficaaGreat
open Go.RowKit Go.Maps
set_option linter.unusedVariables false
set_option linter.unusedSimpArgs false

theorem u64_nat (n : Nat) (h : n < 18446744073709551616) : IntKind.u64.wrap (n : Int) = (n : Int) := by rw [IntKind.wrap_u64]; omega
theorem ysB_t : ysB true = [1] := by decide
theorem ysB_f : ysB false = [0] := by decide
set_option maxRecDepth 100000 in
set_option maxHeartbeats 1000000 in
theorem qencode_bad (v : Value) (m : Ms) (w : World) (hv : EntI w v m.es) (hl : m.es.length ≤ 17592186044416) (hc : msOk m = false) : Calls Tryz.prog 7 #[msV v m] w fun e w' => e = .returned (.tuple #[.string ⟨#[]⟩, .int .i64 1]) ∧ Below w.heap.size w w' := by
  obtain ⟨ad, cap, rfl, -⟩ := hv.form
  have CK : Hid (∀ W, Below w.heap.size w W → Calls Tryz.prog 13 #[msV (.slice ad m.es.length cap) m] W fun e w' => e = .returned (.bool false) ∧ Below W.heap.size W w') := fun W b => by rw [← hc]; exact qcheck_any _ m W (hv.next b) hl
  have R0 : Hid (RowIs (w.alloc (.cells #[.int .i64 m.kd, .int .i64 m.fr, .int .i64 m.to_, .int .i64 m.tm, .int .i64 m.ix, .int .i64 m.lt, .int .i64 m.cm, .int .i64 m.rd, .int .i64 m.at_, .bool m.ys, .slice ad m.es.length cap, .string m.da] 32)) w.heap.size [.int .i64 m.kd, .int .i64 m.fr, .int .i64 m.to_, .int .i64 m.tm, .int .i64 m.ix, .int .i64 m.lt, .int .i64 m.cm, .int .i64 m.rd, .int .i64 m.at_, .bool m.ys, .slice ad m.es.length cap, .string m.da] 32) := srow w _ _
  have B0 : Hid (Below w.heap.size w (w.alloc (.cells #[.int .i64 m.kd, .int .i64 m.fr, .int .i64 m.to_, .int .i64 m.tm, .int .i64 m.ix, .int .i64 m.lt, .int .i64 m.cm, .int .i64 m.rd, .int .i64 m.at_, .bool m.ys, .slice ad m.es.length cap, .string m.da] 32))) := below_al (Below.refl _ _) _
  have y0 := R0.out.cellAt (o := 0) rfl
  have y1 := R0.out.cellAt (o := 1) rfl
  have y2 := R0.out.cellAt (o := 2) rfl
  have y3 := R0.out.cellAt (o := 3) rfl
  have y4 := R0.out.cellAt (o := 4) rfl
  have y5 := R0.out.cellAt (o := 5) rfl
  have y6 := R0.out.cellAt (o := 6) rfl
  have y7 := R0.out.cellAt (o := 7) rfl
  have y8 := R0.out.cellAt (o := 8) rfl
  have y9 := R0.out.cellAt (o := 9) rfl
  have y10 := R0.out.cellAt (o := 10) rfl
  have y11 := R0.out.cellAt (o := 11) rfl
  unfold msV at *
  clear hv hl hc
  go_enter Tryz.func7, Tryz.ntmps7
  go_wp2_with fail
  refine (CK.out _ B0.out).mono ?_
  rintro e w1 ⟨rfl, b1⟩
  have B1 := hid (below_on B0.out b1)
  clear CK b1 B0 R0 y0 y1 y2 y3 y4 y5 y6 y7 y8 y9 y10 y11
  go_wp2
  go_ret2
  exact ⟨rfl, B1.out⟩
set_option maxRecDepth 100000 in
set_option maxHeartbeats 4000000 in
theorem qencode_ok (v : Value) (m : Ms) (w : World) (hv : EntI w v m.es) (hc : msOk m = true) : Calls Tryz.prog 7 #[msV v m] w fun e w' => e = .returned (.tuple #[.string ⟨(mgB m).toArray⟩, .int .i64 0]) ∧ Below w.heap.size w w' := by
  have hn := msOk_in hc
  have hes := hn.es
  have hda := hn.da
  obtain ⟨ad, cap, rfl, hcl⟩ := hv.form
  have CK : Hid (∀ W, Below w.heap.size w W → Calls Tryz.prog 13 #[msV (.slice ad m.es.length cap) m] W fun e w' => e = .returned (.bool true) ∧ Below W.heap.size W w') := fun W b => by rw [← hc]; exact qcheck_any _ m W (hv.next b) (by omega)
  have NU := hid (fun W => qnumbers_any ad m.es.length cap m W)
  have HNN : Hid (∀ (k : Nat), k < 9 → ∃ X : Nat, m.nm.getD k 0 = (X : Int) ∧ X ≤ 1099511627776) := fun k hk => by
    have := hn.nm _ (nm_at m k hk)
    exact ⟨(m.nm.getD k 0).toNat, by omega, by omega⟩
  have NR : Hid (∀ (X : Nat) W, X ≤ 1099511627776 → Calls Tryz.prog 36 #[.int .u64 (X : Int)] W fun e w' => e = .returned (.string ⟨(put X).toArray⟩) ∧ Below W.heap.size W w') := fun X W h => ref_number_any X W (by omega)
  have TX : Hid (∀ W, Calls Tryz.prog 37 #[.string m.da] W fun e w' => e = .returned (.string ⟨(ptx m.da).toArray⟩) ∧ Below W.heap.size W w') := fun W => ref_text_any m.da W (Nat.le_trans hda (by decide))
  have EN : Hid (∀ k (hk : k < m.es.length), (∃ T K : Nat, (m.es[k]).tm = (T : Int) ∧ T ≤ 1099511627776 ∧ (m.es[k]).kd = (K : Int) ∧ K ≤ 255) ∧ (∀ W, Calls Tryz.prog 37 #[.string (m.es[k]).da] W fun e w' => e = .returned (.string ⟨(ptx (m.es[k]).da).toArray⟩) ∧ Below W.heap.size W w') ∧ (m.es[k]).da.size ≤ 65536) := fun k hk => by
    have h := hn.en _ (List.getElem_mem hk)
    have h1 := h.t0
    have h2 := h.t1
    have h3 := h.k0
    have h4 := h.k1
    exact ⟨⟨(m.es[k]).tm.toNat, (m.es[k]).kd.toNat, by omega, by omega, by omega, by omega⟩, fun W => ref_text_any _ W (Nat.le_trans h.z (by decide)), h.z⟩
  have HML : Hid (∀ k, (mesB (m.es.take k)).length ≤ 1049056) := fun k => by
    have h1 := mesB_len (m.es.take k) (fun x hx => (hn.en x (List.mem_of_mem_take hx)).z)
    have h2 : (m.es.take k).length ≤ 16 := Nat.le_trans (List.length_take_le' k m.es) hes
    show _ ≤ _
    omega
  have HMT : Hid (∀ k (hk : k < m.es.length), mesB (m.es.take (k + 1)) = mesB (m.es.take k) ++ meB m.es[k]) := fun k hk => mesB_take m.es k hk
  have HNT : Hid (∀ k, k < 9 → msB (m.nm.take (k + 1)) = msB (m.nm.take k) ++ put (m.nm.getD k 0).toNat) := fun k hk => msB_nm m k hk
  have HNL : Hid (∀ k, (msB (m.nm.take k)).length ≤ 90) := fun k => by
    have h1 := msB_len (m.nm.take k)
    have h2 : (m.nm.take k).length ≤ 9 := Nat.le_trans (List.length_take_le' k m.nm) (by rw [nm_len]; omega)
    show _ ≤ _
    omega
  have HMG : Hid (mgB m = (msB m.nm ++ (ysB m.ys ++ put m.es.length)) ++ mesB m.es ++ ptx m.da) := by show _ = _; unfold mgB; simp only [List.append_assoc]
  have HDL : Hid ((ptx m.da).length ≤ 4110) := by have := (put_len m.da.size).2; show _ ≤ _; rw [ptx_len]; omega
  have HC := hid hcl
  have R0 : Hid (RowIs (w.alloc (.cells #[.int .i64 m.kd, .int .i64 m.fr, .int .i64 m.to_, .int .i64 m.tm, .int .i64 m.ix, .int .i64 m.lt, .int .i64 m.cm, .int .i64 m.rd, .int .i64 m.at_, .bool m.ys, .slice ad m.es.length cap, .string m.da] 32)) w.heap.size [.int .i64 m.kd, .int .i64 m.fr, .int .i64 m.to_, .int .i64 m.tm, .int .i64 m.ix, .int .i64 m.lt, .int .i64 m.cm, .int .i64 m.rd, .int .i64 m.at_, .bool m.ys, .slice ad m.es.length cap, .string m.da] 32) := srow w _ _
  have B0 : Hid (Below w.heap.size w (w.alloc (.cells #[.int .i64 m.kd, .int .i64 m.fr, .int .i64 m.to_, .int .i64 m.tm, .int .i64 m.ix, .int .i64 m.lt, .int .i64 m.cm, .int .i64 m.rd, .int .i64 m.at_, .bool m.ys, .slice ad m.es.length cap, .string m.da] 32))) := below_al (Below.refl _ _) _
  have y0 := R0.out.cellAt (o := 0) rfl
  have y1 := R0.out.cellAt (o := 1) rfl
  have y2 := R0.out.cellAt (o := 2) rfl
  have y3 := R0.out.cellAt (o := 3) rfl
  have y4 := R0.out.cellAt (o := 4) rfl
  have y5 := R0.out.cellAt (o := 5) rfl
  have y6 := R0.out.cellAt (o := 6) rfl
  have y7 := R0.out.cellAt (o := 7) rfl
  have y8 := R0.out.cellAt (o := 8) rfl
  have y9 := R0.out.cellAt (o := 9) rfl
  have y10 := R0.out.cellAt (o := 10) rfl
  have y11 := R0.out.cellAt (o := 11) rfl
  have HES := hid hes
  unfold msV nmA at NU
  unfold msV at *
  clear hv hc hn hes hda hcl
  generalize mgB m = G at *
  go_enter Tryz.func7, Tryz.ntmps7
  go_wp2_with fail
  refine (CK.out _ B0.out).mono ?_
  rintro e w1 ⟨rfl, b1⟩
  have B1 := hid (below_on B0.out b1)
  have R1 := hid (R0.out.keep (b1.keep (fun _ => False)) (fun h => h))
  clear CK b1 B0 R0 y0 y1 y2 y3 y4 y5 y6 y7 y8 y9 y10 y11
  have y0 := R1.out.cellAt (o := 0) rfl
  have y1 := R1.out.cellAt (o := 1) rfl
  have y2 := R1.out.cellAt (o := 2) rfl
  have y3 := R1.out.cellAt (o := 3) rfl
  have y4 := R1.out.cellAt (o := 4) rfl
  have y5 := R1.out.cellAt (o := 5) rfl
  have y6 := R1.out.cellAt (o := 6) rfl
  have y7 := R1.out.cellAt (o := 7) rfl
  have y8 := R1.out.cellAt (o := 8) rfl
  have y9 := R1.out.cellAt (o := 9) rfl
  have y10 := R1.out.cellAt (o := 10) rfl
  have y11 := R1.out.cellAt (o := 11) rfl
  go_wp2_with fail
  refine (NU.out _).mono ?_
  rintro e w2 ⟨rfl, b2⟩
  have B2 : Hid (Below w.heap.size w (w2.alloc (.cells #[.int .i64 m.kd, .int .i64 m.fr, .int .i64 m.to_, .int .i64 m.tm, .int .i64 m.ix, .int .i64 m.lt, .int .i64 m.cm, .int .i64 m.rd, .int .i64 m.at_] 70))) := below_al (below_on B1.out b2) _
  have R2 : Hid (RowIs (w2.alloc (.cells #[.int .i64 m.kd, .int .i64 m.fr, .int .i64 m.to_, .int .i64 m.tm, .int .i64 m.ix, .int .i64 m.lt, .int .i64 m.cm, .int .i64 m.rd, .int .i64 m.at_] 70)) w.heap.size [.int .i64 m.kd, .int .i64 m.fr, .int .i64 m.to_, .int .i64 m.tm, .int .i64 m.ix, .int .i64 m.lt, .int .i64 m.cm, .int .i64 m.rd, .int .i64 m.at_, .bool m.ys, .slice ad m.es.length cap, .string m.da] 32) := row_old (R1.out.keep (b2.keep (fun _ => False)) (fun h => h)) _
  have Q2 : Hid (RowIs (w2.alloc (.cells #[.int .i64 m.kd, .int .i64 m.fr, .int .i64 m.to_, .int .i64 m.tm, .int .i64 m.ix, .int .i64 m.lt, .int .i64 m.cm, .int .i64 m.rd, .int .i64 m.at_] 70)) w2.heap.size [.int .i64 m.kd, .int .i64 m.fr, .int .i64 m.to_, .int .i64 m.tm, .int .i64 m.ix, .int .i64 m.lt, .int .i64 m.cm, .int .i64 m.rd, .int .i64 m.at_] 70) := srow w2 _ _
  have HNC : Hid (∀ (k : Nat), k < 9 → ([.int .i64 m.kd, .int .i64 m.fr, .int .i64 m.to_, .int .i64 m.tm, .int .i64 m.ix, .int .i64 m.lt, .int .i64 m.cm, .int .i64 m.rd, .int .i64 m.at_] : List Value)[k]? = some (.int .i64 (m.nm.getD k 0))) := fun k h => nm_cell m k h
  clear NU b2 B1 R1 y0 y1 y2 y3 y4 y5 y6 y7 y8 y9 y10 y11
  go_wp2
  generalize hq : w2.heap.size = q at *
  generalize hww : w2.alloc (.cells #[.int .i64 m.kd, .int .i64 m.fr, .int .i64 m.to_, .int .i64 m.tm, .int .i64 m.ix, .int .i64 m.lt, .int .i64 m.cm, .int .i64 m.rd, .int .i64 m.at_] 70) = w3 at *
  clear hq hww
  go_loopw [5, 6] (fun t i wr => ∃ (k : Nat) (A : List UInt8), k ≤ 9 ∧ t = .string ⟨A.toArray⟩ ∧ i = .int .i64 (k : Int) ∧ Hid (A = msB (m.nm.take k)) ∧ Hid (RowIs wr w.heap.size [.int .i64 m.kd, .int .i64 m.fr, .int .i64 m.to_, .int .i64 m.tm, .int .i64 m.ix, .int .i64 m.lt, .int .i64 m.cm, .int .i64 m.rd, .int .i64 m.at_, .bool m.ys, .slice ad m.es.length cap, .string m.da] 32) ∧ Hid (Below w.heap.size w wr) ∧ Hid (RowIs wr q [.int .i64 m.kd, .int .i64 m.fr, .int .i64 m.to_, .int .i64 m.tm, .int .i64 m.ix, .int .i64 m.lt, .int .i64 m.cm, .int .i64 m.rd, .int .i64 m.at_] 70)) (fun _ i _ => 9 - (intOf i).toNat)
  case atStart => exact ⟨0, [], by omega, rfl, rfl, rfl, R2, B2, Q2⟩
  case round =>
    clear R2 B2 Q2
    obtain ⟨k, A, hk, rfl, rfl, HA, HR, HB, HQ⟩ := hrel
    by_cases hlt : k < 9
    · have r0 : (0 : Int) ≤ (k : Int) := by omega
      have r1 : (k : Int) < 9 := by omega
      have ck := HQ.out.cellAt (HNC.out k hlt)
      obtain ⟨X, hX, hXl⟩ := HNN.out k hlt
      have N1 := hid (fun W => NR.out X W hXl)
      have HA2 : Hid (A ++ put X = msB (m.nm.take (k + 1))) := by show _ = _; rw [HNT.out k hlt, HA.out, hX, Int.toNat_natCast]
      have hal : A.length ≤ 90 := by rw [HA.out]; exact HNL.out k
      have hpl := (put_len X).2
      rw [hX] at ck
      have AM := fun W => add_ls A (put X) W (by omega)
      have hw := u64_nat X (by omega)
      clear HNN NR TX EN HML HMT HNT HNL HMG HDL HC HES HNC hal hpl HA hk hX hXl
      go_wp2_with fail
      refine (N1.out _).mono ?_
      rintro e w4 ⟨rfl, b4⟩
      have B3 := hid (below_on HB.out b4)
      have R3 := hid (HR.out.keep (b4.keep (fun _ => False)) (fun h => h))
      have Q3 := hid (HQ.out.keep (b4.keep (fun _ => False)) (fun h => h))
      clear N1 b4 HB HR HQ ck
      go_wp2
      exact ⟨⟨k + 1, _, by omega, rfl, by go_num, HA2, R3, B3, Q3⟩, by simp [intOf]; omega⟩
    · have hk9 : k = 9 := by omega
      subst hk9
      rw [show m.nm.take 9 = m.nm from List.take_of_length_le (by rw [nm_len]; omega)] at HA
      have hal : A.length ≤ 90 := by rw [HA.out]; have := HNL.out 9; rwa [show m.nm.take 9 = m.nm from List.take_of_length_le (by rw [nm_len]; omega)] at this
      have hll := (put_len m.es.length).2
      have N1 := hid (fun W => NR.out m.es.length W (by have := HES.out; omega))
      have hw := u64_nat m.es.length (by have := HES.out; omega)
      have hyl := ysB_len m.ys
      have HY : Hid ((A ++ ysB m.ys ++ put m.es.length).length ≤ 110) := by show _ ≤ _; rw [List.length_append, List.length_append]; omega
      have HMG2 : Hid (G = (A ++ ysB m.ys ++ put m.es.length) ++ mesB m.es ++ ptx m.da) := by show _ = _; rw [HMG.out, HA.out]; simp only [List.append_assoc]
      have A1t := fun W => add_ls A [1] W (by simp; omega)
      have A1f := fun W => add_ls A [0] W (by simp; omega)
      have A2 := fun W => add_ls (A ++ ysB m.ys) (put m.es.length) W (by rw [List.length_append]; omega)
      clear HNN HNC HNT HNL HMG HA hal hyl hll hk hlt HQ
      have y9 := HR.out.cellAt (o := 9) rfl
      have y10 := HR.out.cellAt (o := 10) rfl
      have HYT : Hid (m.ys = true → A ++ ysB m.ys = A ++ [1]) := fun h => by rw [h, ysB_t]
      have HYF : Hid (m.ys = false → A ++ ysB m.ys = A ++ [0]) := fun h => by rw [h, ysB_f]
      generalize hAY : A ++ ysB m.ys = AY at *
      generalize hAL : AY ++ put m.es.length = A0 at *
      have HAL := hid hAL
      clear hAY hAL
      cases hys : m.ys
      case false =>
        have AE := HYF.out hys
        rw [hys] at y9
        subst AE
        clear HYT HYF A1t
        go_wp2_with fail
        refine (N1.out _).mono ?_
        rintro e w5 ⟨rfl, b5⟩
        have B5 := hid (below_on HB.out b5)
        have R5 := hid (HR.out.keep (b5.keep (fun _ => False)) (fun h => h))
        have y10 := R5.out.cellAt (o := 10) rfl
        clear N1 b5 HB HR y9
        go_wp2
        go_loopw [5, 7] (fun t i wr => ∃ (k : Nat) (A : List UInt8), k ≤ m.es.length ∧ t = .string ⟨A.toArray⟩ ∧ i = .int .i64 (k : Int) ∧ Hid (A = A0 ++ mesB (m.es.take k)) ∧ Hid (RowIs wr w.heap.size [.int .i64 m.kd, .int .i64 m.fr, .int .i64 m.to_, .int .i64 m.tm, .int .i64 m.ix, .int .i64 m.lt, .int .i64 m.cm, .int .i64 m.rd, .int .i64 m.at_, .bool m.ys, .slice ad m.es.length cap, .string m.da] 32) ∧ Hid (Below w.heap.size w wr)) (fun _ i _ => m.es.length - (intOf i).toNat)
        case atStart => exact ⟨0, A0, by omega, by first | rfl | rw [HAL.out], rfl, by show _ = _; simp [mesB], R5, B5⟩
        case round =>
          clear R5 B5 y10 A1f A2 HAL
          obtain ⟨k, A, hk, rfl, rfl, HA, HR, HB⟩ := hrel
          have y10 := HR.out.cellAt (o := 10) rfl
          by_cases hlt : k < m.es.length
          · have hk1 : (k : Int) < (m.es.length : Int) := by omega
            have hk0 : (0 : Int) ≤ (k : Int) := by omega
            have hwk : wrap64 ((k : Int) + 1) = ((k + 1 : Nat) : Int) := by have := HES.out; rw [IntWalk.wrap64_in _ (by omega)]; omega
            obtain ⟨b, off, hadr, hb, c0, c1, c2⟩ := HC.out k hlt
            have d0 := (HB.out.cell (p := ⟨b, off + k * 3, none⟩) hb).trans c0
            have d1 := (HB.out.cell (p := ⟨b, off + k * 3 + 1, none⟩) hb).trans c1
            have d2 := (HB.out.cell (p := ⟨b, off + k * 3 + 2, none⟩) hb).trans c2
            obtain ⟨⟨T, K, hT, hTl, hK, hKl⟩, E3, ez⟩ := EN.out k hlt
            have HE1 := hid (fun W => NR.out T W hTl)
            have HE2 := hid (fun W => NR.out K W (by omega))
            have HE3 := hid E3
            have hw1 := u64_nat T (by omega)
            have hw2 := u64_nat K (by omega)
            have hal : A.length ≤ 1049166 := by have h1 := HML.out k; have h2 := HY.out; rw [HA.out, List.length_append]; omega
            have HA2 : Hid (A ++ meB m.es[k] = A0 ++ mesB (m.es.take (k + 1))) := by show _ = _; rw [HMT.out k hlt, HA.out, List.append_assoc]
            have HLT := hid hlt
            clear c0 c1 c2 hb E3 EN HML HMT HMG2 HY HA HC TX HDL hk NR
            generalize hx : m.es[k] = x at *
            obtain ⟨tm, kd, da⟩ := x
            simp only at *
            subst hT hK
            have hl1 := (put_len T).2
            have hl2 := (put_len K).2
            have hl3 : (ptx da).length ≤ 65546 := by have := (put_len da.size).2; rw [ptx_len]; omega
            have A3 := fun W => add_ls A (put T) W (by omega)
            have A4 := fun W => add_ls (A ++ put T) (put K) W (by rw [List.length_append]; omega)
            have A5 := fun W => add_ls (A ++ put T ++ put K) (ptx da) W (by rw [List.length_append, List.length_append]; omega)
            have HA3 : Hid (A ++ put T ++ put K ++ ptx da = A0 ++ mesB (m.es.take (k + 1))) := by have := HA2.out; unfold meB at this; simp only [Int.toNat_natCast] at this; show _ = _; rw [← this]; simp only [List.append_assoc]
            generalize hXR : (⟨(A ++ put T ++ put K ++ ptx da).toArray⟩ : ByteArray) = XR at *
            generalize hXK : (⟨(A ++ put T ++ put K).toArray⟩ : ByteArray) = XK at *
            generalize hXT : (⟨(A ++ put T).toArray⟩ : ByteArray) = XT at *
            generalize hX1 : (⟨(put T).toArray⟩ : ByteArray) = X1 at *
            generalize hX2 : (⟨(put K).toArray⟩ : ByteArray) = X2 at *
            generalize hX3 : (⟨(ptx da).toArray⟩ : ByteArray) = X3 at *
            have HXR := hid hXR
            clear hXR hXK hXT hX1 hX2 hX3
            have HB6 : Hid (Below w.heap.size w (wr.alloc (.cells #[.int .i64 (T : Int), .int .i64 (K : Int), .string da] 78))) := below_al HB.out _
            have HR6 := hid (row_old HR.out (.cells #[.int .i64 (T : Int), .int .i64 (K : Int), .string da] 78))
            have HQ6 : Hid (RowIs (wr.alloc (.cells #[.int .i64 (T : Int), .int .i64 (K : Int), .string da] 78)) wr.heap.size [.int .i64 (T : Int), .int .i64 (K : Int), .string da] 78) := srow wr _ _
            have z0 := HQ6.out.cellAt (o := 0) rfl
            have z1 := HQ6.out.cellAt (o := 1) rfl
            have z2 := HQ6.out.cellAt (o := 2) rfl
            have CE : Hid (∀ W, RowIs W wr.heap.size [.int .i64 (T : Int), .int .i64 (K : Int), .string da] 78 → W.cell? ⟨wr.heap.size, 0, none⟩ = some (.int .i64 (T : Int)) ∧ W.cell? ⟨wr.heap.size, 1, none⟩ = some (.int .i64 (K : Int)) ∧ W.cell? ⟨wr.heap.size, 2, none⟩ = some (.string da)) := fun W h => ⟨h.cellAt rfl, h.cellAt rfl, h.cellAt rfl⟩
            subst hadr
            clear HB HR HA2 hal hl1 hl2 hl3 ez hx hlt hTl hKl
            go_wp2
            have B6 := hid HB6.out.drew
            have R6 : Hid (RowIs (wr.alloc (.cells #[.int .i64 (T : Int), .int .i64 (K : Int), .string da] 78)).drew w.heap.size [.int .i64 m.kd, .int .i64 m.fr, .int .i64 m.to_, .int .i64 m.tm, .int .i64 m.ix, .int .i64 m.lt, .int .i64 m.cm, .int .i64 m.rd, .int .i64 m.at_, .bool m.ys, .slice (some ⟨b, off, none⟩) m.es.length cap, .string m.da] 32) := HR6.out
            have Q6 : Hid (RowIs (wr.alloc (.cells #[.int .i64 (T : Int), .int .i64 (K : Int), .string da] 78)).drew wr.heap.size [.int .i64 (T : Int), .int .i64 (K : Int), .string da] 78) := HQ6.out
            clear HB6 HR6 HQ6
            refine wp_region_held_drew (S := fun W => W.cell? ⟨wr.heap.size, 0, none⟩ = some (.int .i64 (T : Int)) ∧ W.cell? ⟨wr.heap.size, 1, none⟩ = some (.int .i64 (K : Int)) ∧ W.cell? ⟨wr.heap.size, 2, none⟩ = some (.string da)) (by kernel_rfl) ⟨z0, z1, z2⟩ (fun hHeld => ?_)
            generalize (wr.alloc (.cells #[.int .i64 (T : Int), .int .i64 (K : Int), .string da] 78)).drew = V at *
            refine wpAnyH_take (i := 0) (v := ?vv1) rfl (by kernel_rfl) (by kernel_rfl) (by kernel_rfl) (fun _ _ _ h => h) (Or.inl ⟨by rfl, ?hy1⟩) (by assumption) ?rest1
            case hy1 => (intro w hSw; (try dsimp only at hSw); go_simp; first | done | with_reducible rfl)
            try simp only [Act.put, List.getElem_toArray, List.getElem_cons_succ, List.getElem_cons_zero, List.setIfInBounds_toArray, List.set_cons_zero, List.set_cons_succ]
            refine wpAnyH_take (i := 1) (v := ?vv2) rfl (by kernel_rfl) (by kernel_rfl) (by kernel_rfl) (fun _ _ _ h => h) (Or.inl ⟨by rfl, ?hy2⟩) (by assumption) ?rest2
            case hy2 => (intro w hSw; (try dsimp only at hSw); go_simp; first | done | with_reducible rfl)
            try simp only [Act.put, List.getElem_toArray, List.getElem_cons_succ, List.getElem_cons_zero, List.setIfInBounds_toArray, List.set_cons_zero, List.set_cons_succ]
            refine wpAnyH_take (i := 2) (v := ?vv3) rfl (by kernel_rfl) (by kernel_rfl) (by kernel_rfl) (fun _ _ _ h => h) (Or.inl ⟨by rfl, ?hy3⟩) (by assumption) ?rest3
            case hy3 => (intro w hSw; (try dsimp only at hSw); go_simp; first | done | with_reducible rfl)
            try simp only [Act.put, List.getElem_toArray, List.getElem_cons_succ, List.getElem_cons_zero, List.setIfInBounds_toArray, List.set_cons_zero, List.set_cons_succ]
            refine wpAnyH_take (i := 3) (v := ?vv4) rfl (by kernel_rfl) (by kernel_rfl) (by kernel_rfl) (fun _ _ _ h => h) (Or.inl ⟨by rfl, ?hy4⟩) (by assumption) ?rest4
            case hy4 => (intro w hSw; (try dsimp only at hSw); go_simp; first | done | with_reducible rfl)
            try simp only [Act.put, List.getElem_toArray, List.getElem_cons_succ, List.getElem_cons_zero, List.setIfInBounds_toArray, List.set_cons_zero, List.set_cons_succ]
            refine wpAnyH_take (i := 6) (v := ?vv5) rfl (by kernel_rfl) (by kernel_rfl) (by kernel_rfl) (fun _ _ _ h => h) (Or.inl ⟨by rfl, ?hy5⟩) (by assumption) ?rest5
            case hy5 => (intro w hSw; (try dsimp only at hSw); go_simp; first | done | with_reducible rfl)
            try simp only [Act.put, List.getElem_toArray, List.getElem_cons_succ, List.getElem_cons_zero, List.setIfInBounds_toArray, List.set_cons_zero, List.set_cons_succ]
            refine wpAnyH_take (i := 7) (v := ?vv6) rfl (by kernel_rfl) (by kernel_rfl) (by kernel_rfl) (fun _ _ _ h => h) (Or.inl ⟨by rfl, ?hy6⟩) (by assumption) ?rest6
            case hy6 => (intro w hSw; (try dsimp only at hSw); go_simp; first | done | with_reducible rfl)
            try simp only [Act.put, List.getElem_toArray, List.getElem_cons_succ, List.getElem_cons_zero, List.setIfInBounds_toArray, List.set_cons_zero, List.set_cons_succ]
            refine wpAnyH_take (i := 8) (v := ?vv7) rfl (by kernel_rfl) (by kernel_rfl) (by kernel_rfl) (fun _ _ _ h => h) (Or.inl ⟨by rfl, ?hy7⟩) (by assumption) ?rest7
            case hy7 => (intro w hSw; (try dsimp only at hSw); go_simp; first | done | with_reducible rfl)
            try simp only [Act.put, List.getElem_toArray, List.getElem_cons_succ, List.getElem_cons_zero, List.setIfInBounds_toArray, List.set_cons_zero, List.set_cons_succ]
            refine wpAnyH_take (i := 11) (v := ?vv8) rfl (by kernel_rfl) (by kernel_rfl) (by kernel_rfl) (fun _ _ _ h => h) (Or.inl ⟨by rfl, ?hy8⟩) (by assumption) ?rest8
            case hy8 => (intro w hSw; (try dsimp only at hSw); go_simp; first | done | with_reducible rfl)
            try simp only [Act.put, List.getElem_toArray, List.getElem_cons_succ, List.getElem_cons_zero, List.setIfInBounds_toArray, List.set_cons_zero, List.set_cons_succ]
            refine wpAnyH_take (i := 12) (v := ?vv9) rfl (by kernel_rfl) (by kernel_rfl) (by kernel_rfl) (fun _ _ _ h => h) (Or.inl ⟨by rfl, ?hy9⟩) (by assumption) ?rest9
            case hy9 => (intro w hSw; (try dsimp only at hSw); go_simp; first | done | with_reducible rfl)
            try simp only [Act.put, List.getElem_toArray, List.getElem_cons_succ, List.getElem_cons_zero, List.setIfInBounds_toArray, List.set_cons_zero, List.set_cons_succ]
            refine wpAnyH_ready (rs := [4]) (by kernel_rfl) (by simp) ?_
            refine AllReadyH.cons rfl (fun K hK => ?_) AllReadyH.nil
            go_simp
            refine (HE1.out _).mono ?_
            rintro e u7 ⟨rfl, b7⟩
            have B7 := hid (below_on B6.out b7)
            have R7 := hid (R6.out.keep (b7.keep (fun _ => False)) (fun h => h))
            have Q7 := hid (Q6.out.keep (b7.keep (fun _ => False)) (fun h => h))
            clear b7 HE1 B6 R6 Q6 hHeld
            go_wp2_with fail
            refine hK.out _ _ (CE.out _ Q7.out) (fun hHeld => ?_)
            clear hK K
            try simp only [Act.put, List.getElem_toArray, List.getElem_cons_succ, List.getElem_cons_zero, List.setIfInBounds_toArray, List.set_cons_zero, List.set_cons_succ]
            refine wpAnyH_take (i := 5) (v := ?vv10) rfl (by kernel_rfl) (by kernel_rfl) (by kernel_rfl) (fun _ _ _ h => h) (Or.inl ⟨by rfl, ?hy10⟩) (by assumption) ?rest10
            case hy10 => (intro w hSw; (try dsimp only at hSw); go_simp; first | done | with_reducible rfl)
            try simp only [Act.put, List.getElem_toArray, List.getElem_cons_succ, List.getElem_cons_zero, List.setIfInBounds_toArray, List.set_cons_zero, List.set_cons_succ]
            refine wpAnyH_ready (rs := [9]) (by kernel_rfl) (by simp) ?_
            refine AllReadyH.cons rfl (fun K hK => ?_) AllReadyH.nil
            go_simp
            refine (HE2.out _).mono ?_
            rintro e u77 ⟨rfl, b77⟩
            have B77 := hid (below_on B7.out b77)
            have R77 := hid (R7.out.keep (b77.keep (fun _ => False)) (fun h => h))
            have Q77 := hid (Q7.out.keep (b77.keep (fun _ => False)) (fun h => h))
            clear b77 HE2 B7 R7 Q7 hHeld
            go_wp2_with fail
            refine hK.out _ _ (CE.out _ Q77.out) (fun hHeld => ?_)
            clear hK K
            try simp only [Act.put, List.getElem_toArray, List.getElem_cons_succ, List.getElem_cons_zero, List.setIfInBounds_toArray, List.set_cons_zero, List.set_cons_succ]
            refine wpAnyH_take (i := 10) (v := ?vv11) rfl (by kernel_rfl) (by kernel_rfl) (by kernel_rfl) (fun _ _ _ h => h) (Or.inl ⟨by rfl, ?hy11⟩) (by assumption) ?rest11
            case hy11 => (intro w hSw; (try dsimp only at hSw); go_simp; first | done | with_reducible rfl)
            try simp only [Act.put, List.getElem_toArray, List.getElem_cons_succ, List.getElem_cons_zero, List.setIfInBounds_toArray, List.set_cons_zero, List.set_cons_succ]
            refine wpAnyH_ready (rs := [13]) (by kernel_rfl) (by simp) ?_
            refine AllReadyH.cons rfl (fun K hK => ?_) AllReadyH.nil
            go_simp
            refine (HE3.out _).mono ?_
            rintro e u8 ⟨rfl, b8⟩
            have B8 := hid (below_on B77.out b8)
            have R8 := hid (R77.out.keep (b8.keep (fun _ => False)) (fun h => h))
            have Q8 := hid (Q77.out.keep (b8.keep (fun _ => False)) (fun h => h))
            clear b8 HE3 B77 R77 Q77 hHeld
            go_wp2_with fail
            refine hK.out _ _ (CE.out _ Q8.out) (fun hHeld => ?_)
            clear hK K
            try simp only [Act.put, List.getElem_toArray, List.getElem_cons_succ, List.getElem_cons_zero, List.setIfInBounds_toArray, List.set_cons_zero, List.set_cons_succ]
            refine wpAnyH_take (i := 14) (v := ?vv12) rfl (by kernel_rfl) (by kernel_rfl) (by kernel_rfl) (fun _ _ _ h => h) (Or.inl ⟨by rfl, ?hy12⟩) (by assumption) ?rest12
            case hy12 => (intro w hSw; (try dsimp only at hSw); go_simp; first | done | with_reducible rfl)
            try simp only [Act.put, List.getElem_toArray, List.getElem_cons_succ, List.getElem_cons_zero, List.setIfInBounds_toArray, List.set_cons_zero, List.set_cons_succ]
            refine wpAnyH_take (i := 15) (v := ?vv13) rfl (by kernel_rfl) (by kernel_rfl) (by kernel_rfl) (fun _ _ _ h => h) (Or.inl ⟨by rfl, ?hy13⟩) (by assumption) ?rest13
            case hy13 => (intro w hSw; (try dsimp only at hSw); go_simp; first | done | with_reducible rfl)
            try simp only [Act.put, List.getElem_toArray, List.getElem_cons_succ, List.getElem_cons_zero, List.setIfInBounds_toArray, List.set_cons_zero, List.set_cons_succ]
            refine wpAnyH_done (by kernel_rfl) ?_ _
            clear hHeld CE A3 A4 A5 d0 d1 d2 z0 z1 z2
            go_wp2
            exact ⟨⟨k + 1, _, HLT.out, by rw [← HXR.out], by first | rw [hwk] | rfl | simp, HA3, R8, B8⟩, by (try rw [hwk]); have := HLT.out; simp [intOf]; omega⟩
          · have hk9 : k = m.es.length := by omega
            have hdl : decide ((k : Int) < (m.es.length : Int)) = false := decide_eq_false (by omega)
            have hdl2 : decide (k < m.es.length) = false := decide_eq_false (by omega)
            have hal : A.length ≤ 1049166 := by have h1 := HML.out k; have h2 := HY.out; rw [HA.out, List.length_append]; omega
            have hdn := HDL.out
            have AM := fun W => add_ls A (ptx m.da) W (by omega)
            have HG : Hid (G = A ++ ptx m.da) := by show _ = _; rw [HMG2.out, HA.out, hk9, List.take_length]
            have y11 := HR.out.cellAt (o := 11) rfl
            clear EN HML HMT HMG2 HY HA HC HDL hk hlt hk9 hal hdn HES NR
            go_wp2_with fail
            refine (TX.out _).mono ?_
            rintro e w9 ⟨rfl, b9⟩
            have B9 := hid (below_on HB.out b9)
            clear TX b9 HB HR y11 y10
            go_wp2
            go_ret2
            rw [HG.out]
            exact ⟨rfl, B9.out⟩
      case true =>
        have AE := HYT.out hys
        rw [hys] at y9
        subst AE
        clear HYT HYF A1f
        go_wp2_with fail
        refine (N1.out _).mono ?_
        rintro e w5 ⟨rfl, b5⟩
        have B5 := hid (below_on HB.out b5)
        have R5 := hid (HR.out.keep (b5.keep (fun _ => False)) (fun h => h))
        have y10 := R5.out.cellAt (o := 10) rfl
        clear N1 b5 HB HR y9
        go_wp2
        go_loopw [5, 7] (fun t i wr => ∃ (k : Nat) (A : List UInt8), k ≤ m.es.length ∧ t = .string ⟨A.toArray⟩ ∧ i = .int .i64 (k : Int) ∧ Hid (A = A0 ++ mesB (m.es.take k)) ∧ Hid (RowIs wr w.heap.size [.int .i64 m.kd, .int .i64 m.fr, .int .i64 m.to_, .int .i64 m.tm, .int .i64 m.ix, .int .i64 m.lt, .int .i64 m.cm, .int .i64 m.rd, .int .i64 m.at_, .bool m.ys, .slice ad m.es.length cap, .string m.da] 32) ∧ Hid (Below w.heap.size w wr)) (fun _ i _ => m.es.length - (intOf i).toNat)
        case atStart => exact ⟨0, A0, by omega, by first | rfl | rw [HAL.out], rfl, by show _ = _; simp [mesB], R5, B5⟩
        case round =>
          clear R5 B5 y10 A1t A2 HAL
          obtain ⟨k, A, hk, rfl, rfl, HA, HR, HB⟩ := hrel
          have y10 := HR.out.cellAt (o := 10) rfl
          by_cases hlt : k < m.es.length
          · have hk1 : (k : Int) < (m.es.length : Int) := by omega
            have hk0 : (0 : Int) ≤ (k : Int) := by omega
            have hwk : wrap64 ((k : Int) + 1) = ((k + 1 : Nat) : Int) := by have := HES.out; rw [IntWalk.wrap64_in _ (by omega)]; omega
            obtain ⟨b, off, hadr, hb, c0, c1, c2⟩ := HC.out k hlt
            have d0 := (HB.out.cell (p := ⟨b, off + k * 3, none⟩) hb).trans c0
            have d1 := (HB.out.cell (p := ⟨b, off + k * 3 + 1, none⟩) hb).trans c1
            have d2 := (HB.out.cell (p := ⟨b, off + k * 3 + 2, none⟩) hb).trans c2
            obtain ⟨⟨T, K, hT, hTl, hK, hKl⟩, E3, ez⟩ := EN.out k hlt
            have HE1 := hid (fun W => NR.out T W hTl)
            have HE2 := hid (fun W => NR.out K W (by omega))
            have HE3 := hid E3
            have hw1 := u64_nat T (by omega)
            have hw2 := u64_nat K (by omega)
            have hal : A.length ≤ 1049166 := by have h1 := HML.out k; have h2 := HY.out; rw [HA.out, List.length_append]; omega
            have HA2 : Hid (A ++ meB m.es[k] = A0 ++ mesB (m.es.take (k + 1))) := by show _ = _; rw [HMT.out k hlt, HA.out, List.append_assoc]
            have HLT := hid hlt
            clear c0 c1 c2 hb E3 EN HML HMT HMG2 HY HA HC TX HDL hk NR
            generalize hx : m.es[k] = x at *
            obtain ⟨tm, kd, da⟩ := x
            simp only at *
            subst hT hK
            have hl1 := (put_len T).2
            have hl2 := (put_len K).2
            have hl3 : (ptx da).length ≤ 65546 := by have := (put_len da.size).2; rw [ptx_len]; omega
            have A3 := fun W => add_ls A (put T) W (by omega)
            have A4 := fun W => add_ls (A ++ put T) (put K) W (by rw [List.length_append]; omega)
            have A5 := fun W => add_ls (A ++ put T ++ put K) (ptx da) W (by rw [List.length_append, List.length_append]; omega)
            have HA3 : Hid (A ++ put T ++ put K ++ ptx da = A0 ++ mesB (m.es.take (k + 1))) := by have := HA2.out; unfold meB at this; simp only [Int.toNat_natCast] at this; show _ = _; rw [← this]; simp only [List.append_assoc]
            generalize hXR : (⟨(A ++ put T ++ put K ++ ptx da).toArray⟩ : ByteArray) = XR at *
            generalize hXK : (⟨(A ++ put T ++ put K).toArray⟩ : ByteArray) = XK at *
            generalize hXT : (⟨(A ++ put T).toArray⟩ : ByteArray) = XT at *
            generalize hX1 : (⟨(put T).toArray⟩ : ByteArray) = X1 at *
            generalize hX2 : (⟨(put K).toArray⟩ : ByteArray) = X2 at *
            generalize hX3 : (⟨(ptx da).toArray⟩ : ByteArray) = X3 at *
            have HXR := hid hXR
            clear hXR hXK hXT hX1 hX2 hX3
            have HB6 : Hid (Below w.heap.size w (wr.alloc (.cells #[.int .i64 (T : Int), .int .i64 (K : Int), .string da] 78))) := below_al HB.out _
            have HR6 := hid (row_old HR.out (.cells #[.int .i64 (T : Int), .int .i64 (K : Int), .string da] 78))
            have HQ6 : Hid (RowIs (wr.alloc (.cells #[.int .i64 (T : Int), .int .i64 (K : Int), .string da] 78)) wr.heap.size [.int .i64 (T : Int), .int .i64 (K : Int), .string da] 78) := srow wr _ _
            have z0 := HQ6.out.cellAt (o := 0) rfl
            have z1 := HQ6.out.cellAt (o := 1) rfl
            have z2 := HQ6.out.cellAt (o := 2) rfl
            have CE : Hid (∀ W, RowIs W wr.heap.size [.int .i64 (T : Int), .int .i64 (K : Int), .string da] 78 → W.cell? ⟨wr.heap.size, 0, none⟩ = some (.int .i64 (T : Int)) ∧ W.cell? ⟨wr.heap.size, 1, none⟩ = some (.int .i64 (K : Int)) ∧ W.cell? ⟨wr.heap.size, 2, none⟩ = some (.string da)) := fun W h => ⟨h.cellAt rfl, h.cellAt rfl, h.cellAt rfl⟩
            subst hadr
            clear HB HR HA2 hal hl1 hl2 hl3 ez hx hlt hTl hKl
            go_wp2
            have B6 := hid HB6.out.drew
            have R6 : Hid (RowIs (wr.alloc (.cells #[.int .i64 (T : Int), .int .i64 (K : Int), .string da] 78)).drew w.heap.size [.int .i64 m.kd, .int .i64 m.fr, .int .i64 m.to_, .int .i64 m.tm, .int .i64 m.ix, .int .i64 m.lt, .int .i64 m.cm, .int .i64 m.rd, .int .i64 m.at_, .bool m.ys, .slice (some ⟨b, off, none⟩) m.es.length cap, .string m.da] 32) := HR6.out
            have Q6 : Hid (RowIs (wr.alloc (.cells #[.int .i64 (T : Int), .int .i64 (K : Int), .string da] 78)).drew wr.heap.size [.int .i64 (T : Int), .int .i64 (K : Int), .string da] 78) := HQ6.out
            clear HB6 HR6 HQ6
            refine wp_region_held_drew (S := fun W => W.cell? ⟨wr.heap.size, 0, none⟩ = some (.int .i64 (T : Int)) ∧ W.cell? ⟨wr.heap.size, 1, none⟩ = some (.int .i64 (K : Int)) ∧ W.cell? ⟨wr.heap.size, 2, none⟩ = some (.string da)) (by kernel_rfl) ⟨z0, z1, z2⟩ (fun hHeld => ?_)
            generalize (wr.alloc (.cells #[.int .i64 (T : Int), .int .i64 (K : Int), .string da] 78)).drew = V at *
            refine wpAnyH_take (i := 0) (v := ?vv14) rfl (by kernel_rfl) (by kernel_rfl) (by kernel_rfl) (fun _ _ _ h => h) (Or.inl ⟨by rfl, ?hy14⟩) (by assumption) ?rest14
            case hy14 => (intro w hSw; (try dsimp only at hSw); go_simp; first | done | with_reducible rfl)
            try simp only [Act.put, List.getElem_toArray, List.getElem_cons_succ, List.getElem_cons_zero, List.setIfInBounds_toArray, List.set_cons_zero, List.set_cons_succ]
            refine wpAnyH_take (i := 1) (v := ?vv15) rfl (by kernel_rfl) (by kernel_rfl) (by kernel_rfl) (fun _ _ _ h => h) (Or.inl ⟨by rfl, ?hy15⟩) (by assumption) ?rest15
            case hy15 => (intro w hSw; (try dsimp only at hSw); go_simp; first | done | with_reducible rfl)
            try simp only [Act.put, List.getElem_toArray, List.getElem_cons_succ, List.getElem_cons_zero, List.setIfInBounds_toArray, List.set_cons_zero, List.set_cons_succ]
            refine wpAnyH_take (i := 2) (v := ?vv16) rfl (by kernel_rfl) (by kernel_rfl) (by kernel_rfl) (fun _ _ _ h => h) (Or.inl ⟨by rfl, ?hy16⟩) (by assumption) ?rest16
            case hy16 => (intro w hSw; (try dsimp only at hSw); go_simp; first | done | with_reducible rfl)
            try simp only [Act.put, List.getElem_toArray, List.getElem_cons_succ, List.getElem_cons_zero, List.setIfInBounds_toArray, List.set_cons_zero, List.set_cons_succ]
            refine wpAnyH_take (i := 3) (v := ?vv17) rfl (by kernel_rfl) (by kernel_rfl) (by kernel_rfl) (fun _ _ _ h => h) (Or.inl ⟨by rfl, ?hy17⟩) (by assumption) ?rest17
            case hy17 => (intro w hSw; (try dsimp only at hSw); go_simp; first | done | with_reducible rfl)
            try simp only [Act.put, List.getElem_toArray, List.getElem_cons_succ, List.getElem_cons_zero, List.setIfInBounds_toArray, List.set_cons_zero, List.set_cons_succ]
            refine wpAnyH_take (i := 6) (v := ?vv18) rfl (by kernel_rfl) (by kernel_rfl) (by kernel_rfl) (fun _ _ _ h => h) (Or.inl ⟨by rfl, ?hy18⟩) (by assumption) ?rest18
            case hy18 => (intro w hSw; (try dsimp only at hSw); go_simp; first | done | with_reducible rfl)
            try simp only [Act.put, List.getElem_toArray, List.getElem_cons_succ, List.getElem_cons_zero, List.setIfInBounds_toArray, List.set_cons_zero, List.set_cons_succ]
            refine wpAnyH_take (i := 7) (v := ?vv19) rfl (by kernel_rfl) (by kernel_rfl) (by kernel_rfl) (fun _ _ _ h => h) (Or.inl ⟨by rfl, ?hy19⟩) (by assumption) ?rest19
            case hy19 => (intro w hSw; (try dsimp only at hSw); go_simp; first | done | with_reducible rfl)
            try simp only [Act.put, List.getElem_toArray, List.getElem_cons_succ, List.getElem_cons_zero, List.setIfInBounds_toArray, List.set_cons_zero, List.set_cons_succ]
            refine wpAnyH_take (i := 8) (v := ?vv20) rfl (by kernel_rfl) (by kernel_rfl) (by kernel_rfl) (fun _ _ _ h => h) (Or.inl ⟨by rfl, ?hy20⟩) (by assumption) ?rest20
            case hy20 => (intro w hSw; (try dsimp only at hSw); go_simp; first | done | with_reducible rfl)
            try simp only [Act.put, List.getElem_toArray, List.getElem_cons_succ, List.getElem_cons_zero, List.setIfInBounds_toArray, List.set_cons_zero, List.set_cons_succ]
            refine wpAnyH_take (i := 11) (v := ?vv21) rfl (by kernel_rfl) (by kernel_rfl) (by kernel_rfl) (fun _ _ _ h => h) (Or.inl ⟨by rfl, ?hy21⟩) (by assumption) ?rest21
            case hy21 => (intro w hSw; (try dsimp only at hSw); go_simp; first | done | with_reducible rfl)
            try simp only [Act.put, List.getElem_toArray, List.getElem_cons_succ, List.getElem_cons_zero, List.setIfInBounds_toArray, List.set_cons_zero, List.set_cons_succ]
            refine wpAnyH_take (i := 12) (v := ?vv22) rfl (by kernel_rfl) (by kernel_rfl) (by kernel_rfl) (fun _ _ _ h => h) (Or.inl ⟨by rfl, ?hy22⟩) (by assumption) ?rest22
            case hy22 => (intro w hSw; (try dsimp only at hSw); go_simp; first | done | with_reducible rfl)
            try simp only [Act.put, List.getElem_toArray, List.getElem_cons_succ, List.getElem_cons_zero, List.setIfInBounds_toArray, List.set_cons_zero, List.set_cons_succ]
            refine wpAnyH_ready (rs := [4]) (by kernel_rfl) (by simp) ?_
            refine AllReadyH.cons rfl (fun K hK => ?_) AllReadyH.nil
            go_simp
            refine (HE1.out _).mono ?_
            rintro e u7 ⟨rfl, b7⟩
            have B7 := hid (below_on B6.out b7)
            have R7 := hid (R6.out.keep (b7.keep (fun _ => False)) (fun h => h))
            have Q7 := hid (Q6.out.keep (b7.keep (fun _ => False)) (fun h => h))
            clear b7 HE1 B6 R6 Q6 hHeld
            go_wp2_with fail
            refine hK.out _ _ (CE.out _ Q7.out) (fun hHeld => ?_)
            clear hK K
            try simp only [Act.put, List.getElem_toArray, List.getElem_cons_succ, List.getElem_cons_zero, List.setIfInBounds_toArray, List.set_cons_zero, List.set_cons_succ]
            refine wpAnyH_take (i := 5) (v := ?vv23) rfl (by kernel_rfl) (by kernel_rfl) (by kernel_rfl) (fun _ _ _ h => h) (Or.inl ⟨by rfl, ?hy23⟩) (by assumption) ?rest23
            case hy23 => (intro w hSw; (try dsimp only at hSw); go_simp; first | done | with_reducible rfl)
            try simp only [Act.put, List.getElem_toArray, List.getElem_cons_succ, List.getElem_cons_zero, List.setIfInBounds_toArray, List.set_cons_zero, List.set_cons_succ]
            refine wpAnyH_ready (rs := [9]) (by kernel_rfl) (by simp) ?_
            refine AllReadyH.cons rfl (fun K hK => ?_) AllReadyH.nil
            go_simp
            refine (HE2.out _).mono ?_
            rintro e u77 ⟨rfl, b77⟩
            have B77 := hid (below_on B7.out b77)
            have R77 := hid (R7.out.keep (b77.keep (fun _ => False)) (fun h => h))
            have Q77 := hid (Q7.out.keep (b77.keep (fun _ => False)) (fun h => h))
            clear b77 HE2 B7 R7 Q7 hHeld
            go_wp2_with fail
            refine hK.out _ _ (CE.out _ Q77.out) (fun hHeld => ?_)
            clear hK K
            try simp only [Act.put, List.getElem_toArray, List.getElem_cons_succ, List.getElem_cons_zero, List.setIfInBounds_toArray, List.set_cons_zero, List.set_cons_succ]
            refine wpAnyH_take (i := 10) (v := ?vv24) rfl (by kernel_rfl) (by kernel_rfl) (by kernel_rfl) (fun _ _ _ h => h) (Or.inl ⟨by rfl, ?hy24⟩) (by assumption) ?rest24
            case hy24 => (intro w hSw; (try dsimp only at hSw); go_simp; first | done | with_reducible rfl)
            try simp only [Act.put, List.getElem_toArray, List.getElem_cons_succ, List.getElem_cons_zero, List.setIfInBounds_toArray, List.set_cons_zero, List.set_cons_succ]
            refine wpAnyH_ready (rs := [13]) (by kernel_rfl) (by simp) ?_
            refine AllReadyH.cons rfl (fun K hK => ?_) AllReadyH.nil
            go_simp
            refine (HE3.out _).mono ?_
            rintro e u8 ⟨rfl, b8⟩
            have B8 := hid (below_on B77.out b8)
            have R8 := hid (R77.out.keep (b8.keep (fun _ => False)) (fun h => h))
            have Q8 := hid (Q77.out.keep (b8.keep (fun _ => False)) (fun h => h))
            clear b8 HE3 B77 R77 Q77 hHeld
            go_wp2_with fail
            refine hK.out _ _ (CE.out _ Q8.out) (fun hHeld => ?_)
            clear hK K
            try simp only [Act.put, List.getElem_toArray, List.getElem_cons_succ, List.getElem_cons_zero, List.setIfInBounds_toArray, List.set_cons_zero, List.set_cons_succ]
            refine wpAnyH_take (i := 14) (v := ?vv25) rfl (by kernel_rfl) (by kernel_rfl) (by kernel_rfl) (fun _ _ _ h => h) (Or.inl ⟨by rfl, ?hy25⟩) (by assumption) ?rest25
            case hy25 => (intro w hSw; (try dsimp only at hSw); go_simp; first | done | with_reducible rfl)
            try simp only [Act.put, List.getElem_toArray, List.getElem_cons_succ, List.getElem_cons_zero, List.setIfInBounds_toArray, List.set_cons_zero, List.set_cons_succ]
            refine wpAnyH_take (i := 15) (v := ?vv26) rfl (by kernel_rfl) (by kernel_rfl) (by kernel_rfl) (fun _ _ _ h => h) (Or.inl ⟨by rfl, ?hy26⟩) (by assumption) ?rest26
            case hy26 => (intro w hSw; (try dsimp only at hSw); go_simp; first | done | with_reducible rfl)
            try simp only [Act.put, List.getElem_toArray, List.getElem_cons_succ, List.getElem_cons_zero, List.setIfInBounds_toArray, List.set_cons_zero, List.set_cons_succ]
            refine wpAnyH_done (by kernel_rfl) ?_ _
            clear hHeld CE A3 A4 A5 d0 d1 d2 z0 z1 z2
            go_wp2
            exact ⟨⟨k + 1, _, HLT.out, by rw [← HXR.out], by first | rw [hwk] | rfl | simp, HA3, R8, B8⟩, by (try rw [hwk]); have := HLT.out; simp [intOf]; omega⟩
          · have hk9 : k = m.es.length := by omega
            have hdl : decide ((k : Int) < (m.es.length : Int)) = false := decide_eq_false (by omega)
            have hdl2 : decide (k < m.es.length) = false := decide_eq_false (by omega)
            have hal : A.length ≤ 1049166 := by have h1 := HML.out k; have h2 := HY.out; rw [HA.out, List.length_append]; omega
            have hdn := HDL.out
            have AM := fun W => add_ls A (ptx m.da) W (by omega)
            have HG : Hid (G = A ++ ptx m.da) := by show _ = _; rw [HMG2.out, HA.out, hk9, List.take_length]
            have y11 := HR.out.cellAt (o := 11) rfl
            clear EN HML HMT HMG2 HY HA HC HDL hk hlt hk9 hal hdn HES NR
            go_wp2_with fail
            refine (TX.out _).mono ?_
            rintro e w9 ⟨rfl, b9⟩
            have B9 := hid (below_on HB.out b9)
            clear TX b9 HB HR y11 y10
            go_wp2
            go_ret2
            rw [HG.out]
            exact ⟨rfl, B9.out⟩
theorem qencode_any (v : Value) (m : Ms) (w : World) (hv : EntI w v m.es) (hl : m.es.length ≤ 17592186044416) : Calls Tryz.prog 7 #[msV v m] w fun e w' => e = .returned (.tuple #[.string (mgS m), .int .i64 (mgE m)]) ∧ Below w.heap.size w w' := by
  unfold mgS mgE
  cases h : msOk m
  · rw [if_neg (by simp), if_neg (by simp)]; exact qencode_bad v m w hv hl h
  · rw [if_pos rfl, if_pos rfl]; exact qencode_ok v m w hv h
end Go.Proofs.YtlkidnfgodficaaGreat
