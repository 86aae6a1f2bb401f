/- Joined: The reference's text of a snapshot. A snapshot as the reference has it. -/
import Derived.Test.YtdfeendcjpfbcaaShR
import Derived.Test.YtdfeendcjpfbcaaJoined11
namespace Go.Proofs.Ytdfeendcjpfbcaa
open Go.RowKit Go.Maps
set_option linter.unusedVariables false
set_option linter.unusedSimpArgs false

set_option maxRecDepth 100000 in
set_option maxHeartbeats 1000000 in
theorem rencode_bad (v : Value) (s : Sh) (w : World) (hv : IntsI w v s.ms) (hl : s.ms.length ≤ 9223372036854775807) (hc : chkS s ≠ 0) : Calls Try.prog 9 #[shV v s] w fun e w' => e = .returned (.tuple #[.string ⟨#[]⟩, .int .i64 (chkS s)]) ∧ Below w.heap.size w w' := by
  obtain ⟨ad, cap, rfl, _⟩ := hv.form
  have CK : Hid (∀ W, Below w.heap.size w W → Calls Try.prog 15 #[shV (.slice ad s.ms.length cap) s] W fun e w' => e = .returned (.int .i64 (chkS s)) ∧ Below w.heap.size w w') := fun W hW => (rcheck_any _ s W (hv.next hW) hl).mono fun e w' ⟨he, hb⟩ => ⟨he, hW.trans (hb.mono hW.size)⟩
  have hb : (chkS s == 0) = false := by rw [beq_eq_false_iff_ne]; exact hc
  have hb2 : (chkS s != 0) = true := bne_iff_ne.2 hc
  generalize chkS s = R at *
  unfold shV at *
  obtain ⟨ix, tm, ms, da⟩ := s
  simp only at *
  clear hv hc
  have KA : Hid (Below w.heap.size w (w.alloc (.cells #[.int .i64 ix, .int .i64 tm, .slice ad ms.length cap, .string da] 30))) := (Below.refl _ _).alloc (Nat.le_refl _) _
  have y0 := (srow w [.int .i64 ix, .int .i64 tm, .slice ad ms.length cap, .string da] 30).cellAt (o := 0) rfl
  have y1 := (srow w [.int .i64 ix, .int .i64 tm, .slice ad ms.length cap, .string da] 30).cellAt (o := 1) rfl
  have y2 := (srow w [.int .i64 ix, .int .i64 tm, .slice ad ms.length cap, .string da] 30).cellAt (o := 2) rfl
  have y3 := (srow w [.int .i64 ix, .int .i64 tm, .slice ad ms.length cap, .string da] 30).cellAt (o := 3) rfl
  go_enter Try.func9, Try.ntmps9
  go_wp2_with fail
  refine (CK.out _ KA.out).mono ?_
  rintro e w1 ⟨rfl, h1⟩
  have H1 := hid h1
  clear h1 y0 y1 y2 y3
  go_wp2
  go_ret2
  exact ⟨rfl, H1.out⟩
set_option maxRecDepth 100000 in
set_option maxHeartbeats 2000000 in
theorem rencode_ok (v : Value) (s : Sh) (w : World) (hv : IntsI w v s.ms) (hc : chkS s = 0) : Calls Try.prog 9 #[shV v s] w fun e w' => e = .returned (.tuple #[.string ⟨(encB s).toArray⟩, .int .i64 0]) ∧ Below w.heap.size w w' := by
  obtain ⟨ad, cap, rfl, hcl⟩ := hv.form
  have HCL := hid hcl
  clear hcl
  obtain ⟨c1, c2, c3, c4, c5⟩ := chk_ok hc
  obtain ⟨i1, i2⟩ := wthn_nat c1
  obtain ⟨t1, t2⟩ := wthn_nat c2
  have CK : Hid (∀ W, Below w.heap.size w W → Calls Try.prog 15 #[shV (.slice ad s.ms.length cap) s] W fun e w' => e = .returned (.int .i64 0) ∧ Below w.heap.size w w' ∧ Hid (Below W.heap.size W w')) := fun W hW => (rcheck_any _ s W (hv.next hW) (by omega)).mono fun e w' ⟨he, hb⟩ => ⟨by rw [he, hc], hW.trans (hb.mono hW.size), hb⟩
  have HV := hid hv
  have HC3 := hid c3
  have HE : Hid (encB s = put s.ix.toNat ++ put s.tm.toNat ++ put s.ms.length ++ msB s.ms ++ ptx s.da) := rfl
  generalize encB s = E at *
  obtain ⟨ix, tm, ms, da⟩ := s
  unfold shV at *
  simp only at *
  generalize hI : ix.toNat = I at *
  generalize hT : tm.toNat = T at *
  subst i1 t1
  have KA : Hid (Below w.heap.size w (w.alloc (.cells #[.int .i64 I, .int .i64 T, .slice ad ms.length cap, .string da] 30))) := (Below.refl _ _).alloc (Nat.le_refl _) _
  have HB := hid (srow w [.int .i64 I, .int .i64 T, .slice ad ms.length cap, .string da] 30)
  have y0 := HB.out.cellAt (o := 0) rfl
  have y1 := HB.out.cellAt (o := 1) rfl
  have y2 := HB.out.cellAt (o := 2) rfl
  have y3 := HB.out.cellAt (o := 3) rfl
  have NI := hid (fun W => ref_number_any I W (by omega))
  have NT := hid (fun W => ref_number_any T W (by omega))
  have NL := hid (fun W => ref_number_any ms.length W (by omega))
  have NT2 := hid (fun W => ref_text_any da W (Nat.le_trans c5 (by decide)))
  have u1 : IntKind.u64.wrap (I : Int) = (I : Int) := by rw [IntKind.wrap_u64]; omega
  have u2 : IntKind.u64.wrap (T : Int) = (T : Int) := by rw [IntKind.wrap_u64]; omega
  have u3 : IntKind.u64.wrap (ms.length : Int) = (ms.length : Int) := by rw [IntKind.wrap_u64]; omega
  have l1 := (put_len I).2
  have l2 := (put_len T).2
  have l3 := (put_len ms.length).2
  have A1 := fun W => add_ls (put I) (put T) W (by omega)
  have A2 := fun W => add_ls (put I ++ put T) (put ms.length) W (by simp; omega)
  generalize hX12 : (⟨(put I ++ put T).toArray⟩ : ByteArray) = X12 at *
  generalize hX123 : (⟨(put I ++ put T ++ put ms.length).toArray⟩ : ByteArray) = X123 at *
  generalize hX1 : (⟨(put I).toArray⟩ : ByteArray) = X1 at *
  generalize hX2 : (⟨(put T).toArray⟩ : ByteArray) = X2 at *
  generalize hX3 : (⟨(put ms.length).toArray⟩ : ByteArray) = X3 at *
  have HX := hid hX123
  have HPL : Hid ((put I ++ put T ++ put ms.length).length ≤ 30) := by show _ ≤ _; simp; omega
  clear hX12 hX123 hX1 hX2 hX3
  clear hv hc c1 c2 hI hT
  go_enter Try.func9, Try.ntmps9
  go_wp2_with fail
  refine (CK.out _ KA.out).mono ?_
  rintro e w1 ⟨rfl, h1, h1'⟩
  have HB1 := hid (HB.out.keep (h1'.out.keep (fun _ => False)) (fun h => h))
  have H1 := hid h1
  clear h1 h1' y0 y1 y2 y3 HB KA CK
  have y0 := HB1.out.cellAt (o := 0) rfl
  have y1 := HB1.out.cellAt (o := 1) rfl
  have y2 := HB1.out.cellAt (o := 2) rfl
  have y3 := HB1.out.cellAt (o := 3) rfl
  have hS0 : w1.drew.cell? ⟨w.heap.size, 0, none⟩ = some (.int .i64 I) ∧ w1.drew.cell? ⟨w.heap.size, 1, none⟩ = some (.int .i64 T) ∧ w1.drew.cell? ⟨w.heap.size, 2, none⟩ = some (.slice ad ms.length cap) ∧ w1.drew.cell? ⟨w.heap.size, 3, none⟩ = some (.string da) ∧ HeldS w w.heap.size [.int .i64 I, .int .i64 T, .slice ad ms.length cap, .string da] 30 w1.drew := HeldS.cel ⟨HB1.out, H1.out.drew⟩
  clear y0 y1 y2 y3 HB1 H1
  go_wp2_with fail
  go_region_held3 (fun W => W.cell? ⟨w.heap.size, 0, none⟩ = some (.int .i64 I) ∧ W.cell? ⟨w.heap.size, 1, none⟩ = some (.int .i64 T) ∧ W.cell? ⟨w.heap.size, 2, none⟩ = some (.slice ad ms.length cap) ∧ W.cell? ⟨w.heap.size, 3, none⟩ = some (.string da) ∧ HeldS w w.heap.size [.int .i64 I, .int .i64 T, .slice ad ms.length cap, .string da] 30 W) (assumption) (first
    | (go_at_call 24; with_reducible (refine (NI.out _).mono ?_); rintro e w4 ⟨rfl, hB4⟩; have hS4 := HeldS.cel (HeldS.next (w0 := w) (g := w.heap.size) (by first | exact hS0.2.2.2.2 | assumption) hB4); clear hB4)
    | (go_at_call 24; with_reducible (refine (NT.out _).mono ?_); rintro e w5 ⟨rfl, hB5⟩; have hS5 := HeldS.cel (HeldS.next (w0 := w) (g := w.heap.size) hS4.2.2.2.2 hB5); clear hB5)
    | (go_at_call 24; with_reducible (refine (NL.out _).mono ?_); rintro e w6 ⟨rfl, hB6⟩; have hS6 := HeldS.cel (HeldS.next (w0 := w) (g := w.heap.size) hS5.2.2.2.2 hB6); clear hB6))
  obtain ⟨z0, z1, z2, z3, h6⟩ := hS6
  have H6 := hid h6
  clear hS0 hS4 hS5 h6 A1 A2 NI NT NL
  go_wp2
  go_loopw [5, 6] (fun t i wr => ∃ (k : Nat) (A : List UInt8), k ≤ ms.length ∧ t = .string ⟨A.toArray⟩ ∧ i = .int .i64 (k : Int) ∧ Hid (A = put I ++ put T ++ put ms.length ++ msB (ms.take k)) ∧ Hid (HeldS w w.heap.size [.int .i64 I, .int .i64 T, .slice ad ms.length cap, .string da] 30 wr)) (fun _ i _ => ms.length - (intOf i).toNat)
  case atStart => exact ⟨0, put I ++ put T ++ put ms.length, Nat.zero_le _, by rw [HX.out], rfl, by show _ = _; simp [msB], H6⟩
  case round =>
    clear H6 z0 z1 z2 z3
    obtain ⟨k, A, hk, rfl, rfl, HA, HH⟩ := hrel
    obtain ⟨z0, z1, z2, z3, _⟩ := HH.out.cel
    by_cases hlt : k < ms.length
    · have hk0 : (0 : Int) ≤ (k : Int) := by omega
      have hk1 : (k : Int) < (ms.length : Int) := by omega
      obtain ⟨b, off, rfl, hb, hc⟩ := HCL.out k hlt
      have hcr := (HH.out.2.cell (p := ⟨b, off + k, none⟩) hb).trans hc
      have hm := HC3.out _ (List.getElem_mem hlt)
      have HMT := hid (msB_take ms k hlt)
      have hal : A.length ≤ 100 := by
        have e1 := HA.out
        have e2 := msB_len (ms.take k)
        have e3 := HPL.out
        have e4 := List.length_take_le k ms
        rw [e1, List.length_append]
        omega
      obtain ⟨M, hM⟩ : ∃ M : Nat, ms[k].toNat = M := ⟨_, rfl⟩
      have hMi : ms[k] = (M : Int) := by omega
      rw [hM] at HMT
      rw [hMi] at hcr
      have hM7 : M < 7 := by omega
      have NM := hid (fun W => ref_number_any M W (by omega))
      have u4 : IntKind.u64.wrap (M : Int) = (M : Int) := by rw [IntKind.wrap_u64]; omega
      have hpl := (put_len M).2
      have AM := fun W => add_ls A (put M) W (by omega)
      clear hc hb HCL HC3 hm hM hMi HE HX HPL HV NT2
      go_wp2_with fail
      refine (NM.out _).mono ?_
      rintro e w7 ⟨rfl, h7⟩
      have H7 := hid (HH.out.next h7)
      clear h7 NM HH hcr z0 z1 z2 z3
      go_wp2
      refine ⟨⟨k + 1, A ++ put M, by omega, rfl, by go_num, ?_, H7⟩, by simp [intOf]; omega⟩
      show _ = _
      rw [HA.out, HMT.out]
      simp only [List.append_assoc]
    · have hk9 : k = ms.length := by omega
      subst hk9
      have hdl : decide ((ms.length : Int) < (ms.length : Int)) = false := decide_eq_false (by omega)
      rw [List.take_length] at HA
      have hal : A.length ≤ 100 := by
        have e1 := HA.out
        have e2 := msB_len ms
        have e3 := HPL.out
        rw [e1, List.length_append]
        omega
      have hpl := ptx_len da
      have hpm := (put_len da.size).2
      have AM := fun W => add_ls A (ptx da) W (by omega)
      have HEE : Hid (E = A ++ ptx da) := by show _ = _; rw [HE.out, HA.out]
      clear HCL HC3 HE HX HPL HV hpl hpm hal HA hlt hk
      go_wp2_with fail
      refine (NT2.out _).mono ?_
      rintro e w7 ⟨rfl, h7⟩
      have H7 := hid (HH.out.next h7).2
      clear h7 NT2 HH z0 z1 z2 z3
      go_wp2
      go_ret2
      rw [HEE.out]
      exact ⟨rfl, H7.out⟩
theorem rencode_any (v : Value) (s : Sh) (w : World) (hv : IntsI w v s.ms) (hl : s.ms.length ≤ 9223372036854775807) : Calls Try.prog 9 #[shV v s] w fun e w' => e = .returned (.tuple #[.string (encS s), .int .i64 (chkS s)]) ∧ Below w.heap.size w w' := by
  unfold encS
  by_cases h : chkS s = 0
  · rw [if_pos h, h]; exact rencode_ok v s w hv h
  · rw [if_neg h]; exact rencode_bad v s w hv hl h
end Go.Proofs.Ytdfeendcjpfbcaa
namespace Go.Proofs.Ytdfeendcjpfbcaa
open Go.RowKit Go.Maps
set_option linter.unusedVariables false
set_option linter.unusedSimpArgs false

set_option maxRecDepth 100000 in
set_option maxHeartbeats 1000000 in
theorem refOf_any (ad : Option Addr) (m cap : Nat) (s : Sh) (w : World) : Calls Try.prog 10 #[shV (.slice ad m cap) s] w fun e w' => e = .returned (shV (.slice ad m cap) s) ∧ Below w.heap.size w w' := by
  unfold shV
  obtain ⟨ix, tm, ms, da⟩ := s
  simp only
  have hsz : (w.alloc (.cells #[.int .i64 ix, .int .i64 tm, .slice ad m cap, .string da] 24)).heap.size = w.heap.size + 1 := by simp
  have HS : Hid (RowIs ((w.alloc (.cells #[.int .i64 ix, .int .i64 tm, .slice ad m cap, .string da] 24)).alloc (.cells #[.int .i64 ix, .int .i64 tm, .slice ad m cap, .string da] 30)) (w.heap.size + 1) [.int .i64 ix, .int .i64 tm, .slice ad m cap, .string da] 30) := by
    show RowIs _ _ _ _
    rw [← hsz]
    exact heap_alloc_new _ _
  have HK : Hid (Below w.heap.size w ((w.alloc (.cells #[.int .i64 ix, .int .i64 tm, .slice ad m cap, .string da] 24)).alloc (.cells #[.int .i64 ix, .int .i64 tm, .slice ad m cap, .string da] 30))) := ((Below.refl _ _).alloc (Nat.le_refl _) _).alloc (by rw [hsz]; omega) _
  clear hsz
  go_enter Try.func10, Try.ntmps10
  go_wp2
  refine bodyPost_ret (v := .agg #[.int .i64 ix, .int .i64 tm, .slice ad m cap, .string da]) (results_cell_row (p := 2) rfl _ _ (w.heap.size + 1) 30 #[.int .i64 ix, .int .i64 tm, .slice ad m cap, .string da] (0, 0) _ rfl HS.out Try.underlying30 rfl (by kernel_rfl)) rfl ⟨rfl, HK.out⟩
end Go.Proofs.Ytdfeendcjpfbcaa
