/- A configuration's text: the program's walk and the reference's. -/
import Derived.Test.YtghcijliknahdaaConfO
import Derived.Test.YtghcijliknahdaaRefPut
namespace Go.Proofs.Ytghcijliknahdaa
open Go.RowKit Go.Maps
set_option linter.unusedVariables false
set_option linter.unusedSimpArgs false

def encCB (l : List Int) : List UInt8 := put l.length ++ msB l
def encC (l : List Int) : ByteArray := if areM l = true then ⟨(encCB l).toArray⟩ else ⟨#[]⟩

set_option maxRecDepth 100000 in
set_option maxHeartbeats 1000000 in
theorem cencode_any (v : Value) (l : List Int) (w : World) (hv : IntsI w v l) (hl : l.length ≤ 9223372036854775807) : Calls Try.prog 25 #[v] w fun e w' => e = .returned (.tuple #[.string (encC l), .int .i64 (chkC l)]) ∧ Below w.heap.size w w' := by
  have C : Hid (Calls Try.prog 10 #[v] w fun e w' => e = .returned (.int .i64 (chkC l)) ∧ Below w.heap.size w w') := (ccheck_any v l w hv hl).mono fun e w' ⟨he, hw⟩ => ⟨he, hw ▸ Below.refl _ _⟩
  obtain ⟨ad, cap, rfl, hc⟩ := hv.form
  have HC := hid hc
  have HK : Hid (chkC l = if areM l = true then 0 else 70) := rfl
  have HE : Hid (encC l = if areM l = true then ⟨(encCB l).toArray⟩ else ⟨#[]⟩) := rfl
  have NU := hid (fun (n : Nat) (W : World) (h : n < 18446744073709551616) => number_any n W h)
  clear hc
  cases hA : areM l
  · have hk : chkC l = 70 := by rw [HK.out, hA]; rfl
    have he : encC l = ⟨#[]⟩ := by rw [HE.out, hA]; rfl
    rw [he]
    rw [hk] at C ⊢
    skip
    clear HK HE HC NU hv hl hA he hk
    go_enter Try.func25, Try.ntmps25
    go_wp2_with fail
    refine C.out.mono ?_
    rintro e w1 ⟨rfl, h1⟩
    have H1 := hid h1
    clear h1
    go_wp2
    go_ret2
    exact ⟨rfl, H1.out⟩
  have hk : chkC l = 0 := by rw [HK.out, hA]; rfl
  have he : encC l = ⟨(encCB l).toArray⟩ := by rw [HE.out, hA]; rfl
  rw [he]
  rw [hk] at C ⊢
  skip
  have hl7 := areM_len hA
  have hbd := areM_bd hA
  have HBD := hid hbd
  have HL7 := hid hl7
  have hwl : IntKind.u64.wrap (l.length : Int) = (l.length : Int) := by rw [IntKind.wrap_u64]; omega
  have N0 := hid (fun W => NU.out l.length W (by omega))
  have T0 : Hid (∃ T0 : ByteArray, T0 = ⟨(put l.length ++ msB (l.take 0)).toArray⟩ ∧ T0 = ⟨(put l.length).toArray⟩) := ⟨_, rfl, by simp [msB]⟩
  obtain ⟨T, hT1, hT2⟩ := T0.out
  rw [← hT2] at N0
  have HT := hid hT1
  clear HK HE hbd hl7 hv hl hA he hk T0 hT2 hT1
  generalize hEE : (⟨(encCB l).toArray⟩ : ByteArray) = EE at *
  have HEE := hid hEE
  clear hEE
  go_enter Try.func25, Try.ntmps25
  go_wp2_with fail
  refine C.out.mono ?_
  rintro e w1 ⟨rfl, h1⟩
  have H1 := hid h1
  clear h1 C
  go_wp2_with fail
  refine (N0.out _).mono ?_
  rintro e w2 ⟨rfl, h2⟩
  have H2 := hid (below_on H1.out h2)
  clear h2 N0 H1 hwl
  go_wp2
  go_loopw [5, 18] (fun t i wr => ∃ (k : Nat) (X : ByteArray), k ≤ l.length ∧ t = .string X ∧ i = .int .i64 (k : Int) ∧ Hid (X = ⟨(put l.length ++ msB (l.take k)).toArray⟩) ∧ Hid (Below w.heap.size w wr)) (fun _ i _ => l.length - (intOf i).toNat)
  case atStart => exact ⟨0, T, Nat.zero_le _, rfl, rfl, HT, H2⟩
  case round =>
    clear HT H2
    obtain ⟨k, X, hk, rfl, rfl, HX, HB⟩ := hrel
    by_cases hlt : k < l.length
    · have hk0 : (0 : Int) ≤ (k : Int) := by omega
      have hk1 : (k : Int) < (l.length : Int) := by omega
      have hk7 : k < 7 := by have := HL7.out; omega
      obtain ⟨b, off, rfl, hb, hc⟩ := HC.out k hlt
      have hc1 := (HB.out.cell (p := ⟨b, off + k, none⟩) hb).trans hc
      obtain ⟨y0, y7⟩ := HBD.out l[k] (List.getElem_mem hlt)
      have HTK := hid (msB_take l k hlt)
      generalize l[k] = y at *
      obtain ⟨m, rfl⟩ : ∃ m : Nat, y = (m : Int) := ⟨y.toNat, by omega⟩
      have hwm : IntKind.u64.wrap (m : Int) = (m : Int) := by rw [IntKind.wrap_u64]; omega
      have N1 := hid (NU.out m wr (by omega))
      have l1 := (put_len l.length).2
      have l2 := msB_len (l.take k)
      have l3 := (put_len m).2
      have l4 : (l.take k).length ≤ 7 := by rw [List.length_take]; have := HL7.out; omega
      have AD := fun W => add_ls (put l.length ++ msB (l.take k)) (put m) W (by rw [List.length_append]; omega)
      have HX2 : Hid ((⟨(put l.length ++ msB (l.take k) ++ put m).toArray⟩ : ByteArray) = ⟨(put l.length ++ msB (l.take (k + 1))).toArray⟩) := by show _ = _; rw [HTK.out, Int.toNat_natCast, List.append_assoc]
      rw [← HX.out] at AD
      generalize (⟨(put l.length ++ msB (l.take k) ++ put m).toArray⟩ : ByteArray) = X2 at *
      generalize (⟨(put m).toArray⟩ : ByteArray) = PM at *
      clear HX HTK HC hb hc HBD HL7 y0 y7 NU l1 l2 l3 l4
      go_wp2_with fail
      refine N1.out.mono ?_
      rintro e w3 ⟨rfl, h3⟩
      have H3 := hid (below_on HB.out h3)
      clear h3 N1 HB hc1
      go_wp2
      exact ⟨⟨k + 1, X2, by omega, rfl, by go_num, HX2, H3⟩, by simp [intOf]; omega⟩
    · have hk9 : k = l.length := by omega
      subst hk9
      have hdl : decide ((l.length : Int) < (l.length : Int)) = false := decide_eq_false (by omega)
      have HX2 : Hid (X = EE) := by show _ = _; rw [HX.out, List.take_length]; exact HEE.out
      clear HX HC HBD HL7 NU HEE
      go_wp2
      go_ret2
      rw [HX2.out]
      exact ⟨rfl, HB.out⟩

set_option maxRecDepth 100000 in
set_option maxHeartbeats 1000000 in
theorem rencode_c (v : Value) (l : List Int) (w : World) (hv : IntsI w v l) (hl : l.length ≤ 9223372036854775807) : Calls Try.prog 26 #[v] w fun e w' => e = .returned (.tuple #[.string (encC l), .int .i64 (chkC l)]) ∧ Below w.heap.size w w' := by
  have C : Hid (Calls Try.prog 11 #[v] w fun e w' => e = .returned (.bool (areM l)) ∧ Below w.heap.size w w') := may_any v l w hv hl
  obtain ⟨ad, cap, rfl, hc⟩ := hv.form
  have HC := hid hc
  have HK : Hid (chkC l = if areM l = true then 0 else 70) := rfl
  have HE : Hid (encC l = if areM l = true then ⟨(encCB l).toArray⟩ else ⟨#[]⟩) := rfl
  have NU := hid (fun (n : Nat) (W : World) (h : n < 18446744073709551616) => ref_number_any n W h)
  clear hc
  cases hA : areM l
  · have hk : chkC l = 70 := by rw [HK.out, hA]; rfl
    have he : encC l = ⟨#[]⟩ := by rw [HE.out, hA]; rfl
    rw [he]
    rw [hk]
    rw [hA] at C
    clear HK HE HC NU hv hl hA he hk
    go_enter Try.func26, Try.ntmps26
    go_wp2_with fail
    refine C.out.mono ?_
    rintro e w1 ⟨rfl, h1⟩
    have H1 := hid h1
    clear h1
    go_wp2
    go_ret2
    exact ⟨rfl, H1.out⟩
  have hk : chkC l = 0 := by rw [HK.out, hA]; rfl
  have he : encC l = ⟨(encCB l).toArray⟩ := by rw [HE.out, hA]; rfl
  rw [he]
  rw [hk]
  rw [hA] at C
  have hl7 := areM_len hA
  have hbd := areM_bd hA
  have HBD := hid hbd
  have HL7 := hid hl7
  have hwl : IntKind.u64.wrap (l.length : Int) = (l.length : Int) := by rw [IntKind.wrap_u64]; omega
  have N0 := hid (fun W => NU.out l.length W (by omega))
  have T0 : Hid (∃ T0 : ByteArray, T0 = ⟨(put l.length ++ msB (l.take 0)).toArray⟩ ∧ T0 = ⟨(put l.length).toArray⟩) := ⟨_, rfl, by simp [msB]⟩
  obtain ⟨T, hT1, hT2⟩ := T0.out
  rw [← hT2] at N0
  have HT := hid hT1
  clear HK HE hbd hl7 hv hl hA he hk T0 hT2 hT1
  generalize hEE : (⟨(encCB l).toArray⟩ : ByteArray) = EE at *
  have HEE := hid hEE
  clear hEE
  go_enter Try.func26, Try.ntmps26
  go_wp2_with fail
  refine C.out.mono ?_
  rintro e w1 ⟨rfl, h1⟩
  have H1 := hid h1
  clear h1 C
  go_wp2_with fail
  refine (N0.out _).mono ?_
  rintro e w2 ⟨rfl, h2⟩
  have H2 := hid (below_on H1.out h2)
  clear h2 N0 H1 hwl
  go_wp2
  go_loopw [4, 5] (fun t i wr => ∃ (k : Nat) (X : ByteArray), k ≤ l.length ∧ t = .string X ∧ i = .int .i64 (k : Int) ∧ Hid (X = ⟨(put l.length ++ msB (l.take k)).toArray⟩) ∧ Hid (Below w.heap.size w wr)) (fun _ i _ => l.length - (intOf i).toNat)
  case atStart => exact ⟨0, T, Nat.zero_le _, rfl, rfl, HT, H2⟩
  case round =>
    clear HT H2
    obtain ⟨k, X, hk, rfl, rfl, HX, HB⟩ := hrel
    by_cases hlt : k < l.length
    · have hk0 : (0 : Int) ≤ (k : Int) := by omega
      have hk1 : (k : Int) < (l.length : Int) := by omega
      have hk7 : k < 7 := by have := HL7.out; omega
      obtain ⟨b, off, rfl, hb, hc⟩ := HC.out k hlt
      have hc1 := (HB.out.cell (p := ⟨b, off + k, none⟩) hb).trans hc
      obtain ⟨y0, y7⟩ := HBD.out l[k] (List.getElem_mem hlt)
      have HTK := hid (msB_take l k hlt)
      generalize l[k] = y at *
      obtain ⟨m, rfl⟩ : ∃ m : Nat, y = (m : Int) := ⟨y.toNat, by omega⟩
      have hwm : IntKind.u64.wrap (m : Int) = (m : Int) := by rw [IntKind.wrap_u64]; omega
      have N1 := hid (NU.out m wr (by omega))
      have l1 := (put_len l.length).2
      have l2 := msB_len (l.take k)
      have l3 := (put_len m).2
      have l4 : (l.take k).length ≤ 7 := by rw [List.length_take]; have := HL7.out; omega
      have AD := fun W => add_ls (put l.length ++ msB (l.take k)) (put m) W (by rw [List.length_append]; omega)
      have HX2 : Hid ((⟨(put l.length ++ msB (l.take k) ++ put m).toArray⟩ : ByteArray) = ⟨(put l.length ++ msB (l.take (k + 1))).toArray⟩) := by show _ = _; rw [HTK.out, Int.toNat_natCast, List.append_assoc]
      rw [← HX.out] at AD
      generalize (⟨(put l.length ++ msB (l.take k) ++ put m).toArray⟩ : ByteArray) = X2 at *
      generalize (⟨(put m).toArray⟩ : ByteArray) = PM at *
      clear HX HTK HC hb hc HBD HL7 y0 y7 NU l1 l2 l3 l4
      go_wp2_with fail
      refine N1.out.mono ?_
      rintro e w3 ⟨rfl, h3⟩
      have H3 := hid (below_on HB.out h3)
      clear h3 N1 HB hc1
      go_wp2
      exact ⟨⟨k + 1, X2, by omega, rfl, by go_num, HX2, H3⟩, by simp [intOf]; omega⟩
    · have hk9 : k = l.length := by omega
      subst hk9
      have hdl : decide ((l.length : Int) < (l.length : Int)) = false := decide_eq_false (by omega)
      have HX2 : Hid (X = EE) := by show _ = _; rw [HX.out, List.take_length]; exact HEE.out
      clear HX HC HBD HL7 NU HEE
      go_wp2
      go_ret2
      rw [HX2.out]
      exact ⟨rfl, HB.out⟩

end Go.Proofs.Ytghcijliknahdaa
