/- The program's text of a path, of a name. -/
import Derived.Test.YtnohkhgoejjfhaaDoorPeD
import Derived.Test.YtnohkhgoejjfhaaDoorLayY
namespace Go.Proofs.YtnohkhgoejjfhaaDoor
open Go.RowKit
set_option linter.unusedVariables false
set_option linter.unusedSimpArgs false

theorem digU_0 (w : World) : (Instr.index 9 (.string ⟨#[48, 49, 50, 51, 52, 53, 54, 55, 56, 57, 65, 66, 67, 68, 69, 70]⟩) (.int .u8 ((0 : Nat) : Int))).run Tryd.prog w = .ok (.int .u8 ((dgU 0).toNat : Int)) w := by kernel_rfl
theorem digU_1 (w : World) : (Instr.index 9 (.string ⟨#[48, 49, 50, 51, 52, 53, 54, 55, 56, 57, 65, 66, 67, 68, 69, 70]⟩) (.int .u8 ((1 : Nat) : Int))).run Tryd.prog w = .ok (.int .u8 ((dgU 1).toNat : Int)) w := by kernel_rfl
theorem digU_2 (w : World) : (Instr.index 9 (.string ⟨#[48, 49, 50, 51, 52, 53, 54, 55, 56, 57, 65, 66, 67, 68, 69, 70]⟩) (.int .u8 ((2 : Nat) : Int))).run Tryd.prog w = .ok (.int .u8 ((dgU 2).toNat : Int)) w := by kernel_rfl
theorem digU_3 (w : World) : (Instr.index 9 (.string ⟨#[48, 49, 50, 51, 52, 53, 54, 55, 56, 57, 65, 66, 67, 68, 69, 70]⟩) (.int .u8 ((3 : Nat) : Int))).run Tryd.prog w = .ok (.int .u8 ((dgU 3).toNat : Int)) w := by kernel_rfl
theorem digU_4 (w : World) : (Instr.index 9 (.string ⟨#[48, 49, 50, 51, 52, 53, 54, 55, 56, 57, 65, 66, 67, 68, 69, 70]⟩) (.int .u8 ((4 : Nat) : Int))).run Tryd.prog w = .ok (.int .u8 ((dgU 4).toNat : Int)) w := by kernel_rfl
theorem digU_5 (w : World) : (Instr.index 9 (.string ⟨#[48, 49, 50, 51, 52, 53, 54, 55, 56, 57, 65, 66, 67, 68, 69, 70]⟩) (.int .u8 ((5 : Nat) : Int))).run Tryd.prog w = .ok (.int .u8 ((dgU 5).toNat : Int)) w := by kernel_rfl
theorem digU_6 (w : World) : (Instr.index 9 (.string ⟨#[48, 49, 50, 51, 52, 53, 54, 55, 56, 57, 65, 66, 67, 68, 69, 70]⟩) (.int .u8 ((6 : Nat) : Int))).run Tryd.prog w = .ok (.int .u8 ((dgU 6).toNat : Int)) w := by kernel_rfl
theorem digU_7 (w : World) : (Instr.index 9 (.string ⟨#[48, 49, 50, 51, 52, 53, 54, 55, 56, 57, 65, 66, 67, 68, 69, 70]⟩) (.int .u8 ((7 : Nat) : Int))).run Tryd.prog w = .ok (.int .u8 ((dgU 7).toNat : Int)) w := by kernel_rfl
theorem digU_8 (w : World) : (Instr.index 9 (.string ⟨#[48, 49, 50, 51, 52, 53, 54, 55, 56, 57, 65, 66, 67, 68, 69, 70]⟩) (.int .u8 ((8 : Nat) : Int))).run Tryd.prog w = .ok (.int .u8 ((dgU 8).toNat : Int)) w := by kernel_rfl
theorem digU_9 (w : World) : (Instr.index 9 (.string ⟨#[48, 49, 50, 51, 52, 53, 54, 55, 56, 57, 65, 66, 67, 68, 69, 70]⟩) (.int .u8 ((9 : Nat) : Int))).run Tryd.prog w = .ok (.int .u8 ((dgU 9).toNat : Int)) w := by kernel_rfl
theorem digU_10 (w : World) : (Instr.index 9 (.string ⟨#[48, 49, 50, 51, 52, 53, 54, 55, 56, 57, 65, 66, 67, 68, 69, 70]⟩) (.int .u8 ((10 : Nat) : Int))).run Tryd.prog w = .ok (.int .u8 ((dgU 10).toNat : Int)) w := by kernel_rfl
theorem digU_11 (w : World) : (Instr.index 9 (.string ⟨#[48, 49, 50, 51, 52, 53, 54, 55, 56, 57, 65, 66, 67, 68, 69, 70]⟩) (.int .u8 ((11 : Nat) : Int))).run Tryd.prog w = .ok (.int .u8 ((dgU 11).toNat : Int)) w := by kernel_rfl
theorem digU_12 (w : World) : (Instr.index 9 (.string ⟨#[48, 49, 50, 51, 52, 53, 54, 55, 56, 57, 65, 66, 67, 68, 69, 70]⟩) (.int .u8 ((12 : Nat) : Int))).run Tryd.prog w = .ok (.int .u8 ((dgU 12).toNat : Int)) w := by kernel_rfl
theorem digU_13 (w : World) : (Instr.index 9 (.string ⟨#[48, 49, 50, 51, 52, 53, 54, 55, 56, 57, 65, 66, 67, 68, 69, 70]⟩) (.int .u8 ((13 : Nat) : Int))).run Tryd.prog w = .ok (.int .u8 ((dgU 13).toNat : Int)) w := by kernel_rfl
theorem digU_14 (w : World) : (Instr.index 9 (.string ⟨#[48, 49, 50, 51, 52, 53, 54, 55, 56, 57, 65, 66, 67, 68, 69, 70]⟩) (.int .u8 ((14 : Nat) : Int))).run Tryd.prog w = .ok (.int .u8 ((dgU 14).toNat : Int)) w := by kernel_rfl
theorem digU_15 (w : World) : (Instr.index 9 (.string ⟨#[48, 49, 50, 51, 52, 53, 54, 55, 56, 57, 65, 66, 67, 68, 69, 70]⟩) (.int .u8 ((15 : Nat) : Int))).run Tryd.prog w = .ok (.int .u8 ((dgU 15).toNat : Int)) w := by kernel_rfl
theorem digU_any (i : Nat) (h : i < 16) (w : World) : (Instr.index 9 (.string ⟨#[48, 49, 50, 51, 52, 53, 54, 55, 56, 57, 65, 66, 67, 68, 69, 70]⟩) (.int .u8 (i : Int))).run Tryd.prog w = .ok (.int .u8 ((dgU i).toNat : Int)) w := by
  have : i = 0 ∨ i = 1 ∨ i = 2 ∨ i = 3 ∨ i = 4 ∨ i = 5 ∨ i = 6 ∨ i = 7 ∨ i = 8 ∨ i = 9 ∨ i = 10 ∨ i = 11 ∨ i = 12 ∨ i = 13 ∨ i = 14 ∨ i = 15 := by omega
  rcases this with rfl | rfl | rfl | rfl | rfl | rfl | rfl | rfl | rfl | rfl | rfl | rfl | rfl | rfl | rfl | rfl
  · exact digU_0 w
  · exact digU_1 w
  · exact digU_2 w
  · exact digU_3 w
  · exact digU_4 w
  · exact digU_5 w
  · exact digU_6 w
  · exact digU_7 w
  · exact digU_8 w
  · exact digU_9 w
  · exact digU_10 w
  · exact digU_11 w
  · exact digU_12 w
  · exact digU_13 w
  · exact digU_14 w
  · exact digU_15 w
theorem low4P (c : UInt8) : bits .and .u8 (c.toNat : Int) 15 = ((c.toNat % 16 : Nat) : Int) := by
  have h := UInt8.toNat_lt c
  have := bits_mask .u8 8 (by decide) wraps_u8 4 (by decide) (c.toNat : Int) (by omega) (by omega)
  rw [show (15 : Int) = 2 ^ 4 - 1 by decide, this]; omega
/-- a builder of the call's own, and what lies below -/
structure BY (w : World) (l : List UInt8) (W : World) : Prop where
  bd : Bld w.heap.size w.heap.size l W
  b : Below w.heap.size w W
theorem BY.new (w : World) : BY w [] (w.alloc (.cells #[.pointer none, .slice none 0 0] 68)) := ⟨bld_new w, (Below.refl _ _).alloc (Nat.le_refl _) _⟩
theorem BY.byte {w W : World} {l : List UInt8} (h : BY w l W) (c : UInt8) (x : Int) (hx : x = (c.toNat : Int)) (hlen : l.length + 1 ≤ 140737488355328) : Calls Tryd.prog 39 #[.pointer (some ⟨w.heap.size, 0, none⟩), .int .u8 x] W fun e w' => e = .returned .nilIface ∧ Hid (BY w (l ++ [c]) w') := by
  subst hx
  exact (bld_byte w.heap.size w.heap.size l c W h.bd hlen h.b.size).mono fun e w' ⟨he, hb, hw, hk⟩ => ⟨he, ⟨hb, h.b.trans hw⟩⟩
theorem BY.str {w W : World} {l : List UInt8} (h : BY w l W) : Calls Tryd.prog 40 #[.pointer (some ⟨w.heap.size, 0, none⟩)] W fun e w' => e = .returned (.string ⟨l.toArray⟩) ∧ Below w.heap.size w w' :=
  (bld_string w.heap.size w.heap.size l W h.bd h.b.size).mono fun e w' ⟨he, hb⟩ => ⟨he, h.b.trans hb⟩

set_option maxRecDepth 100000 in
set_option maxHeartbeats 1000000 in
theorem escaped_path (s : ByteArray) (w : World) (hs : s.size ≤ 1048576) : Calls Tryd.prog 27 #[.string s, .func (.func 28) #[] #[]] w fun e w' => e = .returned (.string ⟨(escL plP s.data.toList).toArray⟩) ∧ Below w.heap.size w w' := by
  have HB0 : Hid (BY w (escL plP (s.data.toList.take 0)) (w.alloc (.cells #[.pointer none, .slice none 0 0] 68))) := BY.new w
  have hcf := enters_of Tryd.func28 (by kernel_rfl) rfl
  go_enter Tryd.func27, Tryd.ntmps27
  go_wp2
  go_loopw [10] (fun i wr => ∃ k : Nat, k ≤ s.size ∧ i = .int .i64 k ∧ Hid (BY w (escL plP (s.data.toList.take k)) wr)) (fun i _ => s.size - (intOf i).toNat)
  case atStart => exact ⟨0, by omega, rfl, HB0⟩
  case round =>
    clear HB0
    obtain ⟨k, hk, rfl, HB⟩ := hrel
    rename World => w1
    by_cases hlt : k < s.size
    · have hk0 : (0 : Int) ≤ (k : Int) := by omega
      have hk1 : (k : Int) < (s.size : Int) := by omega
      have HS := hid (escB_take plP s k hlt)
      have HO := hid (path1_any s[k] w1)
      have hlen : (escL plP (s.data.toList.take k)).length ≤ 3 * k := by have := (escL_len plP (s.data.toList.take k)).2; rw [List.length_take] at this; omega
      generalize hc : s[k] = c at HO HS
      have hcl := UInt8.toNat_lt c
      unfold esc1 at HS
      generalize plP c = b at HO HS
      generalize escL plP (s.data.toList.take k) = H at HS HB hlen
      obtain hb | hb : b = false ∨ b = true := by cases b <;> simp
      · subst hb
        have HS : Hid (escL plP (s.data.toList.take (k + 1)) = H ++ [37, dgU (c.toNat / 16), dgU (c.toNat % 16)]) := HS
        have h1 := digU_any (c.toNat / 16) (by omega)
        have h2 := digU_any (c.toNat % 16) (by omega)
        have e1 : (c.toNat : Int) / 16 = ((c.toNat / 16 : Nat) : Int) := by omega
        have e1p : (c.toNat : Int) / 2 ^ 4 = ((c.toNat / 16 : Nat) : Int) := by omega
        have e2 := low4P c
        have hi1 : c.toNat / 16 < 16 := by omega
        generalize c.toNat / 16 = i1 at h1 e1 e1p HS hi1
        generalize c.toNat % 16 = i2 at h2 e2 HS
        generalize dgU i1 = d1 at h1 HS
        generalize dgU i2 = d2 at h2 HS
        have e1w : IntKind.u8.wrap (i1 : Int) = (i1 : Int) := by rw [IntKind.wrap_u8]; omega
        have Q1 := hid (HB.out.byte 37 37 rfl (by omega))
        clear HB
        go_wp2_with fail
        refine HO.out.mono ?_
        rintro e w2 ⟨rfl, rfl⟩
        go_wp2_with fail
        refine Q1.out.mono ?_
        rintro e w3 ⟨rfl, HB2⟩
        have Q2 := hid (HB2.out.byte d1 _ rfl (by simp; omega))
        clear Q1 HB2 HO
        go_wp2_with fail
        refine Q2.out.mono ?_
        rintro e w4 ⟨rfl, HB3⟩
        have Q3 := hid (HB3.out.byte d2 _ rfl (by simp; omega))
        clear Q2 HB3
        go_wp2_with fail
        refine Q3.out.mono ?_
        rintro e w5 ⟨rfl, HB4⟩
        have HB5 : Hid (BY w (escL plP (s.data.toList.take (k + 1))) w5) := by rw [HS.out]; show BY _ _ _; have := HB4.out; simpa using this
        clear Q3 HB4
        go_wp2
        exact ⟨⟨k + 1, by omega, by go_num, HB5⟩, by simp [intOf]; omega⟩
      · subst hb
        have HS : Hid (escL plP (s.data.toList.take (k + 1)) = H ++ [c]) := HS
        have Q1 := hid (HB.out.byte c _ rfl (by omega))
        clear HB
        go_wp2_with fail
        refine HO.out.mono ?_
        rintro e w2 ⟨rfl, rfl⟩
        go_wp2_with fail
        refine Q1.out.mono ?_
        rintro e w3 ⟨rfl, HB2⟩
        have HB5 : Hid (BY w (escL plP (s.data.toList.take (k + 1))) w3) := by rw [HS.out]; exact HB2
        clear Q1 HB2 HO
        go_wp2
        exact ⟨⟨k + 1, by omega, by go_num, HB5⟩, by simp [intOf]; omega⟩
    · have hd : decide ((k : Int) < (s.size : Int)) = false := decide_eq_false (by omega)
      have hd2 : decide (k < s.size) = false := decide_eq_false hlt
      have e : s.data.toList.take k = s.data.toList := List.take_of_length_le (by simp; omega)
      rw [e] at HB
      have Q := hid HB.out.str
      clear e HB
      go_wp2_with fail
      refine Q.out.mono ?_
      rintro e w2 ⟨rfl, hb⟩
      have HE := hid hb
      clear Q hb
      go_wp2
      go_ret
      exact ⟨rfl, HE.out⟩
set_option maxRecDepth 100000 in
set_option maxHeartbeats 1000000 in
theorem ppath_any (s : ByteArray) (w : World) (hs : s.size ≤ 1048576) : Calls Tryd.prog 11 #[.string s] w fun e w' => e = .returned (.string ⟨(escL plP s.data.toList).toArray⟩) ∧ Below w.heap.size w w' := by
  have Q := hid (escaped_path s w hs)
  go_enter Tryd.func11, Tryd.ntmps11
  go_wp2_with fail
  refine Q.out.mono ?_
  rintro e w2 ⟨rfl, hb⟩
  have HE := hid hb
  clear Q hb
  go_wp2
  go_ret
  exact ⟨rfl, HE.out⟩

set_option maxRecDepth 100000 in
set_option maxHeartbeats 1000000 in
theorem escaped_name (s : ByteArray) (w : World) (hs : s.size ≤ 1048576) : Calls Tryd.prog 27 #[.string s, .func (.func 29) #[] #[]] w fun e w' => e = .returned (.string ⟨(escL plB s.data.toList).toArray⟩) ∧ Below w.heap.size w w' := by
  have HB0 : Hid (BY w (escL plB (s.data.toList.take 0)) (w.alloc (.cells #[.pointer none, .slice none 0 0] 68))) := BY.new w
  have hcf := enters_of Tryd.func29 (by kernel_rfl) rfl
  go_enter Tryd.func27, Tryd.ntmps27
  go_wp2
  go_loopw [10] (fun i wr => ∃ k : Nat, k ≤ s.size ∧ i = .int .i64 k ∧ Hid (BY w (escL plB (s.data.toList.take k)) wr)) (fun i _ => s.size - (intOf i).toNat)
  case atStart => exact ⟨0, by omega, rfl, HB0⟩
  case round =>
    clear HB0
    obtain ⟨k, hk, rfl, HB⟩ := hrel
    rename World => w1
    by_cases hlt : k < s.size
    · have hk0 : (0 : Int) ≤ (k : Int) := by omega
      have hk1 : (k : Int) < (s.size : Int) := by omega
      have HS := hid (escB_take plB s k hlt)
      have HO := hid (isPlain_any s[k] w1)
      have hlen : (escL plB (s.data.toList.take k)).length ≤ 3 * k := by have := (escL_len plB (s.data.toList.take k)).2; rw [List.length_take] at this; omega
      generalize hc : s[k] = c at HO HS
      have hcl := UInt8.toNat_lt c
      unfold esc1 at HS
      generalize plB c = b at HO HS
      generalize escL plB (s.data.toList.take k) = H at HS HB hlen
      obtain hb | hb : b = false ∨ b = true := by cases b <;> simp
      · subst hb
        have HS : Hid (escL plB (s.data.toList.take (k + 1)) = H ++ [37, dgU (c.toNat / 16), dgU (c.toNat % 16)]) := HS
        have h1 := digU_any (c.toNat / 16) (by omega)
        have h2 := digU_any (c.toNat % 16) (by omega)
        have e1 : (c.toNat : Int) / 16 = ((c.toNat / 16 : Nat) : Int) := by omega
        have e1p : (c.toNat : Int) / 2 ^ 4 = ((c.toNat / 16 : Nat) : Int) := by omega
        have e2 := low4P c
        have hi1 : c.toNat / 16 < 16 := by omega
        generalize c.toNat / 16 = i1 at h1 e1 e1p HS hi1
        generalize c.toNat % 16 = i2 at h2 e2 HS
        generalize dgU i1 = d1 at h1 HS
        generalize dgU i2 = d2 at h2 HS
        have e1w : IntKind.u8.wrap (i1 : Int) = (i1 : Int) := by rw [IntKind.wrap_u8]; omega
        have Q1 := hid (HB.out.byte 37 37 rfl (by omega))
        clear HB
        go_wp2_with fail
        refine HO.out.mono ?_
        rintro e w2 ⟨rfl, rfl⟩
        go_wp2_with fail
        refine Q1.out.mono ?_
        rintro e w3 ⟨rfl, HB2⟩
        have Q2 := hid (HB2.out.byte d1 _ rfl (by simp; omega))
        clear Q1 HB2 HO
        go_wp2_with fail
        refine Q2.out.mono ?_
        rintro e w4 ⟨rfl, HB3⟩
        have Q3 := hid (HB3.out.byte d2 _ rfl (by simp; omega))
        clear Q2 HB3
        go_wp2_with fail
        refine Q3.out.mono ?_
        rintro e w5 ⟨rfl, HB4⟩
        have HB5 : Hid (BY w (escL plB (s.data.toList.take (k + 1))) w5) := by rw [HS.out]; show BY _ _ _; have := HB4.out; simpa using this
        clear Q3 HB4
        go_wp2
        exact ⟨⟨k + 1, by omega, by go_num, HB5⟩, by simp [intOf]; omega⟩
      · subst hb
        have HS : Hid (escL plB (s.data.toList.take (k + 1)) = H ++ [c]) := HS
        have Q1 := hid (HB.out.byte c _ rfl (by omega))
        clear HB
        go_wp2_with fail
        refine HO.out.mono ?_
        rintro e w2 ⟨rfl, rfl⟩
        go_wp2_with fail
        refine Q1.out.mono ?_
        rintro e w3 ⟨rfl, HB2⟩
        have HB5 : Hid (BY w (escL plB (s.data.toList.take (k + 1))) w3) := by rw [HS.out]; exact HB2
        clear Q1 HB2 HO
        go_wp2
        exact ⟨⟨k + 1, by omega, by go_num, HB5⟩, by simp [intOf]; omega⟩
    · have hd : decide ((k : Int) < (s.size : Int)) = false := decide_eq_false (by omega)
      have hd2 : decide (k < s.size) = false := decide_eq_false hlt
      have e : s.data.toList.take k = s.data.toList := List.take_of_length_le (by simp; omega)
      rw [e] at HB
      have Q := hid HB.out.str
      clear e HB
      go_wp2_with fail
      refine Q.out.mono ?_
      rintro e w2 ⟨rfl, hb⟩
      have HE := hid hb
      clear Q hb
      go_wp2
      go_ret
      exact ⟨rfl, HE.out⟩
set_option maxRecDepth 100000 in
set_option maxHeartbeats 1000000 in
theorem pname_any (s : ByteArray) (w : World) (hs : s.size ≤ 1048576) : Calls Tryd.prog 13 #[.string s] w fun e w' => e = .returned (.string ⟨(escL plB s.data.toList).toArray⟩) ∧ Below w.heap.size w w' := by
  have Q := hid (escaped_name s w hs)
  go_enter Tryd.func13, Tryd.ntmps13
  go_wp2_with fail
  refine Q.out.mono ?_
  rintro e w2 ⟨rfl, hb⟩
  have HE := hid hb
  clear Q hb
  go_wp2
  go_ret
  exact ⟨rfl, HE.out⟩
end Go.Proofs.YtnohkhgoejjfhaaDoor
