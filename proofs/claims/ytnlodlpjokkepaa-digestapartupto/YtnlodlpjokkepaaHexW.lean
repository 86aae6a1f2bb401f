/- The walks of the digits. -/
import Derived.Test.YtnlodlpjokkepaaRSum
namespace Go.Proofs.Ytnlodlpjokkepaa
open Go.RowKit
set_option linter.unusedVariables false

/-- an empty slice of bytes that has room -/
theorem bsl_make (n : Nat) (hn : n ≤ 140737488355328) : ∃ M : Array Value, (∀ W : World, (Instr.makeSlice 44 (.int .i64 0) (.int .i64 (n : Int))).run Try.prog W = .ok (.slice (some ⟨W.heap.size, 0, none⟩) 0 n) (W.alloc (.cells M 5))) ∧
    ∀ (W : World) (base : Nat), base ≤ W.heap.size → BSl (W.alloc (.cells M 5)) base (.slice (some ⟨W.heap.size, 0, none⟩) 0 n) [] := by
  obtain ⟨i0, hi, hz0, hz1, hz2⟩ := info_parts info8
  obtain ⟨M, hM⟩ : ∃ M, M = madeCells (Value.int .u8 0).cells (((n : Nat) : Int).toNat * i0.size) := ⟨_, rfl⟩
  have hMs : M.size = n := by rw [hM, size_madeCells, hz1]; simp
  refine ⟨M, fun W => ?_, fun W base hb => .inr ⟨W.heap.size, n, rfl, hb, by simp, by simp, fun j hj => by simp at hj, fun j hj => ⟨?_, frozen_of_row _ _ _ _ _ (heap_alloc_new _ _)⟩⟩⟩
  · have h := run_make (P := Try.prog) W 44 5 i0 (.int .u8 0) Try.underlying44 hi hz0 .i64 .i64 0 (n : Int) (by omega) (by omega) (by rw [hz2]; omega) (by omega)
    rw [← hM] at h
    simpa using h
  · rw [cell_of_row _ _ _ _ _ _ (heap_alloc_new _ _), Array.getElem?_eq_getElem (by rw [hMs]; exact hj)]; rfl

theorem take_snocB (s : ByteArray) (k : Nat) (h : k < s.size) : s.data.toList.take (k + 1) = s.data.toList.take k ++ [s[k]] := by
  rw [List.take_succ_eq_append_getElem (by simpa using h)]; rfl

theorem digit_0 (w : World) : (Instr.index 9 (.string ⟨#[48, 49, 50, 51, 52, 53, 54, 55, 56, 57, 97, 98, 99, 100, 101, 102]⟩) (.int .u8 ((0 : Nat) : Int))).run Try.prog w = .ok (.int .u8 ((dig 0).toNat : Int)) w := by kernel_rfl
theorem digit_1 (w : World) : (Instr.index 9 (.string ⟨#[48, 49, 50, 51, 52, 53, 54, 55, 56, 57, 97, 98, 99, 100, 101, 102]⟩) (.int .u8 ((1 : Nat) : Int))).run Try.prog w = .ok (.int .u8 ((dig 1).toNat : Int)) w := by kernel_rfl
theorem digit_2 (w : World) : (Instr.index 9 (.string ⟨#[48, 49, 50, 51, 52, 53, 54, 55, 56, 57, 97, 98, 99, 100, 101, 102]⟩) (.int .u8 ((2 : Nat) : Int))).run Try.prog w = .ok (.int .u8 ((dig 2).toNat : Int)) w := by kernel_rfl
theorem digit_3 (w : World) : (Instr.index 9 (.string ⟨#[48, 49, 50, 51, 52, 53, 54, 55, 56, 57, 97, 98, 99, 100, 101, 102]⟩) (.int .u8 ((3 : Nat) : Int))).run Try.prog w = .ok (.int .u8 ((dig 3).toNat : Int)) w := by kernel_rfl
theorem digit_4 (w : World) : (Instr.index 9 (.string ⟨#[48, 49, 50, 51, 52, 53, 54, 55, 56, 57, 97, 98, 99, 100, 101, 102]⟩) (.int .u8 ((4 : Nat) : Int))).run Try.prog w = .ok (.int .u8 ((dig 4).toNat : Int)) w := by kernel_rfl
theorem digit_5 (w : World) : (Instr.index 9 (.string ⟨#[48, 49, 50, 51, 52, 53, 54, 55, 56, 57, 97, 98, 99, 100, 101, 102]⟩) (.int .u8 ((5 : Nat) : Int))).run Try.prog w = .ok (.int .u8 ((dig 5).toNat : Int)) w := by kernel_rfl
theorem digit_6 (w : World) : (Instr.index 9 (.string ⟨#[48, 49, 50, 51, 52, 53, 54, 55, 56, 57, 97, 98, 99, 100, 101, 102]⟩) (.int .u8 ((6 : Nat) : Int))).run Try.prog w = .ok (.int .u8 ((dig 6).toNat : Int)) w := by kernel_rfl
theorem digit_7 (w : World) : (Instr.index 9 (.string ⟨#[48, 49, 50, 51, 52, 53, 54, 55, 56, 57, 97, 98, 99, 100, 101, 102]⟩) (.int .u8 ((7 : Nat) : Int))).run Try.prog w = .ok (.int .u8 ((dig 7).toNat : Int)) w := by kernel_rfl
theorem digit_8 (w : World) : (Instr.index 9 (.string ⟨#[48, 49, 50, 51, 52, 53, 54, 55, 56, 57, 97, 98, 99, 100, 101, 102]⟩) (.int .u8 ((8 : Nat) : Int))).run Try.prog w = .ok (.int .u8 ((dig 8).toNat : Int)) w := by kernel_rfl
theorem digit_9 (w : World) : (Instr.index 9 (.string ⟨#[48, 49, 50, 51, 52, 53, 54, 55, 56, 57, 97, 98, 99, 100, 101, 102]⟩) (.int .u8 ((9 : Nat) : Int))).run Try.prog w = .ok (.int .u8 ((dig 9).toNat : Int)) w := by kernel_rfl
theorem digit_10 (w : World) : (Instr.index 9 (.string ⟨#[48, 49, 50, 51, 52, 53, 54, 55, 56, 57, 97, 98, 99, 100, 101, 102]⟩) (.int .u8 ((10 : Nat) : Int))).run Try.prog w = .ok (.int .u8 ((dig 10).toNat : Int)) w := by kernel_rfl
theorem digit_11 (w : World) : (Instr.index 9 (.string ⟨#[48, 49, 50, 51, 52, 53, 54, 55, 56, 57, 97, 98, 99, 100, 101, 102]⟩) (.int .u8 ((11 : Nat) : Int))).run Try.prog w = .ok (.int .u8 ((dig 11).toNat : Int)) w := by kernel_rfl
theorem digit_12 (w : World) : (Instr.index 9 (.string ⟨#[48, 49, 50, 51, 52, 53, 54, 55, 56, 57, 97, 98, 99, 100, 101, 102]⟩) (.int .u8 ((12 : Nat) : Int))).run Try.prog w = .ok (.int .u8 ((dig 12).toNat : Int)) w := by kernel_rfl
theorem digit_13 (w : World) : (Instr.index 9 (.string ⟨#[48, 49, 50, 51, 52, 53, 54, 55, 56, 57, 97, 98, 99, 100, 101, 102]⟩) (.int .u8 ((13 : Nat) : Int))).run Try.prog w = .ok (.int .u8 ((dig 13).toNat : Int)) w := by kernel_rfl
theorem digit_14 (w : World) : (Instr.index 9 (.string ⟨#[48, 49, 50, 51, 52, 53, 54, 55, 56, 57, 97, 98, 99, 100, 101, 102]⟩) (.int .u8 ((14 : Nat) : Int))).run Try.prog w = .ok (.int .u8 ((dig 14).toNat : Int)) w := by kernel_rfl
theorem digit_15 (w : World) : (Instr.index 9 (.string ⟨#[48, 49, 50, 51, 52, 53, 54, 55, 56, 57, 97, 98, 99, 100, 101, 102]⟩) (.int .u8 ((15 : Nat) : Int))).run Try.prog w = .ok (.int .u8 ((dig 15).toNat : Int)) w := by kernel_rfl
theorem digit_any (i : Nat) (h : i < 16) (w : World) : (Instr.index 9 (.string ⟨#[48, 49, 50, 51, 52, 53, 54, 55, 56, 57, 97, 98, 99, 100, 101, 102]⟩) (.int .u8 (i : Int))).run Try.prog w = .ok (.int .u8 ((dig i).toNat : Int)) w := by
  have : i = 0 ∨ i = 1 ∨ i = 2 ∨ i = 3 ∨ i = 4 ∨ i = 5 ∨ i = 6 ∨ i = 7 ∨ i = 8 ∨ i = 9 ∨ i = 10 ∨ i = 11 ∨ i = 12 ∨ i = 13 ∨ i = 14 ∨ i = 15 := by omega
  rcases this with rfl | rfl | rfl | rfl | rfl | rfl | rfl | rfl | rfl | rfl | rfl | rfl | rfl | rfl | rfl | rfl
  · exact digit_0 w
  · exact digit_1 w
  · exact digit_2 w
  · exact digit_3 w
  · exact digit_4 w
  · exact digit_5 w
  · exact digit_6 w
  · exact digit_7 w
  · exact digit_8 w
  · exact digit_9 w
  · exact digit_10 w
  · exact digit_11 w
  · exact digit_12 w
  · exact digit_13 w
  · exact digit_14 w
  · exact digit_15 w
theorem low4 (c : UInt8) : bits .and .u8 (c.toNat : Int) 15 = ((c.toNat % 16 : Nat) : Int) := by
  have h := UInt8.toNat_lt c
  have := bits_mask .u8 8 (by decide) wraps_u8 4 (by decide) (c.toNat : Int) (by omega) (by omega)
  rw [show (15 : Int) = 2 ^ 4 - 1 by decide, this]; omega
theorem hexL_snoc (l : List UInt8) (c : UInt8) : hexL (l ++ [c]) = hexL l ++ [dig (c.toNat / 16), dig (c.toNat % 16)] := by rw [hexL_append]; rfl

set_option maxRecDepth 100000 in
set_option maxHeartbeats 1000000 in
theorem hex_any (s : ByteArray) (w : World) (hs : s.size ≤ 70368744177664) :
    Calls Try.prog 19 #[.string s] w fun e w' => e = .returned (.string ⟨(hexL s.data.toList).toArray⟩) ∧ Below w.heap.size w w' := by
  obtain ⟨M, hmk, hb0⟩ := bsl_make (2 * s.size) (by omega)
  have e2 : ((2 * s.size : Nat) : Int) = 2 * (s.size : Int) := by omega
  rw [e2] at hmk
  have HB0 : Hid (BSl (w.alloc (.cells M 5)) w.heap.size (.slice (some ⟨w.heap.size, 0, none⟩) 0 (2 * s.size)) (hexL (s.data.toList.take 0))) := hb0 w w.heap.size (Nat.le_refl _)
  have HE0 : Hid (Below w.heap.size w (w.alloc (.cells M 5))) := (Below.refl _ _).alloc (Nat.le_refl _) _
  clear hb0 e2
  go_enter Try.func19, Try.ntmps19
  go_wp2
  go_loopw [3, 11] (fun v i wr => ∃ k : Nat, k ≤ s.size ∧ i = .int .i64 k ∧ Hid (BSl wr w.heap.size v (hexL (s.data.toList.take k))) ∧ Hid (Below w.heap.size w wr)) (fun _ i _ => s.size - (intOf i).toNat)
  case atStart => exact ⟨0, by omega, rfl, HB0, HE0⟩
  case round =>
    clear HB0 HE0 hmk
    obtain ⟨k, hk, rfl, HB, HE⟩ := hrel
    by_cases hlt : k < s.size
    · have hk0 : (0 : Int) ≤ (k : Int) := by omega
      have hk1 : (k : Int) < (s.size : Int) := by omega
      have HT := show Hid _ from take_snocB s k hlt
      generalize hc : s[k] = c at HT
      have hcl := UInt8.toNat_lt c
      have h1 := digit_any (c.toNat / 16) (by omega)
      have h2 := digit_any (c.toNat % 16) (by omega)
      have e1 : (c.toNat : Int) / 16 = ((c.toNat / 16 : Nat) : Int) := by omega
      have e2 := low4 c
      have HS : Hid (hexL (s.data.toList.take (k + 1)) = hexL (s.data.toList.take k) ++ [dig (c.toNat / 16), dig (c.toNat % 16)]) := by show _ = _; rw [HT.out, hexL_snoc]
      generalize c.toNat / 16 = i1 at h1 e1 HS
      generalize c.toNat % 16 = i2 at h2 e2 HS
      generalize dig i1 = d1 at h1 HS
      generalize dig i2 = d2 at h2 HS
      have HM : Hid (#[Value.int .u8 (d1.toNat : Int), .int .u8 (d2.toNat : Int)] = (bs [d1, d2]).toArray) := rfl
      have HML : Hid (2 = [d1, d2].length) := rfl
      have HMN : Hid ([d1, d2] ≠ []) := by show _ ≠ _; simp
      have HLL : Hid ((hexL (s.data.toList.take k)).length + [d1, d2].length ≤ 140737488355328) := by show _ ≤ _; rw [hexL_len, List.length_take]; simp; omega
      have hsz : w.heap.size ≤ wr.heap.size := HE.out.size
      have HSZ : Hid (w.heap.size ≤ wr.heap.size) := hsz
      have HBx : Hid (∀ X, Below w.heap.size wr (wr.alloc X).drew) := fun X => below_drewN ((Below.refl _ wr).alloc hsz X) 1
      clear hsz HT
      generalize hexL (s.data.toList.take k) = L at HS HLL HB
      go_wp2
      go_region_held3 (fun w' => True) (trivial) ((refine step_bsl (by rfl) _ _ (by rfl) w.heap.size _ L wr [d1, d2] _ HM.out (by rfl) (HBx.out _) 2 HML.out (by rfl) (by rfl) HB.out HSZ.out HLL.out HMN.out ?_; intro v1 w1 hb1 hbel1))
      all_goals
        have HB2 : Hid (BSl w1 w.heap.size v1 (hexL (s.data.toList.take (k + 1)))) := by rw [HS.out]; exact hb1
        have HE2 : Hid (Below w.heap.size w w1) := HE.out.trans hbel1
        clear hb1 hbel1 HB HE h1 h2 e1 e2 hc
        go_wp2
        exact ⟨⟨k + 1, by omega, by go_num, HB2, HE2⟩, by simp [intOf]; omega⟩
    · have hd : decide ((k : Int) < (s.size : Int)) = false := decide_eq_false (by omega)
      have hd2 : decide (k < s.size) = false := decide_eq_false hlt
      have e : s.data.toList.take k = s.data.toList := List.take_of_length_le (by simp; omega)
      rw [e] at HB
      have hcv := HB.out.text
      clear e HB
      go_wp2
      go_ret
      exact ⟨rfl, HE.out⟩
end Go.Proofs.Ytnlodlpjokkepaa
