/- 64 noughts. -/
import Derived.Test.YtbiapepalkdkdaaCvM
import Derived.Test.YtbiapepalkdkdaaBSl
namespace Go.Proofs.Ytbiapepalkdkdaa
open Go.RowKit Go.Maps
set_option linter.unusedVariables false
set_option linter.unusedSimpArgs false

def zb (k : Nat) : List UInt8 := List.replicate k 48 ++ List.replicate (64 - k) 0
def ZS : ByteArray := ⟨(List.replicate 64 (48 : UInt8)).toArray⟩
theorem zb_len (k : Nat) (h : k ≤ 64) : (zb k).length = 64 := by simp [zb]; omega
theorem zb_set (k : Nat) (h : k < 64) : (bs (zb k)).set k (.int .u8 48) = bs (zb (k + 1)) := by
  unfold bs zb
  rw [show 64 - k = (64 - (k + 1)) + 1 by omega, List.replicate_succ, List.map_append, List.map_cons, List.set_append_right _ _ (by simp)]
  simp [List.replicate_succ', List.append_assoc]
theorem made64 (W : World) : (Instr.makeSlice 83 (.int .i64 64) (.int .i64 64)).run Try.prog W = .ok (.slice (some ⟨W.heap.size, 0, none⟩) 64 64) (W.alloc (.cells (bs (zb 0)).toArray 5)) := by
  obtain ⟨i0, hi, hz0, hz1, hz2⟩ := info_parts info8
  have := run_make (P := Try.prog) W 83 5 i0 (.int .u8 0) Try.underlying83 hi hz0 .i64 .i64 64 64 (by omega) (by omega) (by rw [hz2]; decide) (by omega)
  have e : madeCells (Value.int .u8 0).cells 64 = (bs (zb 0)).toArray := by kernel_rfl
  rw [this, hz1, ← e]
  rfl
theorem row_own {W : World} {g : Nat} {l : List UInt8} {B : Nat} (h : RowIs W g (bs l) 5) (hB : B ≤ g) (hl : l.length ≤ 1048576) : W.ownsRow B 5 1 (.slice (some ⟨g, 0, none⟩) l.length l.length) l.length (bs l) :=
  ⟨by rw [bs_len]; omega, .inr ⟨g, l.length, (bs l).toArray, rfl, hB, h, Nat.le_refl _, by unfold maxLen; omega, by simp [bs_len], by
    simp only [Nat.mul_one, List.toList_toArray]
    exact List.take_of_length_le (by rw [bs_len]; omega)⟩⟩
set_option maxRecDepth 100000 in
set_option maxHeartbeats 1000000 in
theorem zeros_any (w : World) : Calls Try.prog 36 #[] w fun e w' => e = .returned (.string ZS) ∧ Below w.heap.size w w' := by
  have HM := fun W => made64 W
  have HS : Hid (∀ k, k < 64 → (bs (zb k)).set k (.int .u8 48) = bs (zb (k + 1))) := fun k hk => zb_set k hk
  have HR0 : Hid (RowIs (w.alloc (.cells (bs (zb 0)).toArray 5)) w.heap.size (bs (zb 0)) 5) := srow w _ 5
  have HB0 : Hid (Below w.heap.size w (w.alloc (.cells (bs (zb 0)).toArray 5))) := below_al (Below.refl _ _) _
  have HGET : Hid (∀ k, k < 64 → ∃ u, (bs (zb k))[k]? = some u) := fun k hk => ⟨_, List.getElem?_eq_getElem (by rw [bs_len, zb_len k (by omega)]; exact hk)⟩
  have HCV : Hid (∀ W, RowIs W w.heap.size (bs (zb 64)) 5 → (convert 83 9 (.slice (some ⟨w.heap.size, 0, none⟩) 64 64)).run Try.prog W = .ok (.string ZS) W) := fun W h => by
    have e : zb 64 = List.replicate 64 48 := by simp [zb]
    rw [e] at h
    have ho := row_own h (B := 0) (Nat.zero_le _) (by decide)
    exact convert_owned ho (by decide)
  generalize ZS = Z at *
  go_enter Try.func36, Try.ntmps36
  go_wp2
  go_loopw [2] (fun i wr => ∃ (k : Nat), k ≤ 64 ∧ i = .int .i64 (k : Int) ∧ Hid (RowIs wr w.heap.size (bs (zb k)) 5) ∧ Hid (Below w.heap.size w wr)) (fun i _ => 64 - (intOf i).toNat)
  case atStart => exact ⟨0, by omega, rfl, HR0, HB0⟩
  case round =>
    clear HR0 HB0
    obtain ⟨k, hk, rfl, HR, HB⟩ := hrel
    by_cases hlt : k < 64
    · have hk1 : (k : Int) < 64 := by omega
      have hk0 : (0 : Int) ≤ (k : Int) := by omega
      obtain ⟨u, hu⟩ := HGET.out k hlt
      have c0 := HR.out.cellAt hu
      have f0 := HR.out.frozen (o := k)
      have HR2 : Hid (RowIs (wr.setCell ⟨w.heap.size, k, none⟩ (.int .u8 48)) w.heap.size (bs (zb (k + 1))) 5) := by
        have := HR.out.set k (.int .u8 48)
        rw [HS.out k hlt] at this
        exact this
      have HB2 : Hid (Below w.heap.size w (wr.setCell ⟨w.heap.size, k, none⟩ (.int .u8 48))) := HB.out.setCell (by simp) _
      clear HS HGET HCV HR HB hu HM
      go_wp2
      exact ⟨⟨k + 1, by omega, by go_num, HR2, HB2⟩, by simp [intOf]; omega⟩
    · have hke : k = 64 := by omega
      subst hke
      have HC := HCV.out wr HR.out
      clear HS HGET HCV HR HM
      go_wp2
      go_ret
      exact ⟨rfl, HB.out⟩
end Go.Proofs.Ytbiapepalkdkdaa
