/- The walk of the law FrameBack, of texts that a machine's memory holds: it answers true. -/
import Derived.Test.YtfdhaedpnjlpiabAwake2
namespace Go.Proofs.Ytfdhaedpnjlpiab
open Go.RowKit
set_option linter.unusedVariables false

theorem cat_list (a c : ByteArray) (F : List UInt8) : ((a ++ ByteArray.mk F.toArray) ++ c).data.toList = a.data.toList ++ (F ++ c.data.toList) := by simp [ByteArray.data_append]

set_option maxRecDepth 100000 in
set_option maxHeartbeats 800000 in
theorem frameBack_walk (b a0 a1 : ByteArray) (w : World) (hb0 : b.size ≤ reachBytes) (h00 : a0.size ≤ reachBytes) (h10 : a1.size ≤ reachBytes) :
    Calls Try.prog 7 #[.string b, .agg #[.string a0, .string a1]] w fun e w' => e = .returned (.bool true) ∧ Below w.heap.size w w' := by
  have hr : reachBytes ≤ 140737488355328 := by decide
  have hb := Nat.le_trans hb0 hr
  have h0 := Nat.le_trans h00 hr
  have h1 := Nat.le_trans h10 hr
  clear hr hb0 h00 h10
  by_cases hl : b.size ≤ 262144
  · have HF := show Hid _ from fun w => frame_ok b w hl
    have hlen := frm_len b.data.toList
    have hbl : b.data.toList.length = b.size := by simp
    have hu := unf_back ((a0 ++ ByteArray.mk (frm b.data.toList).toArray) ++ a1) b a0.data.toList a1.data.toList hl (cat_list a0 a1 _)
    have ha : a0.data.toList.length = a0.size := by simp
    rw [ha] at hu
    rw [hbl] at hlen
    generalize frm b.data.toList = F at HF hu hlen
    have hfs : (ByteArray.mk F.toArray).size = 8 + b.size := by show F.toArray.size = _; simp [hlen]
    generalize ByteArray.mk F.toArray = f at HF hu hfs
    have hcs : ((a0 ++ f) ++ a1).size ≤ 1152921504606846976 := by rw [ByteArray.size_append, ByteArray.size_append]; omega
    have HU := show Hid _ from fun w => unframe_wide ((a0 ++ f) ++ a1) (a0.size : Int) w hcs
    rw [hu] at HU
    have hpl : a0.size + f.size + a1.size ≤ 9223372036854775807 := by omega
    have hfl : f.size ≤ 1048576 := by omega
    have hsum : ((a0.size + 8 + b.size : Nat) : Int) = (a0.size : Int) + (f.size : Int) := by omega
    simp only [hsum] at HU
    clear hu hcs hlen hbl ha hsum hfs
    go_enter Try.func7, Try.ntmps7
    go_wp2_with fail
    refine (HF.out _).mono ?_
    rintro e w1 ⟨rfl, hB1⟩
    have hc := bcell hB1
    have hz := hB1.size
    simp at hz
    go_wp2_with fail
    refine (HU.out _).mono ?_
    rintro e w2 ⟨rfl, hB2⟩
    go_wp2_with fail
    refine (awake2 _).mono ?_
    rintro e w3 ⟨rfl, hB3⟩
    have hB13 := (hB1.trans (hB2.mono hB1.size)).trans (hB3.mono (Nat.le_trans hB1.size hB2.size))
    have hc3 := bcell hB13
    have hz3 := hB13.size
    simp at hz3
    clear hc hz
    go_wp2
    go_ret
    have h0 := (Below.refl w.heap.size w).alloc (Nat.le_refl _) (.cells #[.string a0, .string a1] 48)
    exact ⟨rfl, h0.trans (hB13.mono (by simp))⟩
  · have HF := show Hid _ from fun w => frame_long b w hl
    have hd : decide (262144 < (b.size : Int)) = true := by simp; omega
    go_enter Try.func7, Try.ntmps7
    go_wp2_with fail
    refine (HF.out _).mono ?_
    rintro e w1 ⟨rfl, hB1⟩
    go_wp2_with fail
    refine (awake2 _).mono ?_
    rintro e w3 ⟨rfl, hB3⟩
    go_wp2
    go_ret
    have h0 := (Below.refl w.heap.size w).alloc (Nat.le_refl _) (.cells #[.string a0, .string a1] 48)
    have h1 := h0.trans (hB1.mono (by simp))
    exact ⟨rfl, h1.trans (hB3.mono h1.size)⟩
end Go.Proofs.Ytfdhaedpnjlpiab
