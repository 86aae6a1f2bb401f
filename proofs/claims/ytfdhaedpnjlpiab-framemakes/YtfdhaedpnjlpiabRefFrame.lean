/- The walk of the document's making of a frame. -/
import Derived.Test.YtfdhaedpnjlpiabAwake2
import Derived.Test.YtfdhaedpnjlpiabRefCrc
import Derived.Test.YtfdhaedpnjlpiabRefWide
namespace Go.Proofs.Ytfdhaedpnjlpiab
open Go.RowKit
set_option linter.unusedVariables false

theorem ref_wide4 (n : Nat) (h : n < 4294967296) (w : World) :
    Calls Try.prog 34 #[.int .u64 n, .int .i64 4] w fun e w' => e = .returned (.tuple #[.string ⟨(be n 4).toArray⟩, .int .i64 0]) ∧ Below w.heap.size w w' := by
  have h1 := ref_wide_any n 4 w (by omega)
  have h2 : wideR n (4 : Int) = be n 4 ∧ wideE n (4 : Int) = 0 := wide_yes n 4 (by omega) (by omega) (by simpa using h)
  rw [h2.1, h2.2] at h1
  exact h1

set_option maxRecDepth 100000 in
set_option maxHeartbeats 800000 in
theorem ref_frame_ok (b : ByteArray) (w : World) (hb : b.size ≤ 262144) :
    Calls Try.prog 20 #[.string b] w fun e w' => e = .returned (.tuple #[.string ⟨(frm b.data.toList).toArray⟩, .int .i64 0]) ∧ Below w.heap.size w w' := by
  have HA := show Hid _ from fun w => ref_wide4 b.size (by omega) w
  have hs := sumN_lt (be b.size 4 ++ b.data.toList)
  have l1 := be_len b.size 4
  have hcz : (ByteArray.mk (be b.size 4).toArray ++ b).size ≤ maxLen := by rw [ByteArray.size_append]; show (be b.size 4).toArray.size + _ ≤ _; rw [List.size_toArray, l1]; unfold maxLen; omega
  have HS := show Hid _ from fun w => ref_sum_any (ByteArray.mk (be b.size 4).toArray ++ b) w hcz
  have e0 : (ByteArray.mk (be b.size 4).toArray ++ b).data.toList = be b.size 4 ++ b.data.toList := by simp [ByteArray.data_append]
  rw [e0] at HS
  have HF := show Hid (frm b.data.toList = be b.size 4 ++ (be (sumN (be b.size 4 ++ b.data.toList)) 4 ++ b.data.toList)) from by show frm _ = _; simp [frm]
  generalize sumN (be b.size 4 ++ b.data.toList) = u at HS HF hs
  have HB := show Hid _ from fun w => ref_wide4 u hs w
  have l2 := be_len u 4
  clear e0 hcz
  generalize be b.size 4 = X at HA HS HF l1
  generalize be u 4 = Y at HB HF l2
  have hx : (ByteArray.mk X.toArray).size = 4 := by show X.toArray.size = 4; simp [l1]
  have hy : (ByteArray.mk Y.toArray).size = 4 := by show Y.toArray.size = 4; simp [l2]
  have HC := show Hid _ from cat3 X Y b
  clear l1 l2
  go_enter Try.func20, Try.ntmps20
  go_wp2_with fail
  refine (HA.out _).mono ?_
  rintro e w1 ⟨rfl, hB1⟩
  go_wp2_with fail
  refine (HS.out _).mono ?_
  rintro e w' ⟨rfl, rfl⟩
  go_wp2_with fail
  refine (HB.out _).mono ?_
  rintro e w2 ⟨rfl, hB2⟩
  go_wp2
  go_ret2
  exact ⟨ret_fr (by rw [HF.out]; exact HC.out) rfl, hB1.trans (hB2.mono hB1.size)⟩

set_option maxRecDepth 100000 in
set_option maxHeartbeats 800000 in
theorem ref_frame_long (b : ByteArray) (w : World) (hb : ¬ b.size ≤ 262144) :
    Calls Try.prog 20 #[.string b] w fun e w' => e = .returned (.tuple #[.string ⟨#[]⟩, .int .i64 2]) ∧ Below w.heap.size w w' := by
  go_enter Try.func20, Try.ntmps20
  go_wp2
  go_ret2
  exact ⟨rfl, Below.refl _ _⟩

set_option maxRecDepth 100000 in
set_option maxHeartbeats 800000 in
theorem frameMakes_walk (b : ByteArray) (w : World) (hs : b.size ≤ reachBytes) :
    Calls Try.prog 5 #[.string b] w fun e w' => e = .returned (.bool true) ∧ Below w.heap.size w w' := by
  have H : ∃ (x : ByteArray) (k : Nat), Hid (∀ w, Calls Try.prog 19 #[.string b] w fun e w' => e = .returned (.tuple #[.string x, .int .i64 k]) ∧ Below w.heap.size w w') ∧
      Hid (∀ w, Calls Try.prog 20 #[.string b] w fun e w' => e = .returned (.tuple #[.string x, .int .i64 k]) ∧ Below w.heap.size w w') := by
    by_cases hb : b.size ≤ 262144
    · exact ⟨_, 0, fun w => frame_ok b w hb, fun w => ref_frame_ok b w hb⟩
    · exact ⟨_, 2, fun w => frame_long b w hb, fun w => ref_frame_long b w hb⟩
  obtain ⟨x, k, H1, H2⟩ := H
  go_enter Try.func5, Try.ntmps5
  go_wp2_with fail
  refine (H1.out _).mono ?_
  rintro e w1 ⟨rfl, hB1⟩
  go_wp2_with fail
  refine (H2.out _).mono ?_
  rintro e w2 ⟨rfl, hB2⟩
  go_wp2_with fail
  refine (awake2 _).mono ?_
  rintro e w3 ⟨rfl, hB3⟩
  go_wp2
  go_ret
  have h2 := hB1.trans (hB2.mono hB1.size)
  exact ⟨rfl, h2.trans (hB3.mono h2.size)⟩
end Go.Proofs.Ytfdhaedpnjlpiab
