/- The walks of frame's making and finding of a frame. -/
import Derived.Test.YtfdhaedpnjlpiabFrameM
import Derived.Test.YtfdhaedpnjlpiabClone
namespace Go.Proofs.Ytfdhaedpnjlpiab
open Go.RowKit
set_option linter.unusedVariables false

theorem ret_fr {x y : ByteArray} {i j : Int} (h1 : x = y) (h2 : i = j) : Ending.returned (.tuple #[.string x, .int .i64 i]) = .returned (.tuple #[.string y, .int .i64 j]) := by rw [h1, h2]
theorem wide4 (n : Nat) (h : n < 4294967296) (w : World) :
    Calls Try.prog 32 #[.int .u64 n, .int .i64 4] w fun e w' => e = .returned (.tuple #[.string ⟨(be n 4).toArray⟩, .int .i64 0]) ∧ Below w.heap.size w w' := by
  have h1 := wide_any n 4 w (by omega)
  have h2 : wideR n (4 : Int) = be n 4 ∧ wideE n (4 : Int) = 0 := wide_yes n 4 (by omega) (by omega) (by simpa using h)
  rw [h2.1, h2.2] at h1
  exact h1
theorem cat3 (a b : List UInt8) (c : ByteArray) : (ByteArray.mk a.toArray ++ ByteArray.mk b.toArray) ++ c = ByteArray.mk (a ++ (b ++ c.data.toList)).toArray := by
  apply ByteArray.ext
  apply Array.ext'
  simp [ByteArray.data_append]

set_option maxRecDepth 100000 in
set_option maxHeartbeats 800000 in
theorem frame_ok (b : ByteArray) (w : World) (hb : b.size ≤ 262144) :
    Calls Try.prog 19 #[.string b] w fun e w' => e = .returned (.tuple #[.string ⟨(frm b.data.toList).toArray⟩, .int .i64 0]) ∧ Below w.heap.size w w' := by
  have HA := show Hid _ from fun w => wide4 b.size (by omega) w
  have hs := sumN_lt (be b.size 4 ++ b.data.toList)
  have HS := show Hid _ from fun w => sumOf_any ⟨(be b.size 4).toArray⟩ b w (by show (be b.size 4).toArray.size ≤ _; rw [List.size_toArray, be_len]; decide) (by unfold maxLen; omega)
  have HF := show Hid (frm b.data.toList = be b.size 4 ++ (be (sumN (be b.size 4 ++ b.data.toList)) 4 ++ b.data.toList)) from by show frm _ = _; simp [frm]
  generalize sumN (be b.size 4 ++ b.data.toList) = u at HS HF hs
  have HB := show Hid _ from fun w => wide4 u hs w
  have l1 := be_len b.size 4
  have l2 := be_len u 4
  generalize be b.size 4 = X at HA HS HF l1
  generalize be u 4 = Y at HB HF l2
  have hx : (ByteArray.mk X.toArray).size = 4 := by show X.toArray.size = 4; simp [l1]
  have hy : (ByteArray.mk Y.toArray).size = 4 := by show Y.toArray.size = 4; simp [l2]
  have HC := show Hid _ from cat3 X Y b
  clear l1 l2
  go_enter Try.func19, Try.ntmps19
  go_wp2_with fail
  refine (HA.out _).mono ?_
  rintro e w1 ⟨rfl, hB1⟩
  go_wp2_with fail
  refine (HS.out _).mono ?_
  rintro e w' ⟨rfl, rfl⟩
  go_wp2_with fail
  refine (HB.out _).mono ?_
  rintro e w2 ⟨rfl, hB2⟩
  go_wp2
  go_ret2
  exact ⟨ret_fr (by rw [HF.out]; exact HC.out) rfl, hB1.trans (hB2.mono hB1.size)⟩

set_option maxRecDepth 100000 in
set_option maxHeartbeats 800000 in
theorem frame_long (b : ByteArray) (w : World) (hb : ¬ b.size ≤ 262144) :
    Calls Try.prog 19 #[.string b] w fun e w' => e = .returned (.tuple #[.string ⟨#[]⟩, .int .i64 2]) ∧ Below w.heap.size w w' := by
  go_enter Try.func19, Try.ntmps19
  go_wp2
  go_ret2
  exact ⟨rfl, Below.refl _ _⟩
end Go.Proofs.Ytfdhaedpnjlpiab
