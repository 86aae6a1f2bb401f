/- The walk of the law NamesMay. -/
import Derived.Test.YtimdnddplhkdlaaNmW
namespace Go.Proofs.Ytimdnddplhkdlaa
open Go.RowKit Go.Shelf Go.Maps
set_option linter.unusedVariables false
set_option linter.unusedSimpArgs false

theorem maxL_of {w : World} (h : w.ShapedOpen Try.prog) : MaxL w := containsLaid.s1_3 w h
theorem keep_bel {w w' : World} (h : Keep (fun _ => False) w w') : Below w.heap.size w w' := keep_below h (fun _ _ h => h) (Nat.le_refl _)
set_option maxRecDepth 100000 in
set_option maxHeartbeats 2000000 in
theorem namesMay_walk (s : ByteArray) (w : World) (hz0 : s.size ≤ reachBytes) (hm : MaxL w) : Calls Try.prog 3 #[.string s] w fun e w' => e = .returned (.bool true) ∧ Below w.heap.size w w' := by
  have hz : s.size ≤ 140737488355328 := Nat.le_trans hz0 (Nat.le_of_lt reachBytes_lt)
  clear hz0
  have A := hid (awake12 w hm)
  have P1 := hid (fun W h => pbucket_any s W h)
  have P2 := hid (fun W => rbucket_any s W)
  have P3 := hid (fun W => pkey_any s W)
  have P4 := hid (fun W => rkey_any s W hz)
  have P5 := hid (fun W => ptoken_any s W)
  have P6 := hid (fun W => rtoken_any s W hz)
  have HM := hid hm
  generalize bktOk s.data.toList = b1 at *
  generalize keyOk s.data.toList = b2 at *
  generalize tokOk s.data.toList = b3 at *
  have e1 : (b1 == b1) = true := by simp
  have e2 : (b2 == b2) = true := by simp
  have e3 : (b3 == b3) = true := by simp
  clear hm hz
  go_enter Try.func3, Try.ntmps3
  go_wp2_with fail
  refine A.out.mono ?_
  rintro e w1 ⟨rfl, hk⟩
  have Q1 := hid (P1.out w1 (HM.out.keep hk))
  have Q2 := hid (P2.out w1)
  have Q3 := hid (P3.out w1)
  have Q4 := hid (P4.out w1)
  have Q5 := hid (P5.out w1)
  have Q6 := hid (P6.out w1)
  have HK := hid (keep_bel hk)
  clear A P1 P2 P3 P4 P5 P6 HM hk
  go_wp2_with fail
  refine Q1.out.mono ?_
  rintro e w2 ⟨rfl, rfl⟩
  go_wp2_with fail
  refine Q2.out.mono ?_
  rintro e w2 ⟨rfl, rfl⟩
  go_wp2_with fail
  refine Q3.out.mono ?_
  rintro e w2 ⟨rfl, rfl⟩
  go_wp2_with fail
  refine Q4.out.mono ?_
  rintro e w2 ⟨rfl, rfl⟩
  go_wp2_with fail
  refine Q5.out.mono ?_
  rintro e w2 ⟨rfl, rfl⟩
  go_wp2_with fail
  refine Q6.out.mono ?_
  rintro e w2 ⟨rfl, rfl⟩
  go_wp2
  go_ret
  exact ⟨rfl, HK.out⟩
end Go.Proofs.Ytimdnddplhkdlaa
