/- The law TokenLooks, walked. -/
import Derived.Test.YtojiahdbgdgdcaaTkJ
import Derived.Test.YtojiahdbgdgdcaaTkK
import Derived.Test.YtojiahdbgdgdcaaTkZ
namespace Go.Proofs.Ytojiahdbgdgdcaa
open Go.RowKit Go.Maps
set_option linter.unusedVariables false
set_option linter.unusedSimpArgs false

theorem hzl {n : Nat} (h : n * 56 ≤ 140737488355328) : n ≤ 8796093022208 := by omega
set_option maxRecDepth 100000 in
set_option maxHeartbeats 2000000 in
theorem tokenLooks_walk (v : Value) (q : List Hd) (t s : ByteArray) (w : World) (hv : HdI w v q) (hz : q.length * 56 ≤ 140737488355328) (hy : ∀ y ∈ q, ibulk.SzHb y) (ht : t.size ≤ reachBytes) (hs : s.size ≤ reachBytes) : Calls Try.prog 3 #[v, .string t, .string s] w fun e w' => e = .returned (.bool true) ∧ Below w.heap.size w w' := by
  obtain ⟨ad, cap, rfl, hc⟩ := hv.form
  clear hc
  have L1 := hid (look15_any _ q t s w hv)
  have R1 : Hid (∀ W, Below w.heap.size w W → Calls Try.prog 10 #[.slice ad q.length cap] W fun e w' => ∃ ad cap, e = .returned (.slice ad q.length cap) ∧ Hid (HdI w' (.slice ad q.length cap) q) ∧ Below W.heap.size W w') := fun W hW => (refs15_any _ q W (hv.next hW) hz).mono fun e w' ⟨ad, cap, he, ho, hb⟩ => ⟨ad, cap, he, ho.hd, hb⟩
  have L2 : Hid (∀ W u, HdI W u q → Calls Try.prog 9 #[u, .string t, .string s] W fun e w' => e = .returned (.tuple #[.int .i64 (lookN q t s), .string (lookS q t s)]) ∧ Below W.heap.size W w') := fun W u hu => rlook15_any u q t s W hu (hzl hz) (fun y h => ⟨(hy y h).1, (hy y h).2.1⟩)
  have AW := hid (fun W => awake15 W)
  generalize lookN q t s = RN at *
  generalize lookS q t s = RS at *
  have g1 : (RN == RN) = true := by simp
  have g2 : (RS.toList == RS.toList) = true := by simp
  clear hv hz hy ht hs
  go_enter Try.func3, Try.ntmps3
  go_wp2_with fail
  refine L1.out.mono ?_
  rintro e w1 ⟨rfl, b1⟩
  have B1 := hid b1
  clear b1 L1
  go_wp2_with fail
  refine (R1.out _ B1.out).mono ?_
  rintro e w2 ⟨ad2, cap2, rfl, I2, b2⟩
  have B2 := hid (below_on B1.out b2)
  clear b2 B1 R1
  go_wp2_with fail
  refine (L2.out _ _ I2.out).mono ?_
  rintro e w3 ⟨rfl, b3⟩
  have B3 := hid (below_on B2.out b3)
  clear b3 B2 I2 L2
  go_wp2_with fail
  refine (AW.out _).mono ?_
  rintro e w4 ⟨rfl, b4⟩
  have B4 := hid (below_on B3.out b4)
  clear b4 B3 AW
  go_wp2
  go_ret
  exact ⟨rfl, B4.out⟩
end Go.Proofs.Ytojiahdbgdgdcaa
