/- PercentPaths, walked. -/
import Derived.Test.YtnohkhgoejjfhaaDoorPeO
import Derived.Test.YtnohkhgoejjfhaaDoorPeH
namespace Go.Proofs.YtnohkhgoejjfhaaDoor
open Go.RowKit Go.Maps
set_option linter.unusedVariables false
set_option linter.unusedSimpArgs false

set_option maxRecDepth 100000 in
set_option maxHeartbeats 4000000 in
theorem percentPaths_walk (s t : ByteArray) (w : World) (z0 : s.size ≤ 140737488355328) (z1 : t.size ≤ 140737488355328) : Calls Tryd.prog 3 #[.string s, .string t] w fun e w' => e = .returned (.bool true) ∧ Below w.heap.size w w' := by
  have AW := hid (fun W => awake18 W)
  have B0 := hid (Below.refl w.heap.size w)
  by_cases h0 : 5000 < s.size
  · have g0 : (5000 : Int) < (s.size : Int) := by omega
    clear h0 z0 z1
    go_enter Tryd.func3, Tryd.ntmps3
    go_wp2_with fail
    refine (AW.out _).mono ?_
    rintro e w1 ⟨rfl, b1⟩
    have B1 := hid (below_on B0.out b1)
    clear b1 B0
    go_wp2
    go_ret
    exact ⟨rfl, B1.out⟩
  · have g0 : ¬ (5000 : Int) < (s.size : Int) := by omega
    by_cases h1 : 5000 < t.size
    · have g1 : (5000 : Int) < (t.size : Int) := by omega
      clear h0 h1 z0 z1
      go_enter Tryd.func3, Tryd.ntmps3
      go_wp2_with fail
      refine (AW.out _).mono ?_
      rintro e w1 ⟨rfl, b1⟩
      have B1 := hid (below_on B0.out b1)
      clear b1 B0
      go_wp2
      go_ret
      exact ⟨rfl, B1.out⟩
    · have g1 : ¬ (5000 : Int) < (t.size : Int) := by omega
      have UP := hid (fun W => unpath_any t W (by omega))
      have RU := hid (fun W => runpath_any t W (by omega))
      have PP := hid (fun W => ppath_any s W (by omega))
      have RP := hid (fun W => rpath_any s W (by omega))
      have PN := hid (fun W => pname_any s W (by omega))
      have RN := hid (fun W => rname_any s W (by omega))
      generalize boE rwP t.data.toList = R at *
      obtain ⟨rs, re⟩ := R
      simp only at *
      generalize (⟨rs.toArray⟩ : ByteArray) = RS at *
      generalize (⟨(escL plP s.data.toList).toArray⟩ : ByteArray) = EP at *
      generalize (⟨(escL plB s.data.toList).toArray⟩ : ByteArray) = EN at *
      clear h0 h1 z0 z1
      go_enter Tryd.func3, Tryd.ntmps3
      go_wp2_with fail
      refine (UP.out _).mono ?_
      rintro e w1 ⟨rfl, b1⟩
      have B1 := hid (below_on B0.out b1)
      clear b1 B0
      go_wp2_with fail
      refine (RU.out _).mono ?_
      rintro e w2 ⟨rfl, b2⟩
      have B2 := hid (below_on B1.out b2)
      clear b2 B1
      go_wp2_with fail
      refine (AW.out _).mono ?_
      rintro e w3 ⟨rfl, b3⟩
      have B3 := hid (below_on B2.out b3)
      clear b3 B2
      go_wp2_with fail
      refine (PP.out _).mono ?_
      rintro e w4 ⟨rfl, b4⟩
      have B4 := hid (below_on B3.out b4)
      clear b4 B3
      go_wp2_with fail
      refine (RP.out _).mono ?_
      rintro e w5 ⟨rfl, b5⟩
      have B5 := hid (below_on B4.out b5)
      clear b5 B4
      go_wp2_with fail
      refine (PN.out _).mono ?_
      rintro e w6 ⟨rfl, b6⟩
      have B6 := hid (below_on B5.out b6)
      clear b6 B5
      go_wp2_with fail
      refine (RN.out _).mono ?_
      rintro e w7 ⟨rfl, b7⟩
      have B7 := hid (below_on B6.out b7)
      clear b7 B6
      go_wp2
      go_ret
      exact ⟨rfl, B7.out⟩
end Go.Proofs.YtnohkhgoejjfhaaDoor
