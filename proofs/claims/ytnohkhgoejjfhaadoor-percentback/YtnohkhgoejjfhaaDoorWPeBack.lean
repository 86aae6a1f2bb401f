/- PercentBack, walked. -/
import Derived.Test.YtnohkhgoejjfhaaDoorPeO
import Derived.Test.YtnohkhgoejjfhaaDoorPeH
namespace Go.Proofs.YtnohkhgoejjfhaaDoor
open Go.RowKit Go.Maps
set_option linter.unusedVariables false
set_option linter.unusedSimpArgs false

theorem bo_path (s : List UInt8) : boE rwP (escL plP s) = (s, 0) := by unfold boE; rw [rd_path]
theorem bo_name (s : List UInt8) : boE rwP (escL plB s) = (s, 0) := by unfold boE; rw [rd_name]
theorem bo_bad (t : List UInt8) (h : ¬ (boE rwP t).2 = 0) : boE rwP t = ([], 3) := by
  unfold boE at *
  cases hr : rdE rwP t with
  | none => rfl
  | some l => rw [hr] at h; exact absurd rfl h
theorem bo_len (t : List UInt8) : (boE rwP t).1.length ≤ t.length := by
  unfold boE
  cases hr : rdE rwP t with
  | none => simp
  | some l => exact (rdE_len rwP t.length t l (Nat.le_refl _) hr).1
set_option maxRecDepth 100000 in
set_option maxHeartbeats 4000000 in
theorem percentBack_walk (s t : ByteArray) (w : World) (z0 : s.size ≤ 140737488355328) (z1 : t.size ≤ 140737488355328) : Calls Tryd.prog 5 #[.string s, .string t] w fun e w' => e = .returned (.bool true) ∧ Below w.heap.size w w' := by
  have AW := hid (fun W => awake18 W)
  have B0 := hid (Below.refl w.heap.size w)
  by_cases h0 : 5000 < s.size
  · have g0 : (5000 : Int) < (s.size : Int) := by omega
    clear h0 z0 z1
    go_enter Tryd.func5, Tryd.ntmps5
    go_wp2_with fail
    refine (AW.out _).mono ?_
    rintro e w1 ⟨rfl, b1⟩
    have B1 := hid (below_on B0.out b1)
    clear b1 B0
    go_wp2
    go_ret
    exact ⟨rfl, B1.out⟩
  · have g0 : ¬ (5000 : Int) < (s.size : Int) := by omega
    by_cases h1 : 5000 < t.size
    · have g1 : (5000 : Int) < (t.size : Int) := by omega
      clear h0 h1 z0 z1
      go_enter Tryd.func5, Tryd.ntmps5
      go_wp2_with fail
      refine (AW.out _).mono ?_
      rintro e w1 ⟨rfl, b1⟩
      have B1 := hid (below_on B0.out b1)
      clear b1 B0
      go_wp2
      go_ret
      exact ⟨rfl, B1.out⟩
    · have g1 : ¬ (5000 : Int) < (t.size : Int) := by omega
      have lp := (escL_len plP s.data.toList).2
      have ln := (escL_len plB s.data.toList).2
      have ls : s.data.toList.length = s.size := by simp
      have lt : t.data.toList.length = t.size := by simp
      have PP := hid (fun W => ppath_any s W (by omega))
      have PN := hid (fun W => pname_any s W (by omega))
      have U1 : Hid (∀ W, Calls Tryd.prog 9 #[.string ⟨(escL plP s.data.toList).toArray⟩] W fun e w' => e = .returned (.tuple #[.string s, .int .i64 0]) ∧ Below W.heap.size W w') := fun W => by
        have := unpath_any ⟨(escL plP s.data.toList).toArray⟩ W (by rw [ba_size]; omega)
        rw [ba_list, bo_path, ba_id] at this
        exact this
      have U2 : Hid (∀ W, Calls Tryd.prog 9 #[.string ⟨(escL plB s.data.toList).toArray⟩] W fun e w' => e = .returned (.tuple #[.string s, .int .i64 0]) ∧ Below W.heap.size W w') := fun W => by
        have := unpath_any ⟨(escL plB s.data.toList).toArray⟩ W (by rw [ba_size]; omega)
        rw [ba_list, bo_name, ba_id] at this
        exact this
      have U3 := hid (fun W => unpath_any t W (by omega))
      have HBD := hid (bo_bad t.data.toList)
      have hl3 := bo_len t.data.toList
      have P3 := hid (fun W => ppath_any ⟨(boE rwP t.data.toList).1.toArray⟩ W (by rw [ba_size]; omega))
      rw [ba_list] at P3
      have lq := (escL_len plP (boE rwP t.data.toList).1).2
      have U4 : Hid (∀ W, Calls Tryd.prog 9 #[.string ⟨(escL plP (boE rwP t.data.toList).1).toArray⟩] W fun e w' => e = .returned (.tuple #[.string ⟨(boE rwP t.data.toList).1.toArray⟩, .int .i64 0]) ∧ Below W.heap.size W w') := fun W => by
        have := unpath_any ⟨(escL plP (boE rwP t.data.toList).1).toArray⟩ W (by rw [ba_size]; omega)
        rw [ba_list, bo_path] at this
        exact this
      generalize (⟨(escL plP s.data.toList).toArray⟩ : ByteArray) = EP at *
      generalize (⟨(escL plB s.data.toList).toArray⟩ : ByteArray) = EN at *
      generalize boE rwP t.data.toList = R at *
      obtain ⟨rs, re⟩ := R
      simp only at *
      clear h0 h1 z0 z1 lp ln ls lt hl3 lq
      by_cases he : re = 0
      · subst he
        generalize (⟨(escL plP rs).toArray⟩ : ByteArray) = E3 at *
        generalize (⟨rs.toArray⟩ : ByteArray) = RS at *
        clear HBD
        go_enter Tryd.func5, Tryd.ntmps5
        go_wp2_with fail
        refine (PP.out _).mono ?_
        rintro e w1 ⟨rfl, b1⟩
        have B1 := hid (below_on B0.out b1)
        clear b1 B0
        go_wp2_with fail
        refine (U1.out _).mono ?_
        rintro e w2 ⟨rfl, b2⟩
        have B2 := hid (below_on B1.out b2)
        clear b2 B1
        go_wp2_with fail
        refine (PN.out _).mono ?_
        rintro e w3 ⟨rfl, b3⟩
        have B3 := hid (below_on B2.out b3)
        clear b3 B2
        go_wp2_with fail
        refine (U2.out _).mono ?_
        rintro e w4 ⟨rfl, b4⟩
        have B4 := hid (below_on B3.out b4)
        clear b4 B3
        go_wp2_with fail
        refine (U3.out _).mono ?_
        rintro e w5 ⟨rfl, b5⟩
        have B5 := hid (below_on B4.out b5)
        clear b5 B4
        go_wp2_with fail
        refine (P3.out _).mono ?_
        rintro e w6 ⟨rfl, b6⟩
        have B6 := hid (below_on B5.out b6)
        clear b6 B5
        go_wp2_with fail
        refine (U4.out _).mono ?_
        rintro e w7 ⟨rfl, b7⟩
        have B7 := hid (below_on B6.out b7)
        clear b7 B6
        go_wp2_with fail
        refine (AW.out _).mono ?_
        rintro e w8 ⟨rfl, b8⟩
        have B8 := hid (below_on B7.out b8)
        clear b8 B7
        go_wp2
        go_ret
        exact ⟨rfl, B8.out⟩
      · have hb : ((re : Int) != 0) = true := by rw [bne_iff_ne]; omega
        have hr : rs = [] := by have := HBD.out he; simp at this; exact this.1
        subst hr
        clear HBD he P3 U4
        go_enter Tryd.func5, Tryd.ntmps5
        go_wp2_with fail
        refine (PP.out _).mono ?_
        rintro e w1 ⟨rfl, b1⟩
        have B1 := hid (below_on B0.out b1)
        clear b1 B0
        go_wp2_with fail
        refine (U1.out _).mono ?_
        rintro e w2 ⟨rfl, b2⟩
        have B2 := hid (below_on B1.out b2)
        clear b2 B1
        go_wp2_with fail
        refine (PN.out _).mono ?_
        rintro e w3 ⟨rfl, b3⟩
        have B3 := hid (below_on B2.out b3)
        clear b3 B2
        go_wp2_with fail
        refine (U2.out _).mono ?_
        rintro e w4 ⟨rfl, b4⟩
        have B4 := hid (below_on B3.out b4)
        clear b4 B3
        go_wp2_with fail
        refine (U3.out _).mono ?_
        rintro e w5 ⟨rfl, b5⟩
        have B5 := hid (below_on B4.out b5)
        clear b5 B4
        go_wp2_with fail
        refine (AW.out _).mono ?_
        rintro e w6 ⟨rfl, b6⟩
        have B6 := hid (below_on B5.out b6)
        clear b6 B5
        go_wp2
        go_ret
        exact ⟨rfl, B6.out⟩
end Go.Proofs.YtnohkhgoejjfhaaDoor
