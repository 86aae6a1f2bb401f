/- Which kept tokens may be: both sides; strings.Compare. -/
import Derived.Test.YtojiahdbgdgdcaaTkM
import Derived.Lib.Bytealg
import Derived.Lib.AppendZeros
namespace Go.Proofs.Ytojiahdbgdgdcaa
open Go.RowKit Go.Maps
set_option linter.unusedVariables false
set_option linter.unusedSimpArgs false

set_option maxRecDepth 100000 in
set_option maxHeartbeats 1000000 in
theorem cmpS_any (a b : ByteArray) (w : World) : Calls Try.prog 65 #[.string a, .string b] w fun e w' => e = .returned (.int .i64 (Lib.compareBytes a.data.toList b.data.toList)) ∧ w' = w := by
  go_enter Try.func65, Try.ntmps65
  go_wp2
  rw [run_callFunc_extern Try.func72 (by kernel_rfl) (by kernel_rfl) (by kernel_rfl) (e := Extern.BytealgCompare.compare) (by kernel_rfl), Lib.run_compareString]
  simp only [Result.andThen]
  rw [Oper.upon_value]
  go_wp2
  go_ret
  exact ⟨rfl, rfl⟩
set_option maxRecDepth 100000 in
theorem compare_any (a b : ByteArray) (w : World) : Calls Try.prog 47 #[.string a, .string b] w fun e w' => e = .returned (.int .i64 (Lib.compareBytes a.data.toList b.data.toList)) ∧ w' = w := by
  have H := hid (cmpS_any a b w)
  generalize Lib.compareBytes _ _ = R at *
  go_enter Try.func47, Try.ntmps47
  go_wp2_with fail
  refine H.out.mono ?_
  rintro e w1 ⟨rfl, rfl⟩
  go_wp2
  go_ret
  exact ⟨rfl, rfl⟩
set_option maxRecDepth 100000 in
set_option maxHeartbeats 1000000 in
theorem place1_any (h : Hd) (t : ByteArray) (w : World) : Calls Try.prog 46 #[hdV h, .string t] w fun e w' => e = .returned (.int .i64 (Lib.compareBytes h.tk.data.toList t.data.toList)) ∧ Below w.heap.size w w' := by
  have HC := hid (fun W => compare_any h.tk t W)
  have HB : Hid (∀ X, Below w.heap.size w (w.alloc X)) := fun X => below_al (Below.refl _ _) _
  unfold hdV
  generalize Lib.compareBytes _ _ = R at *
  obtain ⟨tk, su, ou, at_⟩ := h
  simp only at *
  go_enter Try.func46, Try.ntmps46
  go_wp2_with fail
  refine (HC.out _).mono ?_
  rintro e w1 ⟨rfl, rfl⟩
  go_wp2
  go_ret
  exact ⟨rfl, HB.out _⟩
set_option maxRecDepth 100000 in
set_option maxHeartbeats 2000000 in
theorem mayBe_any (h : Hd) (w : World) : Calls Try.prog 26 #[hdV h] w fun e w' => e = .returned (.bool (hdOk h)) ∧ Below w.heap.size w w' := by
  have BM := hid (Bx.made (Below.refl w.heap.size w) [.string h.tk, .string h.su, .string h.ou, .int .i64 h.at_] 31)
  have TK := hid (fun W => ptoken_any h.tk W)
  have DG := hid (fun W => isDigest_any h.su W)
  have HX : Hid (hdOk h = (tokOk h.tk.data.toList && isDg h.su && decide (h.ou.size ≤ 4096) && decide (1 ≤ h.at_) && decide (h.at_ ≤ 1099511627776))) := rfl
  unfold hdV
  generalize hdOk h = R at *
  generalize tokOk _ = TB at *
  generalize isDg h.su = DB at *
  obtain ⟨tk, su, ou, at_⟩ := h
  simp only at *
  have y0 := BM.out.row.cellAt (o := 0) rfl
  go_enter Try.func26, Try.ntmps26
  go_wp2_with fail
  refine (TK.out _).mono ?_
  rintro e w1 ⟨rfl, rfl⟩
  cases TB
  · have hr : R = false := HX.out
    subst hr
    clear HX DG TK y0
    go_wp2
    go_ret
    exact ⟨rfl, BM.out.b⟩
  have y1 := BM.out.row.cellAt (o := 1) rfl
  go_wp2_with fail
  refine (DG.out _).mono ?_
  rintro e w2 ⟨rfl, b2⟩
  have B2 := hid (BM.out.next b2)
  clear DG TK BM y0 y1 b2
  cases DB
  · have hr : R = false := HX.out
    subst hr
    clear HX
    go_wp2
    go_ret
    exact ⟨rfl, B2.out.b⟩
  have y2 := B2.out.row.cellAt (o := 2) rfl
  by_cases ho : ou.size ≤ 4096
  case neg =>
    have g1 : decide (ou.size ≤ 4096) = false := decide_eq_false ho
    have g2 : decide ((ou.size : Int) ≤ 4096) = false := decide_eq_false (by omega)
    have hr : R = false := by rw [HX.out, g1]; rfl
    subst hr
    clear HX ho
    go_wp2
    go_ret
    exact ⟨rfl, B2.out.b⟩
  have g1 : decide (ou.size ≤ 4096) = true := decide_eq_true ho
  have g2 : decide ((ou.size : Int) ≤ 4096) = true := decide_eq_true (by omega)
  have y3 := B2.out.row.cellAt (o := 3) rfl
  by_cases h1 : 1 ≤ at_
  case neg =>
    have g3 : decide (1 ≤ at_) = false := decide_eq_false h1
    have hr : R = false := by rw [HX.out, g1, g3]; rfl
    subst hr
    clear HX ho h1
    go_wp2
    go_ret
    exact ⟨rfl, B2.out.b⟩
  have g3 : decide (1 ≤ at_) = true := decide_eq_true h1
  have hr : R = decide (at_ ≤ 1099511627776) := by rw [HX.out, g1, g3]; rfl
  subst hr
  clear HX ho h1
  go_wp2
  go_ret
  exact ⟨rfl, B2.out.b⟩
set_option maxRecDepth 100000 in
set_option maxHeartbeats 2000000 in
theorem one15_any (h : Hd) (w : World) (ht : h.tk.size ≤ 140737488355328) (hs : h.su.size ≤ 140737488355328) : Calls Try.prog 29 #[hdV h] w fun e w' => e = .returned (.bool (hdOk h)) ∧ Below w.heap.size w w' := by
  have BM := hid (Bx.made (Below.refl w.heap.size w) [.string h.tk, .string h.su, .string h.ou, .int .i64 h.at_] 37)
  have TK := hid (fun W => rtoken_any h.tk W ht)
  have DG := hid (fun W => rmay6_any h.su W hs)
  have HX : Hid (hdOk h = (tokOk h.tk.data.toList && isDg h.su && decide (h.ou.size ≤ 4096) && decide (1 ≤ h.at_) && decide (h.at_ ≤ 1099511627776))) := rfl
  unfold hdV
  generalize hdOk h = R at *
  generalize tokOk _ = TB at *
  generalize isDg h.su = DB at *
  obtain ⟨tk, su, ou, at_⟩ := h
  simp only at *
  have y0 := BM.out.row.cellAt (o := 0) rfl
  go_enter Try.func29, Try.ntmps29
  go_wp2_with fail
  refine (TK.out _).mono ?_
  rintro e w1 ⟨rfl, rfl⟩
  cases TB
  · have hr : R = false := HX.out
    subst hr
    clear HX DG TK y0
    go_wp2
    go_ret
    exact ⟨rfl, BM.out.b⟩
  have y1 := BM.out.row.cellAt (o := 1) rfl
  go_wp2_with fail
  refine (DG.out _).mono ?_
  rintro e w2 ⟨rfl, b2⟩
  have B2 := hid (BM.out.next b2)
  clear DG TK BM y0 y1 b2
  cases DB
  · have hr : R = false := HX.out
    subst hr
    clear HX
    go_wp2
    go_ret
    exact ⟨rfl, B2.out.b⟩
  have y2 := B2.out.row.cellAt (o := 2) rfl
  by_cases ho : ou.size ≤ 4096
  case neg =>
    have g1 : decide (ou.size ≤ 4096) = false := decide_eq_false ho
    have g2 : decide ((ou.size : Int) ≤ 4096) = false := decide_eq_false (by omega)
    have hr : R = false := by rw [HX.out, g1]; rfl
    subst hr
    clear HX ho
    go_wp2
    go_ret
    exact ⟨rfl, B2.out.b⟩
  have g1 : decide (ou.size ≤ 4096) = true := decide_eq_true ho
  have g2 : decide ((ou.size : Int) ≤ 4096) = true := decide_eq_true (by omega)
  have y3 := B2.out.row.cellAt (o := 3) rfl
  by_cases h1 : 1 ≤ at_
  case neg =>
    have g3 : decide (1 ≤ at_) = false := decide_eq_false h1
    have hr : R = false := by rw [HX.out, g1, g3]; rfl
    subst hr
    clear HX ho h1
    go_wp2
    go_ret
    exact ⟨rfl, B2.out.b⟩
  have g3 : decide (1 ≤ at_) = true := decide_eq_true h1
  have hr : R = decide (at_ ≤ 1099511627776) := by rw [HX.out, g1, g3]; rfl
  subst hr
  clear HX ho h1
  go_wp2
  go_ret
  exact ⟨rfl, B2.out.b⟩
end Go.Proofs.Ytojiahdbgdgdcaa
