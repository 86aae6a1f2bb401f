/- Joined: A reader's Text and End. A reader's End. A reader that is nil; a new reader. -/
import Derived.Test.YtnldjcoajliciaaGreatJoined06
import Derived.Deep.RegionHeld3
namespace Go.Proofs.YtnldjcoajliciaaGreat
open Go.RowKit
set_option linter.unusedVariables false

theorem cell_next' {W W' : World} {g o : Nat} {x : Value} (hB : Below W.heap.size W W') (h : W.cell? ⟨g, o, none⟩ = some x) : W'.cell? ⟨g, o, none⟩ = some x :=
  (hB.cell (p := ⟨g, o, none⟩) (World.block_lt_of_cell? W ⟨g, o, none⟩ h)).trans h
/-- what is held while a text is read -/
def HeldR (w0 : World) (g : Nat) (s : ByteArray) (a : Int) (W : World) : Prop := RdAt W g s a 0 ∧ Below w0.heap.size w0 W
theorem HeldR.next {w0 W W' : World} {g : Nat} {s : ByteArray} {a : Int} (h : W.cell? ⟨g, 0, none⟩ = some (.string s) ∧ W.cell? ⟨g, 1, none⟩ = some (.int .i64 a) ∧ HeldR w0 g s a W) (hB : Below W.heap.size W W') :
    W'.cell? ⟨g, 0, none⟩ = some (.string s) ∧ W'.cell? ⟨g, 1, none⟩ = some (.int .i64 a) ∧ HeldR w0 g s a W' :=
  ⟨cell_next' hB h.1, cell_next' hB h.2.1, h.2.2.1.keeps hB, h.2.2.2.trans (hB.mono h.2.2.2.size)⟩

end Go.Proofs.YtnldjcoajliciaaGreat
namespace Go.Proofs.YtnldjcoajliciaaGreat
open Go.RowKit
set_option linter.unusedVariables false

/-- the error behind End -/
def endE (s : ByteArray) (a e : Int) : Int := if e = 0 ∧ a < s.size then 2 else e

set_option maxRecDepth 100000 in
set_option maxHeartbeats 1600000 in
theorem rd_end (g : Nat) (s : ByteArray) (a e : Int) (w : World) (h : RdAt w g s a e) :
    Calls Tryz.prog 98 #[.pointer (some ⟨g, 0, none⟩)] w fun r w' => r = .returned (.int .i64 (endE s a e)) ∧ RdAt w' g s a (endE s a e) ∧ Only g w w' := by
  have HE := show Hid _ from fun w h => err_any g s a e w h
  have H0 := show Hid _ from h
  by_cases he : e = 0
  · subst he
    by_cases hl : a < s.size
    · have e1 : endE s a 0 = 2 := by rw [endE, if_pos ⟨rfl, hl⟩]
      rw [e1]
      have HF := show Hid _ from fun w h => rdfail_any g s a 0 2 w h
      have HE2 := show Hid _ from fun w h => err_any g s a 2 w h
      obtain ⟨c0, c1, c2, f1, f2⟩ := h
      go_enter Tryz.func98, Tryz.ntmps98
      go_wp2_with fail
      go_quiet ((go_at_call 114; exact Calls.quiet_of_same (HE.out _ (RdAt.keeps H0.out (by first | exact Below.refl _ _ | exact (Below.refl _ _).drew | exact below_drewN (Below.refl _ _) _)))))
      go_wp2_with fail
      refine (HF.out _ (RdAt.keeps H0.out (below_drewN (Below.refl _ _) _))).mono ?_
      rintro e w5 ⟨rfl, hR2, hB2⟩
      have HR2 := show Hid _ from hR2
      clear hR2
      go_wp2_with fail
      refine (HE2.out _ HR2.out).mono ?_
      rintro e w6 ⟨rfl, rfl⟩
      go_wp2
      go_ret
      exact ⟨rfl, HR2.out, ((below_drewN (Below.refl _ _) nq).only g).trans hB2⟩
    · have e1 : endE s a 0 = 0 := by rw [endE, if_neg (fun x => hl x.2)]
      rw [e1]
      have hl' : decide (a < (s.size : Int)) = false := by simpa using hl
      clear hl
      obtain ⟨c0, c1, c2, f1, f2⟩ := h
      go_enter Tryz.func98, Tryz.ntmps98
      go_wp2_with fail
      go_quiet ((go_at_call 114; exact Calls.quiet_of_same (HE.out _ (RdAt.keeps H0.out (by first | exact Below.refl _ _ | exact (Below.refl _ _).drew | exact below_drewN (Below.refl _ _) _)))))
      go_wp2_with fail
      refine (HE.out _ (RdAt.keeps H0.out (below_drewN (Below.refl _ _) _))).mono ?_
      rintro e w6 ⟨rfl, rfl⟩
      go_wp2
      go_ret
      exact ⟨rfl, RdAt.keeps H0.out (below_drewN (Below.refl _ _) _), (below_drewN (Below.refl _ _) _).only g⟩
  · have e1 : endE s a e = e := by rw [endE, if_neg (fun x => he x.1)]
    rw [e1]
    have he' : (e == 0) = false := by rw [beq_eq_false_iff_ne]; exact he
    clear he
    obtain ⟨c0, c1, c2, f1, f2⟩ := h
    go_enter Tryz.func98, Tryz.ntmps98
    go_wp2_with fail
    go_quiet ((go_at_call 114; exact Calls.quiet_of_same (HE.out _ (RdAt.keeps H0.out (by first | exact Below.refl _ _ | exact (Below.refl _ _).drew | exact below_drewN (Below.refl _ _) _)))))
    go_wp2_with fail
    refine (HE.out _ (RdAt.keeps H0.out (below_drewN (Below.refl _ _) _))).mono ?_
    rintro e w6 ⟨rfl, rfl⟩
    go_wp2
    go_ret
    exact ⟨rfl, RdAt.keeps H0.out (below_drewN (Below.refl _ _) _), (below_drewN (Below.refl _ _) _).only g⟩
end Go.Proofs.YtnldjcoajliciaaGreat
namespace Go.Proofs.YtnldjcoajliciaaGreat
open Go.RowKit
set_option linter.unusedVariables false

set_option maxRecDepth 100000 in
theorem new_reader (s : ByteArray) (w : World) : Calls Tryz.prog 95 #[.string s] w fun r w' => r = .returned (.pointer (some ⟨w.heap.size, 0, none⟩)) ∧ RdAt w' w.heap.size s 0 0 ∧ Below w.heap.size w w' := by
  go_enter Tryz.func95, Tryz.ntmps95
  go_wp2
  go_ret
  refine ⟨rfl, ?_, (Below.refl _ _).alloc (Nat.le_refl _) _⟩
  refine ⟨by simp, by simp, by simp, by simp, by simp⟩
end Go.Proofs.YtnldjcoajliciaaGreat
