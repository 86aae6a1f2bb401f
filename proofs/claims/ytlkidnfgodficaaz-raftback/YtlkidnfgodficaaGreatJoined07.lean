/- Joined: A reader's Text and End. A reader's End. A reader that is nil; a new reader. -/
import Derived.Test.YtlkidnfgodficaaGreatJoined06
import Derived.Deep.RegionHeld3
namespace Go.Proofs.YtlkidnfgodficaaGreat
open Go.RowKit
set_option linter.unusedVariables false

/-- a reader behind a taking of a text -/
structure StT where
  a : Int
  e : Int
  x : ByteArray
def tS (s : ByteArray) (a e m : Int) : StT :=
  if e = 0 then if (txtAt s a).e = 0 then if ((txtAt s a).x.size : Int) ≤ m then ⟨(txtAt s a).to, 0, (txtAt s a).x⟩ else ⟨a, 2, ⟨#[]⟩⟩ else ⟨a, (txtAt s a).e, ⟨#[]⟩⟩ else ⟨a, e, ⟨#[]⟩⟩

theorem cell_next' {W W' : World} {g o : Nat} {x : Value} (hB : Below W.heap.size W W') (h : W.cell? ⟨g, o, none⟩ = some x) : W'.cell? ⟨g, o, none⟩ = some x :=
  (hB.cell (p := ⟨g, o, none⟩) (World.block_lt_of_cell? W ⟨g, o, none⟩ h)).trans h
/-- what is held while a text is read -/
def HeldR (w0 : World) (g : Nat) (s : ByteArray) (a : Int) (W : World) : Prop := RdAt W g s a 0 ∧ Below w0.heap.size w0 W
theorem HeldR.next {w0 W W' : World} {g : Nat} {s : ByteArray} {a : Int} (h : W.cell? ⟨g, 0, none⟩ = some (.string s) ∧ W.cell? ⟨g, 1, none⟩ = some (.int .i64 a) ∧ HeldR w0 g s a W) (hB : Below W.heap.size W W') :
    W'.cell? ⟨g, 0, none⟩ = some (.string s) ∧ W'.cell? ⟨g, 1, none⟩ = some (.int .i64 a) ∧ HeldR w0 g s a W' :=
  ⟨cell_next' hB h.1, cell_next' hB h.2.1, h.2.2.1.keeps hB, h.2.2.2.trans (hB.mono h.2.2.2.size)⟩

set_option maxRecDepth 100000 in
set_option maxHeartbeats 800000 in
theorem rd_text_err (g : Nat) (s : ByteArray) (a e m : Int) (w : World) (h : RdAt w g s a e) (he : e ≠ 0) :
    Calls Tryz.prog 42 #[.pointer (some ⟨g, 0, none⟩), .int .i64 m] w fun r w' => r = .returned (.string ⟨#[]⟩) ∧ w' = w := by
  have HE := show Hid _ from fun (_ : Unit) => err_any g s a e w h
  have hb : (e != 0) = true := by rw [bne_iff_ne]; exact he
  clear h he
  go_enter Tryz.func42, Tryz.ntmps42
  go_wp2_with fail
  refine (HE.out ()).mono ?_
  rintro e w' ⟨rfl, rfl⟩
  go_wp2
  go_ret
  exact ⟨rfl, rfl⟩

set_option maxRecDepth 100000 in
set_option maxHeartbeats 1600000 in
theorem rd_text_bad (g : Nat) (s : ByteArray) (a m : Int) (w : World) (h : RdAt w g s a 0) (hs : s.size ≤ 140737488355328) (he : (txtAt s a).e ≠ 0) :
    Calls Tryz.prog 42 #[.pointer (some ⟨g, 0, none⟩), .int .i64 m] w fun r w' => r = .returned (.string ⟨#[]⟩) ∧ RdAt w' g s a (txtAt s a).e ∧ Only g w w' := by
  have HE := show Hid _ from fun (_ : Unit) => err_any g s a 0 w h
  have HR := show Hid _ from fun w => readText_any s a w hs
  have hb : (((txtAt s a).e : Int) != 0) = true := by rw [bne_iff_ne]; omega
  have hb2 : (((txtAt s a).e : Int) == 0) = false := by rw [beq_eq_false_iff_ne]; omega
  have HF := show Hid _ from fun w h => rdfail_any g s a 0 (txtAt s a).e w h
  have hlt := rd_lt h
  generalize (txtAt s a).x = x at HR
  generalize (txtAt s a).to = t at HR
  generalize (txtAt s a).e = er at HR hb hb2 HF he
  clear he
  have hS0 : w.drew.cell? ⟨g, 0, none⟩ = some (.string s) ∧ w.drew.cell? ⟨g, 1, none⟩ = some (.int .i64 a) ∧ HeldR w g s a w.drew := ⟨h.1, h.2.1, h, (Below.refl _ _).drew⟩
  clear h
  go_enter Tryz.func42, Tryz.ntmps42
  go_wp2_with fail
  refine (HE.out ()).mono ?_
  rintro e w' ⟨rfl, rfl⟩
  go_wp2_with fail
  go_region_held3 (fun W => W.cell? ⟨g, 0, none⟩ = some (.string s) ∧ W.cell? ⟨g, 1, none⟩ = some (.int .i64 a) ∧ HeldR w' g s a W) (assumption) (first
    | (go_at_call 93; refine (HR.out _).mono ?_; rintro e w4 ⟨rfl, hB4⟩; have hS4 := HeldR.next (g := g) (s := s) (a := a) (w0 := w') (by assumption) hB4; clear hB4))
  have HS4 := show Hid _ from hS4
  clear hS0 hS4
  go_wp2_with fail
  refine (HF.out _ HS4.out.2.2.1).mono ?_
  rintro e w5 ⟨rfl, hR2, hB2⟩
  have HR2 := show Hid _ from hR2
  clear hR2
  go_wp2
  go_ret
  exact ⟨rfl, HR2.out, (HS4.out.2.2.2.only g).trans hB2⟩

set_option maxRecDepth 100000 in
set_option maxHeartbeats 1600000 in
theorem rd_text_ok (g : Nat) (s : ByteArray) (a m : Int) (w : World) (h : RdAt w g s a 0) (hs : s.size ≤ 140737488355328) (he : (txtAt s a).e = 0) (hm : ((txtAt s a).x.size : Int) ≤ m) :
    Calls Tryz.prog 42 #[.pointer (some ⟨g, 0, none⟩), .int .i64 m] w fun r w' => r = .returned (.string (txtAt s a).x) ∧ RdAt w' g s (txtAt s a).to 0 ∧ Only g w w' := by
  have HE := show Hid _ from fun (_ : Unit) => err_any g s a 0 w h
  have HR := show Hid _ from fun w => readText_any s a w hs
  rw [he] at HR
  have hlt := rd_lt h
  generalize (txtAt s a).x = x at HR hm ⊢
  generalize (txtAt s a).to = t at HR ⊢
  have hS0 : w.drew.cell? ⟨g, 0, none⟩ = some (.string s) ∧ w.drew.cell? ⟨g, 1, none⟩ = some (.int .i64 a) ∧ HeldR w g s a w.drew := ⟨h.1, h.2.1, h, (Below.refl _ _).drew⟩
  clear h he
  go_enter Tryz.func42, Tryz.ntmps42
  go_wp2_with fail
  refine (HE.out ()).mono ?_
  rintro e w' ⟨rfl, rfl⟩
  go_wp2_with fail
  go_region_held3 (fun W => W.cell? ⟨g, 0, none⟩ = some (.string s) ∧ W.cell? ⟨g, 1, none⟩ = some (.int .i64 a) ∧ HeldR w' g s a W) (assumption) (first
    | (go_at_call 93; refine (HR.out _).mono ?_; rintro e w4 ⟨rfl, hB4⟩; have hS4 := HeldR.next (g := g) (s := s) (a := a) (w0 := w') (by assumption) hB4; clear hB4))
  have HS4 := show Hid _ from hS4
  obtain ⟨c0, c1, c2, f1, f2⟩ := hS4.2.2.1
  clear hS0 hS4
  go_wp2
  go_ret
  exact ⟨rfl, HS4.out.2.2.1.place t, (HS4.out.2.2.2.only g).setCell 1 _⟩

set_option maxRecDepth 100000 in
set_option maxHeartbeats 1600000 in
theorem rd_text_long (g : Nat) (s : ByteArray) (a m : Int) (w : World) (h : RdAt w g s a 0) (hs : s.size ≤ 140737488355328) (he : (txtAt s a).e = 0) (hm : ¬ ((txtAt s a).x.size : Int) ≤ m) :
    Calls Tryz.prog 42 #[.pointer (some ⟨g, 0, none⟩), .int .i64 m] w fun r w' => r = .returned (.string ⟨#[]⟩) ∧ RdAt w' g s a 2 ∧ Only g w w' := by
  have HE := show Hid _ from fun (_ : Unit) => err_any g s a 0 w h
  have HR := show Hid _ from fun w => readText_any s a w hs
  rw [he] at HR
  have HF := show Hid _ from fun w h => rdfail_any g s a 0 2 w h
  have hlt := rd_lt h
  generalize (txtAt s a).x = x at HR hm
  generalize (txtAt s a).to = t at HR
  have hm' : m < (x.size : Int) := by omega
  have hS0 : w.drew.cell? ⟨g, 0, none⟩ = some (.string s) ∧ w.drew.cell? ⟨g, 1, none⟩ = some (.int .i64 a) ∧ HeldR w g s a w.drew := ⟨h.1, h.2.1, h, (Below.refl _ _).drew⟩
  clear h he hm
  go_enter Tryz.func42, Tryz.ntmps42
  go_wp2_with fail
  refine (HE.out ()).mono ?_
  rintro e w' ⟨rfl, rfl⟩
  go_wp2_with fail
  go_region_held3 (fun W => W.cell? ⟨g, 0, none⟩ = some (.string s) ∧ W.cell? ⟨g, 1, none⟩ = some (.int .i64 a) ∧ HeldR w' g s a W) (assumption) (first
    | (go_at_call 93; refine (HR.out _).mono ?_; rintro e w4 ⟨rfl, hB4⟩; have hS4 := HeldR.next (g := g) (s := s) (a := a) (w0 := w') (by assumption) hB4; clear hB4))
  have HS4 := show Hid _ from hS4
  clear hS0 hS4
  go_wp2_with fail
  refine (HF.out _ HS4.out.2.2.1).mono ?_
  rintro e w5 ⟨rfl, hR2, hB2⟩
  have HR2 := show Hid _ from hR2
  clear hR2
  go_wp2
  go_ret
  exact ⟨rfl, HR2.out, (HS4.out.2.2.2.only g).trans hB2⟩

theorem rd_text (g : Nat) (s : ByteArray) (a e m : Int) (w : World) (h : RdAt w g s a e) (hs : s.size ≤ 140737488355328) :
    Calls Tryz.prog 42 #[.pointer (some ⟨g, 0, none⟩), .int .i64 m] w fun r w' => r = .returned (.string (tS s a e m).x) ∧ RdAt w' g s (tS s a e m).a (tS s a e m).e ∧ Only g w w' := by
  unfold tS
  by_cases he : e = 0
  · subst he
    rw [if_pos rfl]
    by_cases hr : (txtAt s a).e = 0
    · rw [if_pos hr]
      by_cases hm : ((txtAt s a).x.size : Int) ≤ m
      · rw [if_pos hm]; exact rd_text_ok g s a m w h hs hr hm
      · rw [if_neg hm]; exact rd_text_long g s a m w h hs hr hm
    · rw [if_neg hr]; exact rd_text_bad g s a m w h hs hr
  · rw [if_neg he]
    exact (rd_text_err g s a e m w h he).mono fun r w' ⟨h1, h2⟩ => by subst h2; exact ⟨h1, h, Only.refl _ _⟩

end Go.Proofs.YtlkidnfgodficaaGreat
namespace Go.Proofs.YtlkidnfgodficaaGreat
open Go.RowKit
set_option linter.unusedVariables false

/-- the error behind End -/
def endE (s : ByteArray) (a e : Int) : Int := if e = 0 ∧ a < s.size then 2 else e

set_option maxRecDepth 100000 in
set_option maxHeartbeats 1600000 in
theorem rd_end (g : Nat) (s : ByteArray) (a e : Int) (w : World) (h : RdAt w g s a e) :
    Calls Tryz.prog 43 #[.pointer (some ⟨g, 0, none⟩)] w fun r w' => r = .returned (.int .i64 (endE s a e)) ∧ RdAt w' g s a (endE s a e) ∧ Only g w w' := by
  have HE := show Hid _ from fun w h => err_any g s a e w h
  have H0 := show Hid _ from h
  by_cases he : e = 0
  · subst he
    by_cases hl : a < s.size
    · have e1 : endE s a 0 = 2 := by rw [endE, if_pos ⟨rfl, hl⟩]
      rw [e1]
      have HF := show Hid _ from fun w h => rdfail_any g s a 0 2 w h
      have HE2 := show Hid _ from fun w h => err_any g s a 2 w h
      obtain ⟨c0, c1, c2, f1, f2⟩ := h
      go_enter Tryz.func43, Tryz.ntmps43
      go_wp2_with fail
      go_quiet ((go_at_call 92; exact Calls.quiet_of_same (HE.out _ (RdAt.keeps H0.out (by first | exact Below.refl _ _ | exact (Below.refl _ _).drew | exact below_drewN (Below.refl _ _) _)))))
      go_wp2_with fail
      refine (HF.out _ (RdAt.keeps H0.out (below_drewN (Below.refl _ _) _))).mono ?_
      rintro e w5 ⟨rfl, hR2, hB2⟩
      have HR2 := show Hid _ from hR2
      clear hR2
      go_wp2_with fail
      refine (HE2.out _ HR2.out).mono ?_
      rintro e w6 ⟨rfl, rfl⟩
      go_wp2
      go_ret
      exact ⟨rfl, HR2.out, ((below_drewN (Below.refl _ _) nq).only g).trans hB2⟩
    · have e1 : endE s a 0 = 0 := by rw [endE, if_neg (fun x => hl x.2)]
      rw [e1]
      have hl' : decide (a < (s.size : Int)) = false := by simpa using hl
      clear hl
      obtain ⟨c0, c1, c2, f1, f2⟩ := h
      go_enter Tryz.func43, Tryz.ntmps43
      go_wp2_with fail
      go_quiet ((go_at_call 92; exact Calls.quiet_of_same (HE.out _ (RdAt.keeps H0.out (by first | exact Below.refl _ _ | exact (Below.refl _ _).drew | exact below_drewN (Below.refl _ _) _)))))
      go_wp2_with fail
      refine (HE.out _ (RdAt.keeps H0.out (below_drewN (Below.refl _ _) _))).mono ?_
      rintro e w6 ⟨rfl, rfl⟩
      go_wp2
      go_ret
      exact ⟨rfl, RdAt.keeps H0.out (below_drewN (Below.refl _ _) _), (below_drewN (Below.refl _ _) _).only g⟩
  · have e1 : endE s a e = e := by rw [endE, if_neg (fun x => he x.1)]
    rw [e1]
    have he' : (e == 0) = false := by rw [beq_eq_false_iff_ne]; exact he
    clear he
    obtain ⟨c0, c1, c2, f1, f2⟩ := h
    go_enter Tryz.func43, Tryz.ntmps43
    go_wp2_with fail
    go_quiet ((go_at_call 92; exact Calls.quiet_of_same (HE.out _ (RdAt.keeps H0.out (by first | exact Below.refl _ _ | exact (Below.refl _ _).drew | exact below_drewN (Below.refl _ _) _)))))
    go_wp2_with fail
    refine (HE.out _ (RdAt.keeps H0.out (below_drewN (Below.refl _ _) _))).mono ?_
    rintro e w6 ⟨rfl, rfl⟩
    go_wp2
    go_ret
    exact ⟨rfl, RdAt.keeps H0.out (below_drewN (Below.refl _ _) _), (below_drewN (Below.refl _ _) _).only g⟩
end Go.Proofs.YtlkidnfgodficaaGreat
namespace Go.Proofs.YtlkidnfgodficaaGreat
open Go.RowKit
set_option linter.unusedVariables false

set_option maxRecDepth 100000 in
theorem new_reader (s : ByteArray) (w : World) : Calls Tryz.prog 38 #[.string s] w fun r w' => r = .returned (.pointer (some ⟨w.heap.size, 0, none⟩)) ∧ RdAt w' w.heap.size s 0 0 ∧ Below w.heap.size w w' := by
  go_enter Tryz.func38, Tryz.ntmps38
  go_wp2
  go_ret
  refine ⟨rfl, ?_, (Below.refl _ _).alloc (Nat.le_refl _) _⟩
  refine ⟨by simp, by simp, by simp, by simp, by simp⟩
end Go.Proofs.YtlkidnfgodficaaGreat
