/- Take and Drop. -/
import Derived.Test.YtfcchmjofejkhaaNetP
namespace Go.Proofs.Ytfcchmjofejkhaa
open Go.RowKit Go.Maps
set_option linter.unusedVariables false
set_option linter.unusedSimpArgs false

theorem NLeft.over {w w1 w2 w3 : World} {P P1 : Nat → Prop} {p r : Nat} {n : Net} (h1 : NLeft w1 P1 p n w2) (k : Keep (· = r) w2 w3) (hr : r < w1.heap.size) (hP : ¬ P1 r) (hw : Keep P w w1) (hsub : ∀ j, j < w.heap.size → P1 j → P j) (hrw : w.heap.size ≤ r) : NLeft w P p n w3 := by
  obtain ⟨P2, g1, g2, g3⟩ := h1
  refine ⟨_, g1.keep k (fun j hj e hp => ?_), fun j hj hh => hsub j hj (g2 j (Nat.lt_of_lt_of_le hj hw.size) hh.1), (hw.then g3 hsub).then k (fun j hj e => by omega)⟩
  subst e
  exact hP (g2 _ hr hp)
set_option maxRecDepth 100000 in
theorem take_none (pv : Value) (i : Int) (w : World) (h : ∀ W, Keep (fun _ => False) w W → Calls Try.prog 34 #[pv, .int .i64 i] W fun e w' => e = .returned (.bool false) ∧ w' = W) : Calls Try.prog 16 #[pv, .int .i64 i] w fun e w' => e = .returned (.tuple #[pkV pk0, .bool false]) ∧ Keep (fun _ => False) w w' := by
  have HH := hid h
  clear h
  go_enter Try.func16, Try.ntmps16
  go_wp2_with fail
  refine (HH.out _ (keep_alloc _ _ _)).mono ?_
  rintro e w1 ⟨rfl, rfl⟩
  have rr : RowIs (w.alloc (.cells #[.int .i64 0, .int .i64 0, .string ⟨#[]⟩] 33)) w.heap.size [.int .i64 0, .int .i64 0, .string ⟨#[]⟩] 33 := heap_alloc_new _ _
  have HS := hid rr
  clear HH rr
  go_wp2
  refine bodyPost_ret (v := .tuple #[.agg #[.int .i64 0, .int .i64 0, .string ⟨#[]⟩], .bool false]) (npk_cell_tmp (p := 4) (u := 5) rfl _ _ w.heap.size _ _ rfl rfl (run_loadVar_row _ _ _ _ _ _ _ HS.out Try.underlying33 rfl (by kernel_rfl))) rfl ⟨rfl, ?_⟩
  exact keep_alloc _ _ _
set_option maxRecDepth 100000 in
set_option maxHeartbeats 1000000 in
theorem take_some (p : Nat) (P : Nat → Prop) (n : Net) (k : Nat) (hk : k < n.L.length) (hta : n.ta ≤ 1152921504606846976) (w : World) (h : NetIs w P p n) :
    Calls Try.prog 16 #[.pointer (some ⟨p, 0, none⟩), .int .i64 (k : Int)] w fun e w' => e = .returned (.tuple #[pkV n.L[k], .bool true]) ∧ NLeft w P p { n with L := outL n.L k, ta := n.ta + 1 } w' := by
  have HH : Hid (∀ W, Keep (fun _ => False) w W → Calls Try.prog 34 #[.pointer (some ⟨p, 0, none⟩), .int .i64 (k : Int)] W fun e w' => e = .returned (.bool true) ∧ w' = W) := fun W hW => by
    have h1 := nhas_any p _ n k W (h.keep hW (fun _ _ h => h.elim))
    rwa [show hasI n.L.length (k : Int) = true by simp [hasI]; omega] at h1
  have hp := h.lt
  have hw1 : wrap64 ((n.ta : Int) + 1) = (n.ta : Int) + 1 := IntWalk.wrap64_in _ (by omega)
  obtain ⟨c50, c51, c52, fz⟩ := h.cells0
  have f51 := fz 51
  obtain ⟨P2, h2, hsub, hk2⟩ := h.ta
  have esz : (w.setCell ⟨p, 51, none⟩ (.int .i64 ((n.ta : Int) + 1))).heap.size = w.heap.size := by simp [World.setCell]
  have h3 := h2.keep (keep_alloc (fun _ => False) _ (.cells #[.int .i64 0, .int .i64 0, .string ⟨#[]⟩] 33)) (fun _ _ h => h.elim)
  have PU := hid (pull_any p _ _ k (show k < ({ n with ta := n.ta + 1 } : Net).L.length from hk) _ h3)
  have rz : RowIs ((w.setCell ⟨p, 51, none⟩ (.int .i64 ((n.ta : Int) + 1))).alloc (.cells #[.int .i64 0, .int .i64 0, .string ⟨#[]⟩] 33)) w.heap.size [.int .i64 0, .int .i64 0, .string ⟨#[]⟩] 33 := by rw [← esz]; exact heap_alloc_new _ _
  have hkk : Keep P w ((w.setCell ⟨p, 51, none⟩ (.int .i64 ((n.ta : Int) + 1))).alloc (.cells #[.int .i64 0, .int .i64 0, .string ⟨#[]⟩] 33)) := hk2.trans (keep_alloc _ _ _)
  rw [esz] at PU
  have HS := hid hsub
  have HKK := hid hkk
  have HRZ := hid rz
  clear h h2 h3 hk2 hsub esz fz hkk rz c50 c52
  simp only at *
  generalize n.L[k] = x at *
  obtain ⟨fr, tt, s⟩ := x
  unfold pkV at *
  simp only at *
  go_enter Try.func16, Try.ntmps16
  go_wp2_with fail
  refine (HH.out _ (keep_alloc _ _ _)).mono ?_
  rintro e w1 ⟨rfl, rfl⟩
  clear HH
  go_wp2_with fail
  refine PU.out.mono ?_
  rintro e w2 ⟨rfl, hN⟩
  have hrlt := HRZ.out.lt
  have rz2 : RowIs w2 w.heap.size [.int .i64 0, .int .i64 0, .string ⟨#[]⟩] 33 := by
    obtain ⟨P3, _, _, g3⟩ := hN
    exact HRZ.out.keep g3 (fun e => by have := e.2; omega)
  have HT := hid (three (v0 := .int .i64 fr) (v1 := .int .i64 tt) (v2 := .string s) rz2)
  have HN := hid hN
  have z0 := rz2.cellAt (o := 0) rfl
  have z1 := rz2.cellAt (o := 1) rfl
  have z2 := rz2.cellAt (o := 2) rfl
  have g0 := rz2.frozen (o := 0)
  have g1 := rz2.frozen (o := 1)
  have g2 := rz2.frozen (o := 2)
  have HRL := hid hrlt
  clear hN rz2 PU HRZ hrlt c51 f51
  go_wp2
  refine bodyPost_ret (v := .tuple #[.agg #[.int .i64 fr, .int .i64 tt, .string s], .bool true]) (npk_cell_tmp (p := 4) (u := 5) rfl _ _ w.heap.size _ _ rfl rfl (run_loadVar_row _ _ _ _ _ _ _ HT.out.1 Try.underlying33 rfl (by kernel_rfl))) rfl ⟨rfl, ?_⟩
  exact HN.out.over HT.out.2 HRL.out (fun e => by have := e.2; omega) HKK.out (fun j hj e => HS.out j hj e.1) (Nat.le_refl _)
set_option maxRecDepth 100000 in
theorem ndrop_none (pv : Value) (i : Int) (w : World) (h : ∀ W, W = w → Calls Try.prog 34 #[pv, .int .i64 i] W fun e w' => e = .returned (.bool false) ∧ w' = W) : Calls Try.prog 22 #[pv, .int .i64 i] w fun e w' => e = .returned (.bool false) ∧ w' = w := by
  have HH := hid h
  clear h
  go_enter Try.func22, Try.ntmps22
  go_wp2_with fail
  refine (HH.out _ rfl).mono ?_
  rintro e w1 ⟨rfl, rfl⟩
  go_wp2
  go_ret
  exact ⟨rfl, rfl⟩
set_option maxRecDepth 100000 in
set_option maxHeartbeats 1000000 in
theorem ndrop_some (p : Nat) (P : Nat → Prop) (n : Net) (k : Nat) (hk : k < n.L.length) (hlo : n.lo ≤ 1152921504606846976) (w : World) (h : NetIs w P p n) :
    Calls Try.prog 22 #[.pointer (some ⟨p, 0, none⟩), .int .i64 (k : Int)] w fun e w' => e = .returned (.bool true) ∧ NLeft w P p { n with L := outL n.L k, lo := n.lo + 1 } w' := by
  have HH := hid (nhas_any p P n k w h)
  rw [show hasI n.L.length (k : Int) = true by simp [hasI]; omega] at HH
  have hw1 : wrap64 ((n.lo : Int) + 1) = (n.lo : Int) + 1 := IntWalk.wrap64_in _ (by omega)
  obtain ⟨c50, c51, c52, fz⟩ := h.cells0
  have f52 := fz 52
  have HL := h.lo 1
  obtain ⟨P2, h2, hsub, hk2⟩ := HL
  have PU := hid (pull_any p _ _ k (show k < ({ n with lo := n.lo + 1 } : Net).L.length from hk) _ h2)
  have FIN : Hid (∀ n' w', NLeft (w.setCell ⟨p, 52, none⟩ (.int .i64 ((n.lo : Int) + 1))) P2 p n' w' → NLeft w P p n' w') := fun n' w' ⟨P3, g1, g2, g3⟩ =>
    ⟨P3, g1, fun j hj hp3 => hsub j hj (g2 j (Nat.lt_of_lt_of_le hj hk2.size) hp3), hk2.then g3 (fun j hj hq => hsub j hj hq)⟩
  clear h h2 hk2 hsub fz c50 c51
  simp only at *
  have PU2 : Hid (Calls Try.prog 35 #[.pointer (some ⟨p, 0, none⟩), .int .i64 (k : Int)] (w.setCell ⟨p, 52, none⟩ (.int .i64 ((n.lo : Int) + 1))) fun e w' => e = .returned (pkV n.L[k]) ∧ NLeft (w.setCell ⟨p, 52, none⟩ (.int .i64 ((n.lo : Int) + 1))) P2 p { n with L := outL n.L k, lo := n.lo + 1 } w') := PU.out
  clear PU
  generalize n.L[k] = x at *
  obtain ⟨fr, tt, s⟩ := x
  unfold pkV at *
  simp only at *
  go_enter Try.func22, Try.ntmps22
  go_wp2_with fail
  refine HH.out.mono ?_
  rintro e w1 ⟨rfl, rfl⟩
  clear HH
  go_wp2_with fail
  refine PU2.out.mono ?_
  rintro e w2 ⟨rfl, hN⟩
  have HN := hid (FIN.out _ _ hN)
  clear hN FIN PU2 c52 f52
  go_wp2
  go_ret
  exact ⟨rfl, HN.out⟩
end Go.Proofs.Ytfcchmjofejkhaa
