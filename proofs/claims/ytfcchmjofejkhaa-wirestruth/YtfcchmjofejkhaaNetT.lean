/- A net's calls: Send, Double. -/
import Derived.Test.YtfcchmjofejkhaaNetS
namespace Go.Proofs.Ytfcchmjofejkhaa
open Go.RowKit Go.Maps
set_option linter.unusedVariables false
set_option linter.unusedSimpArgs false

/-- what sending makes of a net -/
def sendD (n : Net) (x : Pk) : Net × Bool :=
  if two x.fr x.tt = true ∧ cutAt n.ct x.fr x.tt = false ∧ n.L.length < 4096 then ({ n with L := n.L ++ [x], se := n.se + 1 }, true) else ({ n with se := n.se + 1, lo := n.lo + 1 }, false)
theorem NetIs.cells0 {w : World} {P : Nat → Prop} {p : Nat} {n : Net} (h : NetIs w P p n) : w.cell? ⟨p, 50, none⟩ = some (.int .i64 n.se) ∧ w.cell? ⟨p, 51, none⟩ = some (.int .i64 n.ta) ∧ w.cell? ⟨p, 52, none⟩ = some (.int .i64 n.lo) ∧ ∀ o, w.frozen? ⟨p, o, none⟩ = false := by
  obtain ⟨v, h⟩ := h
  exact ⟨h.row.cellAt (netC_50 v n h.ct), h.row.cellAt (netC_51 v n h.ct), h.row.cellAt (netC_52 v n h.ct), fun o => h.row.frozen⟩
theorem NetR.setRow {w : World} {P : Nat → Prop} {p o : Nat} {u : Value} {n n' : Net} {v : Value} (h : NetR w P p v n) (hs : (netC v n).set o u = netC v n') (hL : n'.L = n.L) (hc : n'.ct.length = 49) : NLeft w P p n' (w.setCell ⟨p, o, none⟩ u) := by
  refine ⟨P, ⟨v, ?_, h.pp, ?_, h.vp, by rw [hL]; exact h.ln, hc, by rw [hL]; exact h.nd, by rw [hL]; exact h.sz⟩, fun _ _ h => h, (keep_setCell w p o u).mono (fun j _ e => e ▸ h.pp)⟩
  · rw [← hs]; exact h.row.set o u
  · rw [hL]; exact (keep_setCell w p o u).ownsRow h.own (fun g e e2 => (h.vp g e).2 e2)
theorem NetIs.se {w : World} {P : Nat → Prop} {p : Nat} {n : Net} (h : NetIs w P p n) : NLeft w P p { n with se := n.se + 1 } (w.setCell ⟨p, 50, none⟩ (.int .i64 ((n.se : Int) + 1))) := by
  obtain ⟨v, h⟩ := h
  exact h.setRow (n' := { n with se := n.se + 1 }) (by rw [← netC_set50 v n (n.se + 1) h.ct]; rfl) rfl h.ct
theorem NetIs.ta {w : World} {P : Nat → Prop} {p : Nat} {n : Net} (h : NetIs w P p n) : NLeft w P p { n with ta := n.ta + 1 } (w.setCell ⟨p, 51, none⟩ (.int .i64 ((n.ta : Int) + 1))) := by
  obtain ⟨v, h⟩ := h
  exact h.setRow (n' := { n with ta := n.ta + 1 }) (by rw [← netC_set51 v n (n.ta + 1) h.ct]; rfl) rfl h.ct
theorem NetIs.lo {w : World} {P : Nat → Prop} {p : Nat} {n : Net} (h : NetIs w P p n) (k : Nat) : NLeft w P p { n with lo := n.lo + k } (w.setCell ⟨p, 52, none⟩ (.int .i64 ((n.lo : Int) + (k : Int)))) := by
  obtain ⟨v, h⟩ := h
  exact h.setRow (n' := { n with lo := n.lo + k }) (by rw [← netC_set52 v n (n.lo + k) h.ct]; rfl) rfl h.ct
theorem NetIs.cutCell {w : World} {P : Nat → Prop} {p : Nat} {n : Net} (h : NetIs w P p n) (a b : Int) (ht : two a b = true) : w.cell? ⟨p, 1 + a.toNat * 7 + b.toNat, none⟩ = some (.bool (cutAt n.ct a b)) := by
  obtain ⟨v, h⟩ := h
  have hb := two_bounds ht
  rw [show 1 + a.toNat * 7 + b.toNat = (7 * a.toNat + b.toNat) + 1 by omega]
  exact h.row.cellAt (netC_ct v n _ h.ct (by omega))
set_option maxRecDepth 100000 in
set_option maxHeartbeats 2000000 in
theorem send_any (p : Nat) (P : Nat → Prop) (n : Net) (x : Pk) (w : World) (h : NetIs w P p n) (hs : x.s.size ≤ 140737488355328) (hse : n.se ≤ 1152921504606846976) (hlo : n.lo ≤ 1152921504606846976) :
    Calls Try.prog 13 #[.pointer (some ⟨p, 0, none⟩), pkV x] w fun e w' => e = .returned (.bool (sendD n x).2) ∧ NLeft w P p (sendD n x).1 w' := by
  have AT := hid (fun W => areTwo_any x.fr x.tt W)
  have hp := h.lt
  have hw1 : wrap64 ((n.se : Int) + 1) = (n.se : Int) + 1 := IntWalk.wrap64_in _ (by omega)
  have hw2 : wrap64 ((n.lo : Int) + 1) = (n.lo : Int) + 1 := IntWalk.wrap64_in _ (by omega)
  obtain ⟨c50, c51, c52, fz⟩ := h.cells0
  have f50 := fz 50
  have HSD : Hid (sendD n x = if two x.fr x.tt = true ∧ cutAt n.ct x.fr x.tt = false ∧ n.L.length < 4096 then ({ n with L := n.L ++ [x], se := n.se + 1 }, true) else ({ n with se := n.se + 1, lo := n.lo + 1 }, false)) := rfl
  have HL1 := h.se.keep (keep_alloc (fun _ => False) _ (.cells #[.int .i64 x.fr, .int .i64 x.tt, .string x.s] 33))
  have rb : RowIs ((w.setCell ⟨p, 50, none⟩ (.int .i64 ((n.se : Int) + 1))).alloc (.cells #[.int .i64 x.fr, .int .i64 x.tt, .string x.s] 33)) w.heap.size [.int .i64 x.fr, .int .i64 x.tt, .string x.s] 33 := by
    have e : (w.setCell ⟨p, 50, none⟩ (.int .i64 ((n.se : Int) + 1))).heap.size = w.heap.size := by simp [World.setCell]
    rw [← e]; exact heap_alloc_new _ _
  have b0 := rb.cellAt (o := 0) rfl
  have b1 := rb.cellAt (o := 1) rfl
  have b2 := rb.cellAt (o := 2) rfl
  have HB := hid (⟨b0, b1, b2⟩ : _ ∧ _ ∧ _)
  clear h rb fz b0 b1 b2
  obtain ⟨fr, tt, s⟩ := x
  unfold pkV
  simp only at *
  have HL2 := hid HL1
  clear HL1
  go_enter Try.func13, Try.ntmps13
  go_wp2
  generalize (w.setCell ⟨p, 50, none⟩ (.int .i64 ((n.se : Int) + 1))).alloc (.cells #[.int .i64 fr, .int .i64 tt, .string s] 33) = wS at *
  obtain ⟨b0, b1, b2⟩ := HB.out
  obtain ⟨P2, h2, hsub, hk2⟩ := HL2.out
  have IF := hid (fun m => isFull_any p _ _ (World.drewN wS m) (h2.keep (nkeep_drewN _ m) (fun _ _ h => h.elim)))
  have LY := hid (fun (hl : n.L.length < 4096) (ht : two fr tt = true) m => (nlay_any p _ _ ⟨fr, tt, s⟩ (World.drewN wS m) (h2.keep (nkeep_drewN _ m) (fun _ _ h => h.elim)) hs hl ht))
  have HCC := hid (fun ht => h2.cutCell fr tt ht)
  obtain ⟨_, _, d52, fz2⟩ := h2.cells0
  have g52 := fz2 52
  have FL := hid (fun m => (h2.keep (nkeep_drewN _ m) (fun _ _ h => h.elim)).lo 1)
  have K2 : Hid (∀ m n' w', NLeft (World.drewN wS m) (fun j => P2 j ∧ j < wS.heap.size) p n' w' → NLeft w P p n' w') := fun m n' w' hN => by
    obtain ⟨P3, g1, g2, g3⟩ := hN
    have kd := nkeep_drewN wS m
    refine ⟨P3, g1, fun j hj hp3 => hsub j hj (g2 j (Nat.lt_of_lt_of_le hj (Nat.le_trans hk2.size kd.size)) hp3).1, ?_⟩
    exact (hk2.trans (kd.mono (fun _ _ h => h.elim))).then g3 (fun j hj hq => hsub j hj hq.1)
  clear HL2 h2 hk2 hsub fz2 HB c50 c51 c52 f50
  by_cases ht : two fr tt = true
  · have HLY := hid (fun hl => LY.out hl ht)
    rw [ht] at AT
    have hb := two_bounds ht
    obtain ⟨hb0, hb1, hb2, hb3, _⟩ := hb
    have hcc := HCC.out ht
    by_cases hc : cutAt n.ct fr tt = true
    · rw [show cutAt _ fr tt = true from hc] at hcc
      have HR : Hid (sendD n ⟨fr, tt, s⟩ = ({ n with se := n.se + 1, lo := n.lo + 1 }, false)) := by show _ = _; rw [HSD.out, if_neg (by rw [hc]; simp)]
      clear HSD ht hc HCC LY IF HLY
      go_quiet (first | (go_at_call 31; exact Calls.quiet_of_same (AT.out _)))
      go_wp2
      go_ret
      rw [HR.out]
      exact ⟨rfl, K2.out _ _ _ (FL.out _)⟩
    · have hc : cutAt n.ct fr tt = false := by simpa using hc
      rw [show cutAt _ fr tt = false from hc] at hcc
      by_cases hl : n.L.length < 4096
      · have HR : Hid (sendD n ⟨fr, tt, s⟩ = ({ n with L := n.L ++ [⟨fr, tt, s⟩], se := n.se + 1 }, true)) := by show _ = _; rw [HSD.out, if_pos ⟨ht, hc, hl⟩]
        have HL := hid (HLY.out hl)
        unfold pkV at HL
        simp only at HL IF
        rw [decide_eq_false (p := 4096 ≤ n.L.length) (by omega)] at IF
        clear HSD ht hc HCC LY HLY FL
        go_quiet (first | (go_at_call 31; exact Calls.quiet_of_same (AT.out _)) | (go_at_call 32; exact Calls.quiet_of_same (IF.out _)))
        go_wp2_with fail
        refine (HL.out _).mono ?_
        rintro e w1 ⟨rfl, hN⟩
        have HN := hid (K2.out _ _ _ hN)
        clear HL hN K2
        go_wp2
        go_ret
        rw [HR.out]
        exact ⟨rfl, HN.out⟩
      · have HR : Hid (sendD n ⟨fr, tt, s⟩ = ({ n with se := n.se + 1, lo := n.lo + 1 }, false)) := by show _ = _; rw [HSD.out, if_neg (by simp; omega)]
        rw [decide_eq_true (p := 4096 ≤ n.L.length) (by omega)] at IF
        clear HSD ht hc HCC LY HLY
        go_quiet (first | (go_at_call 31; exact Calls.quiet_of_same (AT.out _)) | (go_at_call 32; exact Calls.quiet_of_same (IF.out _)))
        go_wp2
        go_ret
        rw [HR.out]
        exact ⟨rfl, K2.out _ _ _ (FL.out _)⟩
  · have ht : two fr tt = false := by simpa using ht
    rw [ht] at AT
    have HR : Hid (sendD n ⟨fr, tt, s⟩ = ({ n with se := n.se + 1, lo := n.lo + 1 }, false)) := by show _ = _; rw [HSD.out, if_neg (by rw [ht]; simp)]
    clear HSD ht HCC LY IF
    go_quiet (first | (go_at_call 31; exact Calls.quiet_of_same (AT.out _)))
    go_wp2
    go_ret
    rw [HR.out]
    exact ⟨rfl, K2.out _ _ _ (FL.out _)⟩
set_option maxRecDepth 100000 in
theorem send_nil (x : Pk) (w : World) : Calls Try.prog 13 #[.pointer none, pkV x] w fun e w' => e = .returned (.bool false) ∧ Keep (fun _ => False) w w' := by
  obtain ⟨fr, tt, s⟩ := x
  unfold pkV
  go_enter Try.func13, Try.ntmps13
  go_wp2
  go_ret
  exact ⟨rfl, keep_alloc _ _ _⟩
set_option maxRecDepth 100000 in
theorem double_none (pv : Value) (i : Int) (w : World) (h : ∀ W, W = w → Calls Try.prog 34 #[pv, .int .i64 i] W fun e w' => e = .returned (.bool false) ∧ w' = W) : Calls Try.prog 14 #[pv, .int .i64 i] w fun e w' => e = .returned (.bool false) ∧ w' = w := by
  have HH := hid h
  clear h
  go_enter Try.func14, Try.ntmps14
  go_wp2_with fail
  refine (HH.out _ rfl).mono ?_
  rintro e w1 ⟨rfl, rfl⟩
  go_wp2
  go_ret
  exact ⟨rfl, rfl⟩
set_option maxRecDepth 100000 in
theorem double_full (p : Nat) (P : Nat → Prop) (n : Net) (i : Int) (w : World) (h : NetIs w P p n) (hl : ¬ n.L.length < 4096) : Calls Try.prog 14 #[.pointer (some ⟨p, 0, none⟩), .int .i64 i] w fun e w' => e = .returned (.bool false) ∧ w' = w := by
  have HH := hid (nhas_any p P n i w h)
  have IF := hid (isFull_any p P n w h)
  rw [decide_eq_true (p := 4096 ≤ n.L.length) (by omega)] at IF
  generalize hasI n.L.length i = b at *
  cases b with
  | false => exact double_none _ i w (fun W e => by subst e; exact HH.out)
  | true =>
    clear h
    go_enter Try.func14, Try.ntmps14
    go_wp2_with fail
    refine HH.out.mono ?_
    rintro e w1 ⟨rfl, rfl⟩
    go_wp2_with fail
    refine IF.out.mono ?_
    rintro e w1 ⟨rfl, rfl⟩
    go_wp2
    go_ret
    exact ⟨rfl, rfl⟩
set_option maxRecDepth 100000 in
theorem double_some (p : Nat) (P : Nat → Prop) (n : Net) (k : Nat) (hk : k < n.L.length) (hl : n.L.length < 4096) (hse : n.se ≤ 1152921504606846976) (w : World) (h : NetIs w P p n) : Calls Try.prog 14 #[.pointer (some ⟨p, 0, none⟩), .int .i64 (k : Int)] w fun e w' => e = .returned (.bool true) ∧ NLeft w P p { n with L := n.L ++ [n.L[k]], se := n.se + 1 } w' := by
  have HH := hid (nhas_any p P n k w h)
  have IF := hid (isFull_any p P n w h)
  rw [decide_eq_false (p := 4096 ≤ n.L.length) (by omega)] at IF
  rw [show hasI n.L.length (k : Int) = true by simp [hasI]; omega] at HH
  have hw1 : wrap64 ((n.se : Int) + 1) = (n.se : Int) + 1 := IntWalk.wrap64_in _ (by omega)
  obtain ⟨c50, c51, c52, fz⟩ := h.cells0
  have f50 := fz 50
  have HL1 := h.se
  obtain ⟨P2, h2, hsub, hk2⟩ := HL1
  obtain ⟨v, hv⟩ := h2
  have hx := List.getElem_mem hk
  have LY := hid (nlay_any p _ _ n.L[k] _ ⟨v, hv⟩ (hv.sz _ hx) hl (hv.nd _ hx))
  have q0 := hv.c0
  obtain ⟨g, cap, rfl, hg, x0, x1, x2⟩ := hv.cells k hk
  have FIN : Hid (∀ n' w', NLeft (w.setCell ⟨p, 50, none⟩ (.int .i64 ((n.se : Int) + 1))) P2 p n' w' → NLeft w P p n' w') := fun n' w' ⟨P3, g1, g2, g3⟩ =>
    ⟨P3, g1, fun j hj hp3 => hsub j hj (g2 j (Nat.lt_of_lt_of_le hj hk2.size) hp3), hk2.then g3 (fun j hj hq => hsub j hj hq)⟩
  clear hv h hx hsub hk2 fz
  simp only at *
  generalize n.L[k] = x at *
  obtain ⟨fr, tt, s⟩ := x
  unfold pkV at *
  simp only at *
  have hk0 : (0 : Int) ≤ (k : Int) := by omega
  have hk1 : (k : Int) < (n.L.length : Int) := by omega
  go_enter Try.func14, Try.ntmps14
  go_wp2_with fail
  refine HH.out.mono ?_
  rintro e w1 ⟨rfl, rfl⟩
  go_wp2_with fail
  refine IF.out.mono ?_
  rintro e w1 ⟨rfl, rfl⟩
  clear HH IF
  go_wp2_with fail
  refine LY.out.mono ?_
  rintro e w2 ⟨rfl, hN⟩
  have HN := hid (FIN.out _ _ hN)
  clear hN FIN LY
  go_wp2
  go_ret
  exact ⟨rfl, HN.out⟩
end Go.Proofs.Ytfcchmjofejkhaa
