/- The small run of layer 13: awake answers true. -/
import Derived.Test.YtbiapepalkdkdaaZeM
import Derived.Test.YtbiapepalkdkdaaCvL
namespace Go.Proofs.Ytbiapepalkdkdaa
open Go.RowKit Go.Maps
set_option linter.unusedVariables false
set_option linter.unusedSimpArgs false

def V3 : Vn := ⟨3, false, 2, ZS, [⟨ZS, 2⟩]⟩
def M5 : Vn := ⟨5, true, 0, ⟨#[]⟩, []⟩
theorem pcs_one (W : World) : PcI (W.alloc (.cells #[.string ZS, .int .i64 2] 72)) (.slice (some ⟨W.heap.size, 0, none⟩) 1 1) [⟨ZS, 2⟩] := RowC.own (own_made W [.string ZS, .int .i64 2] 72 2 1 0 (Nat.zero_le _) rfl (by omega))
set_option maxRecDepth 100000 in
theorem aw_pure : putE [] V3 = 0 ∧ putL [] V3 = [V3] ∧ putE [V3] M5 = 0 ∧ putL [V3] M5 = [M5, V3] ∧ latE [M5, V3] = 130 ∧ plE [M5, V3] 5 = 0 ∧ drL [M5, V3] 5 = [V3] ∧ latE [V3] = 0 ∧ latV [V3] = V3 ∧ latV [M5, V3] = vn0 := by
  have c0 : isCh [] = true := by decide +kernel
  have c1 : isCh [V3] = true := by decide +kernel
  have c2 : isCh [M5, V3] = true := by decide +kernel
  have k3 : vnOk V3 = true := by decide +kernel
  have k5 : vnOk M5 = true := by decide +kernel
  have e1 : putE [] V3 = 0 := by unfold putE; rw [if_pos ⟨c0, k3⟩]; rfl
  have e2 : putE [V3] M5 = 0 := by unfold putE; rw [if_pos ⟨c1, k5⟩]; rfl
  have e3 : plO [M5, V3] 5 = some 0 := by unfold plO; rw [if_pos c2]; rfl
  refine ⟨e1, by unfold putL; rw [if_pos e1], e2, by unfold putL; rw [if_pos e2], by unfold latE; rw [if_pos c2]; rfl, by unfold plE; rw [if_pos c2]; rfl, by unfold drL; rw [e3]; rfl, by unfold latE; rw [if_pos c1]; rfl, by unfold latV; rw [if_pos c1]; rfl, by unfold latV; rw [if_pos c2]; rfl⟩
set_option maxRecDepth 100000 in
set_option maxHeartbeats 2000000 in
theorem awake13 (w : World) : Calls Try.prog 12 #[] w fun e w' => e = .returned (.bool true) ∧ Below w.heap.size w w' := by
  obtain ⟨a1, a2, a3, a4, a5, a6, a7, a8, a9, a10⟩ := aw_pure
  have ZR := hid (fun W => zeros_any W)
  have P1 : Hid (∀ W pv, PcI W pv [⟨ZS, 2⟩] → Calls Try.prog 16 #[.slice none 0 0, .agg #[.int .i64 3, .bool false, .int .i64 2, .string ZS, pv]] W (GiveV W [V3] 0)) := fun W pv h => by
    have := put_any (.slice none 0 0) [] pv V3 W (vni_none _) h
    rw [show vqL [] = [] from rfl, a1, a2] at this
    exact this
  have P2 : Hid (∀ W v q, VnI W v q → vqL q = [V3] → Calls Try.prog 16 #[v, .agg #[.int .i64 5, .bool true, .int .i64 0, .string ⟨#[]⟩, .slice none 0 0]] W (GiveV W [M5, V3] 0)) := fun W v q h e => by
    have := put_any v q (.slice none 0 0) M5 W h (pci_none _)
    rw [e, a3, a4] at this
    exact this
  have L1 : Hid (∀ W v q, VnI W v q → vqL q = [M5, V3] → Calls Try.prog 22 #[v] W (GiveO W vn0 130)) := fun W v q h e => by
    have := latest_any v q W h
    rw [e, a5, a10] at this
    exact this
  have D1 : Hid (∀ W v q, VnI W v q → vqL q = [M5, V3] → Calls Try.prog 19 #[v, .int .i64 5] W (GiveV W [V3] 0)) := fun W v q h e => by
    have := drop_any v q 5 W h
    rw [e, a6, a7] at this
    exact this
  have L2 : Hid (∀ W v q, VnI W v q → vqL q = [V3] → Calls Try.prog 22 #[v] W (GiveO W V3 0)) := fun W v q h e => by
    have := latest_any v q W h
    rw [e, a8, a9] at this
    exact this
  have PO : Hid (∀ W : World, PcI (W.alloc (.cells #[.string ZS, .int .i64 2] 72)) (.slice (some ⟨W.heap.size, 0, none⟩) 1 1) [⟨ZS, 2⟩]) := fun W => pcs_one W
  have HV3 : Hid (∀ (ad : Option Addr) (cap : Nat), vnV (.slice ad V3.ps.length cap, V3) = .agg #[.int .i64 3, .bool false, .int .i64 2, .string ZS, .slice ad 1 cap]) := fun ad cap => rfl
  have HV0 : Hid (∀ (ad : Option Addr) (cap : Nat), vnV (.slice ad vn0.ps.length cap, vn0) = .agg #[.int .i64 0, .bool false, .int .i64 0, .string ⟨#[]⟩, .slice ad 0 cap]) := fun ad cap => rfl
  clear a1 a2 a3 a4 a5 a6 a7 a8 a9 a10
  generalize vn0 = N0 at *
  generalize V3 = A3 at *
  generalize M5 = A5 at *
  generalize ZS = Z at *
  go_enter Try.func12, Try.ntmps12
  go_wp2_with fail
  refine (ZR.out _).mono ?_
  rintro e w1 ⟨rfl, b1⟩
  have B1 := hid b1
  clear b1
  go_wp2_with fail
  refine (ZR.out _).mono ?_
  rintro e w2 ⟨rfl, b2⟩
  have B2 := hid (below_on B1.out b2)
  clear b2 B1 ZR
  have X2 := hid (PO.out w2)
  have BX := hid (Bx.made (below_al B2.out (.cells #[.string Z, .int .i64 2] 72)) [.int .i64 3, .bool false, .int .i64 2, .string Z, .slice (some ⟨w2.heap.size, 0, none⟩) 1 1] 24)
  have X3 : Hid (PcI ((w2.alloc (.cells #[.string Z, .int .i64 2] 72)).alloc (.cells #[.int .i64 3, .bool false, .int .i64 2, .string Z, .slice (some ⟨w2.heap.size, 0, none⟩) 1 1] 24)) (.slice (some ⟨w2.heap.size, 0, none⟩) 1 1) [⟨Z, 2⟩]) := X2.out.next ((Below.refl _ _).alloc (Nat.le_refl _) _)
  obtain ⟨⟨y0, y1, y2, y3, y4⟩, -⟩ := BX.out.may
  clear X2 PO
  go_wp2_with fail
  refine (P1.out _ _ X3.out).mono ?_
  rintro e w3 ⟨ad3, n3, cap3, q3, rfl, hq3, v3, b3⟩
  have Q3 := hid hq3
  have I3 := hid v3
  have B3 := hid (below_on BX.out.b b3)
  clear hq3 v3 b3 P1 X3 BX y0 y1 y2 y3 y4 B2
  go_wp2_with fail
  refine (P2.out _ _ _ I3.out Q3.out).mono ?_
  rintro e w4 ⟨ad4, n4, cap4, q4, rfl, hq4, v4, b4⟩
  have Q4 := hid hq4
  have I4 := hid v4
  have B4 := hid (below_on B3.out b4)
  clear hq4 v4 b4 P2 Q3 I3 B3
  go_wp2_with fail
  refine (L1.out _ _ _ I4.out Q4.out).mono ?_
  rintro e w5 ⟨ad5, cap5, rfl, p5, b5⟩
  rw [HV0.out]
  have I5 := hid (I4.out.next b5)
  have B5 := hid (below_on B4.out b5)
  clear p5 b5 L1 I4 B4
  have I6 : Hid (VnI (w5.alloc (.cells #[.int .i64 0, .bool false, .int .i64 0, .string ⟨#[]⟩, .slice ad5 0 cap5] 24)) (.slice ad4 n4 cap4) q4) := I5.out.next ((Below.refl _ _).alloc (Nat.le_refl _) _)
  go_wp2_with fail
  refine (D1.out _ _ _ I6.out Q4.out).mono ?_
  rintro e w6 ⟨ad6, n6, cap6, q6, rfl, hq6, v6, b6⟩
  have Q6 := hid hq6
  have I7 := hid v6
  have B6 := hid (below_on (below_al B5.out _) b6)
  clear hq6 v6 b6 D1 Q4 I5 I6 B5
  go_wp2_with fail
  refine (L2.out _ _ _ I7.out Q6.out).mono ?_
  rintro e w7 ⟨ad7, cap7, rfl, p7, b7⟩
  rw [HV3.out]
  have B7 := hid (below_on B6.out b7)
  have SR := srow w7 [.int .i64 3, .bool false, .int .i64 2, .string Z, .slice ad7 1 cap7] 24
  have y0 := SR.cellAt (o := 0) rfl
  have y2 := SR.cellAt (o := 2) rfl
  have y4 := SR.cellAt (o := 4) rfl
  have HBF : Hid (∀ X, Below w.heap.size w (w7.alloc X)) := fun X => below_al B7.out _
  clear p7 b7 L2 Q6 I7 B6 SR B7
  go_wp2
  go_ret
  exact ⟨rfl, HBF.out _⟩
end Go.Proofs.Ytbiapepalkdkdaa
