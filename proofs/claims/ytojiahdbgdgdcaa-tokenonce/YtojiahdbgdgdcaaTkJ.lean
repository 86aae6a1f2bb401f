/- The small run of layer 15: awake answers true. -/
import Derived.Test.YtojiahdbgdgdcaaTkI
import Derived.Test.YtojiahdbgdgdcaaZeM
namespace Go.Proofs.Ytojiahdbgdgdcaa
open Go.RowKit Go.Maps
set_option linter.unusedVariables false
set_option linter.unusedSimpArgs false

def T1 : ByteArray := ⟨#[116]⟩
def D4 : ByteArray := ⟨#[100, 111, 110, 101]⟩
def H1 : Hd := ⟨T1, ZS, D4, 3⟩
set_option maxRecDepth 100000 in
theorem aw15_pure : noteE [] H1 = 0 ∧ noteL [] H1 = [H1] ∧ lookN [H1] T1 ZS = 1 ∧ lookS [H1] T1 ZS = D4 ∧ lookN [H1] T1 ⟨#[]⟩ = 2 ∧ expL [H1] 3 = [] ∧ expN [H1] 3 = 1 ∧ lookN [] T1 ZS = 0 := by
  have c0 : isTb [] = true := by decide +kernel
  have c1 : isTb [H1] = true := by decide +kernel
  have k1 : hdOk H1 = true := by decide +kernel
  have e1 : noteE [] H1 = 0 := by unfold noteE; rw [if_pos ⟨c0, k1⟩]; rfl
  have hf : findH [H1] T1 = some H1 := by unfold findH; rw [List.find?_cons_of_pos (by simp [H1])]
  have hn : ¬ (ZS = ⟨#[]⟩) := fun h => by have := congrArg ByteArray.size h; simp [ZS, ByteArray.size] at this
  refine ⟨e1, by unfold noteL; rw [if_pos e1]; rfl, ?_, ?_, ?_, ?_, ?_, ?_⟩
  · unfold lookN; rw [if_pos c1, hf]; simp [fdN, H1]
  · unfold lookS; rw [if_pos c1, hf]; simp [fdS, H1]
  · unfold lookN; rw [if_pos c1, hf]; simp [fdN, H1, hn]
  · unfold expL; rw [if_pos c1]; rfl
  · unfold expN; rw [if_pos c1]; rfl
  · unfold lookN; rw [if_pos c0]; rfl
set_option maxRecDepth 100000 in
set_option maxHeartbeats 2000000 in
theorem awake15 (w : World) : Calls Try.prog 11 #[] w fun e w' => e = .returned (.bool true) ∧ Below w.heap.size w w' := by
  obtain ⟨a1, a2, a3, a4, a5, a6, a7, a8⟩ := aw15_pure
  have ZR := hid (fun W => zeros_any W)
  have P1 : Hid (∀ W, Calls Try.prog 12 #[.slice none 0 0, .agg #[.string ⟨#[116]⟩, .string ZS, .string ⟨#[100, 111, 110, 101]⟩, .int .i64 3]] W fun e w' => ∃ ad cap, e = .returned (.tuple #[.slice ad 1 cap, .int .i64 0]) ∧ Hid (HdI w' (.slice ad 1 cap) [H1]) ∧ Below W.heap.size W w') := fun W => by
    have := note15_any (.slice none 0 0) [] H1 W (hdi_none _)
    rw [a1, a2] at this
    exact this.mono fun e w' ⟨ad, cap, he, ho, hb⟩ => ⟨ad, cap, he, ho.hd, hb⟩
  have L1 : Hid (∀ W ad cap, HdI W (.slice ad 1 cap) [H1] → Calls Try.prog 8 #[.slice ad 1 cap, .string ⟨#[116]⟩, .string ZS] W fun e w' => e = .returned (.tuple #[.int .i64 1, .string ⟨#[100, 111, 110, 101]⟩]) ∧ Below W.heap.size W w') := fun W ad cap h => by
    have := look15_any (.slice ad 1 cap) [H1] T1 ZS W h
    rw [a3, a4] at this
    exact this
  have L2 : Hid (∀ W ad cap, HdI W (.slice ad 1 cap) [H1] → Calls Try.prog 8 #[.slice ad 1 cap, .string ⟨#[116]⟩, .string ⟨#[]⟩] W fun e w' => ∃ s, e = .returned (.tuple #[.int .i64 2, .string s]) ∧ Below W.heap.size W w') := fun W ad cap h => by
    have := look15_any (.slice ad 1 cap) [H1] T1 ⟨#[]⟩ W h
    rw [a5] at this
    exact this.mono fun e w' ⟨he, hb⟩ => ⟨_, he, hb⟩
  have E1 : Hid (∀ W ad cap, HdI W (.slice ad 1 cap) [H1] → Calls Try.prog 14 #[.slice ad 1 cap, .int .i64 3] W fun e w' => ∃ ad cap, e = .returned (.tuple #[.slice ad 0 cap, .int .i64 1]) ∧ Hid (HdI w' (.slice ad 0 cap) []) ∧ Below W.heap.size W w') := fun W ad cap h => by
    have := expire15_any (.slice ad 1 cap) [H1] 3 W h
    rw [a6, a7] at this
    exact this.mono fun e w' ⟨ad, cap, he, ho, hb⟩ => ⟨ad, cap, he, ho.hd, hb⟩
  have L3 : Hid (∀ W ad cap, HdI W (.slice ad 0 cap) [] → Calls Try.prog 8 #[.slice ad 0 cap, .string ⟨#[116]⟩, .string ZS] W fun e w' => ∃ s, e = .returned (.tuple #[.int .i64 0, .string s]) ∧ Below W.heap.size W w') := fun W ad cap h => by
    have := look15_any (.slice ad 0 cap) [] T1 ZS W h
    rw [a8] at this
    exact this.mono fun e w' ⟨he, hb⟩ => ⟨_, he, hb⟩
  clear a1 a2 a3 a4 a5 a6 a7 a8
  generalize H1 = A1 at *
  generalize ZS = Z at *
  go_enter Try.func11, Try.ntmps11
  go_wp2_with fail
  refine (ZR.out _).mono ?_
  rintro e w1 ⟨rfl, b1⟩
  have B1 := hid b1
  clear b1
  go_wp2_with fail
  refine (P1.out _).mono ?_
  rintro e w2 ⟨ad2, cap2, rfl, I2, b2⟩
  have B2 := hid (below_on B1.out b2)
  clear b2 B1 P1
  go_wp2_with fail
  refine (ZR.out _).mono ?_
  rintro e w3 ⟨rfl, b3⟩
  have B3 := hid (below_on B2.out b3)
  have I3 := hid (I2.out.next b3)
  clear b3 B2 I2
  go_wp2_with fail
  refine (L1.out _ _ _ I3.out).mono ?_
  rintro e w4 ⟨rfl, b4⟩
  have B4 := hid (below_on B3.out b4)
  have I4 := hid (I3.out.next b4)
  clear b4 B3 I3 L1
  go_wp2_with fail
  refine (L2.out _ _ _ I4.out).mono ?_
  rintro e w5 ⟨s5, rfl, b5⟩
  have B5 := hid (below_on B4.out b5)
  have I5 := hid (I4.out.next b5)
  clear b5 B4 I4 L2
  go_wp2_with fail
  refine (E1.out _ _ _ I5.out).mono ?_
  rintro e w6 ⟨ad6, cap6, rfl, I6, b6⟩
  have B6 := hid (below_on B5.out b6)
  clear b6 B5 I5 E1
  go_wp2_with fail
  refine (ZR.out _).mono ?_
  rintro e w7 ⟨rfl, b7⟩
  have B7 := hid (below_on B6.out b7)
  have I7 := hid (I6.out.next b7)
  clear b7 B6 I6 ZR
  go_wp2_with fail
  refine (L3.out _ _ _ I7.out).mono ?_
  rintro e w8 ⟨s8, rfl, b8⟩
  have B8 := hid (below_on B7.out b8)
  clear b8 B7 I7 L3
  go_wp2
  go_ret
  exact ⟨rfl, B8.out⟩
end Go.Proofs.Ytojiahdbgdgdcaa
