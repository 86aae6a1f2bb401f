/- The document's text of one byte. -/
import Derived.Test.YtnohkhgoejjfhaaDoorPeB
import Derived.Test.YtnohkhgoejjfhaaDoorNum
import Derived.Deep.RegionWith
import Derived.Deep.RegionHeld3
namespace Go.Proofs.YtnohkhgoejjfhaaDoor
open Go.RowKit
set_option linter.unusedVariables false
set_option linter.unusedSimpArgs false

/-- 'string([]byte{x})': the slice has just been laid -/
theorem conv1 (w : World) (c : UInt8) (g : Nat) (hg : w.cell? ⟨g, 0, none⟩ = some (.int .u8 (c.toNat : Int))) :
    (convert 66 9 (.slice (some ⟨g, 0, none⟩) 1 1)).run Tryd.prog w = .ok (.string ⟨#[c]⟩) w := by
  refine run_convert_bytes_back w 66 9 5 _ 1 [c] Tryd.underlying66 Tryd.underlying5 Tryd.underlying9 ?_
  intro j hj
  match j, hj with
  | 0, _ => simpa [Addr.add_lit] using hg
theorem conv3 (w : World) (a b c : UInt8) (g : Nat) (h0 : w.cell? ⟨g, 0, none⟩ = some (.int .u8 (a.toNat : Int))) (h1 : w.cell? ⟨g, 1, none⟩ = some (.int .u8 (b.toNat : Int))) (h2 : w.cell? ⟨g, 2, none⟩ = some (.int .u8 (c.toNat : Int))) :
    (convert 66 9 (.slice (some ⟨g, 0, none⟩) 3 3)).run Tryd.prog w = .ok (.string ⟨#[a, b, c]⟩) w := by
  refine run_convert_bytes_back w 66 9 5 _ 3 [a, b, c] Tryd.underlying66 Tryd.underlying5 Tryd.underlying9 ?_
  intro j hj
  match j, hj with
  | 0, _ => simpa [Addr.add_lit] using h0
  | 1, _ => simpa [Addr.add_lit] using h1
  | 2, _ => simpa [Addr.add_lit] using h2

set_option maxRecDepth 100000 in
set_option maxHeartbeats 1000000 in
theorem one47_any (c : UInt8) (w : World) : Calls Tryd.prog 30 #[.int .u8 (c.toNat : Int), .int .u8 47] w fun e w' => e = .returned (.string ⟨(esc1 plP c).toArray⟩) ∧ Below w.heap.size w w' := by
  have HI := hid (rplain_any c w)
  have hcl := UInt8.toNat_lt c
  have HC := fun (W : World) => conv1 (W.alloc (.cells #[.int .u8 (c.toNat : Int)] 5)) c W.heap.size (by simp)
  have HV : Hid (plP c = (plB c || decide (c.toNat = 47))) := rfl
  unfold esc1
  rw [HV.out]
  clear HV
  have e1 : (c.toNat : Int) / 16 = ((c.toNat / 16 : Nat) : Int) := by omega
  have e2 : (c.toNat : Int).tmod 16 = ((c.toNat % 16 : Nat) : Int) := by rw [Int.tmod_eq_emod_of_nonneg (by omega)]; omega
  have l1 : c.toNat / 16 < 16 := by omega
  have l2 : c.toNat % 16 < 16 := by omega
  have HD := fun (W : World) => conv3 (W.alloc (.cells #[.int .u8 37, .int .u8 ((dgU (c.toNat / 16)).toNat : Int), .int .u8 ((dgU (c.toNat % 16)).toNat : Int)] 5)) 37 (dgU (c.toNat / 16)) (dgU (c.toNat % 16)) W.heap.size (by simp) (by simp) (by simp)
  have HD2 := fun (W : World) => conv3 (W.alloc (.cells #[.int .u8 37, .int .u8 ((dgU (c.toNat / 16)).toNat : Int), .int .u8 ((dgU (c.toNat % 16)).toNat : Int)] 5)).drew 37 (dgU (c.toNat / 16)) (dgU (c.toNat % 16)) W.heap.size (by simp) (by simp) (by simp)
  have G1 := fun (W : World) => hid (rdigit_any (c.toNat / 16) l1 W)
  have G2 := fun (W : World) => hid (rdigit_any (c.toNat % 16) l2 W)
  generalize plB c = b at *
  generalize dgU (c.toNat / 16) = d1 at *
  generalize dgU (c.toNat % 16) = d2 at *
  generalize hi1 : c.toNat / 16 = i1 at *
  generalize hi2 : c.toNat % 16 = i2 at *
  have e1w : IntKind.u8.wrap (i1 : Int) = (i1 : Int) := by rw [IntKind.wrap_u8]; omega
  obtain hb | hb : b = false ∨ b = true := by cases b <;> simp
  · subst hb
    by_cases h : c.toNat = 47
    · have h1 : ((c.toNat : Int) == 47) = true := by rw [beq_iff_eq]; omega
      have HR : Hid ((if (false || decide (c.toNat = 47)) = true then [c] else [37, d1, d2]) = [c]) := by show _ = _; rw [if_pos (by simp [h])]
      rw [HR.out]
      clear HR h hi1 hi2 HD HD2 G1 G2 e1 e2 e1w
      generalize c.toNat = n at *
      go_enter Tryd.func30, Tryd.ntmps30
      go_wp2_with fail
      refine HI.out.mono ?_
      rintro e w1 ⟨rfl, rfl⟩
      go_wp2_with fail
      go_ret
      exact ⟨rfl, (Below.refl _ _).alloc (Nat.le_refl _) _⟩
    · have h1 : ((c.toNat : Int) == 47) = false := by rw [beq_eq_false_iff_ne]; omega
      have HR : Hid ((if (false || decide (c.toNat = 47)) = true then [c] else [37, d1, d2]) = [37, d1, d2]) := by show _ = _; rw [if_neg (by simp [h])]
      rw [HR.out]
      clear HR h hi1 hi2 HC
      generalize c.toNat = n at *
      go_enter Tryd.func30, Tryd.ntmps30
      go_wp2_with fail
      refine HI.out.mono ?_
      rintro e w1 ⟨rfl, rfl⟩
      go_wp2_with fail
      refine (G1 _).out.mono ?_
      rintro e w1 ⟨rfl, rfl⟩
      go_wp2_with fail
      refine (G2 _).out.mono ?_
      rintro e w1 ⟨rfl, rfl⟩
      go_wp2_with fail
      go_ret
      exact ⟨rfl, (Below.refl _ _).alloc (Nat.le_refl _) _⟩
  · subst hb
    have HR : Hid ((if (true || decide (c.toNat = 47)) = true then [c] else [37, d1, d2]) = [c]) := by show _ = _; rw [if_pos (by simp)]
    rw [HR.out]
    clear HR hi1 hi2 HD HD2 G1 G2 e1 e2 e1w
    generalize c.toNat = n at *
    go_enter Tryd.func30, Tryd.ntmps30
    go_wp2_with fail
    refine HI.out.mono ?_
    rintro e w1 ⟨rfl, rfl⟩
    go_wp2_with fail
    go_ret
    exact ⟨rfl, (Below.refl _ _).alloc (Nat.le_refl _) _⟩
set_option maxRecDepth 100000 in
set_option maxHeartbeats 1000000 in
theorem one0_any (c : UInt8) (w : World) : Calls Tryd.prog 30 #[.int .u8 (c.toNat : Int), .int .u8 0] w fun e w' => e = .returned (.string ⟨(esc1 plB c).toArray⟩) ∧ Below w.heap.size w w' := by
  have HI := hid (rplain_any c w)
  have hcl := UInt8.toNat_lt c
  have HC := fun (W : World) => conv1 (W.alloc (.cells #[.int .u8 (c.toNat : Int)] 5)) c W.heap.size (by simp)
  unfold esc1
  have e1 : (c.toNat : Int) / 16 = ((c.toNat / 16 : Nat) : Int) := by omega
  have e2 : (c.toNat : Int).tmod 16 = ((c.toNat % 16 : Nat) : Int) := by rw [Int.tmod_eq_emod_of_nonneg (by omega)]; omega
  have l1 : c.toNat / 16 < 16 := by omega
  have l2 : c.toNat % 16 < 16 := by omega
  have HD := fun (W : World) => conv3 (W.alloc (.cells #[.int .u8 37, .int .u8 ((dgU (c.toNat / 16)).toNat : Int), .int .u8 ((dgU (c.toNat % 16)).toNat : Int)] 5)) 37 (dgU (c.toNat / 16)) (dgU (c.toNat % 16)) W.heap.size (by simp) (by simp) (by simp)
  have HD2 := fun (W : World) => conv3 (W.alloc (.cells #[.int .u8 37, .int .u8 ((dgU (c.toNat / 16)).toNat : Int), .int .u8 ((dgU (c.toNat % 16)).toNat : Int)] 5)).drew 37 (dgU (c.toNat / 16)) (dgU (c.toNat % 16)) W.heap.size (by simp) (by simp) (by simp)
  have G1 := fun (W : World) => hid (rdigit_any (c.toNat / 16) l1 W)
  have G2 := fun (W : World) => hid (rdigit_any (c.toNat % 16) l2 W)
  generalize plB c = b at *
  generalize dgU (c.toNat / 16) = d1 at *
  generalize dgU (c.toNat % 16) = d2 at *
  generalize hi1 : c.toNat / 16 = i1 at *
  generalize hi2 : c.toNat % 16 = i2 at *
  have e1w : IntKind.u8.wrap (i1 : Int) = (i1 : Int) := by rw [IntKind.wrap_u8]; omega
  obtain hb | hb : b = false ∨ b = true := by cases b <;> simp
  · subst hb
    have HR : Hid ((if false = true then [c] else [37, d1, d2]) = [37, d1, d2]) := by show _ = _; rw [if_neg (by simp)]
    rw [HR.out]
    clear HR hi1 hi2 HC
    generalize c.toNat = n at *
    go_enter Tryd.func30, Tryd.ntmps30
    go_wp2_with fail
    refine HI.out.mono ?_
    rintro e w1 ⟨rfl, rfl⟩
    go_wp2_with fail
    refine (G1 _).out.mono ?_
    rintro e w1 ⟨rfl, rfl⟩
    go_wp2_with fail
    refine (G2 _).out.mono ?_
    rintro e w1 ⟨rfl, rfl⟩
    go_wp2_with fail
    go_ret
    exact ⟨rfl, (Below.refl _ _).alloc (Nat.le_refl _) _⟩
  · subst hb
    have HR : Hid ((if true = true then [c] else [37, d1, d2]) = [c]) := by show _ = _; rw [if_pos (by simp)]
    rw [HR.out]
    clear HR hi1 hi2 HD HD2 G1 G2 e1 e2 e1w
    generalize c.toNat = n at *
    go_enter Tryd.func30, Tryd.ntmps30
    go_wp2_with fail
    refine HI.out.mono ?_
    rintro e w1 ⟨rfl, rfl⟩
    go_wp2_with fail
    go_ret
    exact ⟨rfl, (Below.refl _ _).alloc (Nat.le_refl _) _⟩
end Go.Proofs.YtnohkhgoejjfhaaDoor
