/- What the law asks of a net behind each step. -/
import Derived.Test.YtfcchmjofejkhaaNGen
namespace Go.Proofs.Ytfcchmjofejkhaa
open Go.RowKit Go.Maps
set_option linter.unusedVariables false
set_option linter.unusedSimpArgs false

set_option maxRecDepth 100000 in
set_option maxHeartbeats 4000000 in
theorem nsays_any (w0 : World) (A : Nat → Prop) (p : Nat) (n : Net) (lv cv : Value) (m : RNet) (w : World) (hS : NSt w0 A p n w) (hR : RfIs w lv cv m) (hrel : Rel n m) :
    Calls Try.prog 12 #[.pointer (some ⟨p, 0, none⟩), rmV lv cv m] w fun e w' => e = .returned (.bool true) ∧ NSt w0 A p n w' ∧ Keep (fun _ => False) w w' := by
  obtain ⟨ad1, c1, rfl⟩ := row_form hR.l
  obtain ⟨ad2, c2, rfl⟩ := row_form hR.c
  have hL := hrel.L
  have hll := hR.ll
  have CT : Hid (∀ W, NSt w0 A p n W → Calls Try.prog 17 #[.pointer (some ⟨p, 0, none⟩)] W fun e w' => e = .returned (.tuple #[.int .i64 m.se, .int .i64 m.ta, .int .i64 m.lo]) ∧ NSt w0 A p n w' ∧ Keep (fun _ => False) W w') := fun W h => by
    have := stepKF h (fun P1 h1 => counts_any p P1 n W h1)
    rw [hrel.se, hrel.ta, hrel.lo] at this
    exact this
  have LN : Hid (∀ W, NSt w0 A p n W → Calls Try.prog 15 #[.pointer (some ⟨p, 0, none⟩)] W fun e w' => e = .returned (.int .i64 (m.L.length : Nat)) ∧ w' = W) := fun W ⟨P, h1, _⟩ => by
    have := nlen_any p P n W h1
    rw [hL] at this
    exact this
  have AT : Hid (∀ k (hk : k < m.L.length) W, NSt w0 A p n W → Calls Try.prog 20 #[.pointer (some ⟨p, 0, none⟩), .int .i64 (k : Int)] W fun e w' => e = .returned (.tuple #[pkV m.L[k], .bool true]) ∧ NSt w0 A p n w' ∧ Keep (fun _ => False) W w') := fun k hk W h => by
    have := stepKF h (fun P1 h1 => at_some p P1 n k (by rw [hL]; exact hk) W h1)
    simp only [hL] at this
    exact this
  have HS := hid hS
  have HR := hid hR.l
  unfold rmV
  clear hR hS hrel hL
  have HK0 := hid (keep_alloc (fun _ => False) w (.cells #[.slice ad1 m.L.length c1, .slice ad2 m.cs.length c2, .int .i64 m.se, .int .i64 m.ta, .int .i64 m.lo] 28))
  have HB := hid (row1 w [.slice ad1 m.L.length c1, .slice ad2 m.cs.length c2, .int .i64 m.se, .int .i64 m.ta, .int .i64 m.lo] 28)
  go_enter Try.func12, Try.ntmps12
  go_wp2_with fail
  refine (CT.out _ (HS.out.keep HK0.out)).mono ?_
  rintro e w1 ⟨rfl, h1, k1⟩
  have rB := HB.out.keep k1 (fun h => h)
  have K1 := hid (HK0.out.trans k1)
  have HB1 := hid rB
  have HS1 := hid h1
  have b0 := rB.cellAt (o := 0) rfl
  have b1 := rB.cellAt (o := 1) rfl
  have b2 := rB.cellAt (o := 2) rfl
  have b3 := rB.cellAt (o := 3) rfl
  have b4 := rB.cellAt (o := 4) rfl
  have L1 := hid (fun q => LN.out (w1.drewN q) (HS1.out.keep (nkeep_drewN _ _)))
  clear rB h1 k1 CT HB HS HK0 LN
  go_wp2
  go_quiet (first | (go_at_call 15; exact Calls.quiet_of_same (L1.out _)))
  clear L1 b0 b1 b2 b3 b4
  have HS2 := hid (fun q => HS1.out.keep (nkeep_drewN w1 q))
  have K2 := hid (fun q => K1.out.trans (nkeep_drewN w1 q))
  have HB2 := hid (fun q => HB1.out.keep (nkeep_drewN w1 q) (fun h => h))
  clear HS1 K1 HB1
  go_wp2
  go_loopw [8] (fun i wr => ∃ k : Nat, k ≤ m.L.length ∧ i = .int .i64 (k : Int) ∧ Hid (NSt w0 A p n wr) ∧ Hid (Keep (fun _ => False) w wr) ∧ Hid (RowIs wr w.heap.size [.slice ad1 m.L.length c1, .slice ad2 m.cs.length c2, .int .i64 m.se, .int .i64 m.ta, .int .i64 m.lo] 28)) (fun i _ => m.L.length - (intOf i).toNat)
  case atStart => exact ⟨0, Nat.zero_le _, rfl, HS2.out _, K2.out _, HB2.out _⟩
  case round =>
    clear HS2 K2 HB2
    obtain ⟨k, hk, rfl, HN, HK, HBk⟩ := hrel
    have b0 := HBk.out.cellAt (o := 0) rfl
    by_cases hlt : k < m.L.length
    · have hk0 : (0 : Int) ≤ (k : Int) := by omega
      have hk1 : (k : Int) < (m.L.length : Int) := by omega
      have C := hid (AT.out k hlt wr HN.out)
      have HRC := hid (fun W (hW : Keep (fun _ => False) w W) => rrow_cells (hW.ownsRow HR.out (fun _ _ h => h)) k hlt)
      generalize m.L[k] = x at *
      obtain ⟨fr, tt, s⟩ := x
      unfold pkV at C
      simp only at *
      clear AT HR HN
      go_wp2_with fail
      refine C.out.mono ?_
      rintro e w3 ⟨rfl, h3, k3⟩
      have ka := k3.trans (keep_alloc (fun _ => False) w3 (.cells #[.int .i64 fr, .int .i64 tt, .string s] 33))
      have rB := HBk.out.keep ka (fun h => h)
      have rL := row1 w3 [.int .i64 fr, .int .i64 tt, .string s] 33
      obtain ⟨g, cap', hv, hg, x0, x1, x2⟩ := HRC.out _ (HK.out.trans ka)
      injection hv with hv1 hv2 hv3
      subst hv1 hv3
      have a0 := rB.cellAt (o := 0) rfl
      have l0 := rL.cellAt (o := 0) rfl
      have l1 := rL.cellAt (o := 1) rfl
      have l2 := rL.cellAt (o := 2) rfl
      have HB3 := hid rB
      have HN3 := hid (h3.keep (keep_alloc (fun _ => False) w3 (.cells #[.int .i64 fr, .int .i64 tt, .string s] 33)))
      have HK3 := hid (HK.out.trans ka)
      clear rB rL ka h3 k3 C HRC HBk HK b0 hg
      go_wp2
      go_quiet (fail)
      have HN4 := hid (fun q => HN3.out.keep (nkeep_drewN _ q))
      have HK4 := hid (fun q => HK3.out.trans (nkeep_drewN _ q))
      have HB4 := hid (fun q => HB3.out.keep (nkeep_drewN _ q) (fun h => h))
      clear HN3 HK3 HB3 a0 l0 l1 l2 x0 x1 x2
      go_wp2
      exact ⟨⟨k + 1, by omega, by go_num, HN4.out _, HK4.out _, HB4.out _⟩, by simp [intOf]; omega⟩
    · have hk9 : k = m.L.length := by omega
      subst hk9
      have hdl : decide ((m.L.length : Int) < (m.L.length : Int)) = false := decide_eq_false (by omega)
      clear AT HR
      go_wp2
      go_ret
      exact ⟨rfl, HN.out, HK.out⟩
end Go.Proofs.Ytfcchmjofejkhaa
