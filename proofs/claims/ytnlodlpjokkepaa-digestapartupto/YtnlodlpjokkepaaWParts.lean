/- The walk of the law DigestParts: whatever the purpose and the parts, it answers true. -/
import Derived.Test.YtnlodlpjokkepaaRTag
namespace Go.Proofs.Ytnlodlpjokkepaa
open Go.RowKit
set_option linter.unusedVariables false

theorem u8_of {a : Int} (h : (Lit.int .u8 a).wf = true) : ∃ p : UInt8, a = (p.toNat : Int) := by
  have h1 : 0 ≤ a ∧ a < 256 := by
    simp [Lit.wf] at h
    have e1 : IntKind.u8.min = 0 := by decide
    have e2 : IntKind.u8.max = 255 := by decide
    rw [e1, e2] at h
    omega
  exact ⟨UInt8.ofNat a.toNat, by simp; omega⟩

set_option maxRecDepth 100000 in
set_option maxHeartbeats 400000 in
theorem digestParts_core (p : UInt8) (v : Value) (xs : List ByteArray) (w : World) (hv : Strs w v xs) (hr : room xs ≤ 10485760) :
    Calls Try.prog 4 #[.int .u8 (p.toNat : Int), v] w fun e w' => e = .returned (.bool true) ∧ Below w.heap.size w w' := by
  have H1 := show Hid _ from fun W (h : Strs W v xs) => tagged_any p v xs W h (by omega)
  have H2 := show Hid _ from fun W (h : Strs W v xs) => rtagged_any p v xs W h (by omega)
  have HV : Hid (Strs w v xs) := hv
  generalize sha (tld p xs) = u at H1 H2
  clear hv hr
  go_enter Try.func4, Try.ntmps4
  go_wp2_with fail
  refine (awake3 _).mono ?_
  rintro e w1 ⟨rfl, hB1⟩
  go_wp2_with fail
  refine (H1.out _ (HV.out.below hB1)).mono ?_
  rintro e w2 ⟨rfl, hB2⟩
  have b2 := hB1.trans (hB2.mono hB1.size)
  go_wp2_with fail
  refine (H2.out _ (HV.out.below b2)).mono ?_
  rintro e w3 ⟨rfl, hB3⟩
  go_wp2
  go_ret
  exact ⟨rfl, b2.trans (hB3.mono b2.size)⟩
theorem digestParts_walk (a : Int) (v : Value) (xs : List ByteArray) (w : World) (ha : (Lit.int .u8 a).wf = true) (hv : Strs w v xs) (hr : room xs ≤ 10485760) :
    Calls Try.prog 4 #[.int .u8 a, v] w fun e w' => e = .returned (.bool true) ∧ Below w.heap.size w w' := by
  obtain ⟨p, rfl⟩ := u8_of ha
  exact digestParts_core p v xs w hv hr
end Go.Proofs.Ytnlodlpjokkepaa
