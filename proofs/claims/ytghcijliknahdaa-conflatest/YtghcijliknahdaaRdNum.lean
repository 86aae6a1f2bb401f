/- The walks of a reader's taking of a number, whatever fits. -/
import Derived.Test.YtghcijliknahdaaRdM
import Derived.Deep.QuietTactic
import Derived.BigQuiet
namespace Go.Proofs.Ytghcijliknahdaa
open Go.RowKit
set_option linter.unusedVariables false

set_option maxRecDepth 100000 in
set_option maxHeartbeats 800000 in
theorem num_err (F : Nat) (caps : Array Value) (g : Nat) (s : ByteArray) (a e x : Int) (w : World) (h : RdAt w g s a e) (he : e ≠ 0) :
    Calls Try.prog 49 #[.pointer (some ⟨g, 0, none⟩), .func (Fn.func F) #[] caps, .int .i64 x] w fun r w' => r = .returned (.int .u64 0) ∧ w' = w := by
  have HE := show Hid _ from fun (_ : Unit) => err_any g s a e w h
  have hb : (e != 0) = true := by rw [bne_iff_ne]; exact he
  clear h he
  go_enter Try.func49, Try.ntmps49
  go_wp2_with fail
  refine (HE.out ()).mono ?_
  rintro e w' ⟨rfl, rfl⟩
  go_wp2
  go_ret
  exact ⟨rfl, rfl⟩

set_option maxRecDepth 100000 in
set_option maxHeartbeats 800000 in
theorem num_bad (F : Nat) (caps : Array Value) (g : Nat) (s : ByteArray) (a x : Int) (w : World) (h : RdAt w g s a 0) (hs : s.size ≤ maxLen) (he : (rdAt s a).e ≠ 0) :
    Calls Try.prog 49 #[.pointer (some ⟨g, 0, none⟩), .func (Fn.func F) #[] caps, .int .i64 x] w fun r w' => r = .returned (.int .u64 0) ∧ RdAt w' g s a (rdAt s a).e ∧ Only g w w' := by
  have HE := show Hid _ from fun (_ : Unit) => err_any g s a 0 w h
  have HR := show Hid _ from fun w => readNumber_any s a w hs
  have hb : (((rdAt s a).e : Int) != 0) = true := by rw [bne_iff_ne]; omega
  have hb2 : (((rdAt s a).e : Int) == 0) = false := by rw [beq_eq_false_iff_ne]; omega
  have HF := show Hid _ from fun w h => fail_any g s a 0 (rdAt s a).e w h
  have H0 := show Hid _ from h
  generalize (rdAt s a).n = n at HR
  generalize endAt a (rdAt s a) = t at HR
  generalize (rdAt s a).e = er at HR hb hb2 HF
  obtain ⟨c0, c1, c2, f1, f2⟩ := h
  clear he
  go_enter Try.func49, Try.ntmps49
  go_wp2_with fail
  refine (HE.out ()).mono ?_
  rintro e w' ⟨rfl, rfl⟩
  go_wp2_with fail
  go_quiet ((go_at_call 65; exact Calls.quiet_of_same (HR.out _)))
  go_wp2_with fail
  refine (HF.out _ (RdAt.keeps H0.out (below_drewN (Below.refl _ _) _))).mono ?_
  rintro e w2 ⟨rfl, hR2, hB2⟩
  have HR2 := show Hid _ from hR2
  clear hR2
  go_wp2
  go_ret
  exact ⟨rfl, HR2.out, ((below_drewN (Below.refl _ _) nq).only g).trans hB2⟩



/-- does a number fit? -/
def fitN (m : Nat) (n : Nat) : Bool := decide (n ≤ m)

/-- does a number fit? -/
def fitI (m : Int) (n : Nat) : Bool := decide (0 ≤ m ∧ (n : Int) ≤ m)

set_option maxRecDepth 100000 in
set_option maxHeartbeats 1600000 in
theorem num_Ifit (g : Nat) (s : ByteArray) (a : Int) (h : Nat) (m : Int) (n : Nat) (t : Int) (w : World) (h0 : RdAt w g s a 0) (hm : w.cell? ⟨h, 0, none⟩ = some (.int .i64 m)) (hmm : m ≤ 9223372036854775807) (hs : s.size ≤ maxLen) (hn : n < 18446744073709551616) (hr : rdAt s a = ⟨n, (rdAt s a).len, 0⟩) (ht : endAt a (rdAt s a) = t) (hf : fitI m n = true) :
    Calls Try.prog 49 #[.pointer (some ⟨g, 0, none⟩), .func (Fn.func 48) #[] #[.pointer (some ⟨h, 0, none⟩)], .int .i64 2] w fun r w' => r = .returned (.int .u64 n) ∧ RdAt w' g s t 0 ∧ Only g w w' := by
  have HE := show Hid _ from fun (_ : Unit) => err_any g s a 0 w h0
  have HR := show Hid _ from fun w => readNumber_any s a w hs
  rw [ht, hr] at HR
  have HF := show Hid _ from fun w h => fail_any g s a 0 2 w h
  have H0 := show Hid _ from h0
  clear hr ht
  obtain ⟨c0, c1, c2, f1, f2⟩ := h0
  have q : 0 ≤ m ∧ (n : Int) ≤ m := of_decide_eq_true hf
  obtain ⟨q0, q⟩ := q
  clear hf
  go_enter Try.func49, Try.ntmps49
  go_wp2_with fail
  refine (HE.out ()).mono ?_
  rintro e w' ⟨rfl, rfl⟩
  go_wp2_with fail
  go_quiet ((go_at_call 65; exact Calls.quiet_of_same (HR.out _)))
  go_wp2
  go_ret
  exact ⟨rfl, RdAt.place (RdAt.keeps H0.out (below_drewN (Below.refl _ _) _)) _, ((below_drewN (Below.refl _ _) nq).only g).setCell 1 _⟩

set_option maxRecDepth 100000 in
set_option maxHeartbeats 1600000 in
theorem num_Inot (g : Nat) (s : ByteArray) (a : Int) (h : Nat) (m : Int) (n : Nat) (t : Int) (w : World) (h0 : RdAt w g s a 0) (hm : w.cell? ⟨h, 0, none⟩ = some (.int .i64 m)) (hmm : m ≤ 9223372036854775807) (hs : s.size ≤ maxLen) (hn : n < 18446744073709551616) (hr : rdAt s a = ⟨n, (rdAt s a).len, 0⟩) (ht : endAt a (rdAt s a) = t) (hf : fitI m n = false) :
    Calls Try.prog 49 #[.pointer (some ⟨g, 0, none⟩), .func (Fn.func 48) #[] #[.pointer (some ⟨h, 0, none⟩)], .int .i64 2] w fun r w' => r = .returned (.int .u64 0) ∧ RdAt w' g s a 2 ∧ Only g w w' := by
  have HE := show Hid _ from fun (_ : Unit) => err_any g s a 0 w h0
  have HR := show Hid _ from fun w => readNumber_any s a w hs
  rw [ht, hr] at HR
  have HF := show Hid _ from fun w h => fail_any g s a 0 2 w h
  have H0 := show Hid _ from h0
  clear hr ht
  obtain ⟨c0, c1, c2, f1, f2⟩ := h0
  have q := of_decide_eq_false hf
  clear hf
  by_cases q0 : 0 ≤ m
  · have q1 : m < (n : Int) := by omega
    have q2 : decide ((n : Int) ≤ m) = false := by simp; omega
    clear q
    go_enter Try.func49, Try.ntmps49
    go_wp2_with fail
    refine (HE.out ()).mono ?_
    rintro e w' ⟨rfl, rfl⟩
    go_wp2_with fail
    go_quiet ((go_at_call 65; exact Calls.quiet_of_same (HR.out _)))
    go_wp2_with (first
      | (go_at_call 51; refine (HF.out _ (RdAt.keeps H0.out (below_drewN (Below.refl _ _) _))).mono ?_; rintro e w2 ⟨rfl, hR2, hB2⟩; have HR2 := show Hid _ from hR2; clear hR2)
      | go_in)
    go_ret
    exact ⟨rfl, HR2.out, ((below_drewN (Below.refl _ _) nq).only g).trans hB2⟩
  · have q2 : decide (0 ≤ m) = false := by simp; omega
    clear q
    go_enter Try.func49, Try.ntmps49
    go_wp2_with fail
    refine (HE.out ()).mono ?_
    rintro e w' ⟨rfl, rfl⟩
    go_wp2_with fail
    go_quiet ((go_at_call 65; exact Calls.quiet_of_same (HR.out _)))
    go_wp2_with (first
      | (go_at_call 51; refine (HF.out _ (RdAt.keeps H0.out (below_drewN (Below.refl _ _) _))).mono ?_; rintro e w2 ⟨rfl, hR2, hB2⟩; have HR2 := show Hid _ from hR2; clear hR2)
      | go_in)
    go_ret
    exact ⟨rfl, HR2.out, ((below_drewN (Below.refl _ _) nq).only g).trans hB2⟩

/-- does a number fit? -/
def fitB  (n : Nat) : Bool := decide (n ≤ 1)

end Go.Proofs.Ytghcijliknahdaa
