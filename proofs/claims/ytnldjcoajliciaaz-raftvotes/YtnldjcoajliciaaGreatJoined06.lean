/- Joined: The walks of a reader's taking of a number, whatever fits. A reader's calls: each one's contract, whatever it holds. -/
import Derived.Test.YtnldjcoajliciaaGreatJoined05
import Derived.Deep.QuietTactic
import Derived.BigQuiet
namespace Go.Proofs.YtnldjcoajliciaaGreat
open Go.RowKit
set_option linter.unusedVariables false

set_option maxRecDepth 100000 in
set_option maxHeartbeats 800000 in
theorem num_err (F : Nat) (caps : Array Value) (g : Nat) (s : ByteArray) (a e x : Int) (w : World) (h : RdAt w g s a e) (he : e ≠ 0) :
    Calls Tryz.prog 113 #[.pointer (some ⟨g, 0, none⟩), .func (Fn.func F) #[] caps, .int .i64 x] w fun r w' => r = .returned (.int .u64 0) ∧ w' = w := by
  have HE := show Hid _ from fun (_ : Unit) => err_any g s a e w h
  have hb : (e != 0) = true := by rw [bne_iff_ne]; exact he
  clear h he
  go_enter Tryz.func113, Tryz.ntmps113
  go_wp2_with fail
  refine (HE.out ()).mono ?_
  rintro e w' ⟨rfl, rfl⟩
  go_wp2
  go_ret
  exact ⟨rfl, rfl⟩

set_option maxRecDepth 100000 in
set_option maxHeartbeats 800000 in
theorem num_bad (F : Nat) (caps : Array Value) (g : Nat) (s : ByteArray) (a x : Int) (w : World) (h : RdAt w g s a 0) (hs : s.size ≤ maxLen) (he : (rdAt s a).e ≠ 0) :
    Calls Tryz.prog 113 #[.pointer (some ⟨g, 0, none⟩), .func (Fn.func F) #[] caps, .int .i64 x] w fun r w' => r = .returned (.int .u64 0) ∧ RdAt w' g s a (rdAt s a).e ∧ Only g w w' := by
  have HE := show Hid _ from fun (_ : Unit) => err_any g s a 0 w h
  have HR := show Hid _ from fun w => readNumber_any s a w hs
  have hb : (((rdAt s a).e : Int) != 0) = true := by rw [bne_iff_ne]; omega
  have hb2 : (((rdAt s a).e : Int) == 0) = false := by rw [beq_eq_false_iff_ne]; omega
  have HF := show Hid _ from fun w h => rdfail_any g s a 0 (rdAt s a).e w h
  have H0 := show Hid _ from h
  generalize (rdAt s a).n = n at HR
  generalize endAt a (rdAt s a) = t at HR
  generalize (rdAt s a).e = er at HR hb hb2 HF
  obtain ⟨c0, c1, c2, f1, f2⟩ := h
  clear he
  go_enter Tryz.func113, Tryz.ntmps113
  go_wp2_with fail
  refine (HE.out ()).mono ?_
  rintro e w' ⟨rfl, rfl⟩
  go_wp2_with fail
  go_quiet ((go_at_call 125; exact Calls.quiet_of_same (HR.out _)))
  go_wp2_with fail
  refine (HF.out _ (RdAt.keeps H0.out (below_drewN (Below.refl _ _) _))).mono ?_
  rintro e w2 ⟨rfl, hR2, hB2⟩
  have HR2 := show Hid _ from hR2
  clear hR2
  go_wp2
  go_ret
  exact ⟨rfl, HR2.out, ((below_drewN (Below.refl _ _) nq).only g).trans hB2⟩



/-- does a number fit? -/
def fitI (m : Int) (n : Nat) : Bool := decide (0 ≤ m ∧ (n : Int) ≤ m)

set_option maxRecDepth 100000 in
set_option maxHeartbeats 1600000 in
theorem num_Ifit (g : Nat) (s : ByteArray) (a : Int) (h : Nat) (m : Int) (n : Nat) (t : Int) (w : World) (h0 : RdAt w g s a 0) (hm : w.cell? ⟨h, 0, none⟩ = some (.int .i64 m)) (hmm : m ≤ 9223372036854775807) (hs : s.size ≤ maxLen) (hn : n < 18446744073709551616) (hr : rdAt s a = ⟨n, (rdAt s a).len, 0⟩) (ht : endAt a (rdAt s a) = t) (hf : fitI m n = true) :
    Calls Tryz.prog 113 #[.pointer (some ⟨g, 0, none⟩), .func (Fn.func 112) #[] #[.pointer (some ⟨h, 0, none⟩)], .int .i64 2] w fun r w' => r = .returned (.int .u64 n) ∧ RdAt w' g s t 0 ∧ Only g w w' := by
  have HE := show Hid _ from fun (_ : Unit) => err_any g s a 0 w h0
  have HR := show Hid _ from fun w => readNumber_any s a w hs
  rw [ht, hr] at HR
  have HF := show Hid _ from fun w h => rdfail_any g s a 0 2 w h
  have H0 := show Hid _ from h0
  clear hr ht
  obtain ⟨c0, c1, c2, f1, f2⟩ := h0
  have q : 0 ≤ m ∧ (n : Int) ≤ m := of_decide_eq_true hf
  obtain ⟨q0, q⟩ := q
  clear hf
  go_enter Tryz.func113, Tryz.ntmps113
  go_wp2_with fail
  refine (HE.out ()).mono ?_
  rintro e w' ⟨rfl, rfl⟩
  go_wp2_with fail
  go_quiet ((go_at_call 125; exact Calls.quiet_of_same (HR.out _)))
  go_wp2
  go_ret
  exact ⟨rfl, RdAt.place (RdAt.keeps H0.out (below_drewN (Below.refl _ _) _)) _, ((below_drewN (Below.refl _ _) nq).only g).setCell 1 _⟩

set_option maxRecDepth 100000 in
set_option maxHeartbeats 1600000 in
theorem num_Inot (g : Nat) (s : ByteArray) (a : Int) (h : Nat) (m : Int) (n : Nat) (t : Int) (w : World) (h0 : RdAt w g s a 0) (hm : w.cell? ⟨h, 0, none⟩ = some (.int .i64 m)) (hmm : m ≤ 9223372036854775807) (hs : s.size ≤ maxLen) (hn : n < 18446744073709551616) (hr : rdAt s a = ⟨n, (rdAt s a).len, 0⟩) (ht : endAt a (rdAt s a) = t) (hf : fitI m n = false) :
    Calls Tryz.prog 113 #[.pointer (some ⟨g, 0, none⟩), .func (Fn.func 112) #[] #[.pointer (some ⟨h, 0, none⟩)], .int .i64 2] w fun r w' => r = .returned (.int .u64 0) ∧ RdAt w' g s a 2 ∧ Only g w w' := by
  have HE := show Hid _ from fun (_ : Unit) => err_any g s a 0 w h0
  have HR := show Hid _ from fun w => readNumber_any s a w hs
  rw [ht, hr] at HR
  have HF := show Hid _ from fun w h => rdfail_any g s a 0 2 w h
  have H0 := show Hid _ from h0
  clear hr ht
  obtain ⟨c0, c1, c2, f1, f2⟩ := h0
  have q := of_decide_eq_false hf
  clear hf
  by_cases q0 : 0 ≤ m
  · have q1 : m < (n : Int) := by omega
    have q2 : decide ((n : Int) ≤ m) = false := by simp; omega
    clear q
    go_enter Tryz.func113, Tryz.ntmps113
    go_wp2_with fail
    refine (HE.out ()).mono ?_
    rintro e w' ⟨rfl, rfl⟩
    go_wp2_with fail
    go_quiet ((go_at_call 125; exact Calls.quiet_of_same (HR.out _)))
    go_wp2_with (first
      | (go_at_call 116; refine (HF.out _ (RdAt.keeps H0.out (below_drewN (Below.refl _ _) _))).mono ?_; rintro e w2 ⟨rfl, hR2, hB2⟩; have HR2 := show Hid _ from hR2; clear hR2)
      | go_in)
    go_ret
    exact ⟨rfl, HR2.out, ((below_drewN (Below.refl _ _) nq).only g).trans hB2⟩
  · have q2 : decide (0 ≤ m) = false := by simp; omega
    clear q
    go_enter Tryz.func113, Tryz.ntmps113
    go_wp2_with fail
    refine (HE.out ()).mono ?_
    rintro e w' ⟨rfl, rfl⟩
    go_wp2_with fail
    go_quiet ((go_at_call 125; exact Calls.quiet_of_same (HR.out _)))
    go_wp2_with (first
      | (go_at_call 116; refine (HF.out _ (RdAt.keeps H0.out (below_drewN (Below.refl _ _) _))).mono ?_; rintro e w2 ⟨rfl, hR2, hB2⟩; have HR2 := show Hid _ from hR2; clear hR2)
      | go_in)
    go_ret
    exact ⟨rfl, HR2.out, ((below_drewN (Below.refl _ _) nq).only g).trans hB2⟩

end Go.Proofs.YtnldjcoajliciaaGreat
namespace Go.Proofs.YtnldjcoajliciaaGreat
open Go.RowKit
set_option linter.unusedVariables false

theorem numI (g : Nat) (s : ByteArray) (a e : Int) (h : Nat) (m : Int) (w : World) (h0 : RdAt w g s a e) (hm : w.cell? ⟨h, 0, none⟩ = some (.int .i64 m)) (hmm : m ≤ 9223372036854775807) (hs : s.size ≤ maxLen) :
    Calls Tryz.prog 113 #[.pointer (some ⟨g, 0, none⟩), .func (Fn.func 112) #[] #[.pointer (some ⟨h, 0, none⟩)], .int .i64 2] w fun r w' => r = .returned (.int .u64 (nS s a e (fitI m (rdAt s a).n) 2).n) ∧ RdAt w' g s (nS s a e (fitI m (rdAt s a).n) 2).a (nS s a e (fitI m (rdAt s a).n) 2).e ∧ Only g w w' := by
  unfold nS
  by_cases he : e = 0
  · subst he
    rw [if_pos rfl]
    by_cases hr : (rdAt s a).e = 0
    · rw [if_pos hr]
      have hb := rdAt_bounds s a hr
      have hg : rdAt s a = ⟨(rdAt s a).n, (rdAt s a).len, 0⟩ := by rw [← hr]
      cases hf : fitI m (rdAt s a).n with
      | true => rw [if_pos rfl]; exact num_Ifit g s a h m (rdAt s a).n _ w h0 hm hmm hs hb.2.2.2.2 hg rfl hf
      | false => rw [if_neg (by decide)]; exact num_Inot g s a h m (rdAt s a).n _ w h0 hm hmm hs hb.2.2.2.2 hg rfl hf
    · rw [if_neg hr]; exact num_bad _ _ g s a 2 w h0 hs hr
  · rw [if_neg he]
    exact (num_err _ _ g s a e 2 w h0 he).mono fun r w' ⟨h1, h2⟩ => by subst h2; exact ⟨h1, h0, Only.refl _ _⟩

theorem rd_lt {w : World} {g : Nat} {s : ByteArray} {a e : Int} (h : RdAt w g s a e) : g < w.heap.size := World.block_lt_of_cell? w _ h.1

set_option maxRecDepth 100000 in
set_option maxHeartbeats 400000 in
theorem rd_int (g : Nat) (s : ByteArray) (a e : Int) (m : Int) (w : World) (h0 : RdAt w g s a e) (hs : s.size ≤ maxLen) (hm : m ≤ 9223372036854775807) (hS : (nS s a e (fitI m (rdAt s a).n) 2).n ≤ 9223372036854775807) :
    Calls Tryz.prog 96 #[.pointer (some ⟨g, 0, none⟩), .int .i64 m] w fun r w' => r = .returned (.int .i64 (nS s a e (fitI m (rdAt s a).n) 2).n) ∧ RdAt w' g s (nS s a e (fitI m (rdAt s a).n) 2).a (nS s a e (fitI m (rdAt s a).n) 2).e ∧ Only g w w' := by
  have hlt := rd_lt h0
  have hB0 : Below w.heap.size w (w.alloc (.cells #[.int .i64 m] 3)) := (Below.refl _ _).alloc (Nat.le_refl _) _
  have H := show Hid _ from fun (_ : Unit) => numI g s a e w.heap.size m (w.alloc (.cells #[.int .i64 m] 3)) (h0.keeps hB0) (by simp) hm hs
  have HB := show Hid _ from hB0
  generalize nS s a e (fitI m (rdAt s a).n) 2 = S at H hS ⊢
  clear h0 hB0
  go_enter Tryz.func96, Tryz.ntmps96
  go_wp2_with fail
  refine (H.out ()).mono ?_
  rintro e w2 ⟨rfl, hR2, hB2⟩
  have HR2 := show Hid _ from hR2
  clear hR2
  go_wp2
  go_ret
  exact ⟨rfl, HR2.out, (HB.out.only g).trans hB2⟩

end Go.Proofs.YtnldjcoajliciaaGreat
