/- The walk of the law DiskMoves. -/
import Derived.Test.YtnlodlpjokkepabMovM
namespace Go.Proofs.Ytnlodlpjokkepab
open Go.RowKit Go.Maps
set_option linter.unusedVariables false
set_option linter.unusedSimpArgs false

theorem step_left {w1 wi : World} {c : Nat → Nat} {p : Nat} {s s' : Ds} {f : FuncId} {args : Array Value} {r : Value} (h : Left w1 c p s wi) (C : ∀ W c, DiskIs W c p s → Calls Try.prog f args W fun e w' => e = .returned r ∧ Left W c p s' w') : Calls Try.prog f args wi fun e w' => e = .returned r ∧ Left w1 c p s' w' := by
  obtain ⟨⟨ci, D, hc⟩, K⟩ := h
  exact (C wi ci D).mono fun e w' ⟨he, hL⟩ => ⟨he, hL.trans hc K⟩
theorem step_same {w1 wi : World} {c : Nat → Nat} {p : Nat} {s : Ds} {f : FuncId} {args : Array Value} {r : Value} (h : Left w1 c p s wi) (C : ∀ W c, DiskIs W c p s → Calls Try.prog f args W fun e w' => e = .returned r ∧ Keep (fun _ => False) W w') : Calls Try.prog f args wi fun e w' => e = .returned r ∧ Left w1 c p s w' :=
  step_left h fun W c hD => (C W c hD).mono fun e w' ⟨he, hk⟩ => ⟨he, left_same hD hk⟩
theorem fail_dead (p : Nat) (c : Nat → Nat) (d : Ds) (keep torn : Int) (w : World) (h : DiskIs w c p d) (hdn : d.dn = true) :
    Calls Try.prog 18 #[.pointer (some ⟨p, 0, none⟩), .int .i64 keep, .int .i64 torn] w fun e w' => e = .returned (.tuple #[]) ∧ Left w c p d w' := by
  have hd := h.down
  rw [hdn] at hd
  refine (fail_down _ keep torn w hd).mono fun e w' ⟨he, hw⟩ => ⟨he, ?_⟩
  subst hw
  exact left_same h (Keep.refl _ _)
set_option maxRecDepth 100000 in
theorem changes_any (p : Nat) (c : Nat → Nat) (d : Ds) (w : World) (h : DiskIs w c p d) : Calls Try.prog 26 #[.pointer (some ⟨p, 0, none⟩)] w fun e w' => e = .returned (.int .i64 d.n) ∧ Keep (fun _ => False) w w' := by
  have c5 := h.cells.2.1
  clear h
  go_enter Try.func26, Try.ntmps26
  go_wp2
  go_ret
  exact ⟨rfl, Keep.refl _ _⟩
theorem mov_below {w w0 w1 wi wN : World} {p : Nat} {s : Ds} (k0 : Keep (fun _ => False) w w0) (k1 : Keep (fun _ => False) w0 w1) (h : Left w1 (c0 p) p s wi) (k2 : Keep (fun _ => False) wi wN) (hp : w.heap.size ≤ p) : Below w.heap.size w wN := by
  have k : Keep (fun k => c0 p k < 7) w wN := (((k0.trans k1).mono (fun _ _ h => h.elim)).trans h.2).then k2 (fun _ _ h => h.elim)
  refine keep_below k (fun j hj h => ?_) (Nat.le_refl _)
  have h' : (if j = p then 0 else 7) < 7 := h
  rw [if_neg (by omega)] at h'
  omega
theorem fb_at {w1 wi : World} {p fb : Nat} {s : Ds} {cs : List Value} {t : TypeId} (h : Left w1 (c0 p) p s wi) (hr : RowIs w1 fb cs t) (hne : fb ≠ p) : RowIs wi fb cs t := hr.keep h.2 (fun h => by
  have h' : (if fb = p then 0 else 7) < 7 := h
  rw [if_neg hne] at h'
  omega)

theorem plan_one {w1 w5 : World} {c : Nat → Nat} {p : Nat} {s : Ds} (h : Left w1 c p s w5) (at_ kp tn : Int) (hwf : (Lit.int .i64 at_).wf = true) :
    Calls Try.prog 27 #[.pointer (some ⟨p, 0, none⟩), .slice (some ⟨w5.heap.size + 1, 0, none⟩) 1 1] ((w5.alloc (.cells #[.int .i64 at_, .int .i64 kp, .int .i64 tn] 35)).alloc (.cells #[.int .i64 at_, .int .i64 kp, .int .i64 tn] 35)) fun e w' => e = .returned (.tuple #[]) ∧ Left w1 c p { s with fl := [⟨at_, kp, tn⟩] } w' := by
  obtain ⟨⟨ci, D, hc⟩, K⟩ := h
  have k : Keep (fun _ => False) w5 ((w5.alloc (.cells #[.int .i64 at_, .int .i64 kp, .int .i64 tn] 35)).alloc (.cells #[.int .i64 at_, .int .i64 kp, .int .i64 tn] 35)) := (keep_alloc _ _ _).trans (keep_alloc _ _ _)
  have hsz : (w5.alloc (.cells #[.int .i64 at_, .int .i64 kp, .int .i64 tn] 35)).heap.size = w5.heap.size + 1 := by simp
  have hr : RowIs ((w5.alloc (.cells #[.int .i64 at_, .int .i64 kp, .int .i64 tn] 35)).alloc (.cells #[.int .i64 at_, .int .i64 kp, .int .i64 tn] 35)) (w5.heap.size + 1) [.int .i64 at_, .int .i64 kp, .int .i64 tn] 35 := by rw [← hsz]; exact heap_alloc_new _ _
  have hD := D.keep k (c' := ci) (fun _ _ => rfl) (fun _ _ h => h.elim)
  have hp : p < w5.heap.size := by obtain ⟨R, hR⟩ := D; exact hR.row.lt
  refine (plan_any p ci s _ [⟨at_, kp, tn⟩] _ hD (.inr ⟨w5.heap.size + 1, 0, 1, rfl, by omega, hr.lt, fun j hj => ?_⟩) (by simp) (fun x hx => by simp at hx; rw [hx]; exact hwf)).mono fun e w' ⟨he, hL⟩ => ⟨he, (hL.from k).trans hc K⟩
  have hj0 : j = 0 := by simpa using hj
  subst hj0
  exact ⟨hr.cellAt rfl, hr.cellAt rfl, hr.cellAt rfl⟩
theorem at_val (a : Int) : ∃ t : Int, wrap64 (1 + (wrap64 (a.tmod 4 + 4)).tmod 4) = t ∧ (t = 1 ∨ t = 2 ∨ t = 3 ∨ t = 4) := by
  refine ⟨_, rfl, ?_⟩
  have h1 : -4 < a.tmod 4 ∧ a.tmod 4 < 4 := by
    have h2 := Int.natAbs_tmod a 4
    have h3 : (a.tmod 4).natAbs < 4 := by rw [h2]; exact Nat.mod_lt _ (by decide)
    omega
  have e1 : wrap64 (a.tmod 4 + 4) = a.tmod 4 + 4 := IntWalk.wrap64_in _ (by omega)
  rw [e1, Int.tmod_eq_emod_of_nonneg (by omega), IntWalk.wrap64_in _ (by omega)]
  omega
theorem wf_at {t : Int} (h : t = 1 ∨ t = 2 ∨ t = 3 ∨ t = 4) : (Lit.int .i64 t).wf = true := by
  rcases h with rfl | rfl | rfl | rfl <;> decide
theorem tx_self (A : ByteArray) : (A.toList == A.toList) = true := by simp

set_option maxRecDepth 100000 in
set_option maxHeartbeats 4000000 in
theorem diskMoves_core (old fresh : Bs) (a kp tn : Int) (w : World) (ho : old.length ≤ 1048576) (hf : fresh.length ≤ 1048576) (ha : (Lit.int .i64 a).wf = true) :
    Calls Try.prog 6 #[.string (tx old), .string (tx fresh), .agg #[.int .i64 a, .int .i64 kp, .int .i64 tn]] w fun e w' => e = .returned (.bool true) ∧ Below w.heap.size w w' := by
  have NW := hid (fun W : World => new_any W)
  have AW := hid (fun W : World => awake4 W)
  have C1 : Hid (∀ p W c, DiskIs W c p d0 → Calls Try.prog 25 #[.pointer (some ⟨p, 0, none⟩), .string ⟨#[97]⟩, .string (tx old)] W fun e w' => e = .returned (.int .i64 0) ∧ Left W c p (sA old) w') := by
    intro p W c h
    have := write_any p c d0 [97] old W h (by simp [d0, Ds.wt, tot]; omega) (by decide)
    rw [w1] at this
    exact this
  have C2 : Hid (∀ p W c, DiskIs W c p (sA old) → Calls Try.prog 15 #[.pointer (some ⟨p, 0, none⟩)] W fun e w' => e = .returned (.int .i64 0) ∧ Left W c p (sB old) w') := by
    intro p W c h
    have := sync_any p c (sA old) W h rfl (by simp [sA, Ds.wt, tot]; omega)
    rw [y1] at this
    exact this
  have C3 : Hid (∀ p W c, DiskIs W c p (sB old) → Calls Try.prog 26 #[.pointer (some ⟨p, 0, none⟩)] W fun e w' => e = .returned (.int .i64 1) ∧ Keep (fun _ => False) W w') := fun p W c h => changes_any p c (sB old) W h
  go_enter Try.func6, Try.ntmps6
  go_wp2_with fail
  have hk0 := keep_alloc (fun _ => False) w (.cells #[.int .i64 a, .int .i64 kp, .int .i64 tn] 35)
  have hr0 : RowIs (w.alloc (.cells #[.int .i64 a, .int .i64 kp, .int .i64 tn] 35)) w.heap.size [.int .i64 a, .int .i64 kp, .int .i64 tn] 35 := heap_alloc_new _ _
  have hsz0 : w.heap.size < (w.alloc (.cells #[.int .i64 a, .int .i64 kp, .int .i64 tn] 35)).heap.size := by simp
  generalize w.alloc (.cells #[.int .i64 a, .int .i64 kp, .int .i64 tn] 35) = w0 at *
  refine (NW.out w0).mono ?_
  rintro e w1 ⟨rfl, hD, hk⟩
  generalize w0.heap.size = p at hD hsz0 ⊢
  have HK0 := hid hk0
  have HK1 := hid hk
  have HR1 := hid (hr0.keep hk (fun h => h))
  have HPN : Hid (w.heap.size ≠ p) := by show _ ≠ _; omega
  have HPL : Hid (w.heap.size ≤ p) := by show _ ≤ _; omega
  have HL0 := hid (left_same hD (Keep.refl _ w1))
  clear NW hk0 hr0 hsz0 hD hk
  go_wp2_with fail
  refine (AW.out _).mono ?_
  rintro e w2 ⟨rfl, hb⟩
  have HL1 := hid (show Left w1 (c0 p) p d0 w2 from (by
    obtain ⟨⟨ci, D, hc⟩, K⟩ := HL0.out
    exact (left_same D (hb.keep _)).trans hc K))
  clear AW hb HL0
  go_wp2_with fail
  refine (step_left HL1.out (C1.out p)).mono ?_
  rintro e w3 ⟨rfl, hL⟩
  have HL2 := hid hL
  clear hL HL1 C1
  go_wp2_with fail
  refine (step_left HL2.out (C2.out p)).mono ?_
  rintro e w4 ⟨rfl, hL⟩
  have HL3 := hid hL
  clear hL HL2 C2
  go_wp2_with fail
  refine (step_same HL3.out (C3.out p)).mono ?_
  rintro e w5 ⟨rfl, hL⟩
  have HL4 := hid hL
  clear hL HL3 C3
  have hr5 := fb_at HL4.out HR1.out HPN.out
  have f0 := hr5.cellAt (o := 0) rfl
  have f1 := hr5.cellAt (o := 1) rfl
  have f2 := hr5.cellAt (o := 2) rfl
  clear hr5
  obtain ⟨t, hat, ht⟩ := at_val a
  go_wp2_with fail
  refine (plan_one HL4.out t kp tn (wf_at ht)).mono ?_
  rintro e w6 ⟨rfl, hL⟩
  rw [p1] at hL
  have HL5 := hid hL
  clear hL HL4 f0 f1 f2 hat
  have hop : old.length ≤ 1048576 := ho
  have hfp : fresh.length ≤ 1048576 := hf
  clear ho hf
  have hoo := tx_self (tx old)
  have hff := tx_self (tx fresh)
  have hof := tx_beq old fresh
  rcases ht with rfl | rfl | ht
  · have C4 : Hid (∀ W c, DiskIs W c p (sC old kp tn 1) → Calls Try.prog 25 #[.pointer (some ⟨p, 0, none⟩), .string ⟨#[98]⟩, .string (tx fresh)] W fun e w' => e = .returned (.int .i64 21) ∧ Left W c p (failD (tA old fresh) kp tn) w') := by
      intro W c h
      have := write_any p c (sC old kp tn 1) [98] fresh W h (by simp [sC, Ds.wt, tot]; omega) (by simp [sC])
      rw [w2_on] at this
      exact this
    have C8 : Hid (∀ W c, DiskIs W c p (failD (tA old fresh) kp tn) → Calls Try.prog 18 #[.pointer (some ⟨p, 0, none⟩), .int .i64 kp, .int .i64 tn] W fun e w' => e = .returned (.tuple #[]) ∧ Left W c p (failD (tA old fresh) kp tn) w') := by
      intro W c h
      exact fail_dead p c _ kp tn W h (dn_fail kp tn _)
    have C9 : Hid (∀ W c, DiskIs W c p (failD (tA old fresh) kp tn) → Calls Try.prog 19 #[.pointer (some ⟨p, 0, none⟩)] W fun e w' => e = .returned (.bool (failD (tA old fresh) kp tn).dn) ∧ Left W c p ({ (failD (tA old fresh) kp tn) with dn := false }) w') := by
      intro W c h
      exact up_any p c _ W h
    have C10 : Hid (∀ W c, DiskIs W c p ({ (failD (tA old fresh) kp tn) with dn := false } : Ds) → Calls Try.prog 20 #[.pointer (some ⟨p, 0, none⟩), .string ⟨#[97]⟩] W fun e w' => e = .returned (.tuple #[.string (tx old), .int .i64 0]) ∧ Keep (fun _ => False) W w') := by
      intro W c h
      have := read_any p c _ [97] W h
      rw [rd_up (failD (tA old fresh) kp tn) (dn_fail kp tn _) [97] ok97 old (by rw [now_fail kp tn _ rfl]; exact r_tA old fresh kp tn)] at this
      exact this
    generalize failD (tA old fresh) kp tn = s at C4 C8 C9 C10
    go_wp2_with fail
    refine (step_left HL5.out C4.out).mono ?_
    rintro e w7 ⟨rfl, hL⟩
    have HL6 := hid hL
    clear hL HL5 C4
    have hr := fb_at HL6.out HR1.out HPN.out
    have f1 := hr.cellAt (o := 1) rfl
    have f2 := hr.cellAt (o := 2) rfl
    clear hr
    go_wp2_with fail
    refine (step_left HL6.out C8.out).mono ?_
    rintro e w8 ⟨rfl, hL⟩
    have HL7 := hid hL
    clear hL HL6 C8
    clear f1 f2
    go_wp2_with fail
    refine (step_left HL7.out C9.out).mono ?_
    rintro e w9 ⟨rfl, hL⟩
    have HL8 := hid hL
    clear hL HL7 C9
    go_wp2_with fail
    refine (step_same HL8.out C10.out).mono ?_
    rintro e w10 ⟨rfl, hL⟩
    have HB := hid (mov_below HK0.out HK1.out hL (Keep.refl _ _) HPL.out)
    clear hL HL8 C10
    by_cases heq : old = fresh
    · subst heq
      clear hof hff
      generalize tx old = A at *
      go_wp2
      go_ret
      exact ⟨rfl, HB.out⟩
    · rw [decide_eq_false heq] at hof
      clear heq hff
      generalize tx old = A at *
      generalize tx fresh = F at *
      go_wp2
      go_ret
      exact ⟨rfl, HB.out⟩
  · have C4 : Hid (∀ W c, DiskIs W c p (sC old kp tn 2) → Calls Try.prog 25 #[.pointer (some ⟨p, 0, none⟩), .string ⟨#[98]⟩, .string (tx fresh)] W fun e w' => e = .returned (.int .i64 0) ∧ Left W c p (sD old fresh kp tn 2) w') := by
      intro W c h
      have := write_any p c (sC old kp tn 2) [98] fresh W h (by simp [sC, Ds.wt, tot]; omega) (by simp [sC])
      rw [w2_off old fresh kp tn 2 (by decide)] at this
      exact this
    have C5 : Hid (∀ W c, DiskIs W c p (sD old fresh kp tn 2) → Calls Try.prog 15 #[.pointer (some ⟨p, 0, none⟩)] W fun e w' => e = .returned (.int .i64 0) ∧ Left W c p (sE old fresh kp tn 2) w') := by
      intro W c h
      have := sync_any p c (sD old fresh kp tn 2) W h rfl (by simp [sD, Ds.wt, tot]; omega)
      rw [y2] at this
      exact this
    have C6 : Hid (∀ W c, DiskIs W c p (sE old fresh kp tn 2) → Calls Try.prog 28 #[.pointer (some ⟨p, 0, none⟩), .string ⟨#[98]⟩, .string ⟨#[97]⟩] W fun e w' => e = .returned (.int .i64 21) ∧ Left W c p (failD (tB old fresh) kp tn) w') := by
      intro W c h
      have := move_any p c (sE old fresh kp tn 2) [98] [97] W h (by simp [sE, Ds.wt, tot]; omega) (by simp [sE])
      rw [m_on] at this
      exact this
    have C8 : Hid (∀ W c, DiskIs W c p (failD (tB old fresh) kp tn) → Calls Try.prog 18 #[.pointer (some ⟨p, 0, none⟩), .int .i64 kp, .int .i64 tn] W fun e w' => e = .returned (.tuple #[]) ∧ Left W c p (failD (tB old fresh) kp tn) w') := by
      intro W c h
      exact fail_dead p c _ kp tn W h (dn_fail kp tn _)
    have C9 : Hid (∀ W c, DiskIs W c p (failD (tB old fresh) kp tn) → Calls Try.prog 19 #[.pointer (some ⟨p, 0, none⟩)] W fun e w' => e = .returned (.bool (failD (tB old fresh) kp tn).dn) ∧ Left W c p ({ (failD (tB old fresh) kp tn) with dn := false }) w') := by
      intro W c h
      exact up_any p c _ W h
    rcases r_tB old fresh kp tn with hrd | hrd
    · have C10 : Hid (∀ W c, DiskIs W c p ({ (failD (tB old fresh) kp tn) with dn := false } : Ds) → Calls Try.prog 20 #[.pointer (some ⟨p, 0, none⟩), .string ⟨#[97]⟩] W fun e w' => e = .returned (.tuple #[.string (tx old), .int .i64 0]) ∧ Keep (fun _ => False) W w') := by
        intro W c h
        have := read_any p c _ [97] W h
        rw [rd_up (failD (tB old fresh) kp tn) (dn_fail kp tn _) [97] ok97 old (by rw [now_fail kp tn _ rfl]; exact hrd)] at this
        exact this
      clear hrd
      generalize failD (tB old fresh) kp tn = s at C6 C8 C9 C10
      go_wp2_with fail
      refine (step_left HL5.out C4.out).mono ?_
      rintro e w7 ⟨rfl, hL⟩
      have HL6 := hid hL
      clear hL HL5 C4
      go_wp2_with fail
      refine (step_left HL6.out C5.out).mono ?_
      rintro e w8 ⟨rfl, hL⟩
      have HL7 := hid hL
      clear hL HL6 C5
      go_wp2_with fail
      refine (step_left HL7.out C6.out).mono ?_
      rintro e w9 ⟨rfl, hL⟩
      have HL8 := hid hL
      clear hL HL7 C6
      have hr := fb_at HL8.out HR1.out HPN.out
      have f1 := hr.cellAt (o := 1) rfl
      have f2 := hr.cellAt (o := 2) rfl
      clear hr
      go_wp2_with fail
      refine (step_left HL8.out C8.out).mono ?_
      rintro e w10 ⟨rfl, hL⟩
      have HL9 := hid hL
      clear hL HL8 C8
      clear f1 f2
      go_wp2_with fail
      refine (step_left HL9.out C9.out).mono ?_
      rintro e w11 ⟨rfl, hL⟩
      have HL10 := hid hL
      clear hL HL9 C9
      go_wp2_with fail
      refine (step_same HL10.out C10.out).mono ?_
      rintro e w12 ⟨rfl, hL⟩
      have HB := hid (mov_below HK0.out HK1.out hL (Keep.refl _ _) HPL.out)
      clear hL HL10 C10
      by_cases heq : old = fresh
      · subst heq
        clear hof hff
        generalize tx old = A at *
        go_wp2
        go_ret
        exact ⟨rfl, HB.out⟩
      · rw [decide_eq_false heq] at hof
        clear heq hff
        generalize tx old = A at *
        generalize tx fresh = F at *
        go_wp2
        go_ret
        exact ⟨rfl, HB.out⟩
    · have C10 : Hid (∀ W c, DiskIs W c p ({ (failD (tB old fresh) kp tn) with dn := false } : Ds) → Calls Try.prog 20 #[.pointer (some ⟨p, 0, none⟩), .string ⟨#[97]⟩] W fun e w' => e = .returned (.tuple #[.string (tx fresh), .int .i64 0]) ∧ Keep (fun _ => False) W w') := by
        intro W c h
        have := read_any p c _ [97] W h
        rw [rd_up (failD (tB old fresh) kp tn) (dn_fail kp tn _) [97] ok97 fresh (by rw [now_fail kp tn _ rfl]; exact hrd)] at this
        exact this
      clear hrd
      generalize failD (tB old fresh) kp tn = s at C6 C8 C9 C10
      go_wp2_with fail
      refine (step_left HL5.out C4.out).mono ?_
      rintro e w7 ⟨rfl, hL⟩
      have HL6 := hid hL
      clear hL HL5 C4
      go_wp2_with fail
      refine (step_left HL6.out C5.out).mono ?_
      rintro e w8 ⟨rfl, hL⟩
      have HL7 := hid hL
      clear hL HL6 C5
      go_wp2_with fail
      refine (step_left HL7.out C6.out).mono ?_
      rintro e w9 ⟨rfl, hL⟩
      have HL8 := hid hL
      clear hL HL7 C6
      have hr := fb_at HL8.out HR1.out HPN.out
      have f1 := hr.cellAt (o := 1) rfl
      have f2 := hr.cellAt (o := 2) rfl
      clear hr
      go_wp2_with fail
      refine (step_left HL8.out C8.out).mono ?_
      rintro e w10 ⟨rfl, hL⟩
      have HL9 := hid hL
      clear hL HL8 C8
      clear f1 f2
      go_wp2_with fail
      refine (step_left HL9.out C9.out).mono ?_
      rintro e w11 ⟨rfl, hL⟩
      have HL10 := hid hL
      clear hL HL9 C9
      go_wp2_with fail
      refine (step_same HL10.out C10.out).mono ?_
      rintro e w12 ⟨rfl, hL⟩
      have HB := hid (mov_below HK0.out HK1.out hL (Keep.refl _ _) HPL.out)
      clear hL HL10 C10
      clear hof hoo
      generalize tx old = A at *
      generalize tx fresh = F at *
      go_wp2
      go_ret
      exact ⟨rfl, HB.out⟩
  · have ht1 : t ≠ 1 := by omega
    have ht2 : t ≠ 2 := by omega
    have C4 : Hid (∀ W c, DiskIs W c p (sC old kp tn t) → Calls Try.prog 25 #[.pointer (some ⟨p, 0, none⟩), .string ⟨#[98]⟩, .string (tx fresh)] W fun e w' => e = .returned (.int .i64 0) ∧ Left W c p (sD old fresh kp tn t) w') := by
      intro W c h
      have := write_any p c (sC old kp tn t) [98] fresh W h (by simp [sC, Ds.wt, tot]; omega) (by simp [sC])
      rw [w2_off old fresh kp tn t ht1] at this
      exact this
    have C5 : Hid (∀ W c, DiskIs W c p (sD old fresh kp tn t) → Calls Try.prog 15 #[.pointer (some ⟨p, 0, none⟩)] W fun e w' => e = .returned (.int .i64 0) ∧ Left W c p (sE old fresh kp tn t) w') := by
      intro W c h
      have := sync_any p c (sD old fresh kp tn t) W h rfl (by simp [sD, Ds.wt, tot]; omega)
      rw [y2] at this
      exact this
    have C6 : Hid (∀ W c, DiskIs W c p (sE old fresh kp tn t) → Calls Try.prog 28 #[.pointer (some ⟨p, 0, none⟩), .string ⟨#[98]⟩, .string ⟨#[97]⟩] W fun e w' => e = .returned (.int .i64 0) ∧ Left W c p (sF old fresh kp tn t) w') := by
      intro W c h
      have := move_any p c (sE old fresh kp tn t) [98] [97] W h (by simp [sE, Ds.wt, tot]; omega) (by simp [sE])
      rw [m_off old fresh kp tn t ht2] at this
      exact this
    have C7 : Hid (∀ W c, DiskIs W c p (sF old fresh kp tn t) → Calls Try.prog 15 #[.pointer (some ⟨p, 0, none⟩)] W fun e w' => e = .returned (.int .i64 0) ∧ Left W c p (sG fresh kp tn t) w') := by
      intro W c h
      have := sync_any p c (sF old fresh kp tn t) W h rfl (by simp [sF, Ds.wt, tot]; omega)
      rw [y3] at this
      exact this
    have C8 : Hid (∀ W c, DiskIs W c p (sG fresh kp tn t) → Calls Try.prog 18 #[.pointer (some ⟨p, 0, none⟩), .int .i64 kp, .int .i64 tn] W fun e w' => e = .returned (.tuple #[]) ∧ Left W c p (failD (sG fresh kp tn t) kp tn) w') := by
      intro W c h
      exact fail_any p c _ kp tn W h (by simp [sG, Ds.wt, tot]; omega)
    have C9 : Hid (∀ W c, DiskIs W c p (failD (sG fresh kp tn t) kp tn) → Calls Try.prog 19 #[.pointer (some ⟨p, 0, none⟩)] W fun e w' => e = .returned (.bool (failD (sG fresh kp tn t) kp tn).dn) ∧ Left W c p ({ (failD (sG fresh kp tn t) kp tn) with dn := false }) w') := by
      intro W c h
      exact up_any p c _ W h
    have C10 : Hid (∀ W c, DiskIs W c p ({ (failD (sG fresh kp tn t) kp tn) with dn := false } : Ds) → Calls Try.prog 20 #[.pointer (some ⟨p, 0, none⟩), .string ⟨#[97]⟩] W fun e w' => e = .returned (.tuple #[.string (tx fresh), .int .i64 0]) ∧ Keep (fun _ => False) W w') := by
      intro W c h
      have := read_any p c _ [97] W h
      rw [rd_up (failD (sG fresh kp tn t) kp tn) (dn_fail kp tn _) [97] ok97 fresh (by rw [now_fail kp tn _ rfl]; exact r_sG fresh kp tn t)] at this
      exact this
    generalize failD (sG fresh kp tn t) kp tn = s at C8 C9 C10
    clear ht ht1 ht2
    go_wp2_with fail
    refine (step_left HL5.out C4.out).mono ?_
    rintro e w7 ⟨rfl, hL⟩
    have HL6 := hid hL
    clear hL HL5 C4
    go_wp2_with fail
    refine (step_left HL6.out C5.out).mono ?_
    rintro e w8 ⟨rfl, hL⟩
    have HL7 := hid hL
    clear hL HL6 C5
    go_wp2_with fail
    refine (step_left HL7.out C6.out).mono ?_
    rintro e w9 ⟨rfl, hL⟩
    have HL8 := hid hL
    clear hL HL7 C6
    go_wp2_with fail
    refine (step_left HL8.out C7.out).mono ?_
    rintro e w10 ⟨rfl, hL⟩
    have HL9 := hid hL
    clear hL HL8 C7
    have hr := fb_at HL9.out HR1.out HPN.out
    have f1 := hr.cellAt (o := 1) rfl
    have f2 := hr.cellAt (o := 2) rfl
    clear hr
    go_wp2_with fail
    refine (step_left HL9.out C8.out).mono ?_
    rintro e w11 ⟨rfl, hL⟩
    have HL10 := hid hL
    clear hL HL9 C8
    clear f1 f2
    go_wp2_with fail
    refine (step_left HL10.out C9.out).mono ?_
    rintro e w12 ⟨rfl, hL⟩
    have HL11 := hid hL
    clear hL HL10 C9
    go_wp2_with fail
    refine (step_same HL11.out C10.out).mono ?_
    rintro e w13 ⟨rfl, hL⟩
    have HB := hid (mov_below HK0.out HK1.out hL (Keep.refl _ _) HPL.out)
    clear hL HL11 C10
    clear hof hoo
    generalize tx old = A at *
    generalize tx fresh = F at *
    go_wp2
    go_ret
    exact ⟨rfl, HB.out⟩
theorem diskMoves_walk (s0 s1 : ByteArray) (a kp tn : Int) (w : World) (h0 : s0.size ≤ 1048576) (h1 : s1.size ≤ 1048576) (ha : (Lit.int .i64 a).wf = true) :
    Calls Try.prog 6 #[.string s0, .string s1, .agg #[.int .i64 a, .int .i64 kp, .int .i64 tn]] w fun e w' => e = .returned (.bool true) ∧ Below w.heap.size w w' := by
  have := diskMoves_core s0.data.toList s1.data.toList a kp tn w (by simpa using h0) (by simpa using h1) ha
  rw [tx_of, tx_of] at this
  exact this
end Go.Proofs.Ytnlodlpjokkepab
