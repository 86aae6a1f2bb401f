/- The walk of the law WiresCuts. -/
import Derived.Test.YtfcchmjofejkhaaNetG
import Derived.Test.YtfcchmjofejkhaaWNFull
namespace Go.Proofs.Ytfcchmjofejkhaa
open Go.RowKit Go.Maps
set_option linter.unusedVariables false
set_option linter.unusedSimpArgs false

theorem idx7 {a b c d : Int} (ha : isN a = true) (hb : isN b = true) (hc : isN c = true) (hd : isN d = true) : (7 * a.toNat + b.toNat = 7 * c.toNat + d.toNat) ↔ (a = c ∧ b = d) := by
  simp [isN] at ha hb hc hd
  omega
/-- which ways are cut behind a cut -/
theorem cutC_at (ct : List Bool) (y x a b : Int) (hl : ct.length = 49) (ht : two y x = true) (ha : isN a = true) (hb : isN b = true) : cutAt (cutC ct y x) a b = (decide ((a = y ∧ b = x) ∨ (a = x ∧ b = y)) || cutAt ct a b) := by
  have hy : isN y = true := by simp [two] at ht; exact ht.1.1
  have hx : isN x = true := by simp [two] at ht; exact ht.1.2
  have i1 := idx7 ha hb hy hx
  have i2 := idx7 ha hb hx hy
  unfold cutAt cutC
  have hb1 : 7 * a.toNat + b.toNat < 49 := by simp [isN] at ha hb; omega
  rw [List.getD_eq_getElem?_getD, List.getD_eq_getElem?_getD, List.getElem?_set, List.getElem?_set]
  by_cases h2 : a = x ∧ b = y
  · rw [if_pos (i2.2 h2).symm, if_pos (by rw [List.length_set]; simp [isN] at hx hy; omega), decide_eq_true (.inr h2)]; rfl
  · rw [if_neg (fun e => h2 (i2.1 e.symm))]
    by_cases h1 : a = y ∧ b = x
    · rw [if_pos (i1.2 h1).symm, if_pos (by simp [isN] at hx hy; omega), decide_eq_true (.inl h1)]; rfl
    · rw [if_neg (fun e => h1 (i1.1 e.symm)), decide_eq_false (fun e => e.elim h1 h2), Bool.false_or]
def pkE (a b : Int) : Pk := ⟨a, b, ⟨#[]⟩⟩
def ct0 : List Bool := List.replicate 49 false
/-- a packet is sent -/
theorem send_ok (n : Net) (a b : Int) (ht : two a b = true) (hc : cutAt n.ct a b = false) (hl : n.L.length < 4096) : sendD n (pkE a b) = ({ n with L := n.L ++ [pkE a b], se := n.se + 1 }, true) := by
  unfold sendD
  exact if_pos ⟨ht, hc, hl⟩
theorem send_no (n : Net) (a b : Int) (hc : cutAt n.ct a b = true) : sendD n (pkE a b) = ({ n with se := n.se + 1, lo := n.lo + 1 }, false) := by
  unfold sendD
  exact if_neg (fun e => by have h1 : cutAt n.ct a b = false := e.2.1; rw [hc] at h1; cases h1)
theorem sendS {w0 W : World} {A : Nat → Prop} {p : Nat} {n n' : Net} {a b : Int} {r : Bool} (h : NSt w0 A p n W) (hs : sendD n (pkE a b) = (n', r)) (hse : n.se ≤ 1000) (hlo : n.lo ≤ 1000) : Calls Try.prog 13 #[.pointer (some ⟨p, 0, none⟩), .agg #[.int .i64 a, .int .i64 b, .string ⟨#[]⟩]] W fun e w' => e = .returned (.bool r) ∧ NSt w0 A p n' w' ∧ Keep (fun j => ¬ A j) W w' := stepA h fun P1 h1 => by
  have := send_any p P1 n (pkE a b) W h1 (by show (0 : Nat) ≤ _; omega) (by omega) (by omega)
  rw [hs] at this
  exact this
theorem cutS {w0 W : World} {A : Nat → Prop} {p : Nat} {n : Net} {a b : Int} (h : NSt w0 A p n W) (ht : two a b = true) (hlo : n.lo ≤ 1000) : Calls Try.prog 18 #[.pointer (some ⟨p, 0, none⟩), .int .i64 a, .int .i64 b] W fun e w' => e = .returned (.int .i64 ((n.L.length - (n.L.filter (fun x => !cutAt (cutC n.ct a b) x.fr x.tt)).length : Nat) : Int)) ∧ NSt w0 A p (loseD { n with ct := cutC n.ct a b } (fun x => cutAt (cutC n.ct a b) x.fr x.tt)) w' ∧ Keep (fun j => ¬ A j) W w' :=
  stepA h fun P1 h1 => ncut_some p P1 n a b W h1 (by omega) ht
theorem cutN {w0 W : World} {A : Nat → Prop} {p : Nat} {n : Net} {a b : Int} (h : NSt w0 A p n W) (ht : two a b = false) : Calls Try.prog 18 #[.pointer (some ⟨p, 0, none⟩), .int .i64 a, .int .i64 b] W fun e w' => e = .returned (.int .i64 0) ∧ NSt w0 A p n w' ∧ Keep (fun j => ¬ A j) W w' :=
  stepK h fun P1 h1 => ncut_none p a b W ht
theorem healS {w0 W : World} {A : Nat → Prop} {p : Nat} {n : Net} (h : NSt w0 A p n W) : Calls Try.prog 19 #[.pointer (some ⟨p, 0, none⟩)] W fun e w' => e = .returned (.tuple #[]) ∧ NSt w0 A p { n with ct := List.replicate 49 false } w' ∧ Keep (fun j => ¬ A j) W w' :=
  stepA h fun P1 h1 => heal_any p P1 n W h1
theorem lenS {w0 W : World} {A : Nat → Prop} {p : Nat} {n : Net} (h : NSt w0 A p n W) : Calls Try.prog 15 #[.pointer (some ⟨p, 0, none⟩)] W fun e w' => e = .returned (.int .i64 (n.L.length : Nat)) ∧ NSt w0 A p n w' ∧ Keep (fun j => ¬ A j) W w' :=
  stepK h fun P1 h1 => (nlen_any p P1 n W h1).mono fun e w' ⟨he, hw⟩ => ⟨he, hw ▸ Keep.refl _ _⟩

set_option maxRecDepth 100000 in
set_option maxHeartbeats 4000000 in
theorem cuts_zx (a0 b0 c0 x y z : Int) (w : World) (hx : (a0.tmod 7 + 7).tmod 7 = x) (hc : (b0.tmod 6 + 6).tmod 6 = y - x - 1 ∨ (b0.tmod 6 + 6).tmod 6 = y - x + 6) (hz : (c0.tmod 7 + 7).tmod 7 = z) (txy : two x y = true) (hzn : isN z = true) (hzx : (z != x) = false) :
    Calls Try.prog 7 #[.int .i64 a0, .int .i64 b0, .int .i64 c0] w fun e w' => e = .returned (.bool true) ∧ Below w.heap.size w w' := by
  have m1 := mod7 a0 7 (by omega)
  have m2 := mod7 b0 6 (by omega)
  have m3 := mod7 c0 7 (by omega)
  have u2 := up7 b0 6 (by omega)
  obtain ⟨hx0, hx7, hy0, hy7, hne⟩ := two_bounds txy
  have hw1 : wrap64 (a0.tmod 7 + 7) = a0.tmod 7 + 7 := IntWalk.wrap64_in _ (by omega)
  have hw2 : wrap64 (b0.tmod 6 + 6) = b0.tmod 6 + 6 := IntWalk.wrap64_in _ (by omega)
  have hw3 : wrap64 (c0.tmod 7 + 7) = c0.tmod 7 + 7 := IntWalk.wrap64_in _ (by omega)
  have hw4 : wrap64 (x + 1) = x + 1 := IntWalk.wrap64_in _ (by omega)
  generalize hcc : (b0.tmod 6 + 6).tmod 6 = c at *
  have hw5 : wrap64 (x + 1 + c) = x + 1 + c := IntWalk.wrap64_in _ (by omega)
  have hye : (x + 1 + c).tmod 7 = y := by rw [Int.tmod_eq_emod_of_nonneg (by omega)]; omega
  have tyx : two y x = true := by simp [two, isN]; omega
  have nx : isN x = true := by simp [isN]; omega
  have ny : isN y = true := by simp [isN]; omega
  have txx : two x x = false := by simp [two]
  have tx7 : two x 7 = false := by simp [two, isN]
  have hl49 : ct0.length = 49 := List.length_replicate
  have z0 : ∀ a b, cutAt ct0 a b = false := cut0
  have kxy : cutAt (cutC ct0 y x) x y = true := by rw [cutC_at ct0 y x x y hl49 tyx nx ny]; simp
  have kyx : cutAt (cutC ct0 y x) y x = true := by rw [cutC_at ct0 y x y x hl49 tyx ny nx]; simp
  have S1 : sendD (⟨[], ct0, 0, 0, 0⟩ : Net) (pkE x y) = ((⟨[pkE x y], ct0, 1, 0, 0⟩ : Net), true) := send_ok _ x y txy (z0 _ _) (by decide)
  have S2 : sendD (⟨[pkE x y], ct0, 1, 0, 0⟩ : Net) (pkE y x) = ((⟨[pkE x y, pkE y x], ct0, 2, 0, 0⟩ : Net), true) := send_ok _ y x tyx (z0 _ _) (by show 1 < 4096; omega)
  have F1 : ((⟨[pkE x y, pkE y x], ct0, 2, 0, 0⟩ : Net).L.filter (fun q => !cutAt (cutC ct0 y x) q.fr q.tt)) = [] := by simp [pkE, List.filter, kxy, kyx]
  have S5 : loseD { (⟨[pkE x y, pkE y x], ct0, 2, 0, 0⟩ : Net) with ct := cutC ct0 y x } (fun q => cutAt (cutC ct0 y x) q.fr q.tt) = (⟨[], (cutC ct0 y x), 2, 0, 2⟩ : Net) := by unfold loseD; rw [show (({ (⟨[pkE x y, pkE y x], ct0, 2, 0, 0⟩ : Net) with ct := cutC ct0 y x } : Net).L.filter (fun q => !cutAt (cutC ct0 y x) q.fr q.tt)) = [] from F1]; rfl
  have S6 : sendD (⟨[], (cutC ct0 y x), 2, 0, 2⟩ : Net) (pkE x y) = ((⟨[], (cutC ct0 y x), 3, 0, 3⟩ : Net), false) := send_no _ x y kxy
  have S7 : sendD (⟨[], (cutC ct0 y x), 3, 0, 3⟩ : Net) (pkE y x) = ((⟨[], (cutC ct0 y x), 4, 0, 4⟩ : Net), false) := send_no _ y x kyx
  have S10 : sendD (⟨[], ct0, 4, 0, 4⟩ : Net) (pkE x y) = ((⟨[pkE x y], ct0, 5, 0, 4⟩ : Net), true) := send_ok _ x y txy (z0 _ _) (by show 0 < 4096; omega)
  have S11 : sendD (⟨[pkE x y], ct0, 5, 0, 4⟩ : Net) (pkE y x) = ((⟨[pkE x y, pkE y x], ct0, 6, 0, 4⟩ : Net), true) := send_ok _ y x tyx (z0 _ _) (by show 1 < 4096; omega)
  have C1 : Hid (∀ W : World, NSt w (fun _ => False) w.heap.size (⟨[], ct0, 0, 0, 0⟩ : Net) W → Calls Try.prog 13 #[.pointer (some ⟨w.heap.size, 0, none⟩), .agg #[.int .i64 x, .int .i64 y, .string ⟨#[]⟩]] W fun e w' => e = .returned (.bool true) ∧ NSt w (fun _ => False) w.heap.size (⟨[pkE x y], ct0, 1, 0, 0⟩ : Net) w' ∧ Keep (fun j => ¬ False) W w') := fun W h => sendS h S1 (by simp only; omega) (by simp only; omega)
  have C2 : Hid (∀ W : World, NSt w (fun _ => False) w.heap.size (⟨[pkE x y], ct0, 1, 0, 0⟩ : Net) W → Calls Try.prog 13 #[.pointer (some ⟨w.heap.size, 0, none⟩), .agg #[.int .i64 y, .int .i64 x, .string ⟨#[]⟩]] W fun e w' => e = .returned (.bool true) ∧ NSt w (fun _ => False) w.heap.size (⟨[pkE x y, pkE y x], ct0, 2, 0, 0⟩ : Net) w' ∧ Keep (fun j => ¬ False) W w') := fun W h => sendS h S2 (by simp only; omega) (by simp only; omega)
  have C5 : Hid (∀ W : World, NSt w (fun _ => False) w.heap.size (⟨[pkE x y, pkE y x], ct0, 2, 0, 0⟩ : Net) W → Calls Try.prog 18 #[.pointer (some ⟨w.heap.size, 0, none⟩), .int .i64 y, .int .i64 x] W fun e w' => e = .returned (.int .i64 2) ∧ NSt w (fun _ => False) w.heap.size (⟨[], (cutC ct0 y x), 2, 0, 2⟩ : Net) w' ∧ Keep (fun j => ¬ False) W w') := fun W h => by
    have h9 := cutS (a := y) (b := x) h tyx (by show (0 : Nat) ≤ _; omega)
    rw [show ((⟨[pkE x y, pkE y x], ct0, 2, 0, 0⟩ : Net).L.filter (fun q => !cutAt (cutC (⟨[pkE x y, pkE y x], ct0, 2, 0, 0⟩ : Net).ct y x) q.fr q.tt)) = [] from F1, show loseD { (⟨[pkE x y, pkE y x], ct0, 2, 0, 0⟩ : Net) with ct := cutC (⟨[pkE x y, pkE y x], ct0, 2, 0, 0⟩ : Net).ct y x } (fun q => cutAt (cutC (⟨[pkE x y, pkE y x], ct0, 2, 0, 0⟩ : Net).ct y x) q.fr q.tt) = _ from S5] at h9
    exact h9
  have C6 : Hid (∀ W : World, NSt w (fun _ => False) w.heap.size (⟨[], (cutC ct0 y x), 2, 0, 2⟩ : Net) W → Calls Try.prog 13 #[.pointer (some ⟨w.heap.size, 0, none⟩), .agg #[.int .i64 x, .int .i64 y, .string ⟨#[]⟩]] W fun e w' => e = .returned (.bool false) ∧ NSt w (fun _ => False) w.heap.size (⟨[], (cutC ct0 y x), 3, 0, 3⟩ : Net) w' ∧ Keep (fun j => ¬ False) W w') := fun W h => sendS h S6 (by simp only; omega) (by simp only; omega)
  have C7 : Hid (∀ W : World, NSt w (fun _ => False) w.heap.size (⟨[], (cutC ct0 y x), 3, 0, 3⟩ : Net) W → Calls Try.prog 13 #[.pointer (some ⟨w.heap.size, 0, none⟩), .agg #[.int .i64 y, .int .i64 x, .string ⟨#[]⟩]] W fun e w' => e = .returned (.bool false) ∧ NSt w (fun _ => False) w.heap.size (⟨[], (cutC ct0 y x), 4, 0, 4⟩ : Net) w' ∧ Keep (fun j => ¬ False) W w') := fun W h => sendS h S7 (by simp only; omega) (by simp only; omega)
  have C8 : Hid (∀ W : World, NSt w (fun _ => False) w.heap.size (⟨[], (cutC ct0 y x), 4, 0, 4⟩ : Net) W → Calls Try.prog 18 #[.pointer (some ⟨w.heap.size, 0, none⟩), .int .i64 x, .int .i64 x] W fun e w' => e = .returned (.int .i64 0) ∧ NSt w (fun _ => False) w.heap.size (⟨[], (cutC ct0 y x), 4, 0, 4⟩ : Net) w' ∧ Keep (fun j => ¬ False) W w') := fun W h => cutN h txx
  have C9 : Hid (∀ W : World, NSt w (fun _ => False) w.heap.size (⟨[], (cutC ct0 y x), 4, 0, 4⟩ : Net) W → Calls Try.prog 18 #[.pointer (some ⟨w.heap.size, 0, none⟩), .int .i64 x, .int .i64 7] W fun e w' => e = .returned (.int .i64 0) ∧ NSt w (fun _ => False) w.heap.size (⟨[], (cutC ct0 y x), 4, 0, 4⟩ : Net) w' ∧ Keep (fun j => ¬ False) W w') := fun W h => cutN h tx7
  have CL : Hid (∀ W : World, NSt w (fun _ => False) w.heap.size (⟨[], (cutC ct0 y x), 4, 0, 4⟩ : Net) W → Calls Try.prog 15 #[.pointer (some ⟨w.heap.size, 0, none⟩)] W fun e w' => e = .returned (.int .i64 0) ∧ NSt w (fun _ => False) w.heap.size (⟨[], (cutC ct0 y x), 4, 0, 4⟩ : Net) w' ∧ Keep (fun j => ¬ False) W w') := fun W h => lenS h
  have CH : Hid (∀ W : World, NSt w (fun _ => False) w.heap.size (⟨[], (cutC ct0 y x), 4, 0, 4⟩ : Net) W → Calls Try.prog 19 #[.pointer (some ⟨w.heap.size, 0, none⟩)] W fun e w' => e = .returned (.tuple #[]) ∧ NSt w (fun _ => False) w.heap.size (⟨[], ct0, 4, 0, 4⟩ : Net) w' ∧ Keep (fun j => ¬ False) W w') := fun W h => healS h
  have CY : Hid (∀ W : World, NSt w (fun _ => False) w.heap.size (⟨[], ct0, 4, 0, 4⟩ : Net) W → Calls Try.prog 13 #[.pointer (some ⟨w.heap.size, 0, none⟩), .agg #[.int .i64 x, .int .i64 y, .string ⟨#[]⟩]] W fun e w' => e = .returned (.bool true) ∧ NSt w (fun _ => False) w.heap.size (⟨[pkE x y], ct0, 5, 0, 4⟩ : Net) w' ∧ Keep (fun j => ¬ False) W w') := fun W h => sendS h S10 (by simp only; omega) (by simp only; omega)
  have CZ : Hid (∀ W : World, NSt w (fun _ => False) w.heap.size (⟨[pkE x y], ct0, 5, 0, 4⟩ : Net) W → Calls Try.prog 13 #[.pointer (some ⟨w.heap.size, 0, none⟩), .agg #[.int .i64 y, .int .i64 x, .string ⟨#[]⟩]] W fun e w' => e = .returned (.bool true) ∧ NSt w (fun _ => False) w.heap.size (⟨[pkE x y, pkE y x], ct0, 6, 0, 4⟩ : Net) w' ∧ Keep (fun j => ¬ False) W w') := fun W h => sendS h S11 (by simp only; omega) (by simp only; omega)
  have NW := hid (newA w)
  have AW := hid (fun W => awake8 W)
  clear S1 S2 S5 S6 S7 S10 S11 F1 kxy kyx z0 hl49 txx tx7 nx ny tyx txy hzn m1 m2 m3 u2 hc
  go_enter Try.func7, Try.ntmps7
  go_wp2_with fail
  refine NW.out.mono ?_
  rintro e w1 ⟨rfl, h1⟩
  have H1 := hid h1
  clear h1 NW
  go_wp2_with fail
  refine (AW.out _).mono ?_
  rintro e w2 ⟨rfl, k2⟩
  have H : Hid (NSt w (fun _ => False) w.heap.size (⟨[], ct0, 0, 0, 0⟩ : Net) w2) := H1.out.keep k2
  clear k2 H1 AW
  go_wp2_with fail
  refine (C1.out _ H.out).mono ?_
  rintro e v0 ⟨rfl, h9, _⟩
  replace H := hid h9
  clear h9 C1
  go_wp2_with fail
  refine (C2.out _ H.out).mono ?_
  rintro e v1 ⟨rfl, h9, _⟩
  replace H := hid h9
  clear h9 C2
  go_wp2_with fail
  refine (C5.out _ H.out).mono ?_
  rintro e v2 ⟨rfl, h9, _⟩
  replace H := hid h9
  clear h9 C5
  go_wp2_with fail
  refine (C6.out _ H.out).mono ?_
  rintro e v3 ⟨rfl, h9, _⟩
  replace H := hid h9
  clear h9 C6
  go_wp2_with fail
  refine (C7.out _ H.out).mono ?_
  rintro e v4 ⟨rfl, h9, _⟩
  replace H := hid h9
  clear h9 C7
  go_wp2_with fail
  refine (C8.out _ H.out).mono ?_
  rintro e v5 ⟨rfl, h9, _⟩
  replace H := hid h9
  clear h9 C8
  go_wp2_with fail
  refine (C9.out _ H.out).mono ?_
  rintro e v6 ⟨rfl, h9, _⟩
  replace H := hid h9
  clear h9 C9
  go_wp2_with fail
  refine (CL.out _ H.out).mono ?_
  rintro e v7 ⟨rfl, h9, _⟩
  replace H := hid h9
  clear h9 CL
  go_wp2_with fail
  refine (CH.out _ H.out).mono ?_
  rintro e v8 ⟨rfl, h9, _⟩
  replace H := hid h9
  clear h9 CH
  go_wp2_with fail
  refine (CY.out _ H.out).mono ?_
  rintro e v9 ⟨rfl, h9, _⟩
  replace H := hid h9
  clear h9 CY
  go_wp2_with fail
  refine (CZ.out _ H.out).mono ?_
  rintro e v10 ⟨rfl, h9, _⟩
  replace H := hid h9
  clear h9 CZ
  have HK := hid H.out.kp
  clear H
  go_wp2
  go_ret
  exact ⟨rfl, keep_below HK.out (fun _ _ h => h) (Nat.le_refl _)⟩
set_option maxRecDepth 100000 in
set_option maxHeartbeats 4000000 in
theorem cuts_zy (a0 b0 c0 x y z : Int) (w : World) (hx : (a0.tmod 7 + 7).tmod 7 = x) (hc : (b0.tmod 6 + 6).tmod 6 = y - x - 1 ∨ (b0.tmod 6 + 6).tmod 6 = y - x + 6) (hz : (c0.tmod 7 + 7).tmod 7 = z) (txy : two x y = true) (hzn : isN z = true) (hzx : (z != x) = true) (hzy : (z != y) = false) :
    Calls Try.prog 7 #[.int .i64 a0, .int .i64 b0, .int .i64 c0] w fun e w' => e = .returned (.bool true) ∧ Below w.heap.size w w' := by
  have m1 := mod7 a0 7 (by omega)
  have m2 := mod7 b0 6 (by omega)
  have m3 := mod7 c0 7 (by omega)
  have u2 := up7 b0 6 (by omega)
  obtain ⟨hx0, hx7, hy0, hy7, hne⟩ := two_bounds txy
  have hw1 : wrap64 (a0.tmod 7 + 7) = a0.tmod 7 + 7 := IntWalk.wrap64_in _ (by omega)
  have hw2 : wrap64 (b0.tmod 6 + 6) = b0.tmod 6 + 6 := IntWalk.wrap64_in _ (by omega)
  have hw3 : wrap64 (c0.tmod 7 + 7) = c0.tmod 7 + 7 := IntWalk.wrap64_in _ (by omega)
  have hw4 : wrap64 (x + 1) = x + 1 := IntWalk.wrap64_in _ (by omega)
  generalize hcc : (b0.tmod 6 + 6).tmod 6 = c at *
  have hw5 : wrap64 (x + 1 + c) = x + 1 + c := IntWalk.wrap64_in _ (by omega)
  have hye : (x + 1 + c).tmod 7 = y := by rw [Int.tmod_eq_emod_of_nonneg (by omega)]; omega
  have tyx : two y x = true := by simp [two, isN]; omega
  have nx : isN x = true := by simp [isN]; omega
  have ny : isN y = true := by simp [isN]; omega
  have txx : two x x = false := by simp [two]
  have tx7 : two x 7 = false := by simp [two, isN]
  have hl49 : ct0.length = 49 := List.length_replicate
  have z0 : ∀ a b, cutAt ct0 a b = false := cut0
  have kxy : cutAt (cutC ct0 y x) x y = true := by rw [cutC_at ct0 y x x y hl49 tyx nx ny]; simp
  have kyx : cutAt (cutC ct0 y x) y x = true := by rw [cutC_at ct0 y x y x hl49 tyx ny nx]; simp
  have S1 : sendD (⟨[], ct0, 0, 0, 0⟩ : Net) (pkE x y) = ((⟨[pkE x y], ct0, 1, 0, 0⟩ : Net), true) := send_ok _ x y txy (z0 _ _) (by decide)
  have S2 : sendD (⟨[pkE x y], ct0, 1, 0, 0⟩ : Net) (pkE y x) = ((⟨[pkE x y, pkE y x], ct0, 2, 0, 0⟩ : Net), true) := send_ok _ y x tyx (z0 _ _) (by show 1 < 4096; omega)
  have F1 : ((⟨[pkE x y, pkE y x], ct0, 2, 0, 0⟩ : Net).L.filter (fun q => !cutAt (cutC ct0 y x) q.fr q.tt)) = [] := by simp [pkE, List.filter, kxy, kyx]
  have S5 : loseD { (⟨[pkE x y, pkE y x], ct0, 2, 0, 0⟩ : Net) with ct := cutC ct0 y x } (fun q => cutAt (cutC ct0 y x) q.fr q.tt) = (⟨[], (cutC ct0 y x), 2, 0, 2⟩ : Net) := by unfold loseD; rw [show (({ (⟨[pkE x y, pkE y x], ct0, 2, 0, 0⟩ : Net) with ct := cutC ct0 y x } : Net).L.filter (fun q => !cutAt (cutC ct0 y x) q.fr q.tt)) = [] from F1]; rfl
  have S6 : sendD (⟨[], (cutC ct0 y x), 2, 0, 2⟩ : Net) (pkE x y) = ((⟨[], (cutC ct0 y x), 3, 0, 3⟩ : Net), false) := send_no _ x y kxy
  have S7 : sendD (⟨[], (cutC ct0 y x), 3, 0, 3⟩ : Net) (pkE y x) = ((⟨[], (cutC ct0 y x), 4, 0, 4⟩ : Net), false) := send_no _ y x kyx
  have S10 : sendD (⟨[], ct0, 4, 0, 4⟩ : Net) (pkE x y) = ((⟨[pkE x y], ct0, 5, 0, 4⟩ : Net), true) := send_ok _ x y txy (z0 _ _) (by show 0 < 4096; omega)
  have S11 : sendD (⟨[pkE x y], ct0, 5, 0, 4⟩ : Net) (pkE y x) = ((⟨[pkE x y, pkE y x], ct0, 6, 0, 4⟩ : Net), true) := send_ok _ y x tyx (z0 _ _) (by show 1 < 4096; omega)
  have C1 : Hid (∀ W : World, NSt w (fun _ => False) w.heap.size (⟨[], ct0, 0, 0, 0⟩ : Net) W → Calls Try.prog 13 #[.pointer (some ⟨w.heap.size, 0, none⟩), .agg #[.int .i64 x, .int .i64 y, .string ⟨#[]⟩]] W fun e w' => e = .returned (.bool true) ∧ NSt w (fun _ => False) w.heap.size (⟨[pkE x y], ct0, 1, 0, 0⟩ : Net) w' ∧ Keep (fun j => ¬ False) W w') := fun W h => sendS h S1 (by simp only; omega) (by simp only; omega)
  have C2 : Hid (∀ W : World, NSt w (fun _ => False) w.heap.size (⟨[pkE x y], ct0, 1, 0, 0⟩ : Net) W → Calls Try.prog 13 #[.pointer (some ⟨w.heap.size, 0, none⟩), .agg #[.int .i64 y, .int .i64 x, .string ⟨#[]⟩]] W fun e w' => e = .returned (.bool true) ∧ NSt w (fun _ => False) w.heap.size (⟨[pkE x y, pkE y x], ct0, 2, 0, 0⟩ : Net) w' ∧ Keep (fun j => ¬ False) W w') := fun W h => sendS h S2 (by simp only; omega) (by simp only; omega)
  have C5 : Hid (∀ W : World, NSt w (fun _ => False) w.heap.size (⟨[pkE x y, pkE y x], ct0, 2, 0, 0⟩ : Net) W → Calls Try.prog 18 #[.pointer (some ⟨w.heap.size, 0, none⟩), .int .i64 y, .int .i64 x] W fun e w' => e = .returned (.int .i64 2) ∧ NSt w (fun _ => False) w.heap.size (⟨[], (cutC ct0 y x), 2, 0, 2⟩ : Net) w' ∧ Keep (fun j => ¬ False) W w') := fun W h => by
    have h9 := cutS (a := y) (b := x) h tyx (by show (0 : Nat) ≤ _; omega)
    rw [show ((⟨[pkE x y, pkE y x], ct0, 2, 0, 0⟩ : Net).L.filter (fun q => !cutAt (cutC (⟨[pkE x y, pkE y x], ct0, 2, 0, 0⟩ : Net).ct y x) q.fr q.tt)) = [] from F1, show loseD { (⟨[pkE x y, pkE y x], ct0, 2, 0, 0⟩ : Net) with ct := cutC (⟨[pkE x y, pkE y x], ct0, 2, 0, 0⟩ : Net).ct y x } (fun q => cutAt (cutC (⟨[pkE x y, pkE y x], ct0, 2, 0, 0⟩ : Net).ct y x) q.fr q.tt) = _ from S5] at h9
    exact h9
  have C6 : Hid (∀ W : World, NSt w (fun _ => False) w.heap.size (⟨[], (cutC ct0 y x), 2, 0, 2⟩ : Net) W → Calls Try.prog 13 #[.pointer (some ⟨w.heap.size, 0, none⟩), .agg #[.int .i64 x, .int .i64 y, .string ⟨#[]⟩]] W fun e w' => e = .returned (.bool false) ∧ NSt w (fun _ => False) w.heap.size (⟨[], (cutC ct0 y x), 3, 0, 3⟩ : Net) w' ∧ Keep (fun j => ¬ False) W w') := fun W h => sendS h S6 (by simp only; omega) (by simp only; omega)
  have C7 : Hid (∀ W : World, NSt w (fun _ => False) w.heap.size (⟨[], (cutC ct0 y x), 3, 0, 3⟩ : Net) W → Calls Try.prog 13 #[.pointer (some ⟨w.heap.size, 0, none⟩), .agg #[.int .i64 y, .int .i64 x, .string ⟨#[]⟩]] W fun e w' => e = .returned (.bool false) ∧ NSt w (fun _ => False) w.heap.size (⟨[], (cutC ct0 y x), 4, 0, 4⟩ : Net) w' ∧ Keep (fun j => ¬ False) W w') := fun W h => sendS h S7 (by simp only; omega) (by simp only; omega)
  have C8 : Hid (∀ W : World, NSt w (fun _ => False) w.heap.size (⟨[], (cutC ct0 y x), 4, 0, 4⟩ : Net) W → Calls Try.prog 18 #[.pointer (some ⟨w.heap.size, 0, none⟩), .int .i64 x, .int .i64 x] W fun e w' => e = .returned (.int .i64 0) ∧ NSt w (fun _ => False) w.heap.size (⟨[], (cutC ct0 y x), 4, 0, 4⟩ : Net) w' ∧ Keep (fun j => ¬ False) W w') := fun W h => cutN h txx
  have C9 : Hid (∀ W : World, NSt w (fun _ => False) w.heap.size (⟨[], (cutC ct0 y x), 4, 0, 4⟩ : Net) W → Calls Try.prog 18 #[.pointer (some ⟨w.heap.size, 0, none⟩), .int .i64 x, .int .i64 7] W fun e w' => e = .returned (.int .i64 0) ∧ NSt w (fun _ => False) w.heap.size (⟨[], (cutC ct0 y x), 4, 0, 4⟩ : Net) w' ∧ Keep (fun j => ¬ False) W w') := fun W h => cutN h tx7
  have CL : Hid (∀ W : World, NSt w (fun _ => False) w.heap.size (⟨[], (cutC ct0 y x), 4, 0, 4⟩ : Net) W → Calls Try.prog 15 #[.pointer (some ⟨w.heap.size, 0, none⟩)] W fun e w' => e = .returned (.int .i64 0) ∧ NSt w (fun _ => False) w.heap.size (⟨[], (cutC ct0 y x), 4, 0, 4⟩ : Net) w' ∧ Keep (fun j => ¬ False) W w') := fun W h => lenS h
  have CH : Hid (∀ W : World, NSt w (fun _ => False) w.heap.size (⟨[], (cutC ct0 y x), 4, 0, 4⟩ : Net) W → Calls Try.prog 19 #[.pointer (some ⟨w.heap.size, 0, none⟩)] W fun e w' => e = .returned (.tuple #[]) ∧ NSt w (fun _ => False) w.heap.size (⟨[], ct0, 4, 0, 4⟩ : Net) w' ∧ Keep (fun j => ¬ False) W w') := fun W h => healS h
  have CY : Hid (∀ W : World, NSt w (fun _ => False) w.heap.size (⟨[], ct0, 4, 0, 4⟩ : Net) W → Calls Try.prog 13 #[.pointer (some ⟨w.heap.size, 0, none⟩), .agg #[.int .i64 x, .int .i64 y, .string ⟨#[]⟩]] W fun e w' => e = .returned (.bool true) ∧ NSt w (fun _ => False) w.heap.size (⟨[pkE x y], ct0, 5, 0, 4⟩ : Net) w' ∧ Keep (fun j => ¬ False) W w') := fun W h => sendS h S10 (by simp only; omega) (by simp only; omega)
  have CZ : Hid (∀ W : World, NSt w (fun _ => False) w.heap.size (⟨[pkE x y], ct0, 5, 0, 4⟩ : Net) W → Calls Try.prog 13 #[.pointer (some ⟨w.heap.size, 0, none⟩), .agg #[.int .i64 y, .int .i64 x, .string ⟨#[]⟩]] W fun e w' => e = .returned (.bool true) ∧ NSt w (fun _ => False) w.heap.size (⟨[pkE x y, pkE y x], ct0, 6, 0, 4⟩ : Net) w' ∧ Keep (fun j => ¬ False) W w') := fun W h => sendS h S11 (by simp only; omega) (by simp only; omega)
  have NW := hid (newA w)
  have AW := hid (fun W => awake8 W)
  clear S1 S2 S5 S6 S7 S10 S11 F1 kxy kyx z0 hl49 txx tx7 nx ny tyx txy hzn m1 m2 m3 u2 hc
  go_enter Try.func7, Try.ntmps7
  go_wp2_with fail
  refine NW.out.mono ?_
  rintro e w1 ⟨rfl, h1⟩
  have H1 := hid h1
  clear h1 NW
  go_wp2_with fail
  refine (AW.out _).mono ?_
  rintro e w2 ⟨rfl, k2⟩
  have H : Hid (NSt w (fun _ => False) w.heap.size (⟨[], ct0, 0, 0, 0⟩ : Net) w2) := H1.out.keep k2
  clear k2 H1 AW
  go_wp2_with fail
  refine (C1.out _ H.out).mono ?_
  rintro e v0 ⟨rfl, h9, _⟩
  replace H := hid h9
  clear h9 C1
  go_wp2_with fail
  refine (C2.out _ H.out).mono ?_
  rintro e v1 ⟨rfl, h9, _⟩
  replace H := hid h9
  clear h9 C2
  go_wp2_with fail
  refine (C5.out _ H.out).mono ?_
  rintro e v2 ⟨rfl, h9, _⟩
  replace H := hid h9
  clear h9 C5
  go_wp2_with fail
  refine (C6.out _ H.out).mono ?_
  rintro e v3 ⟨rfl, h9, _⟩
  replace H := hid h9
  clear h9 C6
  go_wp2_with fail
  refine (C7.out _ H.out).mono ?_
  rintro e v4 ⟨rfl, h9, _⟩
  replace H := hid h9
  clear h9 C7
  go_wp2_with fail
  refine (C8.out _ H.out).mono ?_
  rintro e v5 ⟨rfl, h9, _⟩
  replace H := hid h9
  clear h9 C8
  go_wp2_with fail
  refine (C9.out _ H.out).mono ?_
  rintro e v6 ⟨rfl, h9, _⟩
  replace H := hid h9
  clear h9 C9
  go_wp2_with fail
  refine (CL.out _ H.out).mono ?_
  rintro e v7 ⟨rfl, h9, _⟩
  replace H := hid h9
  clear h9 CL
  go_wp2_with fail
  refine (CH.out _ H.out).mono ?_
  rintro e v8 ⟨rfl, h9, _⟩
  replace H := hid h9
  clear h9 CH
  go_wp2_with fail
  refine (CY.out _ H.out).mono ?_
  rintro e v9 ⟨rfl, h9, _⟩
  replace H := hid h9
  clear h9 CY
  go_wp2_with fail
  refine (CZ.out _ H.out).mono ?_
  rintro e v10 ⟨rfl, h9, _⟩
  replace H := hid h9
  clear h9 CZ
  have HK := hid H.out.kp
  clear H
  go_wp2
  go_ret
  exact ⟨rfl, keep_below HK.out (fun _ _ h => h) (Nat.le_refl _)⟩
set_option maxRecDepth 100000 in
set_option maxHeartbeats 4000000 in
theorem cuts_oth (a0 b0 c0 x y z : Int) (w : World) (hx : (a0.tmod 7 + 7).tmod 7 = x) (hc : (b0.tmod 6 + 6).tmod 6 = y - x - 1 ∨ (b0.tmod 6 + 6).tmod 6 = y - x + 6) (hz : (c0.tmod 7 + 7).tmod 7 = z) (txy : two x y = true) (hzn : isN z = true) (hzx : (z != x) = true) (hzy : (z != y) = true) :
    Calls Try.prog 7 #[.int .i64 a0, .int .i64 b0, .int .i64 c0] w fun e w' => e = .returned (.bool true) ∧ Below w.heap.size w w' := by
  have m1 := mod7 a0 7 (by omega)
  have m2 := mod7 b0 6 (by omega)
  have m3 := mod7 c0 7 (by omega)
  have u2 := up7 b0 6 (by omega)
  obtain ⟨hx0, hx7, hy0, hy7, hne⟩ := two_bounds txy
  have hw1 : wrap64 (a0.tmod 7 + 7) = a0.tmod 7 + 7 := IntWalk.wrap64_in _ (by omega)
  have hw2 : wrap64 (b0.tmod 6 + 6) = b0.tmod 6 + 6 := IntWalk.wrap64_in _ (by omega)
  have hw3 : wrap64 (c0.tmod 7 + 7) = c0.tmod 7 + 7 := IntWalk.wrap64_in _ (by omega)
  have hw4 : wrap64 (x + 1) = x + 1 := IntWalk.wrap64_in _ (by omega)
  generalize hcc : (b0.tmod 6 + 6).tmod 6 = c at *
  have hw5 : wrap64 (x + 1 + c) = x + 1 + c := IntWalk.wrap64_in _ (by omega)
  have hye : (x + 1 + c).tmod 7 = y := by rw [Int.tmod_eq_emod_of_nonneg (by omega)]; omega
  have tyx : two y x = true := by simp [two, isN]; omega
  have nx : isN x = true := by simp [isN]; omega
  have ny : isN y = true := by simp [isN]; omega
  have txx : two x x = false := by simp [two]
  have tx7 : two x 7 = false := by simp [two, isN]
  have hl49 : ct0.length = 49 := List.length_replicate
  have z0 : ∀ a b, cutAt ct0 a b = false := cut0
  have kxy : cutAt (cutC ct0 y x) x y = true := by rw [cutC_at ct0 y x x y hl49 tyx nx ny]; simp
  have kyx : cutAt (cutC ct0 y x) y x = true := by rw [cutC_at ct0 y x y x hl49 tyx ny nx]; simp
  have ezx : z ≠ x := bne_iff_ne.1 hzx
  have ezy : z ≠ y := bne_iff_ne.1 hzy
  have hz07 : 0 ≤ z ∧ z < 7 := by simp [isN] at hzn; omega
  have nz : isN z = true := hzn
  have txz : two x z = true := by simp [two, isN]; omega
  have tzy : two z y = true := by simp [two, isN]; omega
  have tyz : two y z = true := by simp [two, isN]; omega
  have kxz : cutAt (cutC ct0 y x) x z = false := by rw [cutC_at ct0 y x x z hl49 tyx nx nz, z0, decide_eq_false (by omega)]; rfl
  have kzy : cutAt (cutC ct0 y x) z y = false := by rw [cutC_at ct0 y x z y hl49 tyx nz ny, z0, decide_eq_false (by omega)]; rfl
  have kyz : cutAt (cutC ct0 y x) y z = false := by rw [cutC_at ct0 y x y z hl49 tyx ny nz, z0, decide_eq_false (by omega)]; rfl
  clear ezx ezy hz07
  have S1 : sendD (⟨[], ct0, 0, 0, 0⟩ : Net) (pkE x y) = ((⟨[pkE x y], ct0, 1, 0, 0⟩ : Net), true) := send_ok _ x y txy (z0 _ _) (by decide)
  have S2 : sendD (⟨[pkE x y], ct0, 1, 0, 0⟩ : Net) (pkE y x) = ((⟨[pkE x y, pkE y x], ct0, 2, 0, 0⟩ : Net), true) := send_ok _ y x tyx (z0 _ _) (by show 1 < 4096; omega)
  have S3 : sendD (⟨[pkE x y, pkE y x], ct0, 2, 0, 0⟩ : Net) (pkE x z) = ((⟨[pkE x y, pkE y x, pkE x z], ct0, 3, 0, 0⟩ : Net), true) := send_ok _ x z txz (z0 _ _) (by show 2 < 4096; omega)
  have S4 : sendD (⟨[pkE x y, pkE y x, pkE x z], ct0, 3, 0, 0⟩ : Net) (pkE z y) = ((⟨[pkE x y, pkE y x, pkE x z, pkE z y], ct0, 4, 0, 0⟩ : Net), true) := send_ok _ z y tzy (z0 _ _) (by show 3 < 4096; omega)
  have F1 : ((⟨[pkE x y, pkE y x, pkE x z, pkE z y], ct0, 4, 0, 0⟩ : Net).L.filter (fun q => !cutAt (cutC ct0 y x) q.fr q.tt)) = [pkE x z, pkE z y] := by simp [pkE, List.filter, kxy, kyx, kxz, kzy]
  have S5 : loseD { (⟨[pkE x y, pkE y x, pkE x z, pkE z y], ct0, 4, 0, 0⟩ : Net) with ct := cutC ct0 y x } (fun q => cutAt (cutC ct0 y x) q.fr q.tt) = (⟨[pkE x z, pkE z y], (cutC ct0 y x), 4, 0, 2⟩ : Net) := by unfold loseD; rw [show (({ (⟨[pkE x y, pkE y x, pkE x z, pkE z y], ct0, 4, 0, 0⟩ : Net) with ct := cutC ct0 y x } : Net).L.filter (fun q => !cutAt (cutC ct0 y x) q.fr q.tt)) = [pkE x z, pkE z y] from F1]; rfl
  have S6 : sendD (⟨[pkE x z, pkE z y], (cutC ct0 y x), 4, 0, 2⟩ : Net) (pkE x y) = ((⟨[pkE x z, pkE z y], (cutC ct0 y x), 5, 0, 3⟩ : Net), false) := send_no _ x y kxy
  have S7 : sendD (⟨[pkE x z, pkE z y], (cutC ct0 y x), 5, 0, 3⟩ : Net) (pkE y x) = ((⟨[pkE x z, pkE z y], (cutC ct0 y x), 6, 0, 4⟩ : Net), false) := send_no _ y x kyx
  have S8 : sendD (⟨[pkE x z, pkE z y], (cutC ct0 y x), 6, 0, 4⟩ : Net) (pkE y z) = ((⟨[pkE x z, pkE z y, pkE y z], (cutC ct0 y x), 7, 0, 4⟩ : Net), true) := send_ok _ y z tyz kyz (by show 2 < 4096; omega)
  have S10 : sendD (⟨[pkE x z, pkE z y, pkE y z], ct0, 7, 0, 4⟩ : Net) (pkE x y) = ((⟨[pkE x z, pkE z y, pkE y z, pkE x y], ct0, 8, 0, 4⟩ : Net), true) := send_ok _ x y txy (z0 _ _) (by show 3 < 4096; omega)
  have S11 : sendD (⟨[pkE x z, pkE z y, pkE y z, pkE x y], ct0, 8, 0, 4⟩ : Net) (pkE y x) = ((⟨[pkE x z, pkE z y, pkE y z, pkE x y, pkE y x], ct0, 9, 0, 4⟩ : Net), true) := send_ok _ y x tyx (z0 _ _) (by show 4 < 4096; omega)
  have C1 : Hid (∀ W : World, NSt w (fun _ => False) w.heap.size (⟨[], ct0, 0, 0, 0⟩ : Net) W → Calls Try.prog 13 #[.pointer (some ⟨w.heap.size, 0, none⟩), .agg #[.int .i64 x, .int .i64 y, .string ⟨#[]⟩]] W fun e w' => e = .returned (.bool true) ∧ NSt w (fun _ => False) w.heap.size (⟨[pkE x y], ct0, 1, 0, 0⟩ : Net) w' ∧ Keep (fun j => ¬ False) W w') := fun W h => sendS h S1 (by simp only; omega) (by simp only; omega)
  have C2 : Hid (∀ W : World, NSt w (fun _ => False) w.heap.size (⟨[pkE x y], ct0, 1, 0, 0⟩ : Net) W → Calls Try.prog 13 #[.pointer (some ⟨w.heap.size, 0, none⟩), .agg #[.int .i64 y, .int .i64 x, .string ⟨#[]⟩]] W fun e w' => e = .returned (.bool true) ∧ NSt w (fun _ => False) w.heap.size (⟨[pkE x y, pkE y x], ct0, 2, 0, 0⟩ : Net) w' ∧ Keep (fun j => ¬ False) W w') := fun W h => sendS h S2 (by simp only; omega) (by simp only; omega)
  have C3 : Hid (∀ W : World, NSt w (fun _ => False) w.heap.size (⟨[pkE x y, pkE y x], ct0, 2, 0, 0⟩ : Net) W → Calls Try.prog 13 #[.pointer (some ⟨w.heap.size, 0, none⟩), .agg #[.int .i64 x, .int .i64 z, .string ⟨#[]⟩]] W fun e w' => e = .returned (.bool true) ∧ NSt w (fun _ => False) w.heap.size (⟨[pkE x y, pkE y x, pkE x z], ct0, 3, 0, 0⟩ : Net) w' ∧ Keep (fun j => ¬ False) W w') := fun W h => sendS h S3 (by simp only; omega) (by simp only; omega)
  have C4 : Hid (∀ W : World, NSt w (fun _ => False) w.heap.size (⟨[pkE x y, pkE y x, pkE x z], ct0, 3, 0, 0⟩ : Net) W → Calls Try.prog 13 #[.pointer (some ⟨w.heap.size, 0, none⟩), .agg #[.int .i64 z, .int .i64 y, .string ⟨#[]⟩]] W fun e w' => e = .returned (.bool true) ∧ NSt w (fun _ => False) w.heap.size (⟨[pkE x y, pkE y x, pkE x z, pkE z y], ct0, 4, 0, 0⟩ : Net) w' ∧ Keep (fun j => ¬ False) W w') := fun W h => sendS h S4 (by simp only; omega) (by simp only; omega)
  have C5 : Hid (∀ W : World, NSt w (fun _ => False) w.heap.size (⟨[pkE x y, pkE y x, pkE x z, pkE z y], ct0, 4, 0, 0⟩ : Net) W → Calls Try.prog 18 #[.pointer (some ⟨w.heap.size, 0, none⟩), .int .i64 y, .int .i64 x] W fun e w' => e = .returned (.int .i64 2) ∧ NSt w (fun _ => False) w.heap.size (⟨[pkE x z, pkE z y], (cutC ct0 y x), 4, 0, 2⟩ : Net) w' ∧ Keep (fun j => ¬ False) W w') := fun W h => by
    have h9 := cutS (a := y) (b := x) h tyx (by show (0 : Nat) ≤ _; omega)
    rw [show ((⟨[pkE x y, pkE y x, pkE x z, pkE z y], ct0, 4, 0, 0⟩ : Net).L.filter (fun q => !cutAt (cutC (⟨[pkE x y, pkE y x, pkE x z, pkE z y], ct0, 4, 0, 0⟩ : Net).ct y x) q.fr q.tt)) = [pkE x z, pkE z y] from F1, show loseD { (⟨[pkE x y, pkE y x, pkE x z, pkE z y], ct0, 4, 0, 0⟩ : Net) with ct := cutC (⟨[pkE x y, pkE y x, pkE x z, pkE z y], ct0, 4, 0, 0⟩ : Net).ct y x } (fun q => cutAt (cutC (⟨[pkE x y, pkE y x, pkE x z, pkE z y], ct0, 4, 0, 0⟩ : Net).ct y x) q.fr q.tt) = _ from S5] at h9
    exact h9
  have C6 : Hid (∀ W : World, NSt w (fun _ => False) w.heap.size (⟨[pkE x z, pkE z y], (cutC ct0 y x), 4, 0, 2⟩ : Net) W → Calls Try.prog 13 #[.pointer (some ⟨w.heap.size, 0, none⟩), .agg #[.int .i64 x, .int .i64 y, .string ⟨#[]⟩]] W fun e w' => e = .returned (.bool false) ∧ NSt w (fun _ => False) w.heap.size (⟨[pkE x z, pkE z y], (cutC ct0 y x), 5, 0, 3⟩ : Net) w' ∧ Keep (fun j => ¬ False) W w') := fun W h => sendS h S6 (by simp only; omega) (by simp only; omega)
  have C7 : Hid (∀ W : World, NSt w (fun _ => False) w.heap.size (⟨[pkE x z, pkE z y], (cutC ct0 y x), 5, 0, 3⟩ : Net) W → Calls Try.prog 13 #[.pointer (some ⟨w.heap.size, 0, none⟩), .agg #[.int .i64 y, .int .i64 x, .string ⟨#[]⟩]] W fun e w' => e = .returned (.bool false) ∧ NSt w (fun _ => False) w.heap.size (⟨[pkE x z, pkE z y], (cutC ct0 y x), 6, 0, 4⟩ : Net) w' ∧ Keep (fun j => ¬ False) W w') := fun W h => sendS h S7 (by simp only; omega) (by simp only; omega)
  have C8 : Hid (∀ W : World, NSt w (fun _ => False) w.heap.size (⟨[pkE x z, pkE z y], (cutC ct0 y x), 6, 0, 4⟩ : Net) W → Calls Try.prog 18 #[.pointer (some ⟨w.heap.size, 0, none⟩), .int .i64 x, .int .i64 x] W fun e w' => e = .returned (.int .i64 0) ∧ NSt w (fun _ => False) w.heap.size (⟨[pkE x z, pkE z y], (cutC ct0 y x), 6, 0, 4⟩ : Net) w' ∧ Keep (fun j => ¬ False) W w') := fun W h => cutN h txx
  have C9 : Hid (∀ W : World, NSt w (fun _ => False) w.heap.size (⟨[pkE x z, pkE z y], (cutC ct0 y x), 6, 0, 4⟩ : Net) W → Calls Try.prog 18 #[.pointer (some ⟨w.heap.size, 0, none⟩), .int .i64 x, .int .i64 7] W fun e w' => e = .returned (.int .i64 0) ∧ NSt w (fun _ => False) w.heap.size (⟨[pkE x z, pkE z y], (cutC ct0 y x), 6, 0, 4⟩ : Net) w' ∧ Keep (fun j => ¬ False) W w') := fun W h => cutN h tx7
  have CL : Hid (∀ W : World, NSt w (fun _ => False) w.heap.size (⟨[pkE x z, pkE z y], (cutC ct0 y x), 6, 0, 4⟩ : Net) W → Calls Try.prog 15 #[.pointer (some ⟨w.heap.size, 0, none⟩)] W fun e w' => e = .returned (.int .i64 2) ∧ NSt w (fun _ => False) w.heap.size (⟨[pkE x z, pkE z y], (cutC ct0 y x), 6, 0, 4⟩ : Net) w' ∧ Keep (fun j => ¬ False) W w') := fun W h => lenS h
  have CX : Hid (∀ W : World, NSt w (fun _ => False) w.heap.size (⟨[pkE x z, pkE z y], (cutC ct0 y x), 6, 0, 4⟩ : Net) W → Calls Try.prog 13 #[.pointer (some ⟨w.heap.size, 0, none⟩), .agg #[.int .i64 y, .int .i64 z, .string ⟨#[]⟩]] W fun e w' => e = .returned (.bool true) ∧ NSt w (fun _ => False) w.heap.size (⟨[pkE x z, pkE z y, pkE y z], (cutC ct0 y x), 7, 0, 4⟩ : Net) w' ∧ Keep (fun j => ¬ False) W w') := fun W h => sendS h S8 (by simp only; omega) (by simp only; omega)
  have CH : Hid (∀ W : World, NSt w (fun _ => False) w.heap.size (⟨[pkE x z, pkE z y, pkE y z], (cutC ct0 y x), 7, 0, 4⟩ : Net) W → Calls Try.prog 19 #[.pointer (some ⟨w.heap.size, 0, none⟩)] W fun e w' => e = .returned (.tuple #[]) ∧ NSt w (fun _ => False) w.heap.size (⟨[pkE x z, pkE z y, pkE y z], ct0, 7, 0, 4⟩ : Net) w' ∧ Keep (fun j => ¬ False) W w') := fun W h => healS h
  have CY : Hid (∀ W : World, NSt w (fun _ => False) w.heap.size (⟨[pkE x z, pkE z y, pkE y z], ct0, 7, 0, 4⟩ : Net) W → Calls Try.prog 13 #[.pointer (some ⟨w.heap.size, 0, none⟩), .agg #[.int .i64 x, .int .i64 y, .string ⟨#[]⟩]] W fun e w' => e = .returned (.bool true) ∧ NSt w (fun _ => False) w.heap.size (⟨[pkE x z, pkE z y, pkE y z, pkE x y], ct0, 8, 0, 4⟩ : Net) w' ∧ Keep (fun j => ¬ False) W w') := fun W h => sendS h S10 (by simp only; omega) (by simp only; omega)
  have CZ : Hid (∀ W : World, NSt w (fun _ => False) w.heap.size (⟨[pkE x z, pkE z y, pkE y z, pkE x y], ct0, 8, 0, 4⟩ : Net) W → Calls Try.prog 13 #[.pointer (some ⟨w.heap.size, 0, none⟩), .agg #[.int .i64 y, .int .i64 x, .string ⟨#[]⟩]] W fun e w' => e = .returned (.bool true) ∧ NSt w (fun _ => False) w.heap.size (⟨[pkE x z, pkE z y, pkE y z, pkE x y, pkE y x], ct0, 9, 0, 4⟩ : Net) w' ∧ Keep (fun j => ¬ False) W w') := fun W h => sendS h S11 (by simp only; omega) (by simp only; omega)
  have NW := hid (newA w)
  have AW := hid (fun W => awake8 W)
  clear S1 S2 S5 S6 S7 S10 S11 F1 kxy kyx z0 hl49 txx tx7 nx ny tyx txy hzn m1 m2 m3 u2 hc S3 S4 S8 kxz kzy kyz txz tzy tyz nz
  go_enter Try.func7, Try.ntmps7
  go_wp2_with fail
  refine NW.out.mono ?_
  rintro e w1 ⟨rfl, h1⟩
  have H1 := hid h1
  clear h1 NW
  go_wp2_with fail
  refine (AW.out _).mono ?_
  rintro e w2 ⟨rfl, k2⟩
  have H : Hid (NSt w (fun _ => False) w.heap.size (⟨[], ct0, 0, 0, 0⟩ : Net) w2) := H1.out.keep k2
  clear k2 H1 AW
  go_wp2_with fail
  refine (C1.out _ H.out).mono ?_
  rintro e v0 ⟨rfl, h9, _⟩
  replace H := hid h9
  clear h9 C1
  go_wp2_with fail
  refine (C2.out _ H.out).mono ?_
  rintro e v1 ⟨rfl, h9, _⟩
  replace H := hid h9
  clear h9 C2
  go_wp2_with fail
  refine (C3.out _ H.out).mono ?_
  rintro e v2 ⟨rfl, h9, _⟩
  replace H := hid h9
  clear h9 C3
  go_wp2_with fail
  refine (C4.out _ H.out).mono ?_
  rintro e v3 ⟨rfl, h9, _⟩
  replace H := hid h9
  clear h9 C4
  go_wp2_with fail
  refine (C5.out _ H.out).mono ?_
  rintro e v4 ⟨rfl, h9, _⟩
  replace H := hid h9
  clear h9 C5
  go_wp2_with fail
  refine (C6.out _ H.out).mono ?_
  rintro e v5 ⟨rfl, h9, _⟩
  replace H := hid h9
  clear h9 C6
  go_wp2_with fail
  refine (C7.out _ H.out).mono ?_
  rintro e v6 ⟨rfl, h9, _⟩
  replace H := hid h9
  clear h9 C7
  go_wp2_with fail
  refine (C8.out _ H.out).mono ?_
  rintro e v7 ⟨rfl, h9, _⟩
  replace H := hid h9
  clear h9 C8
  go_wp2_with fail
  refine (C9.out _ H.out).mono ?_
  rintro e v8 ⟨rfl, h9, _⟩
  replace H := hid h9
  clear h9 C9
  go_wp2_with fail
  refine (CL.out _ H.out).mono ?_
  rintro e v9 ⟨rfl, h9, _⟩
  replace H := hid h9
  clear h9 CL
  go_wp2_with fail
  refine (CX.out _ H.out).mono ?_
  rintro e v10 ⟨rfl, h9, _⟩
  replace H := hid h9
  clear h9 CX
  go_wp2_with fail
  refine (CH.out _ H.out).mono ?_
  rintro e v11 ⟨rfl, h9, _⟩
  replace H := hid h9
  clear h9 CH
  go_wp2_with fail
  refine (CY.out _ H.out).mono ?_
  rintro e v12 ⟨rfl, h9, _⟩
  replace H := hid h9
  clear h9 CY
  go_wp2_with fail
  refine (CZ.out _ H.out).mono ?_
  rintro e v13 ⟨rfl, h9, _⟩
  replace H := hid h9
  clear h9 CZ
  have HK := hid H.out.kp
  clear H
  go_wp2
  go_ret
  exact ⟨rfl, keep_below HK.out (fun _ _ h => h) (Nat.le_refl _)⟩
theorem wiresCuts_walk (a b c : Int) (w : World) (_ : (Lit.int .i64 a).wf = true) (_ : (Lit.int .i64 b).wf = true) (_ : (Lit.int .i64 c).wf = true) : Calls Try.prog 7 #[.int .i64 a, .int .i64 b, .int .i64 c] w fun e w' => e = .returned (.bool true) ∧ Below w.heap.size w w' := by
  have u1 := up7 a 7 (by omega)
  have u2 := up7 b 6 (by omega)
  have u3 := up7 c 7 (by omega)
  obtain ⟨x, hx⟩ : ∃ x, (a.tmod 7 + 7).tmod 7 = x := ⟨_, rfl⟩
  obtain ⟨d, hd⟩ : ∃ d, (b.tmod 6 + 6).tmod 6 = d := ⟨_, rfl⟩
  obtain ⟨z, hz⟩ : ∃ z, (c.tmod 7 + 7).tmod 7 = z := ⟨_, rfl⟩
  obtain ⟨y, hy⟩ : ∃ y, y = (x + 1 + d) % 7 := ⟨_, rfl⟩
  rw [hx] at u1
  rw [hd] at u2
  rw [hz] at u3
  have txy : two x y = true := by simp [two, isN]; omega
  have nz : isN z = true := by simp [isN]; omega
  have hc : (b.tmod 6 + 6).tmod 6 = y - x - 1 ∨ (b.tmod 6 + 6).tmod 6 = y - x + 6 := by rw [hd]; omega
  by_cases h1 : z = x
  · exact cuts_zx a b c x y z w hx hc hz txy nz (by simp [h1])
  · by_cases h2 : z = y
    · exact cuts_zy a b c x y z w hx hc hz txy nz (bne_iff_ne.2 h1) (by simp [h2])
    · exact cuts_oth a b c x y z w hx hc hz txy nz (bne_iff_ne.2 h1) (bne_iff_ne.2 h2)
end Go.Proofs.Ytfcchmjofejkhaa
