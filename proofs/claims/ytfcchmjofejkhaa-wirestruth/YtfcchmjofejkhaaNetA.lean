/- A net beside other things that were made; the small run. -/
import Derived.Test.YtfcchmjofejkhaaNetQ
namespace Go.Proofs.Ytfcchmjofejkhaa
open Go.RowKit Go.Maps
set_option linter.unusedVariables false
set_option linter.unusedSimpArgs false

/-- since w0 a net was made at p, which is n; the blocks of A are not its own; what w0 had is as it was -/
def NSt (w0 : World) (A : Nat → Prop) (p : Nat) (n : Net) (w : World) : Prop := ∃ P, NetIs w P p n ∧ (∀ k, k < w0.heap.size → ¬ P k) ∧ (∀ r, A r → ¬ P r ∧ r < w.heap.size) ∧ Keep (fun _ => False) w0 w
theorem NSt.size {w0 w : World} {A : Nat → Prop} {p : Nat} {n : Net} (h : NSt w0 A p n w) : w0.heap.size ≤ w.heap.size := by obtain ⟨_, _, _, _, h⟩ := h; exact h.size
theorem NSt.kp {w0 w : World} {A : Nat → Prop} {p : Nat} {n : Net} (h : NSt w0 A p n w) : Keep (fun _ => False) w0 w := by obtain ⟨_, _, _, _, h⟩ := h; exact h
theorem NSt.keep {w0 w w' : World} {A : Nat → Prop} {p : Nat} {n : Net} (h : NSt w0 A p n w) (k : Keep (fun _ => False) w w') : NSt w0 A p n w' := by
  obtain ⟨P, h1, h2, h3, h4⟩ := h
  exact ⟨_, h1.keep k (fun _ _ h => h.elim), fun j hj hp => h2 j hj hp.1, fun r hr => ⟨fun hp => (h3 r hr).1 hp.1, Nat.lt_of_lt_of_le (h3 r hr).2 k.size⟩, h4.trans k⟩
theorem NSt.add {w0 w : World} {A : Nat → Prop} {p : Nat} {n : Net} (h : NSt w0 A p n w) (X : Obj) : NSt w0 (fun j => A j ∨ j = w.heap.size) p n (w.alloc X) := by
  obtain ⟨P, h1, h2, h3, h4⟩ := h
  have k := keep_alloc (fun _ => False) w X
  have hs : (w.alloc X).heap.size = w.heap.size + 1 := by simp
  refine ⟨_, h1.keep k (fun _ _ h => h.elim), fun j hj hp => h2 j hj hp.1, fun r hr => ?_, h4.trans k⟩
  rcases hr with hr | hr
  · exact ⟨fun hp => (h3 r hr).1 hp.1, Nat.lt_of_lt_of_le (h3 r hr).2 k.size⟩
  · exact ⟨fun hp => by have := hp.2; omega, by omega⟩
theorem NSt.less {w0 w : World} {A A' : Nat → Prop} {p : Nat} {n : Net} (h : NSt w0 A p n w) (hA : ∀ j, A' j → A j) : NSt w0 A' p n w := by
  obtain ⟨P, h1, h2, h3, h4⟩ := h
  exact ⟨P, h1, h2, fun r hr => h3 r (hA r hr), h4⟩
theorem stepA {w0 W : World} {A : Nat → Prop} {p : Nat} {n n' : Net} {f : FuncId} {args : Array Value} {r : Ending} (h : NSt w0 A p n W) (hc : ∀ P1, NetIs W P1 p n → Calls Try.prog f args W fun e w' => e = r ∧ NLeft W P1 p n' w') :
    Calls Try.prog f args W fun e w' => e = r ∧ NSt w0 A p n' w' ∧ Keep (fun j => ¬ A j) W w' := by
  obtain ⟨P, h1, h2, h3, h4⟩ := h
  refine (hc P h1).mono ?_
  rintro e w' ⟨rfl, P2, g1, g2, g3⟩
  refine ⟨rfl, ⟨P2, g1, fun k hk hp => h2 k hk (g2 k (Nat.lt_of_lt_of_le hk h4.size) hp), fun r hr => ⟨fun hp => (h3 r hr).1 (g2 r (h3 r hr).2 hp), Nat.lt_of_lt_of_le (h3 r hr).2 g3.size⟩, h4.then g3 (fun j hj hp => h2 j hj hp)⟩, g3.mono (fun j hj hp ha => (h3 j ha).1 hp)⟩
theorem stepK {w0 W : World} {A : Nat → Prop} {p : Nat} {n : Net} {f : FuncId} {args : Array Value} {r : Ending} (h : NSt w0 A p n W) (hc : ∀ P1, NetIs W P1 p n → Calls Try.prog f args W fun e w' => e = r ∧ Keep (fun _ => False) W w') :
    Calls Try.prog f args W fun e w' => e = r ∧ NSt w0 A p n w' ∧ Keep (fun j => ¬ A j) W w' := by
  obtain ⟨P, h1, h2, h3, h4⟩ := h
  refine (hc P h1).mono ?_
  rintro e w' ⟨rfl, k⟩
  exact ⟨rfl, NSt.keep ⟨P, h1, h2, h3, h4⟩ k, k.mono (fun _ _ h => h.elim)⟩
theorem newA (w : World) : Calls Try.prog 9 #[] w fun e w' => e = .returned (.pointer (some ⟨w.heap.size, 0, none⟩)) ∧ NSt w (fun _ => False) w.heap.size net0 w' :=
  (new_net w).mono fun e w' ⟨he, hk, hn⟩ => ⟨he, _, hn, fun k hk hp => by omega, fun _ h => h.elim, hk⟩
theorem newB (w0 w : World) (k : Keep (fun _ => False) w0 w) : Calls Try.prog 9 #[] w fun e w' => e = .returned (.pointer (some ⟨w.heap.size, 0, none⟩)) ∧ NSt w0 (fun _ => False) w.heap.size net0 w' :=
  (new_net w).mono fun e w' ⟨he, hk, hn⟩ => ⟨he, _, hn, fun j hj hp => by have := k.size; omega, fun _ h => h.elim, k.trans hk⟩
def pkA : Pk := ⟨0, 1, ⟨#[97]⟩⟩
def netA1 : Net := ⟨[pkA], List.replicate 49 false, 1, 0, 0⟩
def netA2 : Net := ⟨[pkA, pkA], List.replicate 49 false, 2, 0, 0⟩
def netA3 : Net := ⟨[pkA], List.replicate 49 false, 2, 1, 0⟩
def netA4 : Net := ⟨[], List.replicate 49 false, 2, 2, 0⟩
theorem sendA : sendD net0 pkA = (netA1, true) := by
  unfold sendD
  rw [if_pos (by decide)]
  rfl
set_option maxRecDepth 100000 in
set_option maxHeartbeats 2000000 in
theorem awake8 (w : World) : Calls Try.prog 10 #[] w fun e w' => e = .returned (.bool true) ∧ Keep (fun _ => False) w w' := by
  have NW := hid (newA w)
  have SD : Hid (∀ (A : Nat → Prop) (W : World), NSt w A w.heap.size net0 W → Calls Try.prog 13 #[.pointer (some ⟨w.heap.size, 0, none⟩), .agg #[.int .i64 0, .int .i64 1, .string ⟨#[97]⟩]] W fun e w' => e = .returned (.bool true) ∧ NSt w A w.heap.size netA1 w' ∧ Keep (fun j => ¬ A j) W w') := fun A W h => stepA h fun P1 h1 => by
    have := send_any w.heap.size P1 net0 pkA W h1 (by decide) (by decide) (by decide)
    rw [sendA] at this
    exact this
  have DB : Hid (∀ (A : Nat → Prop) (W : World), NSt w A w.heap.size netA1 W → Calls Try.prog 14 #[.pointer (some ⟨w.heap.size, 0, none⟩), .int .i64 0] W fun e w' => e = .returned (.bool true) ∧ NSt w A w.heap.size netA2 w' ∧ Keep (fun j => ¬ A j) W w') := fun A W h => stepA h fun P1 h1 => double_some w.heap.size P1 netA1 0 (by decide) (by decide) (by decide) W h1
  have T1 : Hid (∀ (A : Nat → Prop) (W : World), NSt w A w.heap.size netA2 W → Calls Try.prog 16 #[.pointer (some ⟨w.heap.size, 0, none⟩), .int .i64 1] W fun e w' => e = .returned (.tuple #[.agg #[.int .i64 0, .int .i64 1, .string ⟨#[97]⟩], .bool true]) ∧ NSt w A w.heap.size netA3 w' ∧ Keep (fun j => ¬ A j) W w') := fun A W h => stepA h fun P1 h1 => take_some w.heap.size P1 netA2 1 (by decide) (by decide) W h1
  have T0 : Hid (∀ (A : Nat → Prop) (W : World), NSt w A w.heap.size netA3 W → Calls Try.prog 16 #[.pointer (some ⟨w.heap.size, 0, none⟩), .int .i64 0] W fun e w' => e = .returned (.tuple #[.agg #[.int .i64 0, .int .i64 1, .string ⟨#[97]⟩], .bool true]) ∧ NSt w A w.heap.size netA4 w' ∧ Keep (fun j => ¬ A j) W w') := fun A W h => stepA h fun P1 h1 => take_some w.heap.size P1 netA3 0 (by decide) (by decide) W h1
  have LN : Hid (∀ (A : Nat → Prop) (W : World), NSt w A w.heap.size netA4 W → Calls Try.prog 15 #[.pointer (some ⟨w.heap.size, 0, none⟩)] W fun e w' => e = .returned (.int .i64 0) ∧ NSt w A w.heap.size netA4 w' ∧ Keep (fun j => ¬ A j) W w') := fun A W h => stepK h fun P1 h1 => (nlen_any w.heap.size P1 netA4 W h1).mono fun e w' ⟨he, hw⟩ => ⟨he, hw ▸ Keep.refl _ _⟩
  go_enter Try.func10, Try.ntmps10
  go_wp2_with fail
  refine NW.out.mono ?_
  rintro e w1 ⟨rfl, h1⟩
  have H1 := hid (h1.add (.cells #[.int .i64 0, .int .i64 1, .string ⟨#[97]⟩] 33))
  have r1 : RowIs (w1.alloc (.cells #[.int .i64 0, .int .i64 1, .string ⟨#[97]⟩] 33)) w1.heap.size [.int .i64 0, .int .i64 1, .string ⟨#[97]⟩] 33 := heap_alloc_new _ _
  have HR1 := hid r1
  clear h1 NW r1
  go_wp2_with fail
  refine (SD.out _ _ H1.out).mono ?_
  rintro e w2 ⟨rfl, h2, k2⟩
  have H2 := hid h2
  have HR2 := hid (HR1.out.keep k2 (fun h => h (.inr rfl)))
  clear h2 k2 HR1 H1 SD
  go_wp2_with fail
  refine (DB.out _ _ H2.out).mono ?_
  rintro e w3 ⟨rfl, h3, k3⟩
  have H3 := hid h3
  have HR3 := hid (HR2.out.keep k3 (fun h => h (.inr rfl)))
  clear h3 k3 HR2 H2 DB
  go_wp2_with fail
  refine (T1.out _ _ H3.out).mono ?_
  rintro e w4 ⟨rfl, h4, k4⟩
  have HR4 := hid ((HR3.out.keep k4 (fun h => h (.inr rfl))).keep (keep_alloc (fun _ => False) w4 (.cells #[.int .i64 0, .int .i64 1, .string ⟨#[97]⟩] 33)) (fun h => h))
  have H4 := hid (h4.add (.cells #[.int .i64 0, .int .i64 1, .string ⟨#[97]⟩] 33))
  have ra : RowIs (w4.alloc (.cells #[.int .i64 0, .int .i64 1, .string ⟨#[97]⟩] 33)) w4.heap.size [.int .i64 0, .int .i64 1, .string ⟨#[97]⟩] 33 := heap_alloc_new _ _
  have HA4 := hid ra
  clear h4 k4 HR3 H3 T1 ra
  go_wp2_with fail
  refine (T0.out _ _ H4.out).mono ?_
  rintro e w5 ⟨rfl, h5, k5⟩
  have HR5 := hid ((HR4.out.keep k5 (fun h => h (.inl (.inr rfl)))).keep (keep_alloc (fun _ => False) w5 (.cells #[.int .i64 0, .int .i64 1, .string ⟨#[97]⟩] 33)) (fun h => h))
  have HA5 := hid ((HA4.out.keep k5 (fun h => h (.inr rfl))).keep (keep_alloc (fun _ => False) w5 (.cells #[.int .i64 0, .int .i64 1, .string ⟨#[97]⟩] 33)) (fun h => h))
  have H5 := hid (h5.add (.cells #[.int .i64 0, .int .i64 1, .string ⟨#[97]⟩] 33))
  have rb : RowIs (w5.alloc (.cells #[.int .i64 0, .int .i64 1, .string ⟨#[97]⟩] 33)) w5.heap.size [.int .i64 0, .int .i64 1, .string ⟨#[97]⟩] 33 := heap_alloc_new _ _
  clear h5 k5 HR4 HA4 H4 T0
  have p0 := HR5.out.cellAt (o := 0) rfl
  have p1 := HR5.out.cellAt (o := 1) rfl
  have p2 := HR5.out.cellAt (o := 2) rfl
  have a0 := HA5.out.cellAt (o := 0) rfl
  have a1 := HA5.out.cellAt (o := 1) rfl
  have a2 := HA5.out.cellAt (o := 2) rfl
  have b0 := rb.cellAt (o := 0) rfl
  have b1 := rb.cellAt (o := 1) rfl
  have b2 := rb.cellAt (o := 2) rfl
  clear rb HR5 HA5
  go_wp2_with fail
  refine (LN.out _ _ H5.out).mono ?_
  rintro e w6 ⟨rfl, h6, k6⟩
  have H6 := hid h6.kp
  clear h6 k6 LN H5 p0 p1 p2 a0 a1 a2 b0 b1 b2
  go_wp2
  go_ret
  exact ⟨rfl, H6.out⟩
end Go.Proofs.Ytfcchmjofejkhaa
