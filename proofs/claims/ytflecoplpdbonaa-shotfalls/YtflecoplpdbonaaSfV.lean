/- ShotFalls: the memory of the law: a disk, two snapshots in boxes that are written anew; what each call makes of it. -/
import Derived.Test.YtflecoplpdbonaaJoined16
import Derived.Test.YtflecoplpdbonaaSbZ
import Derived.Test.YtflecoplpdbonaaJoined18
import Derived.Test.YtflecoplpdbonaaShR
import Derived.Test.YtflecoplpdbonaaJoined15
namespace Go.Proofs.Ytflecoplpdbonaa
open Go.RowKit Go.Maps
set_option linter.unusedVariables false
set_option linter.unusedSimpArgs false

/-- the law's memory -/
structure FaM (w1 : World) (p b6 b7 : Nat) (y0 y1 : Value × Sh) (d : Ds) (W : World) : Prop where
  dk : ∃ c, DiskIs W c p d ∧ (∀ k, k < w1.heap.size → c k = c0 p k) ∧ 6 < c b6 ∧ 6 < c b7
  kp : Keep (fun k => c0 p k < 6) w1 W
  r6 : RowIs W b6 (sbC y0) 33
  r7 : RowIs W b7 (sbC y1) 33
  ne : b6 ≠ b7
  l6 : w1.heap.size ≤ b6
  l7 : w1.heap.size ≤ b7
theorem FaM.go {w1 W w' : World} {p b6 b7 : Nat} {y0 y1 : Value × Sh} {d d' : Ds} {c : Nat → Nat} (h : FaM w1 p b6 b7 y0 y1 d W) (hc : ∀ k, k < w1.heap.size → c k = c0 p k) (h6 : 6 < c b6) (h7 : 6 < c b7) (L : Left W c p d' w') : FaM w1 p b6 b7 y0 y1 d' w' := by
  obtain ⟨⟨c', D', hc'⟩, K⟩ := L
  have s1 := h.kp.size
  refine ⟨⟨c', D', fun k hk => by rw [hc' k (by omega), hc k hk], by rw [hc' b6 h.r6.lt]; exact h6, by rw [hc' b7 h.r7.lt]; exact h7⟩, h.kp.then K (fun j hj e => by rw [hc j hj] at e; exact e), h.r6.keep K (fun e => by omega), h.r7.keep K (fun e => by omega), h.ne, h.l6, h.l7⟩
theorem FaM.step {w1 W : World} {p b6 b7 : Nat} {y0 y1 : Value × Sh} {d d' : Ds} {f : FuncId} {args : Array Value} {r : Value} (h : FaM w1 p b6 b7 y0 y1 d W) (C : ∀ c, DiskIs W c p d → Calls Try.prog f args W fun e w' => e = .returned r ∧ Left W c p d' w') :
    Calls Try.prog f args W fun e w' => e = .returned r ∧ FaM w1 p b6 b7 y0 y1 d' w' := by
  obtain ⟨c, D, hc, h6, h7⟩ := h.dk
  exact (C c D).mono fun e w' ⟨he, hL⟩ => ⟨he, h.go hc h6 h7 hL⟩
theorem FaM.on {w1 W W' : World} {p b6 b7 : Nat} {y0 y1 : Value × Sh} {d : Ds} (h : FaM w1 p b6 b7 y0 y1 d W) (b : Below W.heap.size W W') : FaM w1 p b6 b7 y0 y1 d W' := by
  obtain ⟨c, D, hc, h6, h7⟩ := h.dk
  exact h.go hc h6 h7 (left_same D (b.keep _))
theorem FaM.below {w w1 W : World} {p b6 b7 : Nat} {y0 y1 : Value × Sh} {d : Ds} (h : FaM w1 p b6 b7 y0 y1 d W) (k : Keep (fun _ => False) w w1) (hp : w.heap.size ≤ p) : Below w.heap.size w W := by
  refine keep_below ((k.mono (fun _ _ h => h.elim)).trans h.kp) (fun j hj e => ?_) (Nat.le_refl _)
  have e' : (if j = p then 0 else 7) < 6 := e
  rw [if_neg (by omega)] at e'
  omega
theorem FaM.row {w1 W : World} {p b6 b7 g : Nat} {y0 y1 : Value × Sh} {d : Ds} {cs : List Value} {t : TypeId} (h : FaM w1 p b6 b7 y0 y1 d W) (r : RowIs w1 g cs t) (hg : g ≠ p) : RowIs W g cs t := r.keep h.kp (fun e => by
  have e' : (if g = p then 0 else 7) < 6 := e
  rw [if_neg hg] at e'
  omega)
theorem FaM.put6 {w1 W : World} {p b6 b7 : Nat} {y0 y1 : Value × Sh} {d : Ds} (h : FaM w1 p b6 b7 y0 y1 d W) (y : Value × Sh) : FaM w1 p b6 b7 y y1 d ((((W.setCell ⟨b6, 0, none⟩ (.int .i64 y.2.ix)).setCell ⟨b6, 1, none⟩ (.int .i64 y.2.tm)).setCell ⟨b6, 2, none⟩ y.1).setCell ⟨b6, 3, none⟩ (.string y.2.da)) := by
  obtain ⟨c, D, hc, h6, h7⟩ := h.dk
  have f := four h.r6 (x0 := .int .i64 y.2.ix) (x1 := .int .i64 y.2.tm) (x2 := y.1) (x3 := .string y.2.da)
  have hl := h.l6
  exact ⟨⟨c, D.keep f.2 (fun _ _ => rfl) (fun j _ e => by subst e; exact h6), hc, h6, h7⟩, h.kp.then f.2 (fun j hj e => by omega), f.1, h.r7.keep f.2 (fun e => h.ne e.symm), h.ne, h.l6, h.l7⟩
theorem FaM.put7 {w1 W : World} {p b6 b7 : Nat} {y0 y1 : Value × Sh} {d : Ds} (h : FaM w1 p b6 b7 y0 y1 d W) (y : Value × Sh) : FaM w1 p b6 b7 y0 y d ((((W.setCell ⟨b7, 0, none⟩ (.int .i64 y.2.ix)).setCell ⟨b7, 1, none⟩ (.int .i64 y.2.tm)).setCell ⟨b7, 2, none⟩ y.1).setCell ⟨b7, 3, none⟩ (.string y.2.da)) := by
  obtain ⟨c, D, hc, h6, h7⟩ := h.dk
  have f := four h.r7 (x0 := .int .i64 y.2.ix) (x1 := .int .i64 y.2.tm) (x2 := y.1) (x3 := .string y.2.da)
  have hl := h.l7
  exact ⟨⟨c, D.keep f.2 (fun _ _ => rfl) (fun j _ e => by subst e; exact h7), hc, h6, h7⟩, h.kp.then f.2 (fun j hj e => by omega), h.r6.keep f.2 (fun e => h.ne e), f.1, h.ne, h.l6, h.l7⟩
def y00 : Value × Sh := (.slice none 0 0, sh0)
/-- the two boxes are made -/
theorem FaM.new {w1 wr : World} {p : Nat} {d : Ds} (h : Left w1 (c0 p) p d wr) : FaM w1 p wr.heap.size (wr.heap.size + 1) y00 y00 d ((wr.alloc (.cells (sbC y00).toArray 33)).alloc (.cells (sbC y00).toArray 33)) := by
  obtain ⟨⟨ci, D, hc⟩, K⟩ := h
  have hz : (wr.alloc (.cells (sbC y00).toArray 33)).heap.size = wr.heap.size + 1 := by simp
  have k : Keep (fun _ => False) wr ((wr.alloc (.cells (sbC y00).toArray 33)).alloc (.cells (sbC y00).toArray 33)) := (keep_alloc _ _ _).trans (keep_alloc _ _ _)
  have r7 := srow (wr.alloc (.cells (sbC y00).toArray 33)) (sbC y00) 33
  rw [hz] at r7
  have s1 := K.size
  exact ⟨⟨fun j => if j < wr.heap.size then ci j else 7, D.keep k (fun j hj => if_pos hj) (fun _ _ h => h.elim), fun j hj => (if_pos (by omega)).trans (hc j hj), Nat.lt_of_lt_of_eq (by omega) (if_neg (by omega)).symm, Nat.lt_of_lt_of_eq (by omega) (if_neg (by omega)).symm⟩, K.trans (k.mono (fun _ _ h => h.elim)), row_old (srow wr _ _) _, r7, by omega, s1, by omega⟩
/-- what the disk says of the two snapshots, at the loop's head -/
def FaV (f : Fl) (k : Nat) (x0 x1 : Sh) (d : Ds) : Prop :=
  (∃ A m, d = faD A none m [f] false ∧ m ≤ 2 * k ∧ FaS A x0 ∧ x1 = x0) ∨ ∃ A B m, d = faD A B m [] true ∧ m ≤ 2 * k ∧ OkB B ∧ (FaS A x0 ∨ FaS A x1)
/-- .. behind the loop, whatever the power does -/
def FaE (x0 x1 : Sh) (d : Ds) : Prop := ∃ A B m fl dn, d = faD A B m fl dn ∧ m ≤ 16 ∧ OkB B ∧ (FaS A x0 ∨ FaS A x1)
theorem FaV.end_ {f : Fl} {k : Nat} {x0 x1 : Sh} {d : Ds} (h : FaV f k x0 x1 d) (hk : k ≤ 8) : FaE x0 x1 d := by
  rcases h with ⟨A, m, h1, h2, h3, h4⟩ | ⟨A, B, m, h1, h2, h3, h4⟩
  · exact ⟨A, none, m, [f], false, h1, by omega, (fun X hX => by cases hX), .inl h3⟩
  · exact ⟨A, B, m, [], true, h1, by omega, h3, h4⟩
theorem FaE.okA {x0 x1 : Sh} {A : Option Bs} (h : FaS A x0 ∨ FaS A x1) : OkB A := by rcases h with h | h <;> exact h.ok
theorem fa_bd {A B : Option Bs} {m : Nat} {fl : List Fl} {dn : Bool} (hA : OkB A) (hB : OkB B) : (faD A B m fl dn).wt + (faD A B m fl dn).S.length + (faD A B m fl dn).ws.length ≤ 70368744177664 := by
  have := fa_wt A B hA hB
  simp [Ds.wt, faD]
  omega
theorem chk_val (s : Sh) : chkS s = 0 ∨ chkS s = 1 ∨ chkS s = 2 := by
  unfold chkS
  split
  · split
    · exact .inr (.inr rfl)
    · exact .inl rfl
  · exact .inr (.inl rfl)
/-- Save of one of the snapshots -/
theorem fam_save {w1 W : World} {p b6 b7 k : Nat} {y0 y1 y : Value × Sh} {d : Ds} {f : Fl} (h : FaM w1 p b6 b7 y0 y1 d W) (hv : FaV f k y0.2 y1.2 d) (hd : d.dn = false) (hk : k < 8) (hI : IntsI W y.1 y.2.ms) (hl : y.2.ms.length ≤ 9223372036854775807) :
    Calls Try.prog 9 #[.pointer (some ⟨p, 0, none⟩), shV y.1 y.2] W fun e w' => ∃ r d', e = .returned (.int .i64 r) ∧ FaM w1 p b6 b7 y0 y1 d' w' ∧ ((r = chkS y.2 ∧ r ≠ 0 ∧ r ≠ 21 ∧ FaV f (k + 1) y0.2 y1.2 d') ∨ (r = 0 ∧ FaV f (k + 1) y.2 y.2 d') ∨ (r = 21 ∧ FaV f (k + 1) y0.2 y.2 d')) := by
  obtain ⟨A, m, rfl, hm, hA, he⟩ : ∃ A m, d = faD A none m [f] false ∧ m ≤ 2 * k ∧ FaS A y0.2 ∧ y1.2 = y0.2 := by
    rcases hv with h1 | ⟨A, B, m, rfl, _⟩
    · exact h1
    · cases hd
  by_cases hc : chkS y.2 = 0
  · have L := fa_lay A (frm (encB y.2)) m f (sh_len hc).1
    have C := h.step fun c D => save_ok p c _ y.1 y.2 W D hI hl hc (fa_lyok A _ m f hA.ok (sh_len hc).1 (by omega))
    refine C.mono fun e w' ⟨he', hF⟩ => ?_
    unfold savD at he' hF
    rcases L with L | ⟨A', B', m', L, hA', hm', hB'⟩
    · rw [L] at he' hF
      exact ⟨0, _, he', hF, .inr (.inl ⟨rfl, .inl ⟨_, _, rfl, by omega, .inr ⟨rfl, hc⟩, rfl⟩⟩)⟩
    · rw [L] at he' hF
      refine ⟨21, _, he', hF, .inr (.inr ⟨rfl, .inr ⟨A', B', m', rfl, by omega, hB', ?_⟩⟩)⟩
      rcases hA' with rfl | rfl
      · exact .inl hA
      · exact .inr (.inr ⟨rfl, hc⟩)
  · refine (save_bad p y.1 y.2 W hI hl hc).mono fun e w' ⟨he', hb⟩ => ⟨chkS y.2, _, he', h.on hb, .inl ⟨rfl, hc, ?_, .inl ⟨A, m, rfl, by omega, hA, he⟩⟩⟩
    rcases chk_val y.2 with h | h | h <;> rw [h] <;> decide
theorem fam_fail {w1 W : World} {p b6 b7 : Nat} {y0 y1 : Value × Sh} {A B : Option Bs} {m : Nat} {fl : List Fl} {dn : Bool} (h : FaM w1 p b6 b7 y0 y1 (faD A B m fl dn) W) (hA : OkB A) (hB : OkB B) (k t : Int) :
    Calls Try.prog 12 #[.pointer (some ⟨p, 0, none⟩), .int .i64 k, .int .i64 t] W fun e w' => e = .returned (.tuple #[]) ∧ FaM w1 p b6 b7 y0 y1 (faD A B m fl true) w' :=
  h.step fun c D => by
    have := fail_any p c _ k t W D (fa_bd hA hB)
    rw [fa_fail] at this
    exact this
theorem fam_up {w1 W : World} {p b6 b7 : Nat} {y0 y1 : Value × Sh} {A B : Option Bs} {m : Nat} {fl : List Fl} (h : FaM w1 p b6 b7 y0 y1 (faD A B m fl true) W) :
    Calls Try.prog 13 #[.pointer (some ⟨p, 0, none⟩)] W fun e w' => e = .returned (.bool true) ∧ FaM w1 p b6 b7 y0 y1 (faD A B m fl false) w' := h.step fun c D => up_any p c _ W D
theorem fam_chg {w1 W : World} {p b6 b7 : Nat} {y0 y1 : Value × Sh} {A B : Option Bs} {m : Nat} {fl : List Fl} {dn : Bool} (h : FaM w1 p b6 b7 y0 y1 (faD A B m fl dn) W) :
    Calls Try.prog 14 #[.pointer (some ⟨p, 0, none⟩)] W fun e w' => e = .returned (.int .i64 (m : Int)) ∧ Below W.heap.size W w' := by
  obtain ⟨c, D, _⟩ := h.dk
  exact (changes_one p c _ W D).mono fun e w' ⟨he, hk⟩ => ⟨he, keep_below hk (fun _ _ h => h.elim) (Nat.le_refl _)⟩
theorem fam_down {w1 W : World} {p b6 b7 : Nat} {y0 y1 : Value × Sh} {d : Ds} (h : FaM w1 p b6 b7 y0 y1 d W) :
    Calls Try.prog 8 #[.pointer (some ⟨p, 0, none⟩)] W fun e w' => e = .returned (.bool d.dn) ∧ w' = W := by
  obtain ⟨c, D, _⟩ := h.dk
  exact down_any _ d.dn W D.down
theorem fam_plan {w1 W : World} {p b6 b7 : Nat} {y0 y1 : Value × Sh} {A B : Option Bs} {m : Nat} {fl : List Fl} {dn : Bool} (h : FaM w1 p b6 b7 y0 y1 (faD A B m fl dn) W) (v : Value) (l : List Fl) (hv : FIn W p v l) (hl : l.length ≤ 1) (hw : ∀ x ∈ l, (Lit.int .i64 x.at_).wf = true) :
    Calls Try.prog 7 #[.pointer (some ⟨p, 0, none⟩), v] W fun e w' => e = .returned (.tuple #[]) ∧ FaM w1 p b6 b7 y0 y1 (faD A B m l dn) w' :=
  h.step fun c D => plan_any p c _ v l W D hv (by omega) hw
/-- a loading that the power may strike -/
theorem fam_load1 {w1 W : World} {p b6 b7 : Nat} {y0 y1 : Value × Sh} {A B : Option Bs} {m : Nat} {f : Fl} (h : FaM w1 p b6 b7 y0 y1 (faD A B m [f] false) W) (hf : f.at_ = (m : Int)) (hA : OkB A) (hB : OkB B) (hm : m ≤ 1000) :
    Calls Try.prog 15 #[.pointer (some ⟨p, 0, none⟩)] W fun e w' => ∃ ad n cap i t s b k B' fl dn, e = .returned (.tuple #[.agg #[.int .i64 i, .int .i64 t, .slice ad n cap, .string s], .bool b, .int .i64 k]) ∧ FaM w1 p b6 b7 y0 y1 (faD A B' m fl dn) w' ∧ OkB B' := by
  obtain ⟨hok, B', fl, dn, e, hB', hlen⟩ := fa_sp1 A B m f hf hA hB hm
  obtain ⟨c, D, hc, h6, h7⟩ := h.dk
  refine (load_any p c _ W D hok (by rw [e]; omega)).mono fun e2 w' ⟨ad, cap, he, hI, hL⟩ => ?_
  rw [e] at hL
  exact ⟨ad, _, cap, _, _, _, _, _, B', fl, dn, he, h.go hc h6 h7 hL, by rcases hB' with rfl | rfl; exact hB; exact fun X hX => by cases hX⟩
/-- a loading at which nothing fails -/
theorem fam_load2 {w1 W : World} {p b6 b7 : Nat} {y0 y1 : Value × Sh} {A B : Option Bs} {m : Nat} {x : Sh} (h : FaM w1 p b6 b7 y0 y1 (faD A B m [] false) W) (hA : FaS A x) (hB : OkB B) (hm : m ≤ 1000) :
    Calls Try.prog 15 #[.pointer (some ⟨p, 0, none⟩)] W fun e w' => ∃ ad cap n, e = .returned (.tuple #[.agg #[.int .i64 x.ix, .int .i64 x.tm, .slice ad x.ms.length cap, .string x.da], .bool (decide (0 < x.ms.length)), .int .i64 0]) ∧ IntsI w' (.slice ad x.ms.length cap) x.ms ∧ FaM w1 p b6 b7 y0 y1 (faD A none n [] false) w' := by
  obtain ⟨hok, m', e⟩ := fa_sp2 A B m hA.ok hB hm
  obtain ⟨c, D, hc, h6, h7⟩ := h.dk
  have hlen : (rdD (spD (faD A B m [] false)).1 snp).1.length ≤ 1000000000 := by
    rw [e]; simp only; rw [fa_rd]
    rcases hA with ⟨rfl, _⟩ | ⟨rfl, hcx⟩
    · exact Nat.zero_le _
    · have := (sh_len hcx).1; simp only; omega
  refine (load_any p c _ W D hok hlen).mono fun e2 w' ⟨ad, cap, he, hI, hL⟩ => ?_
  rw [fa_ld hA hB hm] at he hI
  rw [e] at hL
  exact ⟨ad, cap, m', he, hI, h.go hc h6 h7 hL⟩
end Go.Proofs.Ytflecoplpdbonaa
