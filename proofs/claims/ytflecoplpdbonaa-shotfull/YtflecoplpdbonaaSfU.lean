/- ShotFull: the memory of the law: the two snapshots in their boxes and a disk; what each step makes of it. -/
import Derived.Test.YtflecoplpdbonaaJoined16
import Derived.Test.YtflecoplpdbonaaJoined18
import Derived.Test.YtflecoplpdbonaaShR
namespace Go.Proofs.Ytflecoplpdbonaa
open Go.RowKit Go.Maps
set_option linter.unusedVariables false
set_option linter.unusedSimpArgs false

theorem fu_next {w W : World} {g : Nat} {l : List Value} {t : TypeId} (h : RowIs w g l t) (hb : Below w.heap.size w W) : RowIs W g l t := h.keep (hb.keep (fun _ => False)) (fun h => h)
def fuC (v : Value) (s : Sh) : List Value := [.int .i64 s.ix, .int .i64 s.tm, v, .string s.da]
/-- the law's memory -/
structure FU (w w1 : World) (p : Nat) (v0 v1 : Value) (x0 x1 : Sh) (d : Ds) (W : World) : Prop where
  l : Left w1 (c0 p) p d W
  r0 : RowIs w1 w.heap.size (fuC v0 x0) 36
  r1 : RowIs w1 (w.heap.size + 1) (fuC v1 x1) 36
  k : Keep (fun _ => False) w w1
  hp : w.heap.size + 1 < p
theorem FU.below {w w1 W : World} {p : Nat} {v0 v1 : Value} {x0 x1 : Sh} {d : Ds} (h : FU w w1 p v0 v1 x0 x1 d W) : Below w.heap.size w W := by
  have k : Keep (fun k => c0 p k < 6) w W := (h.k.mono (fun _ _ h => h.elim)).trans h.l.2
  refine keep_below k (fun j hj h' => ?_) (Nat.le_refl _)
  have h'' : (if j = p then 0 else 7) < 6 := h'
  rw [if_neg (by have := h.hp; omega)] at h''
  omega
theorem fu_row {w1 W : World} {p fb : Nat} {s : Ds} {cs : List Value} {t : TypeId} (h : Left w1 (c0 p) p s W) (hr : RowIs w1 fb cs t) (hne : fb ≠ p) : RowIs W fb cs t := hr.keep h.2 (fun h => by
  have h' : (if fb = p then 0 else 7) < 6 := h
  rw [if_neg hne] at h'
  omega)
theorem FU.a0 {w w1 W : World} {p : Nat} {v0 v1 : Value} {x0 x1 : Sh} {d : Ds} (h : FU w w1 p v0 v1 x0 x1 d W) : RowIs W w.heap.size (fuC v0 x0) 36 := fu_row h.l h.r0 (by have := h.hp; omega)
theorem FU.a1 {w w1 W : World} {p : Nat} {v0 v1 : Value} {x0 x1 : Sh} {d : Ds} (h : FU w w1 p v0 v1 x0 x1 d W) : RowIs W (w.heap.size + 1) (fuC v1 x1) 36 := fu_row h.l h.r1 (by have := h.hp; omega)
theorem FU.step {w w1 W : World} {p : Nat} {v0 v1 : Value} {x0 x1 : Sh} {d d' : Ds} {f : FuncId} {args : Array Value} {r : Value} (h : FU w w1 p v0 v1 x0 x1 d W) (C : ∀ c, DiskIs W c p d → Calls Try.prog f args W fun e w' => e = .returned r ∧ Left W c p d' w') :
    Calls Try.prog f args W fun e w' => e = .returned r ∧ FU w w1 p v0 v1 x0 x1 d' w' := by
  obtain ⟨⟨⟨ci, D, hc⟩, K⟩, r0, r1, k, hp⟩ := h
  exact (C ci D).mono fun e w' ⟨he, hL⟩ => ⟨he, hL.trans hc K, r0, r1, k, hp⟩
theorem FU.on {w w1 W W' : World} {p : Nat} {v0 v1 : Value} {x0 x1 : Sh} {d : Ds} (h : FU w w1 p v0 v1 x0 x1 d W) (b : Below W.heap.size W W') : FU w w1 p v0 v1 x0 x1 d W' := by
  obtain ⟨⟨⟨ci, D, hc⟩, K⟩, r0, r1, k, hp⟩ := h
  exact ⟨(left_same D (b.keep _)).trans hc K, r0, r1, k, hp⟩
theorem fu_new {w w1 : World} {v0 v1 : Value} {x0 x1 : Sh} (hD : DiskIs w1 (c0 (w.heap.size + 2)) (w.heap.size + 2) d0) (k : Keep (fun _ => False) ((w.alloc (.cells (fuC v0 x0).toArray 36)).alloc (.cells (fuC v1 x1).toArray 36)) w1) : FU w w1 (w.heap.size + 2) v0 v1 x0 x1 d0 w1 := by
  have hs : (w.alloc (.cells (fuC v0 x0).toArray 36)).heap.size = w.heap.size + 1 := by simp
  have r1 := srow (w.alloc (.cells (fuC v0 x0).toArray 36)) (fuC v1 x1) 36
  rw [hs] at r1
  exact ⟨left_same hD (Keep.refl _ _), (row_old (srow w _ _) _).keep k (fun h => h), r1.keep k (fun h => h), ((keep_alloc _ _ _).trans (keep_alloc _ _ _)).trans k, by omega⟩
theorem fu_newc (w : World) (v0 v1 : Value) (x0 x1 : Sh) : Calls Try.prog 5 #[] ((w.alloc (.cells (fuC v0 x0).toArray 36)).alloc (.cells (fuC v1 x1).toArray 36)) fun e w' => e = .returned (.pointer (some ⟨w.heap.size + 2, 0, none⟩)) ∧ FU w w' (w.heap.size + 2) v0 v1 x0 x1 d0 w' := by
  have hs : ((w.alloc (.cells (fuC v0 x0).toArray 36)).alloc (.cells (fuC v1 x1).toArray 36)).heap.size = w.heap.size + 2 := by simp
  have := new_any ((w.alloc (.cells (fuC v0 x0).toArray 36)).alloc (.cells (fuC v1 x1).toArray 36))
  rw [hs] at this
  exact this.mono fun e w' ⟨he, hD, hk⟩ => ⟨he, fu_new hD hk⟩
/-- Save of the first one on a new disk -/
theorem fu_save0 {w w1 W : World} {p : Nat} {v0 v1 : Value} {x0 x1 : Sh} (h : FU w w1 p v0 v1 x0 x1 d0 W) (h0 : IntsI w v0 x0.ms) (hl : x0.ms.length ≤ 9223372036854775807) (hc : chkS x0 = 0) :
    Calls Try.prog 9 #[.pointer (some ⟨p, 0, none⟩), shV v0 x0] W fun e w' => e = .returned (.int .i64 0) ∧ FU w w1 p v0 v1 x0 x1 (dF (frm (encB x0)) 2 false 0) w' :=
  h.step fun c D => by
    have := save_ok p c d0 v0 x0 W D (h0.next h.below) hl hc (lyok_sn _ (sh_len hc).1)
    unfold savD at this
    rw [lay_sn, dF_sn] at this
    exact this
theorem fu_saveN {w w1 W : World} {p : Nat} {v0 v1 : Value} {x0 x1 : Sh} {d : Ds} (h : FU w w1 p v0 v1 x0 x1 d W) (h0 : IntsI w v0 x0.ms) (hl : x0.ms.length ≤ 9223372036854775807) (hc : chkS x0 ≠ 0) :
    Calls Try.prog 9 #[.pointer (some ⟨p, 0, none⟩), shV v0 x0] W fun e w' => e = .returned (.int .i64 (chkS x0)) ∧ FU w w1 p v0 v1 x0 x1 d w' :=
  (save_bad p v0 x0 W (h0.next h.below) hl hc).mono fun e w' ⟨he, hb⟩ => ⟨he, h.on hb⟩
theorem fu_used {w w1 W : World} {p n : Nat} {v0 v1 : Value} {x0 x1 : Sh} {F : Bs} {bd : Bool} {rm : Int} (h : FU w w1 p v0 v1 x0 x1 (dF F n bd rm) W) :
    Calls Try.prog 19 #[.pointer (some ⟨p, 0, none⟩)] W fun e w' => e = .returned (.int .i64 (F.length : Int)) ∧ FU w w1 p v0 v1 x0 x1 (dF F n bd rm) w' :=
  h.step fun c D => by
    have := used_up p c (dF F n bd rm) W D rfl
    rw [show tot (dF F n bd rm).now = F.length from by simp [dF, Ds.now, replay, tot]] at this
    exact this.mono fun e w' ⟨he, hw⟩ => ⟨he, by subst hw; exact left_same D (Keep.refl _ _)⟩
theorem fu_room {w w1 W : World} {p n : Nat} {v0 v1 : Value} {x0 x1 : Sh} {F : Bs} {bd : Bool} {rm : Int} (h : FU w w1 p v0 v1 x0 x1 (dF F n bd rm) W) (t : Int) (ht : 0 ≤ t) :
    Calls Try.prog 18 #[.pointer (some ⟨p, 0, none⟩), .int .i64 t] W fun e w' => e = .returned (.tuple #[]) ∧ FU w w1 p v0 v1 x0 x1 (dF F n true t) w' :=
  h.step fun c D => by
    have := room_any p c (dF F n bd rm) t W D
    rw [decide_eq_true ht] at this
    exact this
/-- what Save makes of the disk with that room -/
def fuD (x0 x1 : Sh) (t : Int) : Ds := (savF (dF (frm (encB x0)) 2 true t) x1).1
def fuE (x0 x1 : Sh) (t : Int) : Int := (savF (dF (frm (encB x0)) 2 true t) x1).2
theorem fu_save1 {w w1 W : World} {p : Nat} {v0 v1 : Value} {x0 x1 : Sh} {t : Int} (h : FU w w1 p v0 v1 x0 x1 (dF (frm (encB x0)) 2 true t) W) (h1 : IntsI w v1 x1.ms) (hl : x1.ms.length ≤ 9223372036854775807) (hc : chkS x0 = 0) :
    Calls Try.prog 9 #[.pointer (some ⟨p, 0, none⟩), shV v1 x1] W fun e w' => e = .returned (.int .i64 (fuE x0 x1 t)) ∧ FU w w1 p v0 v1 x0 x1 (fuD x0 x1 t) w' :=
  h.step fun c D => save_all p c _ v1 x1 W D (h1.next h.below) hl fun h1 => lyok_dF _ _ _ _ _ (sh_len hc).1 (sh_len h1).1 (by omega)
/-- what lies there then -/
theorem fu_is (x0 x1 : Sh) (t : Int) (hc : chkS x0 = 0) : (fuE x0 x1 t = 0 ∧ chkS x1 = 0 ∧ fuD x0 x1 t = dF (frm (encB x1)) 4 true t) ∨ (fuE x0 x1 t = 22 ∧ fuD x0 x1 t = dF (frm (encB x0)) 2 true t) ∨ (fuE x0 x1 t = chkS x1 ∧ chkS x1 ≠ 0 ∧ chkS x1 ≠ 22 ∧ fuD x0 x1 t = dF (frm (encB x0)) 2 true t) := by
  unfold fuE fuD savF savD
  by_cases h : chkS x1 = 0
  · rw [if_pos h, lay_dF]
    split
    · exact .inr (.inl ⟨rfl, rfl⟩)
    · exact .inl ⟨rfl, h, rfl⟩
  · rw [if_neg h]
    refine .inr (.inr ⟨rfl, h, ?_, rfl⟩)
    unfold chkS
    split
    · split <;> decide
    · decide
theorem fu_load {w w1 W : World} {p n : Nat} {v0 v1 : Value} {x0 x1 : Sh} {t : Int} (y : Sh) (h : FU w w1 p v0 v1 x0 x1 (dF (frm (encB y)) n true t) W) (hc : chkS y = 0) (hn : n ≤ 4) :
    Calls Try.prog 15 #[.pointer (some ⟨p, 0, none⟩)] W fun e w' => ∃ ad cap, e = .returned (.tuple #[shV (.slice ad y.ms.length cap) y, .bool true, .int .i64 0]) ∧ IntsI w' (.slice ad y.ms.length cap) y.ms ∧ FU w w1 p v0 v1 x0 x1 (dF (frm (encB y)) n true t) w' := by
  obtain ⟨⟨⟨ci, D, hcc⟩, K⟩, r0, r1, k, hp⟩ := h
  have hz := (sh_len hc).1
  exact (load_good p ci _ y W D (clr_dF _ _ _ _) (by simp [Ds.wt, dF, tot]; omega) (by simp [dF]; omega) (rd_dF _ _ _ _) hc).mono fun e w' ⟨ad, cap, he, hI, hL⟩ => ⟨ad, cap, he, hI, hL.trans hcc K, r0, r1, k, hp⟩
theorem room_val (n : Nat) (a : Int) (hn : n ≤ 5000000) : ∃ t : Int, wrap64 ((n : Int) + (wrap64 (a.tmod 200 + 200)).tmod 200) = t ∧ 0 ≤ t := by
  refine ⟨_, rfl, ?_⟩
  have h1 : -200 < a.tmod 200 ∧ a.tmod 200 < 200 := by
    have h2 := Int.natAbs_tmod a 200
    have h3 : (a.tmod 200).natAbs < 200 := by rw [h2]; exact Nat.mod_lt _ (by decide)
    omega
  have e1 : wrap64 (a.tmod 200 + 200) = a.tmod 200 + 200 := IntWalk.wrap64_in _ (by omega)
  rw [e1, Int.tmod_eq_emod_of_nonneg (by omega), IntWalk.wrap64_in _ (by omega)]
  omega
end Go.Proofs.Ytflecoplpdbonaa
