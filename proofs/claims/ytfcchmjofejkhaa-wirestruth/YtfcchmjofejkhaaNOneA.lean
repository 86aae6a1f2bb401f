/- The law's step on a net and on the reference's. -/
import Derived.Test.YtfcchmjofejkhaaRNetU
import Derived.Test.YtfcchmjofejkhaaRNetW
import Derived.Test.YtfcchmjofejkhaaNetA
namespace Go.Proofs.Ytfcchmjofejkhaa
open Go.RowKit Go.Maps
set_option linter.unusedVariables false
set_option linter.unusedSimpArgs false

/-- an act -/
structure A8 where
  kind : Int
  p : Pk
  n : Int
  mm : Int
def a8C (a : A8) : List Value := [.int .i64 a.kind, .int .i64 a.p.fr, .int .i64 a.p.tt, .string a.p.s, .int .i64 a.n, .int .i64 a.mm]
def a8V (a : A8) : Value := .agg #[.int .i64 a.kind, .int .i64 a.p.fr, .int .i64 a.p.tt, .string a.p.s, .int .i64 a.n, .int .i64 a.mm]
/-- a block of other things than a net's -/
def Oth (w : World) (j : Nat) : Prop := ∃ cur t, w.heap[j]? = some (.cells cur t (0, 0)) ∧ t ≠ 33 ∧ t ≠ 56
theorem Oth.row {w : World} {g : Nat} {cs : List Value} {t : TypeId} (h : RowIs w g cs t) (h1 : t ≠ 33) (h2 : t ≠ 56) : Oth w g := ⟨_, _, h, h1, h2⟩
theorem Oth.own {w : World} {B size n : Nat} {t : TypeId} {v : Value} {xs : List Value} (h : w.ownsRow B t size v n xs) (h1 : t ≠ 33) (h2 : t ≠ 56) {g : Nat} (e : v.ownBlock = some g) : Oth w g := by
  rcases h.2 with ⟨e0, _⟩ | ⟨g', cap, cur, e0, _, hb, _⟩
  · rw [e0] at e; simp [Value.ownBlock] at e
  · rw [e0] at e; simp [Value.ownBlock] at e; subst e; exact ⟨_, _, hb, h1, h2⟩
theorem NSt.full {w0 W : World} {A : Nat → Prop} {p : Nat} {n : Net} (h : NSt w0 A p n W) : NSt w0 (fun j => A j ∨ Oth W j) p n W := by
  obtain ⟨P, ⟨v, hv⟩, h2, h3, h4⟩ := h
  refine ⟨fun j => P j ∧ Own2 p v j, ⟨v, hv.row, ⟨hv.pp, .inl rfl⟩, hv.own, fun g e => ⟨⟨(hv.vp g e).1, .inr e⟩, (hv.vp g e).2⟩, hv.ln, hv.ct, hv.nd, hv.sz⟩, fun k hk hp => h2 k hk hp.1, fun r hr => ?_, h4⟩
  rcases hr with hr | ⟨cur, t, hb, t1, t2⟩
  · exact ⟨fun hp => (h3 r hr).1 hp.1, (h3 r hr).2⟩
  · refine ⟨fun hp => ?_, (Array.getElem?_eq_some_iff.1 hb).1⟩
    rcases hp.2 with e | e
    · subst e
      have hb2 := hv.row
      unfold RowIs at hb2
      rw [hb2] at hb
      injection hb with hb
      injection hb with _ hb
      exact t2 hb.symm
    · rcases hv.own.2 with ⟨e0, _⟩ | ⟨g', cap, cur', e0, _, hb', _⟩
      · rw [e0] at e; simp [Value.ownBlock] at e
      · rw [e0] at e; simp [Value.ownBlock] at e; subst e
        rw [hb'] at hb
        injection hb with hb
        injection hb with _ hb
        exact t1 hb.symm
theorem stepO {w0 W : World} {A : Nat → Prop} {p : Nat} {n n' : Net} {f : FuncId} {args : Array Value} {r : Ending} (h : NSt w0 A p n W) (hc : ∀ P1, NetIs W P1 p n → Calls Try.prog f args W fun e w' => e = r ∧ NLeft W P1 p n' w') :
    Calls Try.prog f args W fun e w' => e = r ∧ NSt w0 A p n' w' ∧ Keep (fun j => ¬ (A j ∨ Oth W j)) W w' :=
  (stepA h.full hc).mono fun e w' ⟨he, h1, h2⟩ => ⟨he, h1.less (fun j hj => .inl hj), h2⟩
theorem NSt.put {w0 W W' : World} {A : Nat → Prop} {p r : Nat} {n : Net} (h : NSt w0 A p n W) (k : Keep (· = r) W W') (hr : Oth W r) (hr0 : w0.heap.size ≤ r) : NSt w0 A p n W' := by
  obtain ⟨P, h1, h2, h3, h4⟩ := h.full
  refine ⟨_, h1.keep k (fun j hj e hp => (h3 r (.inr hr)).1 (e ▸ hp)), fun j hj hp => h2 j hj hp.1, fun q hq => ⟨fun hp => (h3 q (.inl hq)).1 hp.1, Nat.lt_of_lt_of_le (h3 q (.inl hq)).2 k.size⟩, h4.then k (fun j hj e => by omega)⟩
theorem RfIs.oth {W w' : World} {lv cv : Value} {m : RNet} {A : Nat → Prop} (h : RfIs W lv cv m) (k : Keep (fun j => ¬ (A j ∨ Oth W j)) W w') : RfIs w' lv cv m :=
  ⟨k.ownsRow h.l (fun g e hn => hn (.inr (Oth.own h.l (by decide) (by decide) e))), k.ownsRow h.c (fun g e hn => hn (.inr (Oth.own h.c (by decide) (by decide) e))), h.ll, h.cl, h.se, h.ta, h.lo⟩
theorem RfIs.put {W W' : World} {lv cv : Value} {m : RNet} {r : Nat} (h : RfIs W lv cv m) (k : Keep (· = r) W W') (hr : ∃ cs, RowIs W r cs 28) : RfIs W' lv cv m := by
  obtain ⟨cs, hr⟩ := hr
  refine ⟨k.ownsRow h.l (fun g e e2 => ?_), k.ownsRow h.c (fun g e e2 => ?_), h.ll, h.cl, h.se, h.ta, h.lo⟩
  · subst e2
    rcases h.l.2 with ⟨e0, _⟩ | ⟨g', cap, cur, e0, _, hb, _⟩
    · rw [e0] at e; simp [Value.ownBlock] at e
    · rw [e0] at e; simp [Value.ownBlock] at e; subst e
      unfold RowIs at hr; rw [hr] at hb; injection hb with hb; injection hb with _ hb; cases hb
  · subst e2
    rcases h.c.2 with ⟨e0, _⟩ | ⟨g', cap, cur, e0, _, hb, _⟩
    · rw [e0] at e; simp [Value.ownBlock] at e
    · rw [e0] at e; simp [Value.ownBlock] at e; subst e
      unfold RowIs at hr; rw [hr] at hb; injection hb with hb; injection hb with _ hb; cases hb
set_option maxRecDepth 100000 in
set_option maxHeartbeats 4000000 in
theorem one0_any (w0 : World) (A : Nat → Prop) (p : Nat) (n n' : Net) (lv cv : Value) (m m' : RNet) (kd fr tt an am : Int) (s : ByteArray) (xx yy : Bool) (w : World) (hkd : kd = 0) (hS : NSt w0 A p n w) (hR : RfIs w lv cv m)
    (RC : ∀ W, Keep (fun _ => False) w W → Calls Try.prog 24 #[rmV lv cv m, .agg #[.int .i64 fr, .int .i64 tt, .string s]] W fun e w' => ∃ lv' cv', e = .returned (.tuple #[rmV lv' cv' m', .bool xx]) ∧ RfIs w' lv' cv' m' ∧ Keep (fun _ => False) W w')
    (PC : ∀ P1 W, NetIs W P1 p n → Calls Try.prog 13 #[.pointer (some ⟨p, 0, none⟩), .agg #[.int .i64 fr, .int .i64 tt, .string s]] W fun e w' => e = .returned (.bool yy) ∧ NLeft W P1 p n' w') :
    Calls Try.prog 11 #[.pointer (some ⟨p, 0, none⟩), rmV lv cv m, .agg #[.int .i64 kd, .int .i64 fr, .int .i64 tt, .string s, .int .i64 an, .int .i64 am]] w fun e w' => ∃ lv' cv', e = .returned (.tuple #[rmV lv' cv' m', .bool (yy == xx)]) ∧ RfIs w' lv' cv' m' ∧ NSt w0 A p n' w' ∧ Keep (fun j => ¬ A j ∧ ¬ Oth w j) w w' := by
  obtain ⟨ad1, c1, rfl⟩ := row_form hR.l
  obtain ⟨ad2, c2, rfl⟩ := row_form hR.c
  have HRC := hid RC
  have HS := hid hS
  have hw0 := hS.size
  subst hkd
  unfold rmV at *
  clear RC hR hS
  have K0 : Hid (Keep (fun _ => False) w (((w.alloc (.cells #[.slice ad1 m.L.length c1, .slice ad2 m.cs.length c2, .int .i64 m.se, .int .i64 m.ta, .int .i64 m.lo] 28)).alloc (.cells #[.int .i64 0, .int .i64 fr, .int .i64 tt, .string s, .int .i64 an, .int .i64 am] 35)).alloc (.cells #[.slice none 0 0, .slice none 0 0, .int .i64 0, .int .i64 0, .int .i64 0] 28))) := ((keep_alloc _ _ _).trans (keep_alloc _ _ _)).trans (keep_alloc _ _ _)
  have HA := hid ((row2 w (.cells #[.slice ad1 m.L.length c1, .slice ad2 m.cs.length c2, .int .i64 m.se, .int .i64 m.ta, .int .i64 m.lo] 28) [.int .i64 0, .int .i64 fr, .int .i64 tt, .string s, .int .i64 an, .int .i64 am] 35).keep (keep_alloc (fun _ => False) _ (.cells #[.slice none 0 0, .slice none 0 0, .int .i64 0, .int .i64 0, .int .i64 0] 28)) (fun h => h))
  have HZ := hid (row3 w (.cells #[.slice ad1 m.L.length c1, .slice ad2 m.cs.length c2, .int .i64 m.se, .int .i64 m.ta, .int .i64 m.lo] 28) (.cells #[.int .i64 0, .int .i64 fr, .int .i64 tt, .string s, .int .i64 an, .int .i64 am] 35) [.slice none 0 0, .slice none 0 0, .int .i64 0, .int .i64 0, .int .i64 0] 28)
  go_enter Try.func11, Try.ntmps11
  go_wp2_with fail
  refine (HRC.out _ K0.out).mono ?_
  rintro e w1 ⟨lv', cv', rfl, hR1, k1⟩
  obtain ⟨ad3, c3, rfl⟩ := row_form hR1.l
  obtain ⟨ad4, c4, rfl⟩ := row_form hR1.c
  have kA := k1.trans (keep_alloc (fun _ => False) w1 (.cells #[.slice ad3 m'.L.length c3, .slice ad4 m'.cs.length c4, .int .i64 m'.se, .int .i64 m'.ta, .int .i64 m'.lo] 28))
  have HA1 := hid (HA.out.keep kA (fun h => h))
  have HZ1 := hid (HZ.out.keep kA (fun h => h))
  have HN1 := hid (row1 w1 [.slice ad3 m'.L.length c3, .slice ad4 m'.cs.length c4, .int .i64 m'.se, .int .i64 m'.ta, .int .i64 m'.lo] 28)
  have hc1 : w.heap.size + 1 + 1 < w1.heap.size := Nat.lt_of_lt_of_le HZ.out.lt k1.size
  have HC1 := hid hc1
  have K1 := hid (K0.out.trans kA)
  have HR1 := hid (hR1.keep (keep_alloc (fun _ => False) w1 (.cells #[.slice ad3 m'.L.length c3, .slice ad4 m'.cs.length c4, .int .i64 m'.se, .int .i64 m'.ta, .int .i64 m'.lo] 28)))
  clear hR1 k1 kA HRC K0 HA HZ hc1
  go_wp2
  generalize w1.alloc (.cells #[.slice ad3 m'.L.length c3, .slice ad4 m'.cs.length c4, .int .i64 m'.se, .int .i64 m'.ta, .int .i64 m'.lo] 28) = w2 at *
  have HS2 := hid (HS.out.keep K1.out)
  have OZ : Hid (Oth w2 (w.heap.size + 1 + 1)) := Oth.row HZ1.out (by decide) (by decide)
  have SK : Hid (∀ w', RowIs w' w1.heap.size [.slice ad3 m'.L.length c3, .slice ad4 m'.cs.length c4, .int .i64 m'.se, .int .i64 m'.ta, .int .i64 m'.lo] 28 → RowIs w' (w.heap.size + 1) [.int .i64 0, .int .i64 fr, .int .i64 tt, .string s, .int .i64 an, .int .i64 am] 35 → (w'.cell? ⟨w1.heap.size, 0, none⟩ = some (.slice ad3 m'.L.length c3) ∧ w'.cell? ⟨w1.heap.size, 1, none⟩ = some (.slice ad4 m'.cs.length c4) ∧ w'.cell? ⟨w1.heap.size, 2, none⟩ = some (.int .i64 m'.se) ∧ w'.cell? ⟨w1.heap.size, 3, none⟩ = some (.int .i64 m'.ta) ∧ w'.cell? ⟨w1.heap.size, 4, none⟩ = some (.int .i64 m'.lo) ∧ w'.cell? ⟨w.heap.size + 1, 0, none⟩ = some (.int .i64 0) ∧ w'.cell? ⟨w.heap.size + 1, 1, none⟩ = some (.int .i64 fr) ∧ w'.cell? ⟨w.heap.size + 1, 2, none⟩ = some (.int .i64 tt) ∧ w'.cell? ⟨w.heap.size + 1, 3, none⟩ = some (.string s) ∧ w'.cell? ⟨w.heap.size + 1, 4, none⟩ = some (.int .i64 an) ∧ w'.cell? ⟨w.heap.size + 1, 5, none⟩ = some (.int .i64 am))) := fun w' r1 r2 => ⟨r1.cellAt rfl, r1.cellAt rfl, r1.cellAt rfl, r1.cellAt rfl, r1.cellAt rfl, r2.cellAt rfl, r2.cellAt rfl, r2.cellAt rfl, r2.cellAt rfl, r2.cellAt rfl, r2.cellAt rfl⟩
  have k5 : ∀ W : World, Keep (· = w.heap.size + 1 + 1) W (((((W.setCell ⟨w.heap.size + 1 + 1, 0, none⟩ (.slice ad3 m'.L.length c3)).setCell ⟨w.heap.size + 1 + 1, 1, none⟩ (.slice ad4 m'.cs.length c4)).setCell ⟨w.heap.size + 1 + 1, 2, none⟩ (.int .i64 m'.se)).setCell ⟨w.heap.size + 1 + 1, 3, none⟩ (.int .i64 m'.ta)).setCell ⟨w.heap.size + 1 + 1, 4, none⟩ (.int .i64 m'.lo)) := fun W => ((((keep_setCell _ _ _ _).trans (keep_setCell _ _ _ _)).trans (keep_setCell _ _ _ _)).trans (keep_setCell _ _ _ _)).trans (keep_setCell _ _ _ _)
  have PCW : Hid (∀ W, Keep (· = w.heap.size + 1 + 1) w2 W → (∃ cs, RowIs W (w.heap.size + 1 + 1) cs 28) → Calls Try.prog 13 #[.pointer (some ⟨p, 0, none⟩), .agg #[.int .i64 fr, .int .i64 tt, .string s]] W fun e w' => e = .returned (.bool yy) ∧ (w'.cell? ⟨w1.heap.size, 0, none⟩ = some (.slice ad3 m'.L.length c3) ∧ w'.cell? ⟨w1.heap.size, 1, none⟩ = some (.slice ad4 m'.cs.length c4) ∧ w'.cell? ⟨w1.heap.size, 2, none⟩ = some (.int .i64 m'.se) ∧ w'.cell? ⟨w1.heap.size, 3, none⟩ = some (.int .i64 m'.ta) ∧ w'.cell? ⟨w1.heap.size, 4, none⟩ = some (.int .i64 m'.lo) ∧ w'.cell? ⟨w.heap.size + 1, 0, none⟩ = some (.int .i64 0) ∧ w'.cell? ⟨w.heap.size + 1, 1, none⟩ = some (.int .i64 fr) ∧ w'.cell? ⟨w.heap.size + 1, 2, none⟩ = some (.int .i64 tt) ∧ w'.cell? ⟨w.heap.size + 1, 3, none⟩ = some (.string s) ∧ w'.cell? ⟨w.heap.size + 1, 4, none⟩ = some (.int .i64 an) ∧ w'.cell? ⟨w.heap.size + 1, 5, none⟩ = some (.int .i64 am)) ∧ Hid (NSt w0 A p n' w' ∧ Keep (fun j => ¬ (A j ∨ Oth W j)) W w') ∧ Hid (∀ cs, RowIs W (w.heap.size + 1 + 1) cs 28 → RowIs w' (w.heap.size + 1 + 1) cs 28) ∧ Hid (RowIs w' w1.heap.size [.slice ad3 m'.L.length c3, .slice ad4 m'.cs.length c4, .int .i64 m'.se, .int .i64 m'.ta, .int .i64 m'.lo] 28) ∧ Hid (RowIs w' (w.heap.size + 1) [.int .i64 0, .int .i64 fr, .int .i64 tt, .string s, .int .i64 an, .int .i64 am] 35)) := fun W hW hZW => by
    have hc := HC1.out
    have rN := HN1.out.keep hW (fun e => by omega)
    have rA := HA1.out.keep hW (fun e => by omega)
    refine (stepO (HS2.out.put hW OZ.out (by omega)) (fun P1 h1 => PC P1 W h1)).mono ?_
    rintro e w' ⟨rfl, h1, h2⟩
    exact ⟨rfl, SK.out w' (rN.keep h2 (fun hn => hn (.inr (Oth.row rN (by decide) (by decide))))) (rA.keep h2 (fun hn => hn (.inr (Oth.row rA (by decide) (by decide))))), ⟨h1, h2⟩, fun cs r => r.keep h2 (fun hn => hn (.inr (Oth.row r (by decide) (by decide)))), rN.keep h2 (fun hn => hn (.inr (Oth.row rN (by decide) (by decide)))), rA.keep h2 (fun hn => hn (.inr (Oth.row rA (by decide) (by decide))))⟩
  have kd : Keep (· = w.heap.size + 1 + 1) w2 w2.drew := keep_drew _ _
  have C0 := hid (PCW.out w2.drew kd ⟨_, HZ1.out.keep (keep_drew (fun _ => False) _) (fun h => h)⟩)
  have HF2 := hid (five (v0 := .slice ad3 m'.L.length c3) (v1 := .slice ad4 m'.cs.length c4) (v2 := .int .i64 m'.se) (v3 := .int .i64 m'.ta) (v4 := .int .i64 m'.lo) HZ1.out)
  have C5 := hid (PCW.out (((((w2.setCell ⟨w.heap.size + 1 + 1, 0, none⟩ (.slice ad3 m'.L.length c3)).setCell ⟨w.heap.size + 1 + 1, 1, none⟩ (.slice ad4 m'.cs.length c4)).setCell ⟨w.heap.size + 1 + 1, 2, none⟩ (.int .i64 m'.se)).setCell ⟨w.heap.size + 1 + 1, 3, none⟩ (.int .i64 m'.ta)).setCell ⟨w.heap.size + 1 + 1, 4, none⟩ (.int .i64 m'.lo)).drew (HF2.out.2.trans (keep_drew _ _)) ⟨_, HF2.out.1.keep (keep_drew (fun _ => False) _) (fun h => h)⟩)
  have S0 := hid (SK.out w2.drew (HN1.out.keep (keep_drew (fun _ => False) _) (fun h => h)) (HA1.out.keep (keep_drew (fun _ => False) _) (fun h => h)))
  have S5 := hid (SK.out (((((w2.setCell ⟨w.heap.size + 1 + 1, 0, none⟩ (.slice ad3 m'.L.length c3)).setCell ⟨w.heap.size + 1 + 1, 1, none⟩ (.slice ad4 m'.cs.length c4)).setCell ⟨w.heap.size + 1 + 1, 2, none⟩ (.int .i64 m'.se)).setCell ⟨w.heap.size + 1 + 1, 3, none⟩ (.int .i64 m'.ta)).setCell ⟨w.heap.size + 1 + 1, 4, none⟩ (.int .i64 m'.lo)).drew ((HN1.out.keep HF2.out.2 (fun e => by have := HC1.out; omega)).keep (keep_drew (fun _ => False) _) (fun h => h)) ((HA1.out.keep HF2.out.2 (fun e => by omega)).keep (keep_drew (fun _ => False) _) (fun h => h)))
  have SX : Hid (∀ W, RowIs W w1.heap.size [.slice ad3 m'.L.length c3, .slice ad4 m'.cs.length c4, .int .i64 m'.se, .int .i64 m'.ta, .int .i64 m'.lo] 28 → RowIs W (w.heap.size + 1) [.int .i64 0, .int .i64 fr, .int .i64 tt, .string s, .int .i64 an, .int .i64 am] 35 → ((((((W.setCell ⟨w.heap.size + 1 + 1, 0, none⟩ (.slice ad3 m'.L.length c3)).setCell ⟨w.heap.size + 1 + 1, 1, none⟩ (.slice ad4 m'.cs.length c4)).setCell ⟨w.heap.size + 1 + 1, 2, none⟩ (.int .i64 m'.se)).setCell ⟨w.heap.size + 1 + 1, 3, none⟩ (.int .i64 m'.ta)).setCell ⟨w.heap.size + 1 + 1, 4, none⟩ (.int .i64 m'.lo)).cell? ⟨w1.heap.size, 0, none⟩ = some (.slice ad3 m'.L.length c3) ∧ (((((W.setCell ⟨w.heap.size + 1 + 1, 0, none⟩ (.slice ad3 m'.L.length c3)).setCell ⟨w.heap.size + 1 + 1, 1, none⟩ (.slice ad4 m'.cs.length c4)).setCell ⟨w.heap.size + 1 + 1, 2, none⟩ (.int .i64 m'.se)).setCell ⟨w.heap.size + 1 + 1, 3, none⟩ (.int .i64 m'.ta)).setCell ⟨w.heap.size + 1 + 1, 4, none⟩ (.int .i64 m'.lo)).cell? ⟨w1.heap.size, 1, none⟩ = some (.slice ad4 m'.cs.length c4) ∧ (((((W.setCell ⟨w.heap.size + 1 + 1, 0, none⟩ (.slice ad3 m'.L.length c3)).setCell ⟨w.heap.size + 1 + 1, 1, none⟩ (.slice ad4 m'.cs.length c4)).setCell ⟨w.heap.size + 1 + 1, 2, none⟩ (.int .i64 m'.se)).setCell ⟨w.heap.size + 1 + 1, 3, none⟩ (.int .i64 m'.ta)).setCell ⟨w.heap.size + 1 + 1, 4, none⟩ (.int .i64 m'.lo)).cell? ⟨w1.heap.size, 2, none⟩ = some (.int .i64 m'.se) ∧ (((((W.setCell ⟨w.heap.size + 1 + 1, 0, none⟩ (.slice ad3 m'.L.length c3)).setCell ⟨w.heap.size + 1 + 1, 1, none⟩ (.slice ad4 m'.cs.length c4)).setCell ⟨w.heap.size + 1 + 1, 2, none⟩ (.int .i64 m'.se)).setCell ⟨w.heap.size + 1 + 1, 3, none⟩ (.int .i64 m'.ta)).setCell ⟨w.heap.size + 1 + 1, 4, none⟩ (.int .i64 m'.lo)).cell? ⟨w1.heap.size, 3, none⟩ = some (.int .i64 m'.ta) ∧ (((((W.setCell ⟨w.heap.size + 1 + 1, 0, none⟩ (.slice ad3 m'.L.length c3)).setCell ⟨w.heap.size + 1 + 1, 1, none⟩ (.slice ad4 m'.cs.length c4)).setCell ⟨w.heap.size + 1 + 1, 2, none⟩ (.int .i64 m'.se)).setCell ⟨w.heap.size + 1 + 1, 3, none⟩ (.int .i64 m'.ta)).setCell ⟨w.heap.size + 1 + 1, 4, none⟩ (.int .i64 m'.lo)).cell? ⟨w1.heap.size, 4, none⟩ = some (.int .i64 m'.lo) ∧ (((((W.setCell ⟨w.heap.size + 1 + 1, 0, none⟩ (.slice ad3 m'.L.length c3)).setCell ⟨w.heap.size + 1 + 1, 1, none⟩ (.slice ad4 m'.cs.length c4)).setCell ⟨w.heap.size + 1 + 1, 2, none⟩ (.int .i64 m'.se)).setCell ⟨w.heap.size + 1 + 1, 3, none⟩ (.int .i64 m'.ta)).setCell ⟨w.heap.size + 1 + 1, 4, none⟩ (.int .i64 m'.lo)).cell? ⟨w.heap.size + 1, 0, none⟩ = some (.int .i64 0) ∧ (((((W.setCell ⟨w.heap.size + 1 + 1, 0, none⟩ (.slice ad3 m'.L.length c3)).setCell ⟨w.heap.size + 1 + 1, 1, none⟩ (.slice ad4 m'.cs.length c4)).setCell ⟨w.heap.size + 1 + 1, 2, none⟩ (.int .i64 m'.se)).setCell ⟨w.heap.size + 1 + 1, 3, none⟩ (.int .i64 m'.ta)).setCell ⟨w.heap.size + 1 + 1, 4, none⟩ (.int .i64 m'.lo)).cell? ⟨w.heap.size + 1, 1, none⟩ = some (.int .i64 fr) ∧ (((((W.setCell ⟨w.heap.size + 1 + 1, 0, none⟩ (.slice ad3 m'.L.length c3)).setCell ⟨w.heap.size + 1 + 1, 1, none⟩ (.slice ad4 m'.cs.length c4)).setCell ⟨w.heap.size + 1 + 1, 2, none⟩ (.int .i64 m'.se)).setCell ⟨w.heap.size + 1 + 1, 3, none⟩ (.int .i64 m'.ta)).setCell ⟨w.heap.size + 1 + 1, 4, none⟩ (.int .i64 m'.lo)).cell? ⟨w.heap.size + 1, 2, none⟩ = some (.int .i64 tt) ∧ (((((W.setCell ⟨w.heap.size + 1 + 1, 0, none⟩ (.slice ad3 m'.L.length c3)).setCell ⟨w.heap.size + 1 + 1, 1, none⟩ (.slice ad4 m'.cs.length c4)).setCell ⟨w.heap.size + 1 + 1, 2, none⟩ (.int .i64 m'.se)).setCell ⟨w.heap.size + 1 + 1, 3, none⟩ (.int .i64 m'.ta)).setCell ⟨w.heap.size + 1 + 1, 4, none⟩ (.int .i64 m'.lo)).cell? ⟨w.heap.size + 1, 3, none⟩ = some (.string s) ∧ (((((W.setCell ⟨w.heap.size + 1 + 1, 0, none⟩ (.slice ad3 m'.L.length c3)).setCell ⟨w.heap.size + 1 + 1, 1, none⟩ (.slice ad4 m'.cs.length c4)).setCell ⟨w.heap.size + 1 + 1, 2, none⟩ (.int .i64 m'.se)).setCell ⟨w.heap.size + 1 + 1, 3, none⟩ (.int .i64 m'.ta)).setCell ⟨w.heap.size + 1 + 1, 4, none⟩ (.int .i64 m'.lo)).cell? ⟨w.heap.size + 1, 4, none⟩ = some (.int .i64 an) ∧ (((((W.setCell ⟨w.heap.size + 1 + 1, 0, none⟩ (.slice ad3 m'.L.length c3)).setCell ⟨w.heap.size + 1 + 1, 1, none⟩ (.slice ad4 m'.cs.length c4)).setCell ⟨w.heap.size + 1 + 1, 2, none⟩ (.int .i64 m'.se)).setCell ⟨w.heap.size + 1 + 1, 3, none⟩ (.int .i64 m'.ta)).setCell ⟨w.heap.size + 1 + 1, 4, none⟩ (.int .i64 m'.lo)).cell? ⟨w.heap.size + 1, 5, none⟩ = some (.int .i64 am))) := fun W r1 r2 => SK.out _ (r1.keep (k5 W) (fun e => by have := HC1.out; omega)) (r2.keep (k5 W) (fun e => by omega))
  have z0 := HZ1.out.cellAt (o := 0) rfl
  have z1 := HZ1.out.cellAt (o := 1) rfl
  have z2 := HZ1.out.cellAt (o := 2) rfl
  have z3 := HZ1.out.cellAt (o := 3) rfl
  have z4 := HZ1.out.cellAt (o := 4) rfl
  have g0 := HZ1.out.frozen (o := 0)
  have g1 := HZ1.out.frozen (o := 1)
  have g2 := HZ1.out.frozen (o := 2)
  have g3 := HZ1.out.frozen (o := 3)
  have g4 := HZ1.out.frozen (o := 4)
  have n0 := HN1.out.cellAt (o := 0) rfl
  have n1 := HN1.out.cellAt (o := 1) rfl
  have n2 := HN1.out.cellAt (o := 2) rfl
  have n3 := HN1.out.cellAt (o := 3) rfl
  have n4 := HN1.out.cellAt (o := 4) rfl
  have t0 := HA1.out.cellAt (o := 0) rfl
  have t1 := HA1.out.cellAt (o := 1) rfl
  have t2 := HA1.out.cellAt (o := 2) rfl
  have t3 := HA1.out.cellAt (o := 3) rfl
  have t4 := HA1.out.cellAt (o := 4) rfl
  have t5 := HA1.out.cellAt (o := 5) rfl
  have HZD := hid (HZ1.out.keep (keep_drew (fun _ => False) w2) (fun h => h))
  clear SK kd PC HS
  go_region_held3 (fun w' => w'.cell? ⟨w1.heap.size, 0, none⟩ = some (.slice ad3 m'.L.length c3) ∧ w'.cell? ⟨w1.heap.size, 1, none⟩ = some (.slice ad4 m'.cs.length c4) ∧ w'.cell? ⟨w1.heap.size, 2, none⟩ = some (.int .i64 m'.se) ∧ w'.cell? ⟨w1.heap.size, 3, none⟩ = some (.int .i64 m'.ta) ∧ w'.cell? ⟨w1.heap.size, 4, none⟩ = some (.int .i64 m'.lo) ∧ w'.cell? ⟨w.heap.size + 1, 0, none⟩ = some (.int .i64 0) ∧ w'.cell? ⟨w.heap.size + 1, 1, none⟩ = some (.int .i64 fr) ∧ w'.cell? ⟨w.heap.size + 1, 2, none⟩ = some (.int .i64 tt) ∧ w'.cell? ⟨w.heap.size + 1, 3, none⟩ = some (.string s) ∧ w'.cell? ⟨w.heap.size + 1, 4, none⟩ = some (.int .i64 an) ∧ w'.cell? ⟨w.heap.size + 1, 5, none⟩ = some (.int .i64 am)) (first | (refine ⟨?_, ?_, ?_, ?_, ?_, ?_, ?_, ?_, ?_, ?_, ?_⟩ <;> with_reducible assumption) | with_reducible (exact S0.out) | with_reducible (exact S5.out) | with_reducible (exact SX.out _ hr1.out hr2.out)) (first | (go_at_call 13; with_reducible (refine C0.out.mono ?_); rintro e w5 ⟨rfl, ⟨e0, e1, e2, e3, e4, e5, e6, e7, e8, e9, e10⟩, hE, hZ5, hr1, hr2⟩; have rz := hZ5.out _ HZD.out; have y0 := rz.cellAt (o := 0) rfl; have y1 := rz.cellAt (o := 1) rfl; have y2 := rz.cellAt (o := 2) rfl; have y3 := rz.cellAt (o := 3) rfl; have y4 := rz.cellAt (o := 4) rfl; have h0 := rz.frozen (o := 0); have h1 := rz.frozen (o := 1); have h2 := rz.frozen (o := 2); have h3 := rz.frozen (o := 3); have h4 := rz.frozen (o := 4)) | (go_at_call 13; with_reducible (refine C5.out.mono ?_); rintro e w5 ⟨rfl, ⟨e0, e1, e2, e3, e4, e5, e6, e7, e8, e9, e10⟩, hE, hZ5, hr1, hr2⟩))
  have HF := hid (five (v0 := .slice ad3 m'.L.length c3) (v1 := .slice ad4 m'.cs.length c4) (v2 := .int .i64 m'.se) (v3 := .int .i64 m'.ta) (v4 := .int .i64 m'.lo) rz)
  have HRZ := hid rz
  clear C0 C5 S0 S5 SX HZD HF2 z0 z1 z2 z3 z4 g0 g1 g2 g3 g4 n0 n1 n2 n3 n4 t0 t1 t2 t3 t4 t5 e0 e1 e2 e3 e4 e5 e6 e7 e8 e9 e10 y0 y1 y2 y3 y4 h0 h1 h2 h3 h4 hr1 hr2 rz hZ5 PCW k5
  have HRF : Hid (RfIs _ (.slice ad3 m'.L.length c3) (.slice ad4 m'.cs.length c4) m') := ((HR1.out.keep (keep_drew _ _)).oth hE.out.2).put HF.out.2 ⟨_, HRZ.out⟩
  have HNS := hid (hE.out.1.put HF.out.2 (Oth.row HRZ.out (by decide) (by decide)) (by omega))
  have HKK : Hid (Keep (fun j => ¬ A j ∧ ¬ Oth w j) w _) := ((K1.out.trans (keep_drew _ _)).mono (fun _ _ h => h.elim)).then (hE.out.2.mono (T := fun j => ¬ A j ∧ (j < w.heap.size → ¬ Oth w j)) (fun j hj hn => ⟨fun h => hn (.inl h), fun hjw ho => hn (.inr (by obtain ⟨cur, t, hb, t1, t2⟩ := ho; exact ⟨cur, t, ((K1.out.trans (keep_drew (fun _ => False) _)).block j hjw (fun h => h)).trans hb, t1, t2⟩))⟩)) (fun j hj hn => ⟨hn.1, hn.2 hj⟩) |>.then HF.out.2 (fun j hj e => by omega)
  clear HR1 HS2 HA1 HZ1 HN1 OZ K1 hE HRZ
  go_wp2
  refine bodyPost_ret (v := .tuple #[.agg #[.slice ad3 m'.L.length c3, .slice ad4 m'.cs.length c4, .int .i64 m'.se, .int .i64 m'.ta, .int .i64 m'.lo], .bool (yy == xx)]) (npk_cell_tmp (p := 6) (u := 7) rfl _ _ (w.heap.size + 1 + 1) _ _ rfl rfl (run_loadVar_row _ _ _ _ _ _ _ HF.out.1 Try.underlying28 rfl (by kernel_rfl))) rfl ⟨_, _, rfl, HRF.out, HNS.out, HKK.out⟩
set_option maxRecDepth 100000 in
set_option maxHeartbeats 4000000 in
theorem one2_any (w0 : World) (A : Nat → Prop) (p : Nat) (n n' : Net) (lv cv : Value) (m m' : RNet) (kd fr tt an am : Int) (s : ByteArray) (xx yy : Bool) (w : World) (hkd : kd = 2) (hS : NSt w0 A p n w) (hR : RfIs w lv cv m)
    (RC : ∀ W, Keep (fun _ => False) w W → Calls Try.prog 26 #[rmV lv cv m, .int .i64 an] W fun e w' => ∃ lv' cv', e = .returned (.tuple #[rmV lv' cv' m', .bool xx]) ∧ RfIs w' lv' cv' m' ∧ Keep (fun _ => False) W w')
    (PC : ∀ P1 W, NetIs W P1 p n → Calls Try.prog 22 #[.pointer (some ⟨p, 0, none⟩), .int .i64 an] W fun e w' => e = .returned (.bool yy) ∧ NLeft W P1 p n' w') :
    Calls Try.prog 11 #[.pointer (some ⟨p, 0, none⟩), rmV lv cv m, .agg #[.int .i64 kd, .int .i64 fr, .int .i64 tt, .string s, .int .i64 an, .int .i64 am]] w fun e w' => ∃ lv' cv', e = .returned (.tuple #[rmV lv' cv' m', .bool (yy == xx)]) ∧ RfIs w' lv' cv' m' ∧ NSt w0 A p n' w' ∧ Keep (fun j => ¬ A j ∧ ¬ Oth w j) w w' := by
  obtain ⟨ad1, c1, rfl⟩ := row_form hR.l
  obtain ⟨ad2, c2, rfl⟩ := row_form hR.c
  have HRC := hid RC
  have HS := hid hS
  have hw0 := hS.size
  subst hkd
  unfold rmV at *
  clear RC hR hS
  have K0 : Hid (Keep (fun _ => False) w (((w.alloc (.cells #[.slice ad1 m.L.length c1, .slice ad2 m.cs.length c2, .int .i64 m.se, .int .i64 m.ta, .int .i64 m.lo] 28)).alloc (.cells #[.int .i64 2, .int .i64 fr, .int .i64 tt, .string s, .int .i64 an, .int .i64 am] 35)).alloc (.cells #[.slice none 0 0, .slice none 0 0, .int .i64 0, .int .i64 0, .int .i64 0] 28))) := ((keep_alloc _ _ _).trans (keep_alloc _ _ _)).trans (keep_alloc _ _ _)
  have HA := hid ((row2 w (.cells #[.slice ad1 m.L.length c1, .slice ad2 m.cs.length c2, .int .i64 m.se, .int .i64 m.ta, .int .i64 m.lo] 28) [.int .i64 2, .int .i64 fr, .int .i64 tt, .string s, .int .i64 an, .int .i64 am] 35).keep (keep_alloc (fun _ => False) _ (.cells #[.slice none 0 0, .slice none 0 0, .int .i64 0, .int .i64 0, .int .i64 0] 28)) (fun h => h))
  have HZ := hid (row3 w (.cells #[.slice ad1 m.L.length c1, .slice ad2 m.cs.length c2, .int .i64 m.se, .int .i64 m.ta, .int .i64 m.lo] 28) (.cells #[.int .i64 2, .int .i64 fr, .int .i64 tt, .string s, .int .i64 an, .int .i64 am] 35) [.slice none 0 0, .slice none 0 0, .int .i64 0, .int .i64 0, .int .i64 0] 28)
  go_enter Try.func11, Try.ntmps11
  go_wp2_with fail
  refine (HRC.out _ K0.out).mono ?_
  rintro e w1 ⟨lv', cv', rfl, hR1, k1⟩
  obtain ⟨ad3, c3, rfl⟩ := row_form hR1.l
  obtain ⟨ad4, c4, rfl⟩ := row_form hR1.c
  have kA := k1.trans (keep_alloc (fun _ => False) w1 (.cells #[.slice ad3 m'.L.length c3, .slice ad4 m'.cs.length c4, .int .i64 m'.se, .int .i64 m'.ta, .int .i64 m'.lo] 28))
  have HA1 := hid (HA.out.keep kA (fun h => h))
  have HZ1 := hid (HZ.out.keep kA (fun h => h))
  have HN1 := hid (row1 w1 [.slice ad3 m'.L.length c3, .slice ad4 m'.cs.length c4, .int .i64 m'.se, .int .i64 m'.ta, .int .i64 m'.lo] 28)
  have hc1 : w.heap.size + 1 + 1 < w1.heap.size := Nat.lt_of_lt_of_le HZ.out.lt k1.size
  have HC1 := hid hc1
  have K1 := hid (K0.out.trans kA)
  have HR1 := hid (hR1.keep (keep_alloc (fun _ => False) w1 (.cells #[.slice ad3 m'.L.length c3, .slice ad4 m'.cs.length c4, .int .i64 m'.se, .int .i64 m'.ta, .int .i64 m'.lo] 28)))
  clear hR1 k1 kA HRC K0 HA HZ hc1
  go_wp2
  generalize w1.alloc (.cells #[.slice ad3 m'.L.length c3, .slice ad4 m'.cs.length c4, .int .i64 m'.se, .int .i64 m'.ta, .int .i64 m'.lo] 28) = w2 at *
  have HS2 := hid (HS.out.keep K1.out)
  have OZ : Hid (Oth w2 (w.heap.size + 1 + 1)) := Oth.row HZ1.out (by decide) (by decide)
  have SK : Hid (∀ w', RowIs w' w1.heap.size [.slice ad3 m'.L.length c3, .slice ad4 m'.cs.length c4, .int .i64 m'.se, .int .i64 m'.ta, .int .i64 m'.lo] 28 → RowIs w' (w.heap.size + 1) [.int .i64 2, .int .i64 fr, .int .i64 tt, .string s, .int .i64 an, .int .i64 am] 35 → (w'.cell? ⟨w1.heap.size, 0, none⟩ = some (.slice ad3 m'.L.length c3) ∧ w'.cell? ⟨w1.heap.size, 1, none⟩ = some (.slice ad4 m'.cs.length c4) ∧ w'.cell? ⟨w1.heap.size, 2, none⟩ = some (.int .i64 m'.se) ∧ w'.cell? ⟨w1.heap.size, 3, none⟩ = some (.int .i64 m'.ta) ∧ w'.cell? ⟨w1.heap.size, 4, none⟩ = some (.int .i64 m'.lo) ∧ w'.cell? ⟨w.heap.size + 1, 0, none⟩ = some (.int .i64 2) ∧ w'.cell? ⟨w.heap.size + 1, 1, none⟩ = some (.int .i64 fr) ∧ w'.cell? ⟨w.heap.size + 1, 2, none⟩ = some (.int .i64 tt) ∧ w'.cell? ⟨w.heap.size + 1, 3, none⟩ = some (.string s) ∧ w'.cell? ⟨w.heap.size + 1, 4, none⟩ = some (.int .i64 an) ∧ w'.cell? ⟨w.heap.size + 1, 5, none⟩ = some (.int .i64 am))) := fun w' r1 r2 => ⟨r1.cellAt rfl, r1.cellAt rfl, r1.cellAt rfl, r1.cellAt rfl, r1.cellAt rfl, r2.cellAt rfl, r2.cellAt rfl, r2.cellAt rfl, r2.cellAt rfl, r2.cellAt rfl, r2.cellAt rfl⟩
  have k5 : ∀ W : World, Keep (· = w.heap.size + 1 + 1) W (((((W.setCell ⟨w.heap.size + 1 + 1, 0, none⟩ (.slice ad3 m'.L.length c3)).setCell ⟨w.heap.size + 1 + 1, 1, none⟩ (.slice ad4 m'.cs.length c4)).setCell ⟨w.heap.size + 1 + 1, 2, none⟩ (.int .i64 m'.se)).setCell ⟨w.heap.size + 1 + 1, 3, none⟩ (.int .i64 m'.ta)).setCell ⟨w.heap.size + 1 + 1, 4, none⟩ (.int .i64 m'.lo)) := fun W => ((((keep_setCell _ _ _ _).trans (keep_setCell _ _ _ _)).trans (keep_setCell _ _ _ _)).trans (keep_setCell _ _ _ _)).trans (keep_setCell _ _ _ _)
  have PCW : Hid (∀ W, Keep (· = w.heap.size + 1 + 1) w2 W → (∃ cs, RowIs W (w.heap.size + 1 + 1) cs 28) → Calls Try.prog 22 #[.pointer (some ⟨p, 0, none⟩), .int .i64 an] W fun e w' => e = .returned (.bool yy) ∧ (w'.cell? ⟨w1.heap.size, 0, none⟩ = some (.slice ad3 m'.L.length c3) ∧ w'.cell? ⟨w1.heap.size, 1, none⟩ = some (.slice ad4 m'.cs.length c4) ∧ w'.cell? ⟨w1.heap.size, 2, none⟩ = some (.int .i64 m'.se) ∧ w'.cell? ⟨w1.heap.size, 3, none⟩ = some (.int .i64 m'.ta) ∧ w'.cell? ⟨w1.heap.size, 4, none⟩ = some (.int .i64 m'.lo) ∧ w'.cell? ⟨w.heap.size + 1, 0, none⟩ = some (.int .i64 2) ∧ w'.cell? ⟨w.heap.size + 1, 1, none⟩ = some (.int .i64 fr) ∧ w'.cell? ⟨w.heap.size + 1, 2, none⟩ = some (.int .i64 tt) ∧ w'.cell? ⟨w.heap.size + 1, 3, none⟩ = some (.string s) ∧ w'.cell? ⟨w.heap.size + 1, 4, none⟩ = some (.int .i64 an) ∧ w'.cell? ⟨w.heap.size + 1, 5, none⟩ = some (.int .i64 am)) ∧ Hid (NSt w0 A p n' w' ∧ Keep (fun j => ¬ (A j ∨ Oth W j)) W w') ∧ Hid (∀ cs, RowIs W (w.heap.size + 1 + 1) cs 28 → RowIs w' (w.heap.size + 1 + 1) cs 28) ∧ Hid (RowIs w' w1.heap.size [.slice ad3 m'.L.length c3, .slice ad4 m'.cs.length c4, .int .i64 m'.se, .int .i64 m'.ta, .int .i64 m'.lo] 28) ∧ Hid (RowIs w' (w.heap.size + 1) [.int .i64 2, .int .i64 fr, .int .i64 tt, .string s, .int .i64 an, .int .i64 am] 35)) := fun W hW hZW => by
    have hc := HC1.out
    have rN := HN1.out.keep hW (fun e => by omega)
    have rA := HA1.out.keep hW (fun e => by omega)
    refine (stepO (HS2.out.put hW OZ.out (by omega)) (fun P1 h1 => PC P1 W h1)).mono ?_
    rintro e w' ⟨rfl, h1, h2⟩
    exact ⟨rfl, SK.out w' (rN.keep h2 (fun hn => hn (.inr (Oth.row rN (by decide) (by decide))))) (rA.keep h2 (fun hn => hn (.inr (Oth.row rA (by decide) (by decide))))), ⟨h1, h2⟩, fun cs r => r.keep h2 (fun hn => hn (.inr (Oth.row r (by decide) (by decide)))), rN.keep h2 (fun hn => hn (.inr (Oth.row rN (by decide) (by decide)))), rA.keep h2 (fun hn => hn (.inr (Oth.row rA (by decide) (by decide))))⟩
  have kd : Keep (· = w.heap.size + 1 + 1) w2 w2.drew := keep_drew _ _
  have C0 := hid (PCW.out w2.drew kd ⟨_, HZ1.out.keep (keep_drew (fun _ => False) _) (fun h => h)⟩)
  have HF2 := hid (five (v0 := .slice ad3 m'.L.length c3) (v1 := .slice ad4 m'.cs.length c4) (v2 := .int .i64 m'.se) (v3 := .int .i64 m'.ta) (v4 := .int .i64 m'.lo) HZ1.out)
  have C5 := hid (PCW.out (((((w2.setCell ⟨w.heap.size + 1 + 1, 0, none⟩ (.slice ad3 m'.L.length c3)).setCell ⟨w.heap.size + 1 + 1, 1, none⟩ (.slice ad4 m'.cs.length c4)).setCell ⟨w.heap.size + 1 + 1, 2, none⟩ (.int .i64 m'.se)).setCell ⟨w.heap.size + 1 + 1, 3, none⟩ (.int .i64 m'.ta)).setCell ⟨w.heap.size + 1 + 1, 4, none⟩ (.int .i64 m'.lo)).drew (HF2.out.2.trans (keep_drew _ _)) ⟨_, HF2.out.1.keep (keep_drew (fun _ => False) _) (fun h => h)⟩)
  have S0 := hid (SK.out w2.drew (HN1.out.keep (keep_drew (fun _ => False) _) (fun h => h)) (HA1.out.keep (keep_drew (fun _ => False) _) (fun h => h)))
  have S5 := hid (SK.out (((((w2.setCell ⟨w.heap.size + 1 + 1, 0, none⟩ (.slice ad3 m'.L.length c3)).setCell ⟨w.heap.size + 1 + 1, 1, none⟩ (.slice ad4 m'.cs.length c4)).setCell ⟨w.heap.size + 1 + 1, 2, none⟩ (.int .i64 m'.se)).setCell ⟨w.heap.size + 1 + 1, 3, none⟩ (.int .i64 m'.ta)).setCell ⟨w.heap.size + 1 + 1, 4, none⟩ (.int .i64 m'.lo)).drew ((HN1.out.keep HF2.out.2 (fun e => by have := HC1.out; omega)).keep (keep_drew (fun _ => False) _) (fun h => h)) ((HA1.out.keep HF2.out.2 (fun e => by omega)).keep (keep_drew (fun _ => False) _) (fun h => h)))
  have SX : Hid (∀ W, RowIs W w1.heap.size [.slice ad3 m'.L.length c3, .slice ad4 m'.cs.length c4, .int .i64 m'.se, .int .i64 m'.ta, .int .i64 m'.lo] 28 → RowIs W (w.heap.size + 1) [.int .i64 2, .int .i64 fr, .int .i64 tt, .string s, .int .i64 an, .int .i64 am] 35 → ((((((W.setCell ⟨w.heap.size + 1 + 1, 0, none⟩ (.slice ad3 m'.L.length c3)).setCell ⟨w.heap.size + 1 + 1, 1, none⟩ (.slice ad4 m'.cs.length c4)).setCell ⟨w.heap.size + 1 + 1, 2, none⟩ (.int .i64 m'.se)).setCell ⟨w.heap.size + 1 + 1, 3, none⟩ (.int .i64 m'.ta)).setCell ⟨w.heap.size + 1 + 1, 4, none⟩ (.int .i64 m'.lo)).cell? ⟨w1.heap.size, 0, none⟩ = some (.slice ad3 m'.L.length c3) ∧ (((((W.setCell ⟨w.heap.size + 1 + 1, 0, none⟩ (.slice ad3 m'.L.length c3)).setCell ⟨w.heap.size + 1 + 1, 1, none⟩ (.slice ad4 m'.cs.length c4)).setCell ⟨w.heap.size + 1 + 1, 2, none⟩ (.int .i64 m'.se)).setCell ⟨w.heap.size + 1 + 1, 3, none⟩ (.int .i64 m'.ta)).setCell ⟨w.heap.size + 1 + 1, 4, none⟩ (.int .i64 m'.lo)).cell? ⟨w1.heap.size, 1, none⟩ = some (.slice ad4 m'.cs.length c4) ∧ (((((W.setCell ⟨w.heap.size + 1 + 1, 0, none⟩ (.slice ad3 m'.L.length c3)).setCell ⟨w.heap.size + 1 + 1, 1, none⟩ (.slice ad4 m'.cs.length c4)).setCell ⟨w.heap.size + 1 + 1, 2, none⟩ (.int .i64 m'.se)).setCell ⟨w.heap.size + 1 + 1, 3, none⟩ (.int .i64 m'.ta)).setCell ⟨w.heap.size + 1 + 1, 4, none⟩ (.int .i64 m'.lo)).cell? ⟨w1.heap.size, 2, none⟩ = some (.int .i64 m'.se) ∧ (((((W.setCell ⟨w.heap.size + 1 + 1, 0, none⟩ (.slice ad3 m'.L.length c3)).setCell ⟨w.heap.size + 1 + 1, 1, none⟩ (.slice ad4 m'.cs.length c4)).setCell ⟨w.heap.size + 1 + 1, 2, none⟩ (.int .i64 m'.se)).setCell ⟨w.heap.size + 1 + 1, 3, none⟩ (.int .i64 m'.ta)).setCell ⟨w.heap.size + 1 + 1, 4, none⟩ (.int .i64 m'.lo)).cell? ⟨w1.heap.size, 3, none⟩ = some (.int .i64 m'.ta) ∧ (((((W.setCell ⟨w.heap.size + 1 + 1, 0, none⟩ (.slice ad3 m'.L.length c3)).setCell ⟨w.heap.size + 1 + 1, 1, none⟩ (.slice ad4 m'.cs.length c4)).setCell ⟨w.heap.size + 1 + 1, 2, none⟩ (.int .i64 m'.se)).setCell ⟨w.heap.size + 1 + 1, 3, none⟩ (.int .i64 m'.ta)).setCell ⟨w.heap.size + 1 + 1, 4, none⟩ (.int .i64 m'.lo)).cell? ⟨w1.heap.size, 4, none⟩ = some (.int .i64 m'.lo) ∧ (((((W.setCell ⟨w.heap.size + 1 + 1, 0, none⟩ (.slice ad3 m'.L.length c3)).setCell ⟨w.heap.size + 1 + 1, 1, none⟩ (.slice ad4 m'.cs.length c4)).setCell ⟨w.heap.size + 1 + 1, 2, none⟩ (.int .i64 m'.se)).setCell ⟨w.heap.size + 1 + 1, 3, none⟩ (.int .i64 m'.ta)).setCell ⟨w.heap.size + 1 + 1, 4, none⟩ (.int .i64 m'.lo)).cell? ⟨w.heap.size + 1, 0, none⟩ = some (.int .i64 2) ∧ (((((W.setCell ⟨w.heap.size + 1 + 1, 0, none⟩ (.slice ad3 m'.L.length c3)).setCell ⟨w.heap.size + 1 + 1, 1, none⟩ (.slice ad4 m'.cs.length c4)).setCell ⟨w.heap.size + 1 + 1, 2, none⟩ (.int .i64 m'.se)).setCell ⟨w.heap.size + 1 + 1, 3, none⟩ (.int .i64 m'.ta)).setCell ⟨w.heap.size + 1 + 1, 4, none⟩ (.int .i64 m'.lo)).cell? ⟨w.heap.size + 1, 1, none⟩ = some (.int .i64 fr) ∧ (((((W.setCell ⟨w.heap.size + 1 + 1, 0, none⟩ (.slice ad3 m'.L.length c3)).setCell ⟨w.heap.size + 1 + 1, 1, none⟩ (.slice ad4 m'.cs.length c4)).setCell ⟨w.heap.size + 1 + 1, 2, none⟩ (.int .i64 m'.se)).setCell ⟨w.heap.size + 1 + 1, 3, none⟩ (.int .i64 m'.ta)).setCell ⟨w.heap.size + 1 + 1, 4, none⟩ (.int .i64 m'.lo)).cell? ⟨w.heap.size + 1, 2, none⟩ = some (.int .i64 tt) ∧ (((((W.setCell ⟨w.heap.size + 1 + 1, 0, none⟩ (.slice ad3 m'.L.length c3)).setCell ⟨w.heap.size + 1 + 1, 1, none⟩ (.slice ad4 m'.cs.length c4)).setCell ⟨w.heap.size + 1 + 1, 2, none⟩ (.int .i64 m'.se)).setCell ⟨w.heap.size + 1 + 1, 3, none⟩ (.int .i64 m'.ta)).setCell ⟨w.heap.size + 1 + 1, 4, none⟩ (.int .i64 m'.lo)).cell? ⟨w.heap.size + 1, 3, none⟩ = some (.string s) ∧ (((((W.setCell ⟨w.heap.size + 1 + 1, 0, none⟩ (.slice ad3 m'.L.length c3)).setCell ⟨w.heap.size + 1 + 1, 1, none⟩ (.slice ad4 m'.cs.length c4)).setCell ⟨w.heap.size + 1 + 1, 2, none⟩ (.int .i64 m'.se)).setCell ⟨w.heap.size + 1 + 1, 3, none⟩ (.int .i64 m'.ta)).setCell ⟨w.heap.size + 1 + 1, 4, none⟩ (.int .i64 m'.lo)).cell? ⟨w.heap.size + 1, 4, none⟩ = some (.int .i64 an) ∧ (((((W.setCell ⟨w.heap.size + 1 + 1, 0, none⟩ (.slice ad3 m'.L.length c3)).setCell ⟨w.heap.size + 1 + 1, 1, none⟩ (.slice ad4 m'.cs.length c4)).setCell ⟨w.heap.size + 1 + 1, 2, none⟩ (.int .i64 m'.se)).setCell ⟨w.heap.size + 1 + 1, 3, none⟩ (.int .i64 m'.ta)).setCell ⟨w.heap.size + 1 + 1, 4, none⟩ (.int .i64 m'.lo)).cell? ⟨w.heap.size + 1, 5, none⟩ = some (.int .i64 am))) := fun W r1 r2 => SK.out _ (r1.keep (k5 W) (fun e => by have := HC1.out; omega)) (r2.keep (k5 W) (fun e => by omega))
  have z0 := HZ1.out.cellAt (o := 0) rfl
  have z1 := HZ1.out.cellAt (o := 1) rfl
  have z2 := HZ1.out.cellAt (o := 2) rfl
  have z3 := HZ1.out.cellAt (o := 3) rfl
  have z4 := HZ1.out.cellAt (o := 4) rfl
  have g0 := HZ1.out.frozen (o := 0)
  have g1 := HZ1.out.frozen (o := 1)
  have g2 := HZ1.out.frozen (o := 2)
  have g3 := HZ1.out.frozen (o := 3)
  have g4 := HZ1.out.frozen (o := 4)
  have n0 := HN1.out.cellAt (o := 0) rfl
  have n1 := HN1.out.cellAt (o := 1) rfl
  have n2 := HN1.out.cellAt (o := 2) rfl
  have n3 := HN1.out.cellAt (o := 3) rfl
  have n4 := HN1.out.cellAt (o := 4) rfl
  have t0 := HA1.out.cellAt (o := 0) rfl
  have t1 := HA1.out.cellAt (o := 1) rfl
  have t2 := HA1.out.cellAt (o := 2) rfl
  have t3 := HA1.out.cellAt (o := 3) rfl
  have t4 := HA1.out.cellAt (o := 4) rfl
  have t5 := HA1.out.cellAt (o := 5) rfl
  have HZD := hid (HZ1.out.keep (keep_drew (fun _ => False) w2) (fun h => h))
  clear SK kd PC HS
  go_region_held3 (fun w' => w'.cell? ⟨w1.heap.size, 0, none⟩ = some (.slice ad3 m'.L.length c3) ∧ w'.cell? ⟨w1.heap.size, 1, none⟩ = some (.slice ad4 m'.cs.length c4) ∧ w'.cell? ⟨w1.heap.size, 2, none⟩ = some (.int .i64 m'.se) ∧ w'.cell? ⟨w1.heap.size, 3, none⟩ = some (.int .i64 m'.ta) ∧ w'.cell? ⟨w1.heap.size, 4, none⟩ = some (.int .i64 m'.lo) ∧ w'.cell? ⟨w.heap.size + 1, 0, none⟩ = some (.int .i64 2) ∧ w'.cell? ⟨w.heap.size + 1, 1, none⟩ = some (.int .i64 fr) ∧ w'.cell? ⟨w.heap.size + 1, 2, none⟩ = some (.int .i64 tt) ∧ w'.cell? ⟨w.heap.size + 1, 3, none⟩ = some (.string s) ∧ w'.cell? ⟨w.heap.size + 1, 4, none⟩ = some (.int .i64 an) ∧ w'.cell? ⟨w.heap.size + 1, 5, none⟩ = some (.int .i64 am)) (first | (refine ⟨?_, ?_, ?_, ?_, ?_, ?_, ?_, ?_, ?_, ?_, ?_⟩ <;> with_reducible assumption) | with_reducible (exact S0.out) | with_reducible (exact S5.out) | with_reducible (exact SX.out _ hr1.out hr2.out)) (first | (go_at_call 22; with_reducible (refine C0.out.mono ?_); rintro e w5 ⟨rfl, ⟨e0, e1, e2, e3, e4, e5, e6, e7, e8, e9, e10⟩, hE, hZ5, hr1, hr2⟩; have rz := hZ5.out _ HZD.out; have y0 := rz.cellAt (o := 0) rfl; have y1 := rz.cellAt (o := 1) rfl; have y2 := rz.cellAt (o := 2) rfl; have y3 := rz.cellAt (o := 3) rfl; have y4 := rz.cellAt (o := 4) rfl; have h0 := rz.frozen (o := 0); have h1 := rz.frozen (o := 1); have h2 := rz.frozen (o := 2); have h3 := rz.frozen (o := 3); have h4 := rz.frozen (o := 4)) | (go_at_call 22; with_reducible (refine C5.out.mono ?_); rintro e w5 ⟨rfl, ⟨e0, e1, e2, e3, e4, e5, e6, e7, e8, e9, e10⟩, hE, hZ5, hr1, hr2⟩))
  have HF := hid (five (v0 := .slice ad3 m'.L.length c3) (v1 := .slice ad4 m'.cs.length c4) (v2 := .int .i64 m'.se) (v3 := .int .i64 m'.ta) (v4 := .int .i64 m'.lo) rz)
  have HRZ := hid rz
  clear C0 C5 S0 S5 SX HZD HF2 z0 z1 z2 z3 z4 g0 g1 g2 g3 g4 n0 n1 n2 n3 n4 t0 t1 t2 t3 t4 t5 e0 e1 e2 e3 e4 e5 e6 e7 e8 e9 e10 y0 y1 y2 y3 y4 h0 h1 h2 h3 h4 hr1 hr2 rz hZ5 PCW k5
  have HRF : Hid (RfIs _ (.slice ad3 m'.L.length c3) (.slice ad4 m'.cs.length c4) m') := ((HR1.out.keep (keep_drew _ _)).oth hE.out.2).put HF.out.2 ⟨_, HRZ.out⟩
  have HNS := hid (hE.out.1.put HF.out.2 (Oth.row HRZ.out (by decide) (by decide)) (by omega))
  have HKK : Hid (Keep (fun j => ¬ A j ∧ ¬ Oth w j) w _) := ((K1.out.trans (keep_drew _ _)).mono (fun _ _ h => h.elim)).then (hE.out.2.mono (T := fun j => ¬ A j ∧ (j < w.heap.size → ¬ Oth w j)) (fun j hj hn => ⟨fun h => hn (.inl h), fun hjw ho => hn (.inr (by obtain ⟨cur, t, hb, t1, t2⟩ := ho; exact ⟨cur, t, ((K1.out.trans (keep_drew (fun _ => False) _)).block j hjw (fun h => h)).trans hb, t1, t2⟩))⟩)) (fun j hj hn => ⟨hn.1, hn.2 hj⟩) |>.then HF.out.2 (fun j hj e => by omega)
  clear HR1 HS2 HA1 HZ1 HN1 OZ K1 hE HRZ
  go_wp2
  refine bodyPost_ret (v := .tuple #[.agg #[.slice ad3 m'.L.length c3, .slice ad4 m'.cs.length c4, .int .i64 m'.se, .int .i64 m'.ta, .int .i64 m'.lo], .bool (yy == xx)]) (npk_cell_tmp (p := 6) (u := 7) rfl _ _ (w.heap.size + 1 + 1) _ _ rfl rfl (run_loadVar_row _ _ _ _ _ _ _ HF.out.1 Try.underlying28 rfl (by kernel_rfl))) rfl ⟨_, _, rfl, HRF.out, HNS.out, HKK.out⟩
set_option maxRecDepth 100000 in
set_option maxHeartbeats 4000000 in
theorem one3_any (w0 : World) (A : Nat → Prop) (p : Nat) (n n' : Net) (lv cv : Value) (m m' : RNet) (kd fr tt an am : Int) (s : ByteArray) (xx yy : Bool) (w : World) (hkd : kd = 3) (hS : NSt w0 A p n w) (hR : RfIs w lv cv m)
    (RC : ∀ W, Keep (fun _ => False) w W → Calls Try.prog 27 #[rmV lv cv m, .int .i64 an] W fun e w' => ∃ lv' cv', e = .returned (.tuple #[rmV lv' cv' m', .bool xx]) ∧ RfIs w' lv' cv' m' ∧ Keep (fun _ => False) W w')
    (PC : ∀ P1 W, NetIs W P1 p n → Calls Try.prog 14 #[.pointer (some ⟨p, 0, none⟩), .int .i64 an] W fun e w' => e = .returned (.bool yy) ∧ NLeft W P1 p n' w') :
    Calls Try.prog 11 #[.pointer (some ⟨p, 0, none⟩), rmV lv cv m, .agg #[.int .i64 kd, .int .i64 fr, .int .i64 tt, .string s, .int .i64 an, .int .i64 am]] w fun e w' => ∃ lv' cv', e = .returned (.tuple #[rmV lv' cv' m', .bool (yy == xx)]) ∧ RfIs w' lv' cv' m' ∧ NSt w0 A p n' w' ∧ Keep (fun j => ¬ A j ∧ ¬ Oth w j) w w' := by
  obtain ⟨ad1, c1, rfl⟩ := row_form hR.l
  obtain ⟨ad2, c2, rfl⟩ := row_form hR.c
  have HRC := hid RC
  have HS := hid hS
  have hw0 := hS.size
  subst hkd
  unfold rmV at *
  clear RC hR hS
  have K0 : Hid (Keep (fun _ => False) w (((w.alloc (.cells #[.slice ad1 m.L.length c1, .slice ad2 m.cs.length c2, .int .i64 m.se, .int .i64 m.ta, .int .i64 m.lo] 28)).alloc (.cells #[.int .i64 3, .int .i64 fr, .int .i64 tt, .string s, .int .i64 an, .int .i64 am] 35)).alloc (.cells #[.slice none 0 0, .slice none 0 0, .int .i64 0, .int .i64 0, .int .i64 0] 28))) := ((keep_alloc _ _ _).trans (keep_alloc _ _ _)).trans (keep_alloc _ _ _)
  have HA := hid ((row2 w (.cells #[.slice ad1 m.L.length c1, .slice ad2 m.cs.length c2, .int .i64 m.se, .int .i64 m.ta, .int .i64 m.lo] 28) [.int .i64 3, .int .i64 fr, .int .i64 tt, .string s, .int .i64 an, .int .i64 am] 35).keep (keep_alloc (fun _ => False) _ (.cells #[.slice none 0 0, .slice none 0 0, .int .i64 0, .int .i64 0, .int .i64 0] 28)) (fun h => h))
  have HZ := hid (row3 w (.cells #[.slice ad1 m.L.length c1, .slice ad2 m.cs.length c2, .int .i64 m.se, .int .i64 m.ta, .int .i64 m.lo] 28) (.cells #[.int .i64 3, .int .i64 fr, .int .i64 tt, .string s, .int .i64 an, .int .i64 am] 35) [.slice none 0 0, .slice none 0 0, .int .i64 0, .int .i64 0, .int .i64 0] 28)
  go_enter Try.func11, Try.ntmps11
  go_wp2_with fail
  refine (HRC.out _ K0.out).mono ?_
  rintro e w1 ⟨lv', cv', rfl, hR1, k1⟩
  obtain ⟨ad3, c3, rfl⟩ := row_form hR1.l
  obtain ⟨ad4, c4, rfl⟩ := row_form hR1.c
  have kA := k1.trans (keep_alloc (fun _ => False) w1 (.cells #[.slice ad3 m'.L.length c3, .slice ad4 m'.cs.length c4, .int .i64 m'.se, .int .i64 m'.ta, .int .i64 m'.lo] 28))
  have HA1 := hid (HA.out.keep kA (fun h => h))
  have HZ1 := hid (HZ.out.keep kA (fun h => h))
  have HN1 := hid (row1 w1 [.slice ad3 m'.L.length c3, .slice ad4 m'.cs.length c4, .int .i64 m'.se, .int .i64 m'.ta, .int .i64 m'.lo] 28)
  have hc1 : w.heap.size + 1 + 1 < w1.heap.size := Nat.lt_of_lt_of_le HZ.out.lt k1.size
  have HC1 := hid hc1
  have K1 := hid (K0.out.trans kA)
  have HR1 := hid (hR1.keep (keep_alloc (fun _ => False) w1 (.cells #[.slice ad3 m'.L.length c3, .slice ad4 m'.cs.length c4, .int .i64 m'.se, .int .i64 m'.ta, .int .i64 m'.lo] 28)))
  clear hR1 k1 kA HRC K0 HA HZ hc1
  go_wp2
  generalize w1.alloc (.cells #[.slice ad3 m'.L.length c3, .slice ad4 m'.cs.length c4, .int .i64 m'.se, .int .i64 m'.ta, .int .i64 m'.lo] 28) = w2 at *
  have HS2 := hid (HS.out.keep K1.out)
  have OZ : Hid (Oth w2 (w.heap.size + 1 + 1)) := Oth.row HZ1.out (by decide) (by decide)
  have SK : Hid (∀ w', RowIs w' w1.heap.size [.slice ad3 m'.L.length c3, .slice ad4 m'.cs.length c4, .int .i64 m'.se, .int .i64 m'.ta, .int .i64 m'.lo] 28 → RowIs w' (w.heap.size + 1) [.int .i64 3, .int .i64 fr, .int .i64 tt, .string s, .int .i64 an, .int .i64 am] 35 → (w'.cell? ⟨w1.heap.size, 0, none⟩ = some (.slice ad3 m'.L.length c3) ∧ w'.cell? ⟨w1.heap.size, 1, none⟩ = some (.slice ad4 m'.cs.length c4) ∧ w'.cell? ⟨w1.heap.size, 2, none⟩ = some (.int .i64 m'.se) ∧ w'.cell? ⟨w1.heap.size, 3, none⟩ = some (.int .i64 m'.ta) ∧ w'.cell? ⟨w1.heap.size, 4, none⟩ = some (.int .i64 m'.lo) ∧ w'.cell? ⟨w.heap.size + 1, 0, none⟩ = some (.int .i64 3) ∧ w'.cell? ⟨w.heap.size + 1, 1, none⟩ = some (.int .i64 fr) ∧ w'.cell? ⟨w.heap.size + 1, 2, none⟩ = some (.int .i64 tt) ∧ w'.cell? ⟨w.heap.size + 1, 3, none⟩ = some (.string s) ∧ w'.cell? ⟨w.heap.size + 1, 4, none⟩ = some (.int .i64 an) ∧ w'.cell? ⟨w.heap.size + 1, 5, none⟩ = some (.int .i64 am))) := fun w' r1 r2 => ⟨r1.cellAt rfl, r1.cellAt rfl, r1.cellAt rfl, r1.cellAt rfl, r1.cellAt rfl, r2.cellAt rfl, r2.cellAt rfl, r2.cellAt rfl, r2.cellAt rfl, r2.cellAt rfl, r2.cellAt rfl⟩
  have k5 : ∀ W : World, Keep (· = w.heap.size + 1 + 1) W (((((W.setCell ⟨w.heap.size + 1 + 1, 0, none⟩ (.slice ad3 m'.L.length c3)).setCell ⟨w.heap.size + 1 + 1, 1, none⟩ (.slice ad4 m'.cs.length c4)).setCell ⟨w.heap.size + 1 + 1, 2, none⟩ (.int .i64 m'.se)).setCell ⟨w.heap.size + 1 + 1, 3, none⟩ (.int .i64 m'.ta)).setCell ⟨w.heap.size + 1 + 1, 4, none⟩ (.int .i64 m'.lo)) := fun W => ((((keep_setCell _ _ _ _).trans (keep_setCell _ _ _ _)).trans (keep_setCell _ _ _ _)).trans (keep_setCell _ _ _ _)).trans (keep_setCell _ _ _ _)
  have PCW : Hid (∀ W, Keep (· = w.heap.size + 1 + 1) w2 W → (∃ cs, RowIs W (w.heap.size + 1 + 1) cs 28) → Calls Try.prog 14 #[.pointer (some ⟨p, 0, none⟩), .int .i64 an] W fun e w' => e = .returned (.bool yy) ∧ (w'.cell? ⟨w1.heap.size, 0, none⟩ = some (.slice ad3 m'.L.length c3) ∧ w'.cell? ⟨w1.heap.size, 1, none⟩ = some (.slice ad4 m'.cs.length c4) ∧ w'.cell? ⟨w1.heap.size, 2, none⟩ = some (.int .i64 m'.se) ∧ w'.cell? ⟨w1.heap.size, 3, none⟩ = some (.int .i64 m'.ta) ∧ w'.cell? ⟨w1.heap.size, 4, none⟩ = some (.int .i64 m'.lo) ∧ w'.cell? ⟨w.heap.size + 1, 0, none⟩ = some (.int .i64 3) ∧ w'.cell? ⟨w.heap.size + 1, 1, none⟩ = some (.int .i64 fr) ∧ w'.cell? ⟨w.heap.size + 1, 2, none⟩ = some (.int .i64 tt) ∧ w'.cell? ⟨w.heap.size + 1, 3, none⟩ = some (.string s) ∧ w'.cell? ⟨w.heap.size + 1, 4, none⟩ = some (.int .i64 an) ∧ w'.cell? ⟨w.heap.size + 1, 5, none⟩ = some (.int .i64 am)) ∧ Hid (NSt w0 A p n' w' ∧ Keep (fun j => ¬ (A j ∨ Oth W j)) W w') ∧ Hid (∀ cs, RowIs W (w.heap.size + 1 + 1) cs 28 → RowIs w' (w.heap.size + 1 + 1) cs 28) ∧ Hid (RowIs w' w1.heap.size [.slice ad3 m'.L.length c3, .slice ad4 m'.cs.length c4, .int .i64 m'.se, .int .i64 m'.ta, .int .i64 m'.lo] 28) ∧ Hid (RowIs w' (w.heap.size + 1) [.int .i64 3, .int .i64 fr, .int .i64 tt, .string s, .int .i64 an, .int .i64 am] 35)) := fun W hW hZW => by
    have hc := HC1.out
    have rN := HN1.out.keep hW (fun e => by omega)
    have rA := HA1.out.keep hW (fun e => by omega)
    refine (stepO (HS2.out.put hW OZ.out (by omega)) (fun P1 h1 => PC P1 W h1)).mono ?_
    rintro e w' ⟨rfl, h1, h2⟩
    exact ⟨rfl, SK.out w' (rN.keep h2 (fun hn => hn (.inr (Oth.row rN (by decide) (by decide))))) (rA.keep h2 (fun hn => hn (.inr (Oth.row rA (by decide) (by decide))))), ⟨h1, h2⟩, fun cs r => r.keep h2 (fun hn => hn (.inr (Oth.row r (by decide) (by decide)))), rN.keep h2 (fun hn => hn (.inr (Oth.row rN (by decide) (by decide)))), rA.keep h2 (fun hn => hn (.inr (Oth.row rA (by decide) (by decide))))⟩
  have kd : Keep (· = w.heap.size + 1 + 1) w2 w2.drew := keep_drew _ _
  have C0 := hid (PCW.out w2.drew kd ⟨_, HZ1.out.keep (keep_drew (fun _ => False) _) (fun h => h)⟩)
  have HF2 := hid (five (v0 := .slice ad3 m'.L.length c3) (v1 := .slice ad4 m'.cs.length c4) (v2 := .int .i64 m'.se) (v3 := .int .i64 m'.ta) (v4 := .int .i64 m'.lo) HZ1.out)
  have C5 := hid (PCW.out (((((w2.setCell ⟨w.heap.size + 1 + 1, 0, none⟩ (.slice ad3 m'.L.length c3)).setCell ⟨w.heap.size + 1 + 1, 1, none⟩ (.slice ad4 m'.cs.length c4)).setCell ⟨w.heap.size + 1 + 1, 2, none⟩ (.int .i64 m'.se)).setCell ⟨w.heap.size + 1 + 1, 3, none⟩ (.int .i64 m'.ta)).setCell ⟨w.heap.size + 1 + 1, 4, none⟩ (.int .i64 m'.lo)).drew (HF2.out.2.trans (keep_drew _ _)) ⟨_, HF2.out.1.keep (keep_drew (fun _ => False) _) (fun h => h)⟩)
  have S0 := hid (SK.out w2.drew (HN1.out.keep (keep_drew (fun _ => False) _) (fun h => h)) (HA1.out.keep (keep_drew (fun _ => False) _) (fun h => h)))
  have S5 := hid (SK.out (((((w2.setCell ⟨w.heap.size + 1 + 1, 0, none⟩ (.slice ad3 m'.L.length c3)).setCell ⟨w.heap.size + 1 + 1, 1, none⟩ (.slice ad4 m'.cs.length c4)).setCell ⟨w.heap.size + 1 + 1, 2, none⟩ (.int .i64 m'.se)).setCell ⟨w.heap.size + 1 + 1, 3, none⟩ (.int .i64 m'.ta)).setCell ⟨w.heap.size + 1 + 1, 4, none⟩ (.int .i64 m'.lo)).drew ((HN1.out.keep HF2.out.2 (fun e => by have := HC1.out; omega)).keep (keep_drew (fun _ => False) _) (fun h => h)) ((HA1.out.keep HF2.out.2 (fun e => by omega)).keep (keep_drew (fun _ => False) _) (fun h => h)))
  have SX : Hid (∀ W, RowIs W w1.heap.size [.slice ad3 m'.L.length c3, .slice ad4 m'.cs.length c4, .int .i64 m'.se, .int .i64 m'.ta, .int .i64 m'.lo] 28 → RowIs W (w.heap.size + 1) [.int .i64 3, .int .i64 fr, .int .i64 tt, .string s, .int .i64 an, .int .i64 am] 35 → ((((((W.setCell ⟨w.heap.size + 1 + 1, 0, none⟩ (.slice ad3 m'.L.length c3)).setCell ⟨w.heap.size + 1 + 1, 1, none⟩ (.slice ad4 m'.cs.length c4)).setCell ⟨w.heap.size + 1 + 1, 2, none⟩ (.int .i64 m'.se)).setCell ⟨w.heap.size + 1 + 1, 3, none⟩ (.int .i64 m'.ta)).setCell ⟨w.heap.size + 1 + 1, 4, none⟩ (.int .i64 m'.lo)).cell? ⟨w1.heap.size, 0, none⟩ = some (.slice ad3 m'.L.length c3) ∧ (((((W.setCell ⟨w.heap.size + 1 + 1, 0, none⟩ (.slice ad3 m'.L.length c3)).setCell ⟨w.heap.size + 1 + 1, 1, none⟩ (.slice ad4 m'.cs.length c4)).setCell ⟨w.heap.size + 1 + 1, 2, none⟩ (.int .i64 m'.se)).setCell ⟨w.heap.size + 1 + 1, 3, none⟩ (.int .i64 m'.ta)).setCell ⟨w.heap.size + 1 + 1, 4, none⟩ (.int .i64 m'.lo)).cell? ⟨w1.heap.size, 1, none⟩ = some (.slice ad4 m'.cs.length c4) ∧ (((((W.setCell ⟨w.heap.size + 1 + 1, 0, none⟩ (.slice ad3 m'.L.length c3)).setCell ⟨w.heap.size + 1 + 1, 1, none⟩ (.slice ad4 m'.cs.length c4)).setCell ⟨w.heap.size + 1 + 1, 2, none⟩ (.int .i64 m'.se)).setCell ⟨w.heap.size + 1 + 1, 3, none⟩ (.int .i64 m'.ta)).setCell ⟨w.heap.size + 1 + 1, 4, none⟩ (.int .i64 m'.lo)).cell? ⟨w1.heap.size, 2, none⟩ = some (.int .i64 m'.se) ∧ (((((W.setCell ⟨w.heap.size + 1 + 1, 0, none⟩ (.slice ad3 m'.L.length c3)).setCell ⟨w.heap.size + 1 + 1, 1, none⟩ (.slice ad4 m'.cs.length c4)).setCell ⟨w.heap.size + 1 + 1, 2, none⟩ (.int .i64 m'.se)).setCell ⟨w.heap.size + 1 + 1, 3, none⟩ (.int .i64 m'.ta)).setCell ⟨w.heap.size + 1 + 1, 4, none⟩ (.int .i64 m'.lo)).cell? ⟨w1.heap.size, 3, none⟩ = some (.int .i64 m'.ta) ∧ (((((W.setCell ⟨w.heap.size + 1 + 1, 0, none⟩ (.slice ad3 m'.L.length c3)).setCell ⟨w.heap.size + 1 + 1, 1, none⟩ (.slice ad4 m'.cs.length c4)).setCell ⟨w.heap.size + 1 + 1, 2, none⟩ (.int .i64 m'.se)).setCell ⟨w.heap.size + 1 + 1, 3, none⟩ (.int .i64 m'.ta)).setCell ⟨w.heap.size + 1 + 1, 4, none⟩ (.int .i64 m'.lo)).cell? ⟨w1.heap.size, 4, none⟩ = some (.int .i64 m'.lo) ∧ (((((W.setCell ⟨w.heap.size + 1 + 1, 0, none⟩ (.slice ad3 m'.L.length c3)).setCell ⟨w.heap.size + 1 + 1, 1, none⟩ (.slice ad4 m'.cs.length c4)).setCell ⟨w.heap.size + 1 + 1, 2, none⟩ (.int .i64 m'.se)).setCell ⟨w.heap.size + 1 + 1, 3, none⟩ (.int .i64 m'.ta)).setCell ⟨w.heap.size + 1 + 1, 4, none⟩ (.int .i64 m'.lo)).cell? ⟨w.heap.size + 1, 0, none⟩ = some (.int .i64 3) ∧ (((((W.setCell ⟨w.heap.size + 1 + 1, 0, none⟩ (.slice ad3 m'.L.length c3)).setCell ⟨w.heap.size + 1 + 1, 1, none⟩ (.slice ad4 m'.cs.length c4)).setCell ⟨w.heap.size + 1 + 1, 2, none⟩ (.int .i64 m'.se)).setCell ⟨w.heap.size + 1 + 1, 3, none⟩ (.int .i64 m'.ta)).setCell ⟨w.heap.size + 1 + 1, 4, none⟩ (.int .i64 m'.lo)).cell? ⟨w.heap.size + 1, 1, none⟩ = some (.int .i64 fr) ∧ (((((W.setCell ⟨w.heap.size + 1 + 1, 0, none⟩ (.slice ad3 m'.L.length c3)).setCell ⟨w.heap.size + 1 + 1, 1, none⟩ (.slice ad4 m'.cs.length c4)).setCell ⟨w.heap.size + 1 + 1, 2, none⟩ (.int .i64 m'.se)).setCell ⟨w.heap.size + 1 + 1, 3, none⟩ (.int .i64 m'.ta)).setCell ⟨w.heap.size + 1 + 1, 4, none⟩ (.int .i64 m'.lo)).cell? ⟨w.heap.size + 1, 2, none⟩ = some (.int .i64 tt) ∧ (((((W.setCell ⟨w.heap.size + 1 + 1, 0, none⟩ (.slice ad3 m'.L.length c3)).setCell ⟨w.heap.size + 1 + 1, 1, none⟩ (.slice ad4 m'.cs.length c4)).setCell ⟨w.heap.size + 1 + 1, 2, none⟩ (.int .i64 m'.se)).setCell ⟨w.heap.size + 1 + 1, 3, none⟩ (.int .i64 m'.ta)).setCell ⟨w.heap.size + 1 + 1, 4, none⟩ (.int .i64 m'.lo)).cell? ⟨w.heap.size + 1, 3, none⟩ = some (.string s) ∧ (((((W.setCell ⟨w.heap.size + 1 + 1, 0, none⟩ (.slice ad3 m'.L.length c3)).setCell ⟨w.heap.size + 1 + 1, 1, none⟩ (.slice ad4 m'.cs.length c4)).setCell ⟨w.heap.size + 1 + 1, 2, none⟩ (.int .i64 m'.se)).setCell ⟨w.heap.size + 1 + 1, 3, none⟩ (.int .i64 m'.ta)).setCell ⟨w.heap.size + 1 + 1, 4, none⟩ (.int .i64 m'.lo)).cell? ⟨w.heap.size + 1, 4, none⟩ = some (.int .i64 an) ∧ (((((W.setCell ⟨w.heap.size + 1 + 1, 0, none⟩ (.slice ad3 m'.L.length c3)).setCell ⟨w.heap.size + 1 + 1, 1, none⟩ (.slice ad4 m'.cs.length c4)).setCell ⟨w.heap.size + 1 + 1, 2, none⟩ (.int .i64 m'.se)).setCell ⟨w.heap.size + 1 + 1, 3, none⟩ (.int .i64 m'.ta)).setCell ⟨w.heap.size + 1 + 1, 4, none⟩ (.int .i64 m'.lo)).cell? ⟨w.heap.size + 1, 5, none⟩ = some (.int .i64 am))) := fun W r1 r2 => SK.out _ (r1.keep (k5 W) (fun e => by have := HC1.out; omega)) (r2.keep (k5 W) (fun e => by omega))
  have z0 := HZ1.out.cellAt (o := 0) rfl
  have z1 := HZ1.out.cellAt (o := 1) rfl
  have z2 := HZ1.out.cellAt (o := 2) rfl
  have z3 := HZ1.out.cellAt (o := 3) rfl
  have z4 := HZ1.out.cellAt (o := 4) rfl
  have g0 := HZ1.out.frozen (o := 0)
  have g1 := HZ1.out.frozen (o := 1)
  have g2 := HZ1.out.frozen (o := 2)
  have g3 := HZ1.out.frozen (o := 3)
  have g4 := HZ1.out.frozen (o := 4)
  have n0 := HN1.out.cellAt (o := 0) rfl
  have n1 := HN1.out.cellAt (o := 1) rfl
  have n2 := HN1.out.cellAt (o := 2) rfl
  have n3 := HN1.out.cellAt (o := 3) rfl
  have n4 := HN1.out.cellAt (o := 4) rfl
  have t0 := HA1.out.cellAt (o := 0) rfl
  have t1 := HA1.out.cellAt (o := 1) rfl
  have t2 := HA1.out.cellAt (o := 2) rfl
  have t3 := HA1.out.cellAt (o := 3) rfl
  have t4 := HA1.out.cellAt (o := 4) rfl
  have t5 := HA1.out.cellAt (o := 5) rfl
  have HZD := hid (HZ1.out.keep (keep_drew (fun _ => False) w2) (fun h => h))
  clear SK kd PC HS
  go_region_held3 (fun w' => w'.cell? ⟨w1.heap.size, 0, none⟩ = some (.slice ad3 m'.L.length c3) ∧ w'.cell? ⟨w1.heap.size, 1, none⟩ = some (.slice ad4 m'.cs.length c4) ∧ w'.cell? ⟨w1.heap.size, 2, none⟩ = some (.int .i64 m'.se) ∧ w'.cell? ⟨w1.heap.size, 3, none⟩ = some (.int .i64 m'.ta) ∧ w'.cell? ⟨w1.heap.size, 4, none⟩ = some (.int .i64 m'.lo) ∧ w'.cell? ⟨w.heap.size + 1, 0, none⟩ = some (.int .i64 3) ∧ w'.cell? ⟨w.heap.size + 1, 1, none⟩ = some (.int .i64 fr) ∧ w'.cell? ⟨w.heap.size + 1, 2, none⟩ = some (.int .i64 tt) ∧ w'.cell? ⟨w.heap.size + 1, 3, none⟩ = some (.string s) ∧ w'.cell? ⟨w.heap.size + 1, 4, none⟩ = some (.int .i64 an) ∧ w'.cell? ⟨w.heap.size + 1, 5, none⟩ = some (.int .i64 am)) (first | (refine ⟨?_, ?_, ?_, ?_, ?_, ?_, ?_, ?_, ?_, ?_, ?_⟩ <;> with_reducible assumption) | with_reducible (exact S0.out) | with_reducible (exact S5.out) | with_reducible (exact SX.out _ hr1.out hr2.out)) (first | (go_at_call 14; with_reducible (refine C0.out.mono ?_); rintro e w5 ⟨rfl, ⟨e0, e1, e2, e3, e4, e5, e6, e7, e8, e9, e10⟩, hE, hZ5, hr1, hr2⟩; have rz := hZ5.out _ HZD.out; have y0 := rz.cellAt (o := 0) rfl; have y1 := rz.cellAt (o := 1) rfl; have y2 := rz.cellAt (o := 2) rfl; have y3 := rz.cellAt (o := 3) rfl; have y4 := rz.cellAt (o := 4) rfl; have h0 := rz.frozen (o := 0); have h1 := rz.frozen (o := 1); have h2 := rz.frozen (o := 2); have h3 := rz.frozen (o := 3); have h4 := rz.frozen (o := 4)) | (go_at_call 14; with_reducible (refine C5.out.mono ?_); rintro e w5 ⟨rfl, ⟨e0, e1, e2, e3, e4, e5, e6, e7, e8, e9, e10⟩, hE, hZ5, hr1, hr2⟩))
  have HF := hid (five (v0 := .slice ad3 m'.L.length c3) (v1 := .slice ad4 m'.cs.length c4) (v2 := .int .i64 m'.se) (v3 := .int .i64 m'.ta) (v4 := .int .i64 m'.lo) rz)
  have HRZ := hid rz
  clear C0 C5 S0 S5 SX HZD HF2 z0 z1 z2 z3 z4 g0 g1 g2 g3 g4 n0 n1 n2 n3 n4 t0 t1 t2 t3 t4 t5 e0 e1 e2 e3 e4 e5 e6 e7 e8 e9 e10 y0 y1 y2 y3 y4 h0 h1 h2 h3 h4 hr1 hr2 rz hZ5 PCW k5
  have HRF : Hid (RfIs _ (.slice ad3 m'.L.length c3) (.slice ad4 m'.cs.length c4) m') := ((HR1.out.keep (keep_drew _ _)).oth hE.out.2).put HF.out.2 ⟨_, HRZ.out⟩
  have HNS := hid (hE.out.1.put HF.out.2 (Oth.row HRZ.out (by decide) (by decide)) (by omega))
  have HKK : Hid (Keep (fun j => ¬ A j ∧ ¬ Oth w j) w _) := ((K1.out.trans (keep_drew _ _)).mono (fun _ _ h => h.elim)).then (hE.out.2.mono (T := fun j => ¬ A j ∧ (j < w.heap.size → ¬ Oth w j)) (fun j hj hn => ⟨fun h => hn (.inl h), fun hjw ho => hn (.inr (by obtain ⟨cur, t, hb, t1, t2⟩ := ho; exact ⟨cur, t, ((K1.out.trans (keep_drew (fun _ => False) _)).block j hjw (fun h => h)).trans hb, t1, t2⟩))⟩)) (fun j hj hn => ⟨hn.1, hn.2 hj⟩) |>.then HF.out.2 (fun j hj e => by omega)
  clear HR1 HS2 HA1 HZ1 HN1 OZ K1 hE HRZ
  go_wp2
  refine bodyPost_ret (v := .tuple #[.agg #[.slice ad3 m'.L.length c3, .slice ad4 m'.cs.length c4, .int .i64 m'.se, .int .i64 m'.ta, .int .i64 m'.lo], .bool (yy == xx)]) (npk_cell_tmp (p := 6) (u := 7) rfl _ _ (w.heap.size + 1 + 1) _ _ rfl rfl (run_loadVar_row _ _ _ _ _ _ _ HF.out.1 Try.underlying28 rfl (by kernel_rfl))) rfl ⟨_, _, rfl, HRF.out, HNS.out, HKK.out⟩
set_option maxRecDepth 100000 in
set_option maxHeartbeats 4000000 in
theorem one4_any (w0 : World) (A : Nat → Prop) (p : Nat) (n n' : Net) (lv cv : Value) (m m' : RNet) (kd fr tt an am : Int) (s : ByteArray) (xx yy : Int) (w : World) (hkd : kd = 4) (hS : NSt w0 A p n w) (hR : RfIs w lv cv m)
    (RC : ∀ W, Keep (fun _ => False) w W → Calls Try.prog 28 #[rmV lv cv m, .int .i64 an, .int .i64 am] W fun e w' => ∃ lv' cv', e = .returned (.tuple #[rmV lv' cv' m', .int .i64 xx]) ∧ RfIs w' lv' cv' m' ∧ Keep (fun _ => False) W w')
    (PC : ∀ P1 W, NetIs W P1 p n → Calls Try.prog 18 #[.pointer (some ⟨p, 0, none⟩), .int .i64 an, .int .i64 am] W fun e w' => e = .returned (.int .i64 yy) ∧ NLeft W P1 p n' w') :
    Calls Try.prog 11 #[.pointer (some ⟨p, 0, none⟩), rmV lv cv m, .agg #[.int .i64 kd, .int .i64 fr, .int .i64 tt, .string s, .int .i64 an, .int .i64 am]] w fun e w' => ∃ lv' cv', e = .returned (.tuple #[rmV lv' cv' m', .bool (yy == xx)]) ∧ RfIs w' lv' cv' m' ∧ NSt w0 A p n' w' ∧ Keep (fun j => ¬ A j ∧ ¬ Oth w j) w w' := by
  obtain ⟨ad1, c1, rfl⟩ := row_form hR.l
  obtain ⟨ad2, c2, rfl⟩ := row_form hR.c
  have HRC := hid RC
  have HS := hid hS
  have hw0 := hS.size
  subst hkd
  unfold rmV at *
  clear RC hR hS
  have K0 : Hid (Keep (fun _ => False) w (((w.alloc (.cells #[.slice ad1 m.L.length c1, .slice ad2 m.cs.length c2, .int .i64 m.se, .int .i64 m.ta, .int .i64 m.lo] 28)).alloc (.cells #[.int .i64 4, .int .i64 fr, .int .i64 tt, .string s, .int .i64 an, .int .i64 am] 35)).alloc (.cells #[.slice none 0 0, .slice none 0 0, .int .i64 0, .int .i64 0, .int .i64 0] 28))) := ((keep_alloc _ _ _).trans (keep_alloc _ _ _)).trans (keep_alloc _ _ _)
  have HA := hid ((row2 w (.cells #[.slice ad1 m.L.length c1, .slice ad2 m.cs.length c2, .int .i64 m.se, .int .i64 m.ta, .int .i64 m.lo] 28) [.int .i64 4, .int .i64 fr, .int .i64 tt, .string s, .int .i64 an, .int .i64 am] 35).keep (keep_alloc (fun _ => False) _ (.cells #[.slice none 0 0, .slice none 0 0, .int .i64 0, .int .i64 0, .int .i64 0] 28)) (fun h => h))
  have HZ := hid (row3 w (.cells #[.slice ad1 m.L.length c1, .slice ad2 m.cs.length c2, .int .i64 m.se, .int .i64 m.ta, .int .i64 m.lo] 28) (.cells #[.int .i64 4, .int .i64 fr, .int .i64 tt, .string s, .int .i64 an, .int .i64 am] 35) [.slice none 0 0, .slice none 0 0, .int .i64 0, .int .i64 0, .int .i64 0] 28)
  go_enter Try.func11, Try.ntmps11
  go_wp2_with fail
  refine (HRC.out _ K0.out).mono ?_
  rintro e w1 ⟨lv', cv', rfl, hR1, k1⟩
  obtain ⟨ad3, c3, rfl⟩ := row_form hR1.l
  obtain ⟨ad4, c4, rfl⟩ := row_form hR1.c
  have kA := k1.trans (keep_alloc (fun _ => False) w1 (.cells #[.slice ad3 m'.L.length c3, .slice ad4 m'.cs.length c4, .int .i64 m'.se, .int .i64 m'.ta, .int .i64 m'.lo] 28))
  have HA1 := hid (HA.out.keep kA (fun h => h))
  have HZ1 := hid (HZ.out.keep kA (fun h => h))
  have HN1 := hid (row1 w1 [.slice ad3 m'.L.length c3, .slice ad4 m'.cs.length c4, .int .i64 m'.se, .int .i64 m'.ta, .int .i64 m'.lo] 28)
  have hc1 : w.heap.size + 1 + 1 < w1.heap.size := Nat.lt_of_lt_of_le HZ.out.lt k1.size
  have HC1 := hid hc1
  have K1 := hid (K0.out.trans kA)
  have HR1 := hid (hR1.keep (keep_alloc (fun _ => False) w1 (.cells #[.slice ad3 m'.L.length c3, .slice ad4 m'.cs.length c4, .int .i64 m'.se, .int .i64 m'.ta, .int .i64 m'.lo] 28)))
  clear hR1 k1 kA HRC K0 HA HZ hc1
  go_wp2
  generalize w1.alloc (.cells #[.slice ad3 m'.L.length c3, .slice ad4 m'.cs.length c4, .int .i64 m'.se, .int .i64 m'.ta, .int .i64 m'.lo] 28) = w2 at *
  have HS2 := hid (HS.out.keep K1.out)
  have OZ : Hid (Oth w2 (w.heap.size + 1 + 1)) := Oth.row HZ1.out (by decide) (by decide)
  have SK : Hid (∀ w', RowIs w' w1.heap.size [.slice ad3 m'.L.length c3, .slice ad4 m'.cs.length c4, .int .i64 m'.se, .int .i64 m'.ta, .int .i64 m'.lo] 28 → RowIs w' (w.heap.size + 1) [.int .i64 4, .int .i64 fr, .int .i64 tt, .string s, .int .i64 an, .int .i64 am] 35 → (w'.cell? ⟨w1.heap.size, 0, none⟩ = some (.slice ad3 m'.L.length c3) ∧ w'.cell? ⟨w1.heap.size, 1, none⟩ = some (.slice ad4 m'.cs.length c4) ∧ w'.cell? ⟨w1.heap.size, 2, none⟩ = some (.int .i64 m'.se) ∧ w'.cell? ⟨w1.heap.size, 3, none⟩ = some (.int .i64 m'.ta) ∧ w'.cell? ⟨w1.heap.size, 4, none⟩ = some (.int .i64 m'.lo) ∧ w'.cell? ⟨w.heap.size + 1, 0, none⟩ = some (.int .i64 4) ∧ w'.cell? ⟨w.heap.size + 1, 1, none⟩ = some (.int .i64 fr) ∧ w'.cell? ⟨w.heap.size + 1, 2, none⟩ = some (.int .i64 tt) ∧ w'.cell? ⟨w.heap.size + 1, 3, none⟩ = some (.string s) ∧ w'.cell? ⟨w.heap.size + 1, 4, none⟩ = some (.int .i64 an) ∧ w'.cell? ⟨w.heap.size + 1, 5, none⟩ = some (.int .i64 am))) := fun w' r1 r2 => ⟨r1.cellAt rfl, r1.cellAt rfl, r1.cellAt rfl, r1.cellAt rfl, r1.cellAt rfl, r2.cellAt rfl, r2.cellAt rfl, r2.cellAt rfl, r2.cellAt rfl, r2.cellAt rfl, r2.cellAt rfl⟩
  have k5 : ∀ W : World, Keep (· = w.heap.size + 1 + 1) W (((((W.setCell ⟨w.heap.size + 1 + 1, 0, none⟩ (.slice ad3 m'.L.length c3)).setCell ⟨w.heap.size + 1 + 1, 1, none⟩ (.slice ad4 m'.cs.length c4)).setCell ⟨w.heap.size + 1 + 1, 2, none⟩ (.int .i64 m'.se)).setCell ⟨w.heap.size + 1 + 1, 3, none⟩ (.int .i64 m'.ta)).setCell ⟨w.heap.size + 1 + 1, 4, none⟩ (.int .i64 m'.lo)) := fun W => ((((keep_setCell _ _ _ _).trans (keep_setCell _ _ _ _)).trans (keep_setCell _ _ _ _)).trans (keep_setCell _ _ _ _)).trans (keep_setCell _ _ _ _)
  have PCW : Hid (∀ W, Keep (· = w.heap.size + 1 + 1) w2 W → (∃ cs, RowIs W (w.heap.size + 1 + 1) cs 28) → Calls Try.prog 18 #[.pointer (some ⟨p, 0, none⟩), .int .i64 an, .int .i64 am] W fun e w' => e = .returned (.int .i64 yy) ∧ (w'.cell? ⟨w1.heap.size, 0, none⟩ = some (.slice ad3 m'.L.length c3) ∧ w'.cell? ⟨w1.heap.size, 1, none⟩ = some (.slice ad4 m'.cs.length c4) ∧ w'.cell? ⟨w1.heap.size, 2, none⟩ = some (.int .i64 m'.se) ∧ w'.cell? ⟨w1.heap.size, 3, none⟩ = some (.int .i64 m'.ta) ∧ w'.cell? ⟨w1.heap.size, 4, none⟩ = some (.int .i64 m'.lo) ∧ w'.cell? ⟨w.heap.size + 1, 0, none⟩ = some (.int .i64 4) ∧ w'.cell? ⟨w.heap.size + 1, 1, none⟩ = some (.int .i64 fr) ∧ w'.cell? ⟨w.heap.size + 1, 2, none⟩ = some (.int .i64 tt) ∧ w'.cell? ⟨w.heap.size + 1, 3, none⟩ = some (.string s) ∧ w'.cell? ⟨w.heap.size + 1, 4, none⟩ = some (.int .i64 an) ∧ w'.cell? ⟨w.heap.size + 1, 5, none⟩ = some (.int .i64 am)) ∧ Hid (NSt w0 A p n' w' ∧ Keep (fun j => ¬ (A j ∨ Oth W j)) W w') ∧ Hid (∀ cs, RowIs W (w.heap.size + 1 + 1) cs 28 → RowIs w' (w.heap.size + 1 + 1) cs 28) ∧ Hid (RowIs w' w1.heap.size [.slice ad3 m'.L.length c3, .slice ad4 m'.cs.length c4, .int .i64 m'.se, .int .i64 m'.ta, .int .i64 m'.lo] 28) ∧ Hid (RowIs w' (w.heap.size + 1) [.int .i64 4, .int .i64 fr, .int .i64 tt, .string s, .int .i64 an, .int .i64 am] 35)) := fun W hW hZW => by
    have hc := HC1.out
    have rN := HN1.out.keep hW (fun e => by omega)
    have rA := HA1.out.keep hW (fun e => by omega)
    refine (stepO (HS2.out.put hW OZ.out (by omega)) (fun P1 h1 => PC P1 W h1)).mono ?_
    rintro e w' ⟨rfl, h1, h2⟩
    exact ⟨rfl, SK.out w' (rN.keep h2 (fun hn => hn (.inr (Oth.row rN (by decide) (by decide))))) (rA.keep h2 (fun hn => hn (.inr (Oth.row rA (by decide) (by decide))))), ⟨h1, h2⟩, fun cs r => r.keep h2 (fun hn => hn (.inr (Oth.row r (by decide) (by decide)))), rN.keep h2 (fun hn => hn (.inr (Oth.row rN (by decide) (by decide)))), rA.keep h2 (fun hn => hn (.inr (Oth.row rA (by decide) (by decide))))⟩
  have kd : Keep (· = w.heap.size + 1 + 1) w2 w2.drew := keep_drew _ _
  have C0 := hid (PCW.out w2.drew kd ⟨_, HZ1.out.keep (keep_drew (fun _ => False) _) (fun h => h)⟩)
  have HF2 := hid (five (v0 := .slice ad3 m'.L.length c3) (v1 := .slice ad4 m'.cs.length c4) (v2 := .int .i64 m'.se) (v3 := .int .i64 m'.ta) (v4 := .int .i64 m'.lo) HZ1.out)
  have C5 := hid (PCW.out (((((w2.setCell ⟨w.heap.size + 1 + 1, 0, none⟩ (.slice ad3 m'.L.length c3)).setCell ⟨w.heap.size + 1 + 1, 1, none⟩ (.slice ad4 m'.cs.length c4)).setCell ⟨w.heap.size + 1 + 1, 2, none⟩ (.int .i64 m'.se)).setCell ⟨w.heap.size + 1 + 1, 3, none⟩ (.int .i64 m'.ta)).setCell ⟨w.heap.size + 1 + 1, 4, none⟩ (.int .i64 m'.lo)).drew (HF2.out.2.trans (keep_drew _ _)) ⟨_, HF2.out.1.keep (keep_drew (fun _ => False) _) (fun h => h)⟩)
  have S0 := hid (SK.out w2.drew (HN1.out.keep (keep_drew (fun _ => False) _) (fun h => h)) (HA1.out.keep (keep_drew (fun _ => False) _) (fun h => h)))
  have S5 := hid (SK.out (((((w2.setCell ⟨w.heap.size + 1 + 1, 0, none⟩ (.slice ad3 m'.L.length c3)).setCell ⟨w.heap.size + 1 + 1, 1, none⟩ (.slice ad4 m'.cs.length c4)).setCell ⟨w.heap.size + 1 + 1, 2, none⟩ (.int .i64 m'.se)).setCell ⟨w.heap.size + 1 + 1, 3, none⟩ (.int .i64 m'.ta)).setCell ⟨w.heap.size + 1 + 1, 4, none⟩ (.int .i64 m'.lo)).drew ((HN1.out.keep HF2.out.2 (fun e => by have := HC1.out; omega)).keep (keep_drew (fun _ => False) _) (fun h => h)) ((HA1.out.keep HF2.out.2 (fun e => by omega)).keep (keep_drew (fun _ => False) _) (fun h => h)))
  have SX : Hid (∀ W, RowIs W w1.heap.size [.slice ad3 m'.L.length c3, .slice ad4 m'.cs.length c4, .int .i64 m'.se, .int .i64 m'.ta, .int .i64 m'.lo] 28 → RowIs W (w.heap.size + 1) [.int .i64 4, .int .i64 fr, .int .i64 tt, .string s, .int .i64 an, .int .i64 am] 35 → ((((((W.setCell ⟨w.heap.size + 1 + 1, 0, none⟩ (.slice ad3 m'.L.length c3)).setCell ⟨w.heap.size + 1 + 1, 1, none⟩ (.slice ad4 m'.cs.length c4)).setCell ⟨w.heap.size + 1 + 1, 2, none⟩ (.int .i64 m'.se)).setCell ⟨w.heap.size + 1 + 1, 3, none⟩ (.int .i64 m'.ta)).setCell ⟨w.heap.size + 1 + 1, 4, none⟩ (.int .i64 m'.lo)).cell? ⟨w1.heap.size, 0, none⟩ = some (.slice ad3 m'.L.length c3) ∧ (((((W.setCell ⟨w.heap.size + 1 + 1, 0, none⟩ (.slice ad3 m'.L.length c3)).setCell ⟨w.heap.size + 1 + 1, 1, none⟩ (.slice ad4 m'.cs.length c4)).setCell ⟨w.heap.size + 1 + 1, 2, none⟩ (.int .i64 m'.se)).setCell ⟨w.heap.size + 1 + 1, 3, none⟩ (.int .i64 m'.ta)).setCell ⟨w.heap.size + 1 + 1, 4, none⟩ (.int .i64 m'.lo)).cell? ⟨w1.heap.size, 1, none⟩ = some (.slice ad4 m'.cs.length c4) ∧ (((((W.setCell ⟨w.heap.size + 1 + 1, 0, none⟩ (.slice ad3 m'.L.length c3)).setCell ⟨w.heap.size + 1 + 1, 1, none⟩ (.slice ad4 m'.cs.length c4)).setCell ⟨w.heap.size + 1 + 1, 2, none⟩ (.int .i64 m'.se)).setCell ⟨w.heap.size + 1 + 1, 3, none⟩ (.int .i64 m'.ta)).setCell ⟨w.heap.size + 1 + 1, 4, none⟩ (.int .i64 m'.lo)).cell? ⟨w1.heap.size, 2, none⟩ = some (.int .i64 m'.se) ∧ (((((W.setCell ⟨w.heap.size + 1 + 1, 0, none⟩ (.slice ad3 m'.L.length c3)).setCell ⟨w.heap.size + 1 + 1, 1, none⟩ (.slice ad4 m'.cs.length c4)).setCell ⟨w.heap.size + 1 + 1, 2, none⟩ (.int .i64 m'.se)).setCell ⟨w.heap.size + 1 + 1, 3, none⟩ (.int .i64 m'.ta)).setCell ⟨w.heap.size + 1 + 1, 4, none⟩ (.int .i64 m'.lo)).cell? ⟨w1.heap.size, 3, none⟩ = some (.int .i64 m'.ta) ∧ (((((W.setCell ⟨w.heap.size + 1 + 1, 0, none⟩ (.slice ad3 m'.L.length c3)).setCell ⟨w.heap.size + 1 + 1, 1, none⟩ (.slice ad4 m'.cs.length c4)).setCell ⟨w.heap.size + 1 + 1, 2, none⟩ (.int .i64 m'.se)).setCell ⟨w.heap.size + 1 + 1, 3, none⟩ (.int .i64 m'.ta)).setCell ⟨w.heap.size + 1 + 1, 4, none⟩ (.int .i64 m'.lo)).cell? ⟨w1.heap.size, 4, none⟩ = some (.int .i64 m'.lo) ∧ (((((W.setCell ⟨w.heap.size + 1 + 1, 0, none⟩ (.slice ad3 m'.L.length c3)).setCell ⟨w.heap.size + 1 + 1, 1, none⟩ (.slice ad4 m'.cs.length c4)).setCell ⟨w.heap.size + 1 + 1, 2, none⟩ (.int .i64 m'.se)).setCell ⟨w.heap.size + 1 + 1, 3, none⟩ (.int .i64 m'.ta)).setCell ⟨w.heap.size + 1 + 1, 4, none⟩ (.int .i64 m'.lo)).cell? ⟨w.heap.size + 1, 0, none⟩ = some (.int .i64 4) ∧ (((((W.setCell ⟨w.heap.size + 1 + 1, 0, none⟩ (.slice ad3 m'.L.length c3)).setCell ⟨w.heap.size + 1 + 1, 1, none⟩ (.slice ad4 m'.cs.length c4)).setCell ⟨w.heap.size + 1 + 1, 2, none⟩ (.int .i64 m'.se)).setCell ⟨w.heap.size + 1 + 1, 3, none⟩ (.int .i64 m'.ta)).setCell ⟨w.heap.size + 1 + 1, 4, none⟩ (.int .i64 m'.lo)).cell? ⟨w.heap.size + 1, 1, none⟩ = some (.int .i64 fr) ∧ (((((W.setCell ⟨w.heap.size + 1 + 1, 0, none⟩ (.slice ad3 m'.L.length c3)).setCell ⟨w.heap.size + 1 + 1, 1, none⟩ (.slice ad4 m'.cs.length c4)).setCell ⟨w.heap.size + 1 + 1, 2, none⟩ (.int .i64 m'.se)).setCell ⟨w.heap.size + 1 + 1, 3, none⟩ (.int .i64 m'.ta)).setCell ⟨w.heap.size + 1 + 1, 4, none⟩ (.int .i64 m'.lo)).cell? ⟨w.heap.size + 1, 2, none⟩ = some (.int .i64 tt) ∧ (((((W.setCell ⟨w.heap.size + 1 + 1, 0, none⟩ (.slice ad3 m'.L.length c3)).setCell ⟨w.heap.size + 1 + 1, 1, none⟩ (.slice ad4 m'.cs.length c4)).setCell ⟨w.heap.size + 1 + 1, 2, none⟩ (.int .i64 m'.se)).setCell ⟨w.heap.size + 1 + 1, 3, none⟩ (.int .i64 m'.ta)).setCell ⟨w.heap.size + 1 + 1, 4, none⟩ (.int .i64 m'.lo)).cell? ⟨w.heap.size + 1, 3, none⟩ = some (.string s) ∧ (((((W.setCell ⟨w.heap.size + 1 + 1, 0, none⟩ (.slice ad3 m'.L.length c3)).setCell ⟨w.heap.size + 1 + 1, 1, none⟩ (.slice ad4 m'.cs.length c4)).setCell ⟨w.heap.size + 1 + 1, 2, none⟩ (.int .i64 m'.se)).setCell ⟨w.heap.size + 1 + 1, 3, none⟩ (.int .i64 m'.ta)).setCell ⟨w.heap.size + 1 + 1, 4, none⟩ (.int .i64 m'.lo)).cell? ⟨w.heap.size + 1, 4, none⟩ = some (.int .i64 an) ∧ (((((W.setCell ⟨w.heap.size + 1 + 1, 0, none⟩ (.slice ad3 m'.L.length c3)).setCell ⟨w.heap.size + 1 + 1, 1, none⟩ (.slice ad4 m'.cs.length c4)).setCell ⟨w.heap.size + 1 + 1, 2, none⟩ (.int .i64 m'.se)).setCell ⟨w.heap.size + 1 + 1, 3, none⟩ (.int .i64 m'.ta)).setCell ⟨w.heap.size + 1 + 1, 4, none⟩ (.int .i64 m'.lo)).cell? ⟨w.heap.size + 1, 5, none⟩ = some (.int .i64 am))) := fun W r1 r2 => SK.out _ (r1.keep (k5 W) (fun e => by have := HC1.out; omega)) (r2.keep (k5 W) (fun e => by omega))
  have z0 := HZ1.out.cellAt (o := 0) rfl
  have z1 := HZ1.out.cellAt (o := 1) rfl
  have z2 := HZ1.out.cellAt (o := 2) rfl
  have z3 := HZ1.out.cellAt (o := 3) rfl
  have z4 := HZ1.out.cellAt (o := 4) rfl
  have g0 := HZ1.out.frozen (o := 0)
  have g1 := HZ1.out.frozen (o := 1)
  have g2 := HZ1.out.frozen (o := 2)
  have g3 := HZ1.out.frozen (o := 3)
  have g4 := HZ1.out.frozen (o := 4)
  have n0 := HN1.out.cellAt (o := 0) rfl
  have n1 := HN1.out.cellAt (o := 1) rfl
  have n2 := HN1.out.cellAt (o := 2) rfl
  have n3 := HN1.out.cellAt (o := 3) rfl
  have n4 := HN1.out.cellAt (o := 4) rfl
  have t0 := HA1.out.cellAt (o := 0) rfl
  have t1 := HA1.out.cellAt (o := 1) rfl
  have t2 := HA1.out.cellAt (o := 2) rfl
  have t3 := HA1.out.cellAt (o := 3) rfl
  have t4 := HA1.out.cellAt (o := 4) rfl
  have t5 := HA1.out.cellAt (o := 5) rfl
  have HZD := hid (HZ1.out.keep (keep_drew (fun _ => False) w2) (fun h => h))
  clear SK kd PC HS
  go_region_held3 (fun w' => w'.cell? ⟨w1.heap.size, 0, none⟩ = some (.slice ad3 m'.L.length c3) ∧ w'.cell? ⟨w1.heap.size, 1, none⟩ = some (.slice ad4 m'.cs.length c4) ∧ w'.cell? ⟨w1.heap.size, 2, none⟩ = some (.int .i64 m'.se) ∧ w'.cell? ⟨w1.heap.size, 3, none⟩ = some (.int .i64 m'.ta) ∧ w'.cell? ⟨w1.heap.size, 4, none⟩ = some (.int .i64 m'.lo) ∧ w'.cell? ⟨w.heap.size + 1, 0, none⟩ = some (.int .i64 4) ∧ w'.cell? ⟨w.heap.size + 1, 1, none⟩ = some (.int .i64 fr) ∧ w'.cell? ⟨w.heap.size + 1, 2, none⟩ = some (.int .i64 tt) ∧ w'.cell? ⟨w.heap.size + 1, 3, none⟩ = some (.string s) ∧ w'.cell? ⟨w.heap.size + 1, 4, none⟩ = some (.int .i64 an) ∧ w'.cell? ⟨w.heap.size + 1, 5, none⟩ = some (.int .i64 am)) (first | (refine ⟨?_, ?_, ?_, ?_, ?_, ?_, ?_, ?_, ?_, ?_, ?_⟩ <;> with_reducible assumption) | with_reducible (exact S0.out) | with_reducible (exact S5.out) | with_reducible (exact SX.out _ hr1.out hr2.out)) (first | (go_at_call 18; with_reducible (refine C0.out.mono ?_); rintro e w5 ⟨rfl, ⟨e0, e1, e2, e3, e4, e5, e6, e7, e8, e9, e10⟩, hE, hZ5, hr1, hr2⟩; have rz := hZ5.out _ HZD.out; have y0 := rz.cellAt (o := 0) rfl; have y1 := rz.cellAt (o := 1) rfl; have y2 := rz.cellAt (o := 2) rfl; have y3 := rz.cellAt (o := 3) rfl; have y4 := rz.cellAt (o := 4) rfl; have h0 := rz.frozen (o := 0); have h1 := rz.frozen (o := 1); have h2 := rz.frozen (o := 2); have h3 := rz.frozen (o := 3); have h4 := rz.frozen (o := 4)) | (go_at_call 18; with_reducible (refine C5.out.mono ?_); rintro e w5 ⟨rfl, ⟨e0, e1, e2, e3, e4, e5, e6, e7, e8, e9, e10⟩, hE, hZ5, hr1, hr2⟩))
  have HF := hid (five (v0 := .slice ad3 m'.L.length c3) (v1 := .slice ad4 m'.cs.length c4) (v2 := .int .i64 m'.se) (v3 := .int .i64 m'.ta) (v4 := .int .i64 m'.lo) rz)
  have HRZ := hid rz
  clear C0 C5 S0 S5 SX HZD HF2 z0 z1 z2 z3 z4 g0 g1 g2 g3 g4 n0 n1 n2 n3 n4 t0 t1 t2 t3 t4 t5 e0 e1 e2 e3 e4 e5 e6 e7 e8 e9 e10 y0 y1 y2 y3 y4 h0 h1 h2 h3 h4 hr1 hr2 rz hZ5 PCW k5
  have HRF : Hid (RfIs _ (.slice ad3 m'.L.length c3) (.slice ad4 m'.cs.length c4) m') := ((HR1.out.keep (keep_drew _ _)).oth hE.out.2).put HF.out.2 ⟨_, HRZ.out⟩
  have HNS := hid (hE.out.1.put HF.out.2 (Oth.row HRZ.out (by decide) (by decide)) (by omega))
  have HKK : Hid (Keep (fun j => ¬ A j ∧ ¬ Oth w j) w _) := ((K1.out.trans (keep_drew _ _)).mono (fun _ _ h => h.elim)).then (hE.out.2.mono (T := fun j => ¬ A j ∧ (j < w.heap.size → ¬ Oth w j)) (fun j hj hn => ⟨fun h => hn (.inl h), fun hjw ho => hn (.inr (by obtain ⟨cur, t, hb, t1, t2⟩ := ho; exact ⟨cur, t, ((K1.out.trans (keep_drew (fun _ => False) _)).block j hjw (fun h => h)).trans hb, t1, t2⟩))⟩)) (fun j hj hn => ⟨hn.1, hn.2 hj⟩) |>.then HF.out.2 (fun j hj e => by omega)
  clear HR1 HS2 HA1 HZ1 HN1 OZ K1 hE HRZ
  go_wp2
  refine bodyPost_ret (v := .tuple #[.agg #[.slice ad3 m'.L.length c3, .slice ad4 m'.cs.length c4, .int .i64 m'.se, .int .i64 m'.ta, .int .i64 m'.lo], .bool (yy == xx)]) (npk_cell_tmp (p := 6) (u := 7) rfl _ _ (w.heap.size + 1 + 1) _ _ rfl rfl (run_loadVar_row _ _ _ _ _ _ _ HF.out.1 Try.underlying28 rfl (by kernel_rfl))) rfl ⟨_, _, rfl, HRF.out, HNS.out, HKK.out⟩
set_option maxRecDepth 100000 in
set_option maxHeartbeats 4000000 in
theorem one6_any (w0 : World) (A : Nat → Prop) (p : Nat) (n n' : Net) (lv cv : Value) (m m' : RNet) (kd fr tt an am : Int) (s : ByteArray) (xx yy : Int) (w : World) (hkd : kd = 6) (hS : NSt w0 A p n w) (hR : RfIs w lv cv m)
    (RC : ∀ W, Keep (fun _ => False) w W → Calls Try.prog 29 #[rmV lv cv m, .int .i64 an] W fun e w' => ∃ lv' cv', e = .returned (.tuple #[rmV lv' cv' m', .int .i64 xx]) ∧ RfIs w' lv' cv' m' ∧ Keep (fun _ => False) W w')
    (PC : ∀ P1 W, NetIs W P1 p n → Calls Try.prog 23 #[.pointer (some ⟨p, 0, none⟩), .int .i64 an] W fun e w' => e = .returned (.int .i64 yy) ∧ NLeft W P1 p n' w') :
    Calls Try.prog 11 #[.pointer (some ⟨p, 0, none⟩), rmV lv cv m, .agg #[.int .i64 kd, .int .i64 fr, .int .i64 tt, .string s, .int .i64 an, .int .i64 am]] w fun e w' => ∃ lv' cv', e = .returned (.tuple #[rmV lv' cv' m', .bool (yy == xx)]) ∧ RfIs w' lv' cv' m' ∧ NSt w0 A p n' w' ∧ Keep (fun j => ¬ A j ∧ ¬ Oth w j) w w' := by
  obtain ⟨ad1, c1, rfl⟩ := row_form hR.l
  obtain ⟨ad2, c2, rfl⟩ := row_form hR.c
  have HRC := hid RC
  have HS := hid hS
  have hw0 := hS.size
  subst hkd
  unfold rmV at *
  clear RC hR hS
  have K0 : Hid (Keep (fun _ => False) w (((w.alloc (.cells #[.slice ad1 m.L.length c1, .slice ad2 m.cs.length c2, .int .i64 m.se, .int .i64 m.ta, .int .i64 m.lo] 28)).alloc (.cells #[.int .i64 6, .int .i64 fr, .int .i64 tt, .string s, .int .i64 an, .int .i64 am] 35)).alloc (.cells #[.slice none 0 0, .slice none 0 0, .int .i64 0, .int .i64 0, .int .i64 0] 28))) := ((keep_alloc _ _ _).trans (keep_alloc _ _ _)).trans (keep_alloc _ _ _)
  have HA := hid ((row2 w (.cells #[.slice ad1 m.L.length c1, .slice ad2 m.cs.length c2, .int .i64 m.se, .int .i64 m.ta, .int .i64 m.lo] 28) [.int .i64 6, .int .i64 fr, .int .i64 tt, .string s, .int .i64 an, .int .i64 am] 35).keep (keep_alloc (fun _ => False) _ (.cells #[.slice none 0 0, .slice none 0 0, .int .i64 0, .int .i64 0, .int .i64 0] 28)) (fun h => h))
  have HZ := hid (row3 w (.cells #[.slice ad1 m.L.length c1, .slice ad2 m.cs.length c2, .int .i64 m.se, .int .i64 m.ta, .int .i64 m.lo] 28) (.cells #[.int .i64 6, .int .i64 fr, .int .i64 tt, .string s, .int .i64 an, .int .i64 am] 35) [.slice none 0 0, .slice none 0 0, .int .i64 0, .int .i64 0, .int .i64 0] 28)
  go_enter Try.func11, Try.ntmps11
  go_wp2_with fail
  refine (HRC.out _ K0.out).mono ?_
  rintro e w1 ⟨lv', cv', rfl, hR1, k1⟩
  obtain ⟨ad3, c3, rfl⟩ := row_form hR1.l
  obtain ⟨ad4, c4, rfl⟩ := row_form hR1.c
  have kA := k1.trans (keep_alloc (fun _ => False) w1 (.cells #[.slice ad3 m'.L.length c3, .slice ad4 m'.cs.length c4, .int .i64 m'.se, .int .i64 m'.ta, .int .i64 m'.lo] 28))
  have HA1 := hid (HA.out.keep kA (fun h => h))
  have HZ1 := hid (HZ.out.keep kA (fun h => h))
  have HN1 := hid (row1 w1 [.slice ad3 m'.L.length c3, .slice ad4 m'.cs.length c4, .int .i64 m'.se, .int .i64 m'.ta, .int .i64 m'.lo] 28)
  have hc1 : w.heap.size + 1 + 1 < w1.heap.size := Nat.lt_of_lt_of_le HZ.out.lt k1.size
  have HC1 := hid hc1
  have K1 := hid (K0.out.trans kA)
  have HR1 := hid (hR1.keep (keep_alloc (fun _ => False) w1 (.cells #[.slice ad3 m'.L.length c3, .slice ad4 m'.cs.length c4, .int .i64 m'.se, .int .i64 m'.ta, .int .i64 m'.lo] 28)))
  clear hR1 k1 kA HRC K0 HA HZ hc1
  go_wp2
  generalize w1.alloc (.cells #[.slice ad3 m'.L.length c3, .slice ad4 m'.cs.length c4, .int .i64 m'.se, .int .i64 m'.ta, .int .i64 m'.lo] 28) = w2 at *
  have HS2 := hid (HS.out.keep K1.out)
  have OZ : Hid (Oth w2 (w.heap.size + 1 + 1)) := Oth.row HZ1.out (by decide) (by decide)
  have SK : Hid (∀ w', RowIs w' w1.heap.size [.slice ad3 m'.L.length c3, .slice ad4 m'.cs.length c4, .int .i64 m'.se, .int .i64 m'.ta, .int .i64 m'.lo] 28 → RowIs w' (w.heap.size + 1) [.int .i64 6, .int .i64 fr, .int .i64 tt, .string s, .int .i64 an, .int .i64 am] 35 → (w'.cell? ⟨w1.heap.size, 0, none⟩ = some (.slice ad3 m'.L.length c3) ∧ w'.cell? ⟨w1.heap.size, 1, none⟩ = some (.slice ad4 m'.cs.length c4) ∧ w'.cell? ⟨w1.heap.size, 2, none⟩ = some (.int .i64 m'.se) ∧ w'.cell? ⟨w1.heap.size, 3, none⟩ = some (.int .i64 m'.ta) ∧ w'.cell? ⟨w1.heap.size, 4, none⟩ = some (.int .i64 m'.lo) ∧ w'.cell? ⟨w.heap.size + 1, 0, none⟩ = some (.int .i64 6) ∧ w'.cell? ⟨w.heap.size + 1, 1, none⟩ = some (.int .i64 fr) ∧ w'.cell? ⟨w.heap.size + 1, 2, none⟩ = some (.int .i64 tt) ∧ w'.cell? ⟨w.heap.size + 1, 3, none⟩ = some (.string s) ∧ w'.cell? ⟨w.heap.size + 1, 4, none⟩ = some (.int .i64 an) ∧ w'.cell? ⟨w.heap.size + 1, 5, none⟩ = some (.int .i64 am))) := fun w' r1 r2 => ⟨r1.cellAt rfl, r1.cellAt rfl, r1.cellAt rfl, r1.cellAt rfl, r1.cellAt rfl, r2.cellAt rfl, r2.cellAt rfl, r2.cellAt rfl, r2.cellAt rfl, r2.cellAt rfl, r2.cellAt rfl⟩
  have k5 : ∀ W : World, Keep (· = w.heap.size + 1 + 1) W (((((W.setCell ⟨w.heap.size + 1 + 1, 0, none⟩ (.slice ad3 m'.L.length c3)).setCell ⟨w.heap.size + 1 + 1, 1, none⟩ (.slice ad4 m'.cs.length c4)).setCell ⟨w.heap.size + 1 + 1, 2, none⟩ (.int .i64 m'.se)).setCell ⟨w.heap.size + 1 + 1, 3, none⟩ (.int .i64 m'.ta)).setCell ⟨w.heap.size + 1 + 1, 4, none⟩ (.int .i64 m'.lo)) := fun W => ((((keep_setCell _ _ _ _).trans (keep_setCell _ _ _ _)).trans (keep_setCell _ _ _ _)).trans (keep_setCell _ _ _ _)).trans (keep_setCell _ _ _ _)
  have PCW : Hid (∀ W, Keep (· = w.heap.size + 1 + 1) w2 W → (∃ cs, RowIs W (w.heap.size + 1 + 1) cs 28) → Calls Try.prog 23 #[.pointer (some ⟨p, 0, none⟩), .int .i64 an] W fun e w' => e = .returned (.int .i64 yy) ∧ (w'.cell? ⟨w1.heap.size, 0, none⟩ = some (.slice ad3 m'.L.length c3) ∧ w'.cell? ⟨w1.heap.size, 1, none⟩ = some (.slice ad4 m'.cs.length c4) ∧ w'.cell? ⟨w1.heap.size, 2, none⟩ = some (.int .i64 m'.se) ∧ w'.cell? ⟨w1.heap.size, 3, none⟩ = some (.int .i64 m'.ta) ∧ w'.cell? ⟨w1.heap.size, 4, none⟩ = some (.int .i64 m'.lo) ∧ w'.cell? ⟨w.heap.size + 1, 0, none⟩ = some (.int .i64 6) ∧ w'.cell? ⟨w.heap.size + 1, 1, none⟩ = some (.int .i64 fr) ∧ w'.cell? ⟨w.heap.size + 1, 2, none⟩ = some (.int .i64 tt) ∧ w'.cell? ⟨w.heap.size + 1, 3, none⟩ = some (.string s) ∧ w'.cell? ⟨w.heap.size + 1, 4, none⟩ = some (.int .i64 an) ∧ w'.cell? ⟨w.heap.size + 1, 5, none⟩ = some (.int .i64 am)) ∧ Hid (NSt w0 A p n' w' ∧ Keep (fun j => ¬ (A j ∨ Oth W j)) W w') ∧ Hid (∀ cs, RowIs W (w.heap.size + 1 + 1) cs 28 → RowIs w' (w.heap.size + 1 + 1) cs 28) ∧ Hid (RowIs w' w1.heap.size [.slice ad3 m'.L.length c3, .slice ad4 m'.cs.length c4, .int .i64 m'.se, .int .i64 m'.ta, .int .i64 m'.lo] 28) ∧ Hid (RowIs w' (w.heap.size + 1) [.int .i64 6, .int .i64 fr, .int .i64 tt, .string s, .int .i64 an, .int .i64 am] 35)) := fun W hW hZW => by
    have hc := HC1.out
    have rN := HN1.out.keep hW (fun e => by omega)
    have rA := HA1.out.keep hW (fun e => by omega)
    refine (stepO (HS2.out.put hW OZ.out (by omega)) (fun P1 h1 => PC P1 W h1)).mono ?_
    rintro e w' ⟨rfl, h1, h2⟩
    exact ⟨rfl, SK.out w' (rN.keep h2 (fun hn => hn (.inr (Oth.row rN (by decide) (by decide))))) (rA.keep h2 (fun hn => hn (.inr (Oth.row rA (by decide) (by decide))))), ⟨h1, h2⟩, fun cs r => r.keep h2 (fun hn => hn (.inr (Oth.row r (by decide) (by decide)))), rN.keep h2 (fun hn => hn (.inr (Oth.row rN (by decide) (by decide)))), rA.keep h2 (fun hn => hn (.inr (Oth.row rA (by decide) (by decide))))⟩
  have kd : Keep (· = w.heap.size + 1 + 1) w2 w2.drew := keep_drew _ _
  have C0 := hid (PCW.out w2.drew kd ⟨_, HZ1.out.keep (keep_drew (fun _ => False) _) (fun h => h)⟩)
  have HF2 := hid (five (v0 := .slice ad3 m'.L.length c3) (v1 := .slice ad4 m'.cs.length c4) (v2 := .int .i64 m'.se) (v3 := .int .i64 m'.ta) (v4 := .int .i64 m'.lo) HZ1.out)
  have C5 := hid (PCW.out (((((w2.setCell ⟨w.heap.size + 1 + 1, 0, none⟩ (.slice ad3 m'.L.length c3)).setCell ⟨w.heap.size + 1 + 1, 1, none⟩ (.slice ad4 m'.cs.length c4)).setCell ⟨w.heap.size + 1 + 1, 2, none⟩ (.int .i64 m'.se)).setCell ⟨w.heap.size + 1 + 1, 3, none⟩ (.int .i64 m'.ta)).setCell ⟨w.heap.size + 1 + 1, 4, none⟩ (.int .i64 m'.lo)).drew (HF2.out.2.trans (keep_drew _ _)) ⟨_, HF2.out.1.keep (keep_drew (fun _ => False) _) (fun h => h)⟩)
  have S0 := hid (SK.out w2.drew (HN1.out.keep (keep_drew (fun _ => False) _) (fun h => h)) (HA1.out.keep (keep_drew (fun _ => False) _) (fun h => h)))
  have S5 := hid (SK.out (((((w2.setCell ⟨w.heap.size + 1 + 1, 0, none⟩ (.slice ad3 m'.L.length c3)).setCell ⟨w.heap.size + 1 + 1, 1, none⟩ (.slice ad4 m'.cs.length c4)).setCell ⟨w.heap.size + 1 + 1, 2, none⟩ (.int .i64 m'.se)).setCell ⟨w.heap.size + 1 + 1, 3, none⟩ (.int .i64 m'.ta)).setCell ⟨w.heap.size + 1 + 1, 4, none⟩ (.int .i64 m'.lo)).drew ((HN1.out.keep HF2.out.2 (fun e => by have := HC1.out; omega)).keep (keep_drew (fun _ => False) _) (fun h => h)) ((HA1.out.keep HF2.out.2 (fun e => by omega)).keep (keep_drew (fun _ => False) _) (fun h => h)))
  have SX : Hid (∀ W, RowIs W w1.heap.size [.slice ad3 m'.L.length c3, .slice ad4 m'.cs.length c4, .int .i64 m'.se, .int .i64 m'.ta, .int .i64 m'.lo] 28 → RowIs W (w.heap.size + 1) [.int .i64 6, .int .i64 fr, .int .i64 tt, .string s, .int .i64 an, .int .i64 am] 35 → ((((((W.setCell ⟨w.heap.size + 1 + 1, 0, none⟩ (.slice ad3 m'.L.length c3)).setCell ⟨w.heap.size + 1 + 1, 1, none⟩ (.slice ad4 m'.cs.length c4)).setCell ⟨w.heap.size + 1 + 1, 2, none⟩ (.int .i64 m'.se)).setCell ⟨w.heap.size + 1 + 1, 3, none⟩ (.int .i64 m'.ta)).setCell ⟨w.heap.size + 1 + 1, 4, none⟩ (.int .i64 m'.lo)).cell? ⟨w1.heap.size, 0, none⟩ = some (.slice ad3 m'.L.length c3) ∧ (((((W.setCell ⟨w.heap.size + 1 + 1, 0, none⟩ (.slice ad3 m'.L.length c3)).setCell ⟨w.heap.size + 1 + 1, 1, none⟩ (.slice ad4 m'.cs.length c4)).setCell ⟨w.heap.size + 1 + 1, 2, none⟩ (.int .i64 m'.se)).setCell ⟨w.heap.size + 1 + 1, 3, none⟩ (.int .i64 m'.ta)).setCell ⟨w.heap.size + 1 + 1, 4, none⟩ (.int .i64 m'.lo)).cell? ⟨w1.heap.size, 1, none⟩ = some (.slice ad4 m'.cs.length c4) ∧ (((((W.setCell ⟨w.heap.size + 1 + 1, 0, none⟩ (.slice ad3 m'.L.length c3)).setCell ⟨w.heap.size + 1 + 1, 1, none⟩ (.slice ad4 m'.cs.length c4)).setCell ⟨w.heap.size + 1 + 1, 2, none⟩ (.int .i64 m'.se)).setCell ⟨w.heap.size + 1 + 1, 3, none⟩ (.int .i64 m'.ta)).setCell ⟨w.heap.size + 1 + 1, 4, none⟩ (.int .i64 m'.lo)).cell? ⟨w1.heap.size, 2, none⟩ = some (.int .i64 m'.se) ∧ (((((W.setCell ⟨w.heap.size + 1 + 1, 0, none⟩ (.slice ad3 m'.L.length c3)).setCell ⟨w.heap.size + 1 + 1, 1, none⟩ (.slice ad4 m'.cs.length c4)).setCell ⟨w.heap.size + 1 + 1, 2, none⟩ (.int .i64 m'.se)).setCell ⟨w.heap.size + 1 + 1, 3, none⟩ (.int .i64 m'.ta)).setCell ⟨w.heap.size + 1 + 1, 4, none⟩ (.int .i64 m'.lo)).cell? ⟨w1.heap.size, 3, none⟩ = some (.int .i64 m'.ta) ∧ (((((W.setCell ⟨w.heap.size + 1 + 1, 0, none⟩ (.slice ad3 m'.L.length c3)).setCell ⟨w.heap.size + 1 + 1, 1, none⟩ (.slice ad4 m'.cs.length c4)).setCell ⟨w.heap.size + 1 + 1, 2, none⟩ (.int .i64 m'.se)).setCell ⟨w.heap.size + 1 + 1, 3, none⟩ (.int .i64 m'.ta)).setCell ⟨w.heap.size + 1 + 1, 4, none⟩ (.int .i64 m'.lo)).cell? ⟨w1.heap.size, 4, none⟩ = some (.int .i64 m'.lo) ∧ (((((W.setCell ⟨w.heap.size + 1 + 1, 0, none⟩ (.slice ad3 m'.L.length c3)).setCell ⟨w.heap.size + 1 + 1, 1, none⟩ (.slice ad4 m'.cs.length c4)).setCell ⟨w.heap.size + 1 + 1, 2, none⟩ (.int .i64 m'.se)).setCell ⟨w.heap.size + 1 + 1, 3, none⟩ (.int .i64 m'.ta)).setCell ⟨w.heap.size + 1 + 1, 4, none⟩ (.int .i64 m'.lo)).cell? ⟨w.heap.size + 1, 0, none⟩ = some (.int .i64 6) ∧ (((((W.setCell ⟨w.heap.size + 1 + 1, 0, none⟩ (.slice ad3 m'.L.length c3)).setCell ⟨w.heap.size + 1 + 1, 1, none⟩ (.slice ad4 m'.cs.length c4)).setCell ⟨w.heap.size + 1 + 1, 2, none⟩ (.int .i64 m'.se)).setCell ⟨w.heap.size + 1 + 1, 3, none⟩ (.int .i64 m'.ta)).setCell ⟨w.heap.size + 1 + 1, 4, none⟩ (.int .i64 m'.lo)).cell? ⟨w.heap.size + 1, 1, none⟩ = some (.int .i64 fr) ∧ (((((W.setCell ⟨w.heap.size + 1 + 1, 0, none⟩ (.slice ad3 m'.L.length c3)).setCell ⟨w.heap.size + 1 + 1, 1, none⟩ (.slice ad4 m'.cs.length c4)).setCell ⟨w.heap.size + 1 + 1, 2, none⟩ (.int .i64 m'.se)).setCell ⟨w.heap.size + 1 + 1, 3, none⟩ (.int .i64 m'.ta)).setCell ⟨w.heap.size + 1 + 1, 4, none⟩ (.int .i64 m'.lo)).cell? ⟨w.heap.size + 1, 2, none⟩ = some (.int .i64 tt) ∧ (((((W.setCell ⟨w.heap.size + 1 + 1, 0, none⟩ (.slice ad3 m'.L.length c3)).setCell ⟨w.heap.size + 1 + 1, 1, none⟩ (.slice ad4 m'.cs.length c4)).setCell ⟨w.heap.size + 1 + 1, 2, none⟩ (.int .i64 m'.se)).setCell ⟨w.heap.size + 1 + 1, 3, none⟩ (.int .i64 m'.ta)).setCell ⟨w.heap.size + 1 + 1, 4, none⟩ (.int .i64 m'.lo)).cell? ⟨w.heap.size + 1, 3, none⟩ = some (.string s) ∧ (((((W.setCell ⟨w.heap.size + 1 + 1, 0, none⟩ (.slice ad3 m'.L.length c3)).setCell ⟨w.heap.size + 1 + 1, 1, none⟩ (.slice ad4 m'.cs.length c4)).setCell ⟨w.heap.size + 1 + 1, 2, none⟩ (.int .i64 m'.se)).setCell ⟨w.heap.size + 1 + 1, 3, none⟩ (.int .i64 m'.ta)).setCell ⟨w.heap.size + 1 + 1, 4, none⟩ (.int .i64 m'.lo)).cell? ⟨w.heap.size + 1, 4, none⟩ = some (.int .i64 an) ∧ (((((W.setCell ⟨w.heap.size + 1 + 1, 0, none⟩ (.slice ad3 m'.L.length c3)).setCell ⟨w.heap.size + 1 + 1, 1, none⟩ (.slice ad4 m'.cs.length c4)).setCell ⟨w.heap.size + 1 + 1, 2, none⟩ (.int .i64 m'.se)).setCell ⟨w.heap.size + 1 + 1, 3, none⟩ (.int .i64 m'.ta)).setCell ⟨w.heap.size + 1 + 1, 4, none⟩ (.int .i64 m'.lo)).cell? ⟨w.heap.size + 1, 5, none⟩ = some (.int .i64 am))) := fun W r1 r2 => SK.out _ (r1.keep (k5 W) (fun e => by have := HC1.out; omega)) (r2.keep (k5 W) (fun e => by omega))
  have z0 := HZ1.out.cellAt (o := 0) rfl
  have z1 := HZ1.out.cellAt (o := 1) rfl
  have z2 := HZ1.out.cellAt (o := 2) rfl
  have z3 := HZ1.out.cellAt (o := 3) rfl
  have z4 := HZ1.out.cellAt (o := 4) rfl
  have g0 := HZ1.out.frozen (o := 0)
  have g1 := HZ1.out.frozen (o := 1)
  have g2 := HZ1.out.frozen (o := 2)
  have g3 := HZ1.out.frozen (o := 3)
  have g4 := HZ1.out.frozen (o := 4)
  have n0 := HN1.out.cellAt (o := 0) rfl
  have n1 := HN1.out.cellAt (o := 1) rfl
  have n2 := HN1.out.cellAt (o := 2) rfl
  have n3 := HN1.out.cellAt (o := 3) rfl
  have n4 := HN1.out.cellAt (o := 4) rfl
  have t0 := HA1.out.cellAt (o := 0) rfl
  have t1 := HA1.out.cellAt (o := 1) rfl
  have t2 := HA1.out.cellAt (o := 2) rfl
  have t3 := HA1.out.cellAt (o := 3) rfl
  have t4 := HA1.out.cellAt (o := 4) rfl
  have t5 := HA1.out.cellAt (o := 5) rfl
  have HZD := hid (HZ1.out.keep (keep_drew (fun _ => False) w2) (fun h => h))
  clear SK kd PC HS
  go_region_held3 (fun w' => w'.cell? ⟨w1.heap.size, 0, none⟩ = some (.slice ad3 m'.L.length c3) ∧ w'.cell? ⟨w1.heap.size, 1, none⟩ = some (.slice ad4 m'.cs.length c4) ∧ w'.cell? ⟨w1.heap.size, 2, none⟩ = some (.int .i64 m'.se) ∧ w'.cell? ⟨w1.heap.size, 3, none⟩ = some (.int .i64 m'.ta) ∧ w'.cell? ⟨w1.heap.size, 4, none⟩ = some (.int .i64 m'.lo) ∧ w'.cell? ⟨w.heap.size + 1, 0, none⟩ = some (.int .i64 6) ∧ w'.cell? ⟨w.heap.size + 1, 1, none⟩ = some (.int .i64 fr) ∧ w'.cell? ⟨w.heap.size + 1, 2, none⟩ = some (.int .i64 tt) ∧ w'.cell? ⟨w.heap.size + 1, 3, none⟩ = some (.string s) ∧ w'.cell? ⟨w.heap.size + 1, 4, none⟩ = some (.int .i64 an) ∧ w'.cell? ⟨w.heap.size + 1, 5, none⟩ = some (.int .i64 am)) (first | (refine ⟨?_, ?_, ?_, ?_, ?_, ?_, ?_, ?_, ?_, ?_, ?_⟩ <;> with_reducible assumption) | with_reducible (exact S0.out) | with_reducible (exact S5.out) | with_reducible (exact SX.out _ hr1.out hr2.out)) (first | (go_at_call 23; with_reducible (refine C0.out.mono ?_); rintro e w5 ⟨rfl, ⟨e0, e1, e2, e3, e4, e5, e6, e7, e8, e9, e10⟩, hE, hZ5, hr1, hr2⟩; have rz := hZ5.out _ HZD.out; have y0 := rz.cellAt (o := 0) rfl; have y1 := rz.cellAt (o := 1) rfl; have y2 := rz.cellAt (o := 2) rfl; have y3 := rz.cellAt (o := 3) rfl; have y4 := rz.cellAt (o := 4) rfl; have h0 := rz.frozen (o := 0); have h1 := rz.frozen (o := 1); have h2 := rz.frozen (o := 2); have h3 := rz.frozen (o := 3); have h4 := rz.frozen (o := 4)) | (go_at_call 23; with_reducible (refine C5.out.mono ?_); rintro e w5 ⟨rfl, ⟨e0, e1, e2, e3, e4, e5, e6, e7, e8, e9, e10⟩, hE, hZ5, hr1, hr2⟩))
  have HF := hid (five (v0 := .slice ad3 m'.L.length c3) (v1 := .slice ad4 m'.cs.length c4) (v2 := .int .i64 m'.se) (v3 := .int .i64 m'.ta) (v4 := .int .i64 m'.lo) rz)
  have HRZ := hid rz
  clear C0 C5 S0 S5 SX HZD HF2 z0 z1 z2 z3 z4 g0 g1 g2 g3 g4 n0 n1 n2 n3 n4 t0 t1 t2 t3 t4 t5 e0 e1 e2 e3 e4 e5 e6 e7 e8 e9 e10 y0 y1 y2 y3 y4 h0 h1 h2 h3 h4 hr1 hr2 rz hZ5 PCW k5
  have HRF : Hid (RfIs _ (.slice ad3 m'.L.length c3) (.slice ad4 m'.cs.length c4) m') := ((HR1.out.keep (keep_drew _ _)).oth hE.out.2).put HF.out.2 ⟨_, HRZ.out⟩
  have HNS := hid (hE.out.1.put HF.out.2 (Oth.row HRZ.out (by decide) (by decide)) (by omega))
  have HKK : Hid (Keep (fun j => ¬ A j ∧ ¬ Oth w j) w _) := ((K1.out.trans (keep_drew _ _)).mono (fun _ _ h => h.elim)).then (hE.out.2.mono (T := fun j => ¬ A j ∧ (j < w.heap.size → ¬ Oth w j)) (fun j hj hn => ⟨fun h => hn (.inl h), fun hjw ho => hn (.inr (by obtain ⟨cur, t, hb, t1, t2⟩ := ho; exact ⟨cur, t, ((K1.out.trans (keep_drew (fun _ => False) _)).block j hjw (fun h => h)).trans hb, t1, t2⟩))⟩)) (fun j hj hn => ⟨hn.1, hn.2 hj⟩) |>.then HF.out.2 (fun j hj e => by omega)
  clear HR1 HS2 HA1 HZ1 HN1 OZ K1 hE HRZ
  go_wp2
  refine bodyPost_ret (v := .tuple #[.agg #[.slice ad3 m'.L.length c3, .slice ad4 m'.cs.length c4, .int .i64 m'.se, .int .i64 m'.ta, .int .i64 m'.lo], .bool (yy == xx)]) (npk_cell_tmp (p := 6) (u := 7) rfl _ _ (w.heap.size + 1 + 1) _ _ rfl rfl (run_loadVar_row _ _ _ _ _ _ _ HF.out.1 Try.underlying28 rfl (by kernel_rfl))) rfl ⟨_, _, rfl, HRF.out, HNS.out, HKK.out⟩
end Go.Proofs.Ytfcchmjofejkhaa
