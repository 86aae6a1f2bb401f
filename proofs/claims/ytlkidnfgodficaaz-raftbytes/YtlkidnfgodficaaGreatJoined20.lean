/- Joined: The message that a text says: the program's walk. A message: its numbers, and whether it may be: the document's walks. The message that a text says: the document's walk. -/
import Derived.Test.YtlkidnfgodficaaGreatJoined19
import Derived.Test.YtlkidnfgodficaaGreatJoined09
import Derived.Test.YtlkidnfgodficaaGreatJoined07
import Derived.Test.YtlkidnfgodficaaGreatJoined04
import Derived.Laws.ResultCell
import Derived.Test.YtlkidnfgodficaaGreatJoined08
namespace Go.Proofs.YtlkidnfgodficaaGreat
open Go.RowKit Go.Maps
set_option linter.unusedVariables false
set_option linter.unusedSimpArgs false

/-- a reader, and a pointer to it in a box at p -/
structure DpS (w : World) (s : ByteArray) (a e : Int) (p : Nat) (W : World) : Prop where
  rd : RdAt W (w.heap.size + 1) s a e
  pb : RowIs W p [.pointer (some ⟨w.heap.size + 1, 0, none⟩)] 79
  res : RowIs W w.heap.size (msC (.slice none 0 0) ms0) 24
  bel : Below w.heap.size w W
  low : w.heap.size + 2 ≤ p
section
variable {w W W' : World} {s : ByteArray} {a e a' e' : Int} {p b : Nat}
theorem DpS.read (h : DpS w s a e p W) (hr : RdAt W' (w.heap.size + 1) s a' e') (ho : Only (w.heap.size + 1) W W') : DpS w s a' e' p W' :=
  ⟨hr, h.pb.keep ho.keep (by have := h.low; omega), h.res.keep ho.keep (by omega), h.bel.trans (ho.below (by omega) h.bel.size), h.low⟩
theorem DpS.call (h : DpS w s a e p W) (hb : Below W.heap.size W W') : DpS w s a e p W' :=
  ⟨h.rd.keeps hb, h.pb.keep (hb.keep (fun _ => False)) (fun h => h), h.res.keep (hb.keep (fun _ => False)) (fun h => h), h.bel.trans (hb.mono h.bel.size), h.low⟩
theorem DpS.drew (h : DpS w s a e p W) : DpS w s a e p W.drew := h.call (Below.refl _ _).drew
end
/-- a message in a box behind it, and its entries behind that -/
structure DmS (w : World) (s : ByteArray) (a e : Int) (p b : Nat) (m : Ms) (v : Value) (acc : List En) (W : World) : Prop where
  dp : DpS w s a e p W
  box : RowIs W b (msC v m) 24
  own : OwnE W (b + 1) v acc
  lo2 : p < b
section
variable {w W W' : World} {s : ByteArray} {a e a' e' : Int} {p b : Nat} {m : Ms} {v v' : Value} {acc acc' : List En}
theorem DmS.read (h : DmS w s a e p b m v acc W) (hr : RdAt W' (w.heap.size + 1) s a' e') (ho : Only (w.heap.size + 1) W W') : DmS w s a' e' p b m v acc W' :=
  ⟨h.dp.read hr ho, h.box.keep ho.keep (by have := h.dp.low; have := h.lo2; omega), ho.keep.ownsRow h.own (fun g hg e => by have := ownsRow_ge h.own hg; have := h.dp.low; have := h.lo2; omega), h.lo2⟩
theorem DmS.call (h : DmS w s a e p b m v acc W) (hb : Below W.heap.size W W') : DmS w s a e p b m v acc W' :=
  ⟨h.dp.call hb, h.box.keep (hb.keep (fun _ => False)) (fun h => h), (hb.keep (fun _ => False)).ownsRow h.own (fun _ _ h => h), h.lo2⟩
theorem DmS.drew (h : DmS w s a e p b m v acc W) : DmS w s a e p b m v acc W.drew := h.call (Below.refl _ _).drew
theorem DmS.al (h : DmS w s a e p b m v acc W) (o : Obj) : DmS w s a e p b m v acc (W.alloc o) := h.call ((Below.refl _ _).alloc (Nat.le_refl _) o)
theorem DmS.lt (h : DmS w s a e p b m v acc W) : b + 1 ≤ W.heap.size := h.box.lt
/-- a cell of the box set, but not that of the entries -/
theorem DmS.put {m' : Ms} (h : DmS w s a e p b m v acc W) (o : Nat) (u : Value) (hc : (msC v m).set o u = msC v m') : DmS w s a e p b m' v acc (W.setCell ⟨b, o, none⟩ u) := by
  have kS := keep_setCell W b o u
  have h1 := h.dp.low
  have h2 := h.lo2
  refine ⟨⟨h.dp.rd.same (kS.block _ (rd_lt h.dp.rd) (by omega)), h.dp.pb.keep kS (by omega), h.dp.res.keep kS (by omega), h.dp.bel.trans (keep_below kS (fun j hj e => by omega) h.dp.bel.size), h.dp.low⟩, ?_, kS.ownsRow h.own (fun g hg e => by have := ownsRow_ge h.own hg; omega), h.lo2⟩
  rw [← hc]
  exact h.box.set o u
/-- behind an append, the field set -/
theorem DmS.app {WB : World} (h : DmS w s a e p b m v acc W) (ho : OwnE WB (b + 1) v' acc') (hk : Keep (fun k => v.ownBlock = some k) W WB) : DmS w s a e p b m v' acc' (WB.setCell ⟨b, 10, none⟩ v') := by
  have hge := fun k (e : v.ownBlock = some k) => ownsRow_ge h.own e
  have h1 := h.dp.low
  have h2 := h.lo2
  have kS := keep_setCell WB b 10 v'
  have rB := h.box.keep hk (fun e => by have := hge b e; omega)
  have rP := h.dp.pb.keep hk (fun e => by have := hge p e; omega)
  have rR := h.dp.res.keep hk (fun e => by have := hge _ e; omega)
  refine ⟨⟨?_, rP.keep kS (by omega), rR.keep kS (by omega), ?_, h.dp.low⟩, rB.set 10 v', kS.ownsRow ho (fun g hg e => by have := ownsRow_ge ho hg; omega), h.lo2⟩
  · have e1 := hk.block (w.heap.size + 1) (rd_lt h.dp.rd) (fun e => by have := hge _ e; omega)
    have e2 := kS.block (w.heap.size + 1) (Nat.lt_of_lt_of_le (rd_lt h.dp.rd) hk.size) (by omega)
    exact h.dp.rd.same (e2.trans e1)
  · have b1 := keep_below hk (fun k hk' e => by have := hge k e; omega) h.dp.bel.size (B := w.heap.size)
    have b2 := keep_below kS (fun k hk' e => by omega) (Nat.le_trans h.dp.bel.size hk.size) (B := w.heap.size)
    exact (h.dp.bel.trans b1).trans b2
theorem twelve {g : Nat} {cs : List Value} {x0 x1 x2 x3 x4 x5 x6 x7 x8 x9 x10 x11 : Value} {t : TypeId} (hl : cs.length = 12) (h : RowIs W g cs t) : RowIs ((((((((((((W.setCell ⟨g, 0, none⟩ (x0)).setCell ⟨g, 1, none⟩ (x1)).setCell ⟨g, 2, none⟩ (x2)).setCell ⟨g, 3, none⟩ (x3)).setCell ⟨g, 4, none⟩ (x4)).setCell ⟨g, 5, none⟩ (x5)).setCell ⟨g, 6, none⟩ (x6)).setCell ⟨g, 7, none⟩ (x7)).setCell ⟨g, 8, none⟩ (x8)).setCell ⟨g, 9, none⟩ (x9)).setCell ⟨g, 10, none⟩ (x10)).setCell ⟨g, 11, none⟩ (x11)) g [x0, x1, x2, x3, x4, x5, x6, x7, x8, x9, x10, x11] t ∧ Keep (· = g) W ((((((((((((W.setCell ⟨g, 0, none⟩ (x0)).setCell ⟨g, 1, none⟩ (x1)).setCell ⟨g, 2, none⟩ (x2)).setCell ⟨g, 3, none⟩ (x3)).setCell ⟨g, 4, none⟩ (x4)).setCell ⟨g, 5, none⟩ (x5)).setCell ⟨g, 6, none⟩ (x6)).setCell ⟨g, 7, none⟩ (x7)).setCell ⟨g, 8, none⟩ (x8)).setCell ⟨g, 9, none⟩ (x9)).setCell ⟨g, 10, none⟩ (x10)).setCell ⟨g, 11, none⟩ (x11)) := by
  refine ⟨?_, (((((((((((keep_setCell _ _ _ _).trans (keep_setCell _ _ _ _)).trans (keep_setCell _ _ _ _)).trans (keep_setCell _ _ _ _)).trans (keep_setCell _ _ _ _)).trans (keep_setCell _ _ _ _)).trans (keep_setCell _ _ _ _)).trans (keep_setCell _ _ _ _)).trans (keep_setCell _ _ _ _)).trans (keep_setCell _ _ _ _)).trans (keep_setCell _ _ _ _)).trans (keep_setCell _ _ _ _)⟩
  have := ((((((((((((h.set 0 x0).set 1 x1).set 2 x2).set 3 x3).set 4 x4).set 5 x5).set 6 x6).set 7 x7).set 8 x8).set 9 x9).set 10 x10).set 11 x11)
  match cs, hl with
  | [c0, c1, c2, c3, c4, c5, c6, c7, c8, c9, c10, c11], _ => exact this
/-- what was read lies in the result's cell -/
theorem DmS.done (h : DmS w s a e p b m v acc W) (x0 x1 x2 x3 x4 x5 x6 x7 x8 x9 x10 x11 : Value) (W' : World) (hW : W' = ((((((((((((W.setCell ⟨w.heap.size, 0, none⟩ (x0)).setCell ⟨w.heap.size, 1, none⟩ (x1)).setCell ⟨w.heap.size, 2, none⟩ (x2)).setCell ⟨w.heap.size, 3, none⟩ (x3)).setCell ⟨w.heap.size, 4, none⟩ (x4)).setCell ⟨w.heap.size, 5, none⟩ (x5)).setCell ⟨w.heap.size, 6, none⟩ (x6)).setCell ⟨w.heap.size, 7, none⟩ (x7)).setCell ⟨w.heap.size, 8, none⟩ (x8)).setCell ⟨w.heap.size, 9, none⟩ (x9)).setCell ⟨w.heap.size, 10, none⟩ (x10)).setCell ⟨w.heap.size, 11, none⟩ (x11))) : RowIs W' w.heap.size [x0, x1, x2, x3, x4, x5, x6, x7, x8, x9, x10, x11] 24 ∧ Below w.heap.size w W' ∧ OwnE W' w.heap.size v acc := by
  subst hW
  have f := twelve (x0 := x0) (x1 := x1) (x2 := x2) (x3 := x3) (x4 := x4) (x5 := x5) (x6 := x6) (x7 := x7) (x8 := x8) (x9 := x9) (x10 := x10) (x11 := x11) (by rfl) h.dp.res
  have h1 := h.dp.low
  have h2 := h.lo2
  exact ⟨f.1, h.dp.bel.trans (keep_below f.2 (fun k hk e => by omega) h.dp.bel.size), ownsRow_base (f.2.ownsRow h.own (fun g hg e => by have := ownsRow_ge h.own hg; omega)) (by omega)⟩
end
theorem ret_ctM {fn : Func} {p u : Tmp} {ty : TypeId} (h : fn.results = #[.cell p ty, .tmp u]) (tmps : Array Value) (w : World) (g : Nat) (cs : Array Value) (x : Value)
    (hp : tmps.getD p undef = .pointer (some ⟨g, 0, none⟩)) (hx : tmps.getD u undef = x) (hg : (loadVar ty ⟨g, 0, none⟩).run Tryz.prog w = .ok (.agg cs) w) :
    (results fn tmps).run Tryz.prog w = .ok (.tuple #[.agg cs, x]) w := by
  rw [results_cell_tmp h, hp, hx]
  simp [asAddr, hg, Result.andThen]
set_option maxRecDepth 100000 in
set_option maxHeartbeats 1000000 in
theorem mnext_any {w W : World} {t : ByteArray} {a e : Int} {p : Nat} (h : DpS w t a e p W) (hs : t.size ≤ 140737488355328) : Calls Tryz.prog 39 #[.pointer (some ⟨p, 0, none⟩)] W fun r w' => r = .returned (.int .i64 ((dcN t 1099511627776 a e).n : Int)) ∧ RdAt w' (w.heap.size + 1) t (dcN t 1099511627776 a e).a (dcN t 1099511627776 a e).e ∧ Only (w.heap.size + 1) W w' := by
  have RI := hid (rd_int (w.heap.size + 1) t a e 1099511627776 W h.rd (by unfold maxLen; omega) (by omega) (nS_int t a e 1099511627776 (by omega)))
  have y0 := h.pb.cellAt (o := 0) rfl
  clear h hs
  change Hid (Calls Tryz.prog 40 _ _ fun r w' => r = .returned (.int .i64 ((dcN t 1099511627776 a e).n : Int)) ∧ RdAt w' (w.heap.size + 1) t (dcN t 1099511627776 a e).a (dcN t 1099511627776 a e).e ∧ Only (w.heap.size + 1) W w') at RI
  generalize dcN t 1099511627776 a e = X at *
  go_enter Tryz.func39, Tryz.ntmps39
  go_wp2_with fail
  refine RI.out.mono ?_
  rintro r w1 ⟨rfl, h1, h2⟩
  have H1 := hid h1
  have H2 := hid h2
  clear RI h1 h2 y0
  go_wp2
  go_ret
  exact ⟨rfl, H1.out, H2.out⟩
theorem mdT_eq (s : ByteArray) (p0 p1 p2 p3 p4 p5 p6 p7 p8 y c : St) (l : DeR) (t : StT) (h0 : p0 = dcN s 1099511627776 0 0) (h1 : p1 = dcN s 1099511627776 p0.a p0.e) (h2 : p2 = dcN s 1099511627776 p1.a p1.e) (h3 : p3 = dcN s 1099511627776 p2.a p2.e) (h4 : p4 = dcN s 1099511627776 p3.a p3.e) (h5 : p5 = dcN s 1099511627776 p4.a p4.e) (h6 : p6 = dcN s 1099511627776 p5.a p5.e) (h7 : p7 = dcN s 1099511627776 p6.a p6.e) (h8 : p8 = dcN s 1099511627776 p7.a p7.e) (hy : y = dcF s p8.a p8.e) (hc : c = dcN s 16 y.a y.e) (hl : l = dcE s c.n c.a c.e) (ht : t = tS s l.a l.e 4096) : mdT s = ⟨t.a, t.e, ⟨p0.n, p1.n, p2.n, p3.n, p4.n, p5.n, p6.n, p7.n, p8.n, (y.n : Int) == 1, l.l, t.x⟩⟩ := by
  subst h0 h1 h2 h3 h4 h5 h6 h7 h8 hy hc hl ht
  rfl
set_option maxRecDepth 100000 in
set_option maxHeartbeats 8000000 in
theorem mdecode_any (t : ByteArray) (w : World) (hs : t.size ≤ 140737488355328) : Calls Tryz.prog 9 #[.string t] w fun e w' => ∃ ad cap, e = .returned (.tuple #[msV (.slice ad (mdV t).es.length cap) (mdV t), .int .i64 (mdE t)]) ∧ OwnE w' w.heap.size (.slice ad (mdV t).es.length cap) (mdV t).es ∧ Below w.heap.size w w' := by
  have hsm : t.size ≤ maxLen := by unfold maxLen; omega
  have hz1 : (w.alloc (.cells (msC (.slice none 0 0) ms0).toArray 24)).heap.size = w.heap.size + 1 := by simp
  have NW0 := new_reader t (w.alloc (.cells (msC (.slice none 0 0) ms0).toArray 24))
  rw [hz1] at NW0
  have NW := hid NW0
  clear NW0
  have RN : Hid (∀ (a e : Int) (p : Nat) (W : World), DpS w t a e p W → Calls Tryz.prog 39 #[.pointer (some ⟨p, 0, none⟩)] W fun r w' => r = .returned (.int .i64 ((dcN t 1099511627776 a e).n : Int)) ∧ DpS w t (dcN t 1099511627776 a e).a (dcN t 1099511627776 a e).e p w' ∧ RdAt w' (w.heap.size + 1) t (dcN t 1099511627776 a e).a (dcN t 1099511627776 a e).e ∧ Only (w.heap.size + 1) W w') := fun a e p W h => (mnext_any h hs).mono fun r w' ⟨h1, h2, h3⟩ => ⟨h1, h.read h2 h3, h2, h3⟩
  have RI : Hid (∀ (m a e : Int) (W : World), RdAt W (w.heap.size + 1) t a e → m ≤ 9223372036854775807 → Calls Tryz.prog 40 #[.pointer (some ⟨w.heap.size + 1, 0, none⟩), .int .i64 m] W fun r w' => r = .returned (.int .i64 ((dcN t m a e).n : Int)) ∧ RdAt w' (w.heap.size + 1) t (dcN t m a e).a (dcN t m a e).e ∧ Only (w.heap.size + 1) W w') := fun m a e W h hm => rd_int (w.heap.size + 1) t a e m W h hsm hm (nS_int t a e m hm)
  have RB : Hid (∀ (a e : Int) (W : World), RdAt W (w.heap.size + 1) t a e → Calls Tryz.prog 41 #[.pointer (some ⟨w.heap.size + 1, 0, none⟩)] W fun r w' => r = .returned (.bool (((dcF t a e).n : Int) == 1)) ∧ RdAt w' (w.heap.size + 1) t (dcF t a e).a (dcF t a e).e ∧ Only (w.heap.size + 1) W w') := fun a e W h => rd_bool (w.heap.size + 1) t a e W h hsm
  have RT : Hid (∀ (m a e : Int) (W : World), RdAt W (w.heap.size + 1) t a e → Calls Tryz.prog 42 #[.pointer (some ⟨w.heap.size + 1, 0, none⟩), .int .i64 m] W fun r w' => r = .returned (.string (tS t a e m).x) ∧ RdAt w' (w.heap.size + 1) t (tS t a e m).a (tS t a e m).e ∧ Only (w.heap.size + 1) W w') := fun m a e W h => rd_text (w.heap.size + 1) t a e m W h hs
  have RE := hid (fun a e W h => rd_end (w.heap.size + 1) t a e W h)
  have CK : Hid (∀ (v : Value) (m : Ms) W, EntI W v m.es → m.es.length ≤ 17592186044416 → Calls Tryz.prog 12 #[msV v m] W fun e w' => e = .returned (.bool (msOk m)) ∧ Below W.heap.size W w') := fun v m W hv hl => mcheck_any v m W hv hl
  have HR0 : Hid (RowIs (w.alloc (.cells (msC (.slice none 0 0) ms0).toArray 24)) w.heap.size (msC (.slice none 0 0) ms0) 24) := srow w _ _
  have HB0 : Hid (Below w.heap.size w (w.alloc (.cells (msC (.slice none 0 0) ms0).toArray 24))) := below_al (Below.refl _ _) _
  have HZ1 := hid hz1
  have HVE : Hid (mdE t = (if mdOk t = true then 0 else 3) ∧ mdV t = (if mdOk t = true then (mdT t).m else ms0)) := ⟨rfl, rfl⟩
  have HOK : Hid (mdOk t = ((endE t (mdT t).a (mdT t).e == 0) && msOk (mdT t).m)) := rfl
  obtain ⟨P0, hP0⟩ : ∃ P, P = dcN t 1099511627776 0 0 := ⟨_, rfl⟩
  obtain ⟨P1, hP1⟩ : ∃ P, P = dcN t 1099511627776 P0.a P0.e := ⟨_, rfl⟩
  obtain ⟨P2, hP2⟩ : ∃ P, P = dcN t 1099511627776 P1.a P1.e := ⟨_, rfl⟩
  obtain ⟨P3, hP3⟩ : ∃ P, P = dcN t 1099511627776 P2.a P2.e := ⟨_, rfl⟩
  obtain ⟨P4, hP4⟩ : ∃ P, P = dcN t 1099511627776 P3.a P3.e := ⟨_, rfl⟩
  obtain ⟨P5, hP5⟩ : ∃ P, P = dcN t 1099511627776 P4.a P4.e := ⟨_, rfl⟩
  obtain ⟨P6, hP6⟩ : ∃ P, P = dcN t 1099511627776 P5.a P5.e := ⟨_, rfl⟩
  obtain ⟨P7, hP7⟩ : ∃ P, P = dcN t 1099511627776 P6.a P6.e := ⟨_, rfl⟩
  obtain ⟨P8, hP8⟩ : ∃ P, P = dcN t 1099511627776 P7.a P7.e := ⟨_, rfl⟩
  obtain ⟨Y, hY⟩ : ∃ Y, Y = dcF t P8.a P8.e := ⟨_, rfl⟩
  obtain ⟨C, hC⟩ : ∃ C, C = dcN t 16 Y.a Y.e := ⟨_, rfl⟩
  obtain ⟨L, hL⟩ : ∃ L, L = dcE t C.n C.a C.e := ⟨_, rfl⟩
  obtain ⟨X, hX⟩ : ∃ X, X = tS t L.a L.e 4096 := ⟨_, rfl⟩
  have HT := hid (mdT_eq t P0 P1 P2 P3 P4 P5 P6 P7 P8 Y C L X hP0 hP1 hP2 hP3 hP4 hP5 hP6 hP7 hP8 hY hC hL hX)
  have N0 := hid (fun p W h => RN.out 0 0 p W h)
  rw [← hP0] at N0
  have N1 := hid (fun p W h => RN.out P0.a P0.e p W h)
  rw [← hP1] at N1
  have N2 := hid (fun p W h => RN.out P1.a P1.e p W h)
  rw [← hP2] at N2
  have N3 := hid (fun p W h => RN.out P2.a P2.e p W h)
  rw [← hP3] at N3
  have N4 := hid (fun p W h => RN.out P3.a P3.e p W h)
  rw [← hP4] at N4
  have N5 := hid (fun p W h => RN.out P4.a P4.e p W h)
  rw [← hP5] at N5
  have N6 := hid (fun p W h => RN.out P5.a P5.e p W h)
  rw [← hP6] at N6
  have N7 := hid (fun p W h => RN.out P6.a P6.e p W h)
  rw [← hP7] at N7
  have N8 := hid (fun p W h => RN.out P7.a P7.e p W h)
  rw [← hP8] at N8
  have NY := hid (fun W h => RB.out P8.a P8.e W h)
  rw [← hY] at NY
  have NC := hid (fun W h => RI.out 16 Y.a Y.e W h (by omega))
  rw [← hC] at NC
  have HC16 : Hid (C.n ≤ 16) := by have := dcN_le t 16 Y.a Y.e (by omega); rw [← hC] at this; show _ ≤ _; omega
  have HL : Hid (L = dcE t (C.n - 0) C.a C.e) := hL
  clear hs hsm hz1 hP0 hP1 hP2 hP3 hP4 hP5 hP6 hP7 hP8 hY hC hL
  obtain ⟨a0, e0, n0⟩ := P0
  obtain ⟨a1, e1, n1⟩ := P1
  obtain ⟨a2, e2, n2⟩ := P2
  obtain ⟨a3, e3, n3⟩ := P3
  obtain ⟨a4, e4, n4⟩ := P4
  obtain ⟨a5, e5, n5⟩ := P5
  obtain ⟨a6, e6, n6⟩ := P6
  obtain ⟨a7, e7, n7⟩ := P7
  obtain ⟨a8, e8, n8⟩ := P8
  obtain ⟨ya, ye, yn⟩ := Y
  obtain ⟨ca, ce, cn⟩ := C
  have hx2 := hX
  have HXX : Hid (∀ (q : DeR), q = L → X = tS t q.a q.e 4096) := fun q hq => by rw [hq]; exact hX
  clear hX hx2
  simp only at *
  generalize mdE t = DE at *
  generalize mdV t = DV at *
  generalize mdOk t = OK at *
  generalize mdT t = T at *
  rw [show (msC (.slice none 0 0) ms0).toArray = #[.int .i64 0, .int .i64 0, .int .i64 0, .int .i64 0, .int .i64 0, .int .i64 0, .int .i64 0, .int .i64 0, .int .i64 0, .bool false, .slice none 0 0, .string ⟨#[]⟩] from rfl] at NW HR0 HB0 HZ1
  go_enter Tryz.func9, Tryz.ntmps9
  go_wp2_with fail
  refine NW.out.mono ?_
  rintro e w1 ⟨rfl, h1, b1⟩
  have b1' : Below (w.alloc (.cells #[.int .i64 0, .int .i64 0, .int .i64 0, .int .i64 0, .int .i64 0, .int .i64 0, .int .i64 0, .int .i64 0, .int .i64 0, .bool false, .slice none 0 0, .string ⟨#[]⟩] 24)).heap.size (w.alloc (.cells #[.int .i64 0, .int .i64 0, .int .i64 0, .int .i64 0, .int .i64 0, .int .i64 0, .int .i64 0, .int .i64 0, .int .i64 0, .bool false, .slice none 0 0, .string ⟨#[]⟩] 24)) w1 := by rw [HZ1.out]; exact b1
  obtain ⟨p, hp⟩ : ∃ p, p = w1.heap.size := ⟨_, rfl⟩
  have D0 : Hid (DpS w t 0 0 p (w1.alloc (.cells #[.pointer (some ⟨w.heap.size + 1, 0, none⟩)] 79))) := by
    subst hp
    exact ⟨h1.keeps (below_al (Below.refl _ _) _), srow w1 _ _, row_old (HR0.out.keep (b1'.keep (fun _ => False)) (fun h => h)) _, below_al (below_on HB0.out b1') _, rd_lt h1⟩
  clear h1 b1 b1' NW HR0 HB0 HZ1
  have M0 := hid (N0.out p _ D0.out)
  clear N0
  go_wp2_with fail
  rw [← hp]
  clear hp
  refine M0.out.mono ?_
  rintro e v0 ⟨rfl, d0, -, -⟩
  have D1 := hid d0
  clear M0 d0 D0
  have M1 := hid (N1.out p _ D1.out)
  clear N1
  go_wp2_with fail
  refine M1.out.mono ?_
  rintro e v1 ⟨rfl, d1, -, -⟩
  have D2 := hid d1
  clear M1 d1 D1
  have M2 := hid (N2.out p _ D2.out)
  clear N2
  go_wp2_with fail
  refine M2.out.mono ?_
  rintro e v2 ⟨rfl, d2, -, -⟩
  have D3 := hid d2
  clear M2 d2 D2
  have M3 := hid (N3.out p _ D3.out)
  clear N3
  go_wp2_with fail
  refine M3.out.mono ?_
  rintro e v3 ⟨rfl, d3, -, -⟩
  have D4 := hid d3
  clear M3 d3 D3
  have M4 := hid (N4.out p _ D4.out)
  clear N4
  go_wp2_with fail
  refine M4.out.mono ?_
  rintro e v4 ⟨rfl, d4, -, -⟩
  have D5 := hid d4
  clear M4 d4 D4
  have M5 := hid (N5.out p _ D5.out)
  clear N5
  go_wp2_with fail
  refine M5.out.mono ?_
  rintro e v5 ⟨rfl, d5, -, -⟩
  have D6 := hid d5
  clear M5 d5 D5
  have M6 := hid (N6.out p _ D6.out)
  clear N6
  go_wp2_with fail
  refine M6.out.mono ?_
  rintro e v6 ⟨rfl, d6, -, -⟩
  have D7 := hid d6
  clear M6 d6 D6
  have M7 := hid (N7.out p _ D7.out)
  clear N7
  go_wp2_with fail
  refine M7.out.mono ?_
  rintro e v7 ⟨rfl, d7, -, -⟩
  have D8 := hid d7
  clear M7 d7 D7
  have M8 := hid (N8.out p _ D8.out)
  clear N8
  go_wp2_with fail
  refine M8.out.mono ?_
  rintro e v8 ⟨rfl, d8, -, -⟩
  have D9 := hid d8
  clear M8 d8 D8
  obtain ⟨b, hb⟩ : ∃ b, b = v8.heap.size := ⟨_, rfl⟩
  have S0 : Hid (DmS w t a8 e8 p b ⟨n0, n1, n2, n3, n4, n5, n6, n7, n8, false, [], ⟨#[]⟩⟩ (.slice none 0 0) [] (v8.alloc (.cells #[.int .i64 n0, .int .i64 n1, .int .i64 n2, .int .i64 n3, .int .i64 n4, .int .i64 n5, .int .i64 n6, .int .i64 n7, .int .i64 n8, .bool false, .slice none 0 0, .string ⟨#[]⟩] 24))) := by
    subst hb
    exact ⟨D9.out.call (below_al (Below.refl _ _) _), srow v8 _ _, ownE_nil _ _, D9.out.pb.lt⟩
  have y0 := S0.out.dp.pb.cellAt (o := 0) rfl
  have NY2 := hid (NY.out _ S0.out.dp.rd)
  clear D9 NY
  go_wp2_with fail
  rw [← hb]
  refine NY2.out.mono ?_
  rintro e v9 ⟨rfl, h9, o9⟩
  have S1 := hid (S0.out.read h9 o9)
  clear h9 o9 NY2 S0 y0 hb
  have z9 := S1.out.box.cellAt (o := 9) rfl
  have f9 := S1.out.box.frozen (o := 9)
  have S2 := hid (S1.out.put (m' := ⟨n0, n1, n2, n3, n4, n5, n6, n7, n8, (yn : Int) == 1, [], ⟨#[]⟩⟩) 9 (.bool ((yn : Int) == 1)) rfl)
  have y0 := S2.out.dp.pb.cellAt (o := 0) rfl
  have NC2 := hid (NC.out _ S2.out.dp.rd)
  clear NC
  generalize ((yn : Int) == 1) = ys at *
  go_wp2_with fail
  refine NC2.out.mono ?_
  rintro e v10 ⟨rfl, h10, o10⟩
  have S3 := hid (S2.out.read h10 o10)
  clear h10 o10 NC2 S1 S2 y0 z9 f9
  go_wp2
  go_loopw [34] (fun i wr => ∃ (k : Nat) (acc : List En) (ad : Option Addr) (cap : Nat) (a e : Int), k ≤ cn ∧ i = .int .i64 (k : Int) ∧ Hid (acc.length = k) ∧ Hid (DmS w t a e p b ⟨n0, n1, n2, n3, n4, n5, n6, n7, n8, ys, [], ⟨#[]⟩⟩ (.slice ad acc.length cap) acc wr) ∧ Hid (L = ⟨(dcE t (cn - k) a e).a, (dcE t (cn - k) a e).e, acc ++ (dcE t (cn - k) a e).l⟩)) (fun i _ => cn - (intOf i).toNat)
  case atStart => exact ⟨0, [], none, 0, ca, ce, Nat.zero_le _, rfl, rfl, S3, HL⟩
  case round =>
    clear S3 HL
    obtain ⟨k, acc, ad, cap, a, e, hk, rfl, HA, HS, HL⟩ := hrel
    by_cases hlt : k < cn
    · have hk1 : (k : Int) < (cn : Int) := by omega
      have hk16 : k < 16 := by have := HC16.out; omega
      have HK16 := hid hk16
      obtain ⟨Q1, hQ1⟩ : ∃ Q, Q = dcN t 1099511627776 a e := ⟨_, rfl⟩
      obtain ⟨Q2, hQ2⟩ : ∃ Q, Q = dcN t 255 Q1.a Q1.e := ⟨_, rfl⟩
      obtain ⟨Q3, hQ3⟩ : ∃ Q, Q = tS t Q2.a Q2.e 65536 := ⟨_, rfl⟩
      have HL2 : Hid (L = ⟨(dcE t (cn - (k + 1)) Q3.a Q3.e).a, (dcE t (cn - (k + 1)) Q3.a Q3.e).e, (acc ++ [⟨(Q1.n : Int), (Q2.n : Int), Q3.x⟩]) ++ (dcE t (cn - (k + 1)) Q3.a Q3.e).l⟩) := by
        show _ = _
        rw [HL.out, show cn - k = (cn - (k + 1)) + 1 by omega]
        subst hQ3 hQ2 hQ1
        simp only [dcE, List.append_assoc, List.singleton_append]
      have C1 := hid (fun W (h : DmS w t a e p b ⟨n0, n1, n2, n3, n4, n5, n6, n7, n8, ys, [], ⟨#[]⟩⟩ (.slice ad acc.length cap) acc W) => RN.out a e p W h.dp)
      have C2 := hid (fun W h => RI.out 255 Q1.a Q1.e W h (by omega))
      have C3 := hid (fun W h => RT.out 65536 Q2.a Q2.e W h)
      rw [← hQ1] at C1
      rw [← hQ2] at C2
      rw [← hQ3] at C3
      clear hQ1 hQ2 hQ3
      obtain ⟨a1, e1, q1⟩ := Q1
      obtain ⟨a2, e2, q2⟩ := Q2
      obtain ⟨a3, e3, q3⟩ := Q3
      simp only at *
      have HA2 : Hid ((acc ++ [(⟨(q1 : Int), (q2 : Int), q3⟩ : En)]).length = k + 1) := by show _ = _; simp; exact HA.out
      have HL3 : Hid (acc.length + 1 ≤ 70368744177) := by have := HA.out; have := HK16.out; show _ ≤ _; omega
      have HB3 : Hid ((acc.length + 1) * 32 ≤ 140737488355328) := by have := HA.out; have := HK16.out; show _ ≤ _; omega
      have HO3 : Hid (∀ u ∈ enC ⟨(q1 : Int), (q2 : Int), q3⟩, u.oneCell' = true) := enC_cell1 _
      have HLT := hid hlt
      have hwk : wrap64 ((k : Int) + 1) = ((k + 1 : Nat) : Int) := by rw [IntWalk.wrap64_in _ (by omega)]; omega
      have T0 := hid HS.out.drew
      have yp := T0.out.dp.pb.cellAt (o := 0) rfl
      have yb := T0.out.box.cellAt (o := 10) rfl
      clear HL HA HS RE CK HT HOK HVE RI RN RB RT HC16 HXX hk16 hk hlt
      go_wp2
      refine wp_region_held_drew (S := fun W => W.cell? ⟨p, 0, none⟩ = some (.pointer (some ⟨w.heap.size + 1, 0, none⟩))) (by kernel_rfl) yp (fun hHeld => ?_)
      generalize wr.drew = V at *
      refine wpAnyH_take (i := 0) (v := ?vv1) rfl (by kernel_rfl) (by kernel_rfl) (by kernel_rfl) (fun _ _ _ h => h) (Or.inl ⟨by rfl, ?hy1⟩) (by assumption) ?rest1
      case hy1 => (intro w hSw; (try dsimp only at hSw); go_simp; first | done | with_reducible rfl)
      try simp only [Act.put, List.getElem_toArray, List.getElem_cons_succ, List.getElem_cons_zero, List.setIfInBounds_toArray, List.set_cons_zero, List.set_cons_succ]
      refine wpAnyH_take (i := 2) (v := ?vv2) rfl (by kernel_rfl) (by kernel_rfl) (by kernel_rfl) (fun _ _ _ h => h) (Or.inl ⟨by rfl, ?hy2⟩) (by assumption) ?rest2
      case hy2 => (intro w hSw; (try dsimp only at hSw); go_simp; first | done | with_reducible rfl)
      try simp only [Act.put, List.getElem_toArray, List.getElem_cons_succ, List.getElem_cons_zero, List.setIfInBounds_toArray, List.set_cons_zero, List.set_cons_succ]
      refine wpAnyH_take (i := 4) (v := ?vv3) rfl (by kernel_rfl) (by kernel_rfl) (by kernel_rfl) (fun _ _ _ h => h) (Or.inl ⟨by rfl, ?hy3⟩) (by assumption) ?rest3
      case hy3 => (intro w hSw; (try dsimp only at hSw); go_simp; first | done | with_reducible rfl)
      try simp only [Act.put, List.getElem_toArray, List.getElem_cons_succ, List.getElem_cons_zero, List.setIfInBounds_toArray, List.set_cons_zero, List.set_cons_succ]
      refine wpAnyH_take (i := 6) (v := ?vv4) rfl (by kernel_rfl) (by kernel_rfl) (by kernel_rfl) (fun _ _ _ h => h) (Or.inl ⟨by rfl, ?hy4⟩) (by assumption) ?rest4
      case hy4 => (intro w hSw; (try dsimp only at hSw); go_simp; first | done | with_reducible rfl)
      try simp only [Act.put, List.getElem_toArray, List.getElem_cons_succ, List.getElem_cons_zero, List.setIfInBounds_toArray, List.set_cons_zero, List.set_cons_succ]
      refine wpAnyH_ready (rs := [1, 3]) (by kernel_rfl) (by simp) ?_
      refine AllReadyH.cons rfl (fun K hK => ?_) (AllReadyH.cons rfl (fun K hK => ?_) AllReadyH.nil)
      · go_simp
        refine hK.out _ _ yp (fun hHeld => ?_)
        clear hK K
        try simp only [Act.put, List.getElem_toArray, List.getElem_cons_succ, List.getElem_cons_zero, List.setIfInBounds_toArray, List.set_cons_zero, List.set_cons_succ]
        refine wpAnyH_ready (rs := [3]) (by kernel_rfl) (by simp) ?_
        refine AllReadyH.cons rfl (fun K hK => ?_) AllReadyH.nil
        go_simp
        refine (C1.out _ T0.out).mono ?_
        rintro e' u1 ⟨rfl, -, h1, o1⟩
        have T1 := hid (T0.out.read h1 o1)
        have yb := T1.out.box.cellAt (o := 10) rfl
        have yp1 := T1.out.dp.pb.cellAt (o := 0) rfl
        clear h1 o1 C1
        go_wp2_with fail
        refine hK.out _ _ yp1 (fun hHeld => ?_)
        clear hK K
        try simp only [Act.put, List.getElem_toArray, List.getElem_cons_succ, List.getElem_cons_zero, List.setIfInBounds_toArray, List.set_cons_zero, List.set_cons_succ]
        refine wpAnyH_ready (rs := [5]) (by kernel_rfl) (by simp) ?_
        refine AllReadyH.cons rfl (fun K hK => ?_) AllReadyH.nil
        go_simp
        refine (C2.out _ T1.out.dp.rd).mono ?_
        rintro e' u2 ⟨rfl, h1, o1⟩
        have T2 := hid (T1.out.read h1 o1)
        have yb := T2.out.box.cellAt (o := 10) rfl
        have yp2 := T2.out.dp.pb.cellAt (o := 0) rfl
        clear h1 o1 C2
        go_wp2_with fail
        refine hK.out _ _ yp2 (fun hHeld => ?_)
        clear hK K
        try simp only [Act.put, List.getElem_toArray, List.getElem_cons_succ, List.getElem_cons_zero, List.setIfInBounds_toArray, List.set_cons_zero, List.set_cons_succ]
        refine wpAnyH_ready (rs := [7]) (by kernel_rfl) (by simp) ?_
        refine AllReadyH.cons rfl (fun K hK => ?_) AllReadyH.nil
        go_simp
        refine (C3.out _ T2.out.dp.rd).mono ?_
        rintro e' u3 ⟨rfl, h1, o1⟩
        have T3 := hid (T2.out.read h1 o1)
        have yb := T3.out.box.cellAt (o := 10) rfl
        have yp3 := T3.out.dp.pb.cellAt (o := 0) rfl
        have T4 := hid (T3.out.al (.cells #[.int .i64 (q1 : Int), .int .i64 (q2 : Int), .string q3] 51))
        have yp4 := T4.out.dp.pb.cellAt (o := 0) rfl
        have yb4 := T4.out.box.cellAt (o := 10) rfl
        clear h1 o1 C3
        go_wp2_with fail
        refine hK.out _ _ yp3 (fun hHeld => ?_)
        clear hK K
        try simp only [Act.put, List.getElem_toArray, List.getElem_cons_succ, List.getElem_cons_zero, List.setIfInBounds_toArray, List.set_cons_zero, List.set_cons_succ]
        refine wpAnyH_take (i := 8) (v := ?vv5) rfl (by kernel_rfl) (by kernel_rfl) (by kernel_rfl) (fun _ _ _ h => h) (Or.inl ⟨by rfl, ?hy5⟩) (by assumption) ?rest5
        case hy5 => (intro w hSw; (try dsimp only at hSw); go_simp; first | done | with_reducible rfl)
        try simp only [Act.put, List.getElem_toArray, List.getElem_cons_succ, List.getElem_cons_zero, List.setIfInBounds_toArray, List.set_cons_zero, List.set_cons_succ]
        refine wpAnyH_ready (rs := [9]) (by kernel_rfl) (by simp) ?_
        refine AllReadyH.cons rfl (fun K hK => ?_) AllReadyH.nil
        go_simp
        refine hK.out _ _ yp4 (fun hHeld => ?_)
        clear hK K
        try simp only [Act.put, List.getElem_toArray, List.getElem_cons_succ, List.getElem_cons_zero, List.setIfInBounds_toArray, List.set_cons_zero, List.set_cons_succ]
        refine wpAnyH_ready (rs := [10]) (by kernel_rfl) (by simp) ?_
        refine AllReadyH.cons rfl (fun K hK => ?_) AllReadyH.nil
        refine step_gapp_at (w0 := u3.alloc (.cells #[.int .i64 (q1 : Int), .int .i64 (q2 : Int), .string q3] 51)) (by rfl) _ _ elEn (by rfl) (b + 1) (.slice ad acc.length cap) (.slice (some ⟨u3.heap.size, 0, none⟩) 1 1) (ensC acc) (enC ⟨(q1 : Int), (q2 : Int), q3⟩) acc.length 1 (acc.length + 1) rfl (Keep.refl _ _) (by rfl) (by rfl) T4.out.own T4.out.lt (gsrc_block (heap_alloc_new _ _)) rfl HO3.out HL3.out HB3.out ?_
        intro ad' cap' w4 ho4 hk4 hl4
        have ho5 : OwnE w4 (b + 1) (.slice ad' (acc.length + 1) cap') (acc ++ [(⟨(q1 : Int), (q2 : Int), q3⟩ : En)]) := by unfold OwnE; rw [ensC_snoc, List.length_append]; exact ho4
        have T5 := hid (T4.out.app ho5 hk4)
        have rb5 := T4.out.box.keep hk4 (fun e => by have := ownsRow_ge T4.out.own e; omega)
        have yb5 := rb5.cellAt (o := 10) rfl
        have fb5 := rb5.frozen (o := 10)
        have yp5 := (T4.out.dp.pb.keep hk4 (fun e => by have := ownsRow_ge T4.out.own e; have := T4.out.lo2; omega)).cellAt (o := 0) rfl
        have yp6 := T5.out.dp.pb.cellAt (o := 0) rfl
        clear ho4 hk4 hl4 ho5 rb5 T4
        refine hK.out _ _ yp5 (fun hHeld => ?_)
        clear hK K
        try simp only [Act.put, List.getElem_toArray, List.getElem_cons_succ, List.getElem_cons_zero, List.setIfInBounds_toArray, List.set_cons_zero, List.set_cons_succ]
        refine wpAnyH_take (i := 11) (v := ?vv6) rfl (by kernel_rfl) (by kernel_rfl) (by kernel_rfl) (fun _ _ _ h => h) (Or.inl ⟨by rfl, ?hy6⟩) (by assumption) ?rest6
        case hy6 => (intro w hSw; (try dsimp only at hSw); go_simp; first | done | with_reducible rfl)
        try simp only [Act.put, List.getElem_toArray, List.getElem_cons_succ, List.getElem_cons_zero, List.setIfInBounds_toArray, List.set_cons_zero, List.set_cons_succ]
        refine wpAnyH_ready (rs := [12]) (by kernel_rfl) (by simp) ?_
        refine AllReadyH.cons rfl (fun K hK => ?_) AllReadyH.nil
        go_simp
        refine hK.out _ _ yp6 (fun hHeld => ?_)
        clear hK K
        try simp only [Act.put, List.getElem_toArray, List.getElem_cons_succ, List.getElem_cons_zero, List.setIfInBounds_toArray, List.set_cons_zero, List.set_cons_succ]
        refine wpAnyH_done (by kernel_rfl) ?_ _
        clear hHeld
        go_wp2
        exact ⟨⟨k + 1, _, ad', cap', a3, e3, HLT.out, by first | rw [hwk] | rfl | simp, HA2, by rw [List.length_append]; exact T5, HL2⟩, by (try rw [hwk]); have := HLT.out; simp [intOf]; omega⟩
      · go_simp
        refine (C1.out _ T0.out).mono ?_
        rintro e' u1 ⟨rfl, -, h1, o1⟩
        have T1 := hid (T0.out.read h1 o1)
        have yb := T1.out.box.cellAt (o := 10) rfl
        have yp1 := T1.out.dp.pb.cellAt (o := 0) rfl
        clear h1 o1 C1
        go_wp2_with fail
        refine hK.out _ _ yp1 (fun hHeld => ?_)
        clear hK K
        try simp only [Act.put, List.getElem_toArray, List.getElem_cons_succ, List.getElem_cons_zero, List.setIfInBounds_toArray, List.set_cons_zero, List.set_cons_succ]
        refine wpAnyH_ready (rs := [1, 5]) (by kernel_rfl) (by simp) ?_
        refine AllReadyH.cons rfl (fun K hK => ?_) (AllReadyH.cons rfl (fun K hK => ?_) AllReadyH.nil)
        · go_simp
          refine hK.out _ _ yp1 (fun hHeld => ?_)
          clear hK K
          try simp only [Act.put, List.getElem_toArray, List.getElem_cons_succ, List.getElem_cons_zero, List.setIfInBounds_toArray, List.set_cons_zero, List.set_cons_succ]
          refine wpAnyH_ready (rs := [5]) (by kernel_rfl) (by simp) ?_
          refine AllReadyH.cons rfl (fun K hK => ?_) AllReadyH.nil
          go_simp
          refine (C2.out _ T1.out.dp.rd).mono ?_
          rintro e' u2 ⟨rfl, h1, o1⟩
          have T2 := hid (T1.out.read h1 o1)
          have yb := T2.out.box.cellAt (o := 10) rfl
          have yp2 := T2.out.dp.pb.cellAt (o := 0) rfl
          clear h1 o1 C2
          go_wp2_with fail
          refine hK.out _ _ yp2 (fun hHeld => ?_)
          clear hK K
          try simp only [Act.put, List.getElem_toArray, List.getElem_cons_succ, List.getElem_cons_zero, List.setIfInBounds_toArray, List.set_cons_zero, List.set_cons_succ]
          refine wpAnyH_ready (rs := [7]) (by kernel_rfl) (by simp) ?_
          refine AllReadyH.cons rfl (fun K hK => ?_) AllReadyH.nil
          go_simp
          refine (C3.out _ T2.out.dp.rd).mono ?_
          rintro e' u3 ⟨rfl, h1, o1⟩
          have T3 := hid (T2.out.read h1 o1)
          have yb := T3.out.box.cellAt (o := 10) rfl
          have yp3 := T3.out.dp.pb.cellAt (o := 0) rfl
          have T4 := hid (T3.out.al (.cells #[.int .i64 (q1 : Int), .int .i64 (q2 : Int), .string q3] 51))
          have yp4 := T4.out.dp.pb.cellAt (o := 0) rfl
          have yb4 := T4.out.box.cellAt (o := 10) rfl
          clear h1 o1 C3
          go_wp2_with fail
          refine hK.out _ _ yp3 (fun hHeld => ?_)
          clear hK K
          try simp only [Act.put, List.getElem_toArray, List.getElem_cons_succ, List.getElem_cons_zero, List.setIfInBounds_toArray, List.set_cons_zero, List.set_cons_succ]
          refine wpAnyH_take (i := 8) (v := ?vv7) rfl (by kernel_rfl) (by kernel_rfl) (by kernel_rfl) (fun _ _ _ h => h) (Or.inl ⟨by rfl, ?hy7⟩) (by assumption) ?rest7
          case hy7 => (intro w hSw; (try dsimp only at hSw); go_simp; first | done | with_reducible rfl)
          try simp only [Act.put, List.getElem_toArray, List.getElem_cons_succ, List.getElem_cons_zero, List.setIfInBounds_toArray, List.set_cons_zero, List.set_cons_succ]
          refine wpAnyH_ready (rs := [9]) (by kernel_rfl) (by simp) ?_
          refine AllReadyH.cons rfl (fun K hK => ?_) AllReadyH.nil
          go_simp
          refine hK.out _ _ yp4 (fun hHeld => ?_)
          clear hK K
          try simp only [Act.put, List.getElem_toArray, List.getElem_cons_succ, List.getElem_cons_zero, List.setIfInBounds_toArray, List.set_cons_zero, List.set_cons_succ]
          refine wpAnyH_ready (rs := [10]) (by kernel_rfl) (by simp) ?_
          refine AllReadyH.cons rfl (fun K hK => ?_) AllReadyH.nil
          refine step_gapp_at (w0 := u3.alloc (.cells #[.int .i64 (q1 : Int), .int .i64 (q2 : Int), .string q3] 51)) (by rfl) _ _ elEn (by rfl) (b + 1) (.slice ad acc.length cap) (.slice (some ⟨u3.heap.size, 0, none⟩) 1 1) (ensC acc) (enC ⟨(q1 : Int), (q2 : Int), q3⟩) acc.length 1 (acc.length + 1) rfl (Keep.refl _ _) (by rfl) (by rfl) T4.out.own T4.out.lt (gsrc_block (heap_alloc_new _ _)) rfl HO3.out HL3.out HB3.out ?_
          intro ad' cap' w4 ho4 hk4 hl4
          have ho5 : OwnE w4 (b + 1) (.slice ad' (acc.length + 1) cap') (acc ++ [(⟨(q1 : Int), (q2 : Int), q3⟩ : En)]) := by unfold OwnE; rw [ensC_snoc, List.length_append]; exact ho4
          have T5 := hid (T4.out.app ho5 hk4)
          have rb5 := T4.out.box.keep hk4 (fun e => by have := ownsRow_ge T4.out.own e; omega)
          have yb5 := rb5.cellAt (o := 10) rfl
          have fb5 := rb5.frozen (o := 10)
          have yp5 := (T4.out.dp.pb.keep hk4 (fun e => by have := ownsRow_ge T4.out.own e; have := T4.out.lo2; omega)).cellAt (o := 0) rfl
          have yp6 := T5.out.dp.pb.cellAt (o := 0) rfl
          clear ho4 hk4 hl4 ho5 rb5 T4
          refine hK.out _ _ yp5 (fun hHeld => ?_)
          clear hK K
          try simp only [Act.put, List.getElem_toArray, List.getElem_cons_succ, List.getElem_cons_zero, List.setIfInBounds_toArray, List.set_cons_zero, List.set_cons_succ]
          refine wpAnyH_take (i := 11) (v := ?vv8) rfl (by kernel_rfl) (by kernel_rfl) (by kernel_rfl) (fun _ _ _ h => h) (Or.inl ⟨by rfl, ?hy8⟩) (by assumption) ?rest8
          case hy8 => (intro w hSw; (try dsimp only at hSw); go_simp; first | done | with_reducible rfl)
          try simp only [Act.put, List.getElem_toArray, List.getElem_cons_succ, List.getElem_cons_zero, List.setIfInBounds_toArray, List.set_cons_zero, List.set_cons_succ]
          refine wpAnyH_ready (rs := [12]) (by kernel_rfl) (by simp) ?_
          refine AllReadyH.cons rfl (fun K hK => ?_) AllReadyH.nil
          go_simp
          refine hK.out _ _ yp6 (fun hHeld => ?_)
          clear hK K
          try simp only [Act.put, List.getElem_toArray, List.getElem_cons_succ, List.getElem_cons_zero, List.setIfInBounds_toArray, List.set_cons_zero, List.set_cons_succ]
          refine wpAnyH_done (by kernel_rfl) ?_ _
          clear hHeld
          go_wp2
          exact ⟨⟨k + 1, _, ad', cap', a3, e3, HLT.out, by first | rw [hwk] | rfl | simp, HA2, by rw [List.length_append]; exact T5, HL2⟩, by (try rw [hwk]); have := HLT.out; simp [intOf]; omega⟩
        · go_simp
          refine (C2.out _ T1.out.dp.rd).mono ?_
          rintro e' u2 ⟨rfl, h1, o1⟩
          have T2 := hid (T1.out.read h1 o1)
          have yb := T2.out.box.cellAt (o := 10) rfl
          have yp2 := T2.out.dp.pb.cellAt (o := 0) rfl
          clear h1 o1 C2
          go_wp2_with fail
          refine hK.out _ _ yp2 (fun hHeld => ?_)
          clear hK K
          try simp only [Act.put, List.getElem_toArray, List.getElem_cons_succ, List.getElem_cons_zero, List.setIfInBounds_toArray, List.set_cons_zero, List.set_cons_succ]
          refine wpAnyH_ready (rs := [1, 7]) (by kernel_rfl) (by simp) ?_
          refine AllReadyH.cons rfl (fun K hK => ?_) (AllReadyH.cons rfl (fun K hK => ?_) AllReadyH.nil)
          · go_simp
            refine hK.out _ _ yp2 (fun hHeld => ?_)
            clear hK K
            try simp only [Act.put, List.getElem_toArray, List.getElem_cons_succ, List.getElem_cons_zero, List.setIfInBounds_toArray, List.set_cons_zero, List.set_cons_succ]
            refine wpAnyH_ready (rs := [7]) (by kernel_rfl) (by simp) ?_
            refine AllReadyH.cons rfl (fun K hK => ?_) AllReadyH.nil
            go_simp
            refine (C3.out _ T2.out.dp.rd).mono ?_
            rintro e' u3 ⟨rfl, h1, o1⟩
            have T3 := hid (T2.out.read h1 o1)
            have yb := T3.out.box.cellAt (o := 10) rfl
            have yp3 := T3.out.dp.pb.cellAt (o := 0) rfl
            have T4 := hid (T3.out.al (.cells #[.int .i64 (q1 : Int), .int .i64 (q2 : Int), .string q3] 51))
            have yp4 := T4.out.dp.pb.cellAt (o := 0) rfl
            have yb4 := T4.out.box.cellAt (o := 10) rfl
            clear h1 o1 C3
            go_wp2_with fail
            refine hK.out _ _ yp3 (fun hHeld => ?_)
            clear hK K
            try simp only [Act.put, List.getElem_toArray, List.getElem_cons_succ, List.getElem_cons_zero, List.setIfInBounds_toArray, List.set_cons_zero, List.set_cons_succ]
            refine wpAnyH_take (i := 8) (v := ?vv9) rfl (by kernel_rfl) (by kernel_rfl) (by kernel_rfl) (fun _ _ _ h => h) (Or.inl ⟨by rfl, ?hy9⟩) (by assumption) ?rest9
            case hy9 => (intro w hSw; (try dsimp only at hSw); go_simp; first | done | with_reducible rfl)
            try simp only [Act.put, List.getElem_toArray, List.getElem_cons_succ, List.getElem_cons_zero, List.setIfInBounds_toArray, List.set_cons_zero, List.set_cons_succ]
            refine wpAnyH_ready (rs := [9]) (by kernel_rfl) (by simp) ?_
            refine AllReadyH.cons rfl (fun K hK => ?_) AllReadyH.nil
            go_simp
            refine hK.out _ _ yp4 (fun hHeld => ?_)
            clear hK K
            try simp only [Act.put, List.getElem_toArray, List.getElem_cons_succ, List.getElem_cons_zero, List.setIfInBounds_toArray, List.set_cons_zero, List.set_cons_succ]
            refine wpAnyH_ready (rs := [10]) (by kernel_rfl) (by simp) ?_
            refine AllReadyH.cons rfl (fun K hK => ?_) AllReadyH.nil
            refine step_gapp_at (w0 := u3.alloc (.cells #[.int .i64 (q1 : Int), .int .i64 (q2 : Int), .string q3] 51)) (by rfl) _ _ elEn (by rfl) (b + 1) (.slice ad acc.length cap) (.slice (some ⟨u3.heap.size, 0, none⟩) 1 1) (ensC acc) (enC ⟨(q1 : Int), (q2 : Int), q3⟩) acc.length 1 (acc.length + 1) rfl (Keep.refl _ _) (by rfl) (by rfl) T4.out.own T4.out.lt (gsrc_block (heap_alloc_new _ _)) rfl HO3.out HL3.out HB3.out ?_
            intro ad' cap' w4 ho4 hk4 hl4
            have ho5 : OwnE w4 (b + 1) (.slice ad' (acc.length + 1) cap') (acc ++ [(⟨(q1 : Int), (q2 : Int), q3⟩ : En)]) := by unfold OwnE; rw [ensC_snoc, List.length_append]; exact ho4
            have T5 := hid (T4.out.app ho5 hk4)
            have rb5 := T4.out.box.keep hk4 (fun e => by have := ownsRow_ge T4.out.own e; omega)
            have yb5 := rb5.cellAt (o := 10) rfl
            have fb5 := rb5.frozen (o := 10)
            have yp5 := (T4.out.dp.pb.keep hk4 (fun e => by have := ownsRow_ge T4.out.own e; have := T4.out.lo2; omega)).cellAt (o := 0) rfl
            have yp6 := T5.out.dp.pb.cellAt (o := 0) rfl
            clear ho4 hk4 hl4 ho5 rb5 T4
            refine hK.out _ _ yp5 (fun hHeld => ?_)
            clear hK K
            try simp only [Act.put, List.getElem_toArray, List.getElem_cons_succ, List.getElem_cons_zero, List.setIfInBounds_toArray, List.set_cons_zero, List.set_cons_succ]
            refine wpAnyH_take (i := 11) (v := ?vv10) rfl (by kernel_rfl) (by kernel_rfl) (by kernel_rfl) (fun _ _ _ h => h) (Or.inl ⟨by rfl, ?hy10⟩) (by assumption) ?rest10
            case hy10 => (intro w hSw; (try dsimp only at hSw); go_simp; first | done | with_reducible rfl)
            try simp only [Act.put, List.getElem_toArray, List.getElem_cons_succ, List.getElem_cons_zero, List.setIfInBounds_toArray, List.set_cons_zero, List.set_cons_succ]
            refine wpAnyH_ready (rs := [12]) (by kernel_rfl) (by simp) ?_
            refine AllReadyH.cons rfl (fun K hK => ?_) AllReadyH.nil
            go_simp
            refine hK.out _ _ yp6 (fun hHeld => ?_)
            clear hK K
            try simp only [Act.put, List.getElem_toArray, List.getElem_cons_succ, List.getElem_cons_zero, List.setIfInBounds_toArray, List.set_cons_zero, List.set_cons_succ]
            refine wpAnyH_done (by kernel_rfl) ?_ _
            clear hHeld
            go_wp2
            exact ⟨⟨k + 1, _, ad', cap', a3, e3, HLT.out, by first | rw [hwk] | rfl | simp, HA2, by rw [List.length_append]; exact T5, HL2⟩, by (try rw [hwk]); have := HLT.out; simp [intOf]; omega⟩
          · go_simp
            refine (C3.out _ T2.out.dp.rd).mono ?_
            rintro e' u3 ⟨rfl, h1, o1⟩
            have T3 := hid (T2.out.read h1 o1)
            have yb := T3.out.box.cellAt (o := 10) rfl
            have yp3 := T3.out.dp.pb.cellAt (o := 0) rfl
            have T4 := hid (T3.out.al (.cells #[.int .i64 (q1 : Int), .int .i64 (q2 : Int), .string q3] 51))
            have yp4 := T4.out.dp.pb.cellAt (o := 0) rfl
            have yb4 := T4.out.box.cellAt (o := 10) rfl
            clear h1 o1 C3
            go_wp2_with fail
            refine hK.out _ _ yp3 (fun hHeld => ?_)
            clear hK K
            try simp only [Act.put, List.getElem_toArray, List.getElem_cons_succ, List.getElem_cons_zero, List.setIfInBounds_toArray, List.set_cons_zero, List.set_cons_succ]
            refine wpAnyH_take (i := 8) (v := ?vv11) rfl (by kernel_rfl) (by kernel_rfl) (by kernel_rfl) (fun _ _ _ h => h) (Or.inl ⟨by rfl, ?hy11⟩) (by assumption) ?rest11
            case hy11 => (intro w hSw; (try dsimp only at hSw); go_simp; first | done | with_reducible rfl)
            try simp only [Act.put, List.getElem_toArray, List.getElem_cons_succ, List.getElem_cons_zero, List.setIfInBounds_toArray, List.set_cons_zero, List.set_cons_succ]
            refine wpAnyH_ready (rs := [1, 9]) (by kernel_rfl) (by simp) ?_
            refine AllReadyH.cons rfl (fun K hK => ?_) (AllReadyH.cons rfl (fun K hK => ?_) AllReadyH.nil)
            · go_simp
              refine hK.out _ _ yp3 (fun hHeld => ?_)
              clear hK K
              try simp only [Act.put, List.getElem_toArray, List.getElem_cons_succ, List.getElem_cons_zero, List.setIfInBounds_toArray, List.set_cons_zero, List.set_cons_succ]
              refine wpAnyH_ready (rs := [9]) (by kernel_rfl) (by simp) ?_
              refine AllReadyH.cons rfl (fun K hK => ?_) AllReadyH.nil
              go_simp
              refine hK.out _ _ yp4 (fun hHeld => ?_)
              clear hK K
              try simp only [Act.put, List.getElem_toArray, List.getElem_cons_succ, List.getElem_cons_zero, List.setIfInBounds_toArray, List.set_cons_zero, List.set_cons_succ]
              refine wpAnyH_ready (rs := [10]) (by kernel_rfl) (by simp) ?_
              refine AllReadyH.cons rfl (fun K hK => ?_) AllReadyH.nil
              refine step_gapp_at (w0 := u3.alloc (.cells #[.int .i64 (q1 : Int), .int .i64 (q2 : Int), .string q3] 51)) (by rfl) _ _ elEn (by rfl) (b + 1) (.slice ad acc.length cap) (.slice (some ⟨u3.heap.size, 0, none⟩) 1 1) (ensC acc) (enC ⟨(q1 : Int), (q2 : Int), q3⟩) acc.length 1 (acc.length + 1) rfl (Keep.refl _ _) (by rfl) (by rfl) T4.out.own T4.out.lt (gsrc_block (heap_alloc_new _ _)) rfl HO3.out HL3.out HB3.out ?_
              intro ad' cap' w4 ho4 hk4 hl4
              have ho5 : OwnE w4 (b + 1) (.slice ad' (acc.length + 1) cap') (acc ++ [(⟨(q1 : Int), (q2 : Int), q3⟩ : En)]) := by unfold OwnE; rw [ensC_snoc, List.length_append]; exact ho4
              have T5 := hid (T4.out.app ho5 hk4)
              have rb5 := T4.out.box.keep hk4 (fun e => by have := ownsRow_ge T4.out.own e; omega)
              have yb5 := rb5.cellAt (o := 10) rfl
              have fb5 := rb5.frozen (o := 10)
              have yp5 := (T4.out.dp.pb.keep hk4 (fun e => by have := ownsRow_ge T4.out.own e; have := T4.out.lo2; omega)).cellAt (o := 0) rfl
              have yp6 := T5.out.dp.pb.cellAt (o := 0) rfl
              clear ho4 hk4 hl4 ho5 rb5 T4
              refine hK.out _ _ yp5 (fun hHeld => ?_)
              clear hK K
              try simp only [Act.put, List.getElem_toArray, List.getElem_cons_succ, List.getElem_cons_zero, List.setIfInBounds_toArray, List.set_cons_zero, List.set_cons_succ]
              refine wpAnyH_take (i := 11) (v := ?vv12) rfl (by kernel_rfl) (by kernel_rfl) (by kernel_rfl) (fun _ _ _ h => h) (Or.inl ⟨by rfl, ?hy12⟩) (by assumption) ?rest12
              case hy12 => (intro w hSw; (try dsimp only at hSw); go_simp; first | done | with_reducible rfl)
              try simp only [Act.put, List.getElem_toArray, List.getElem_cons_succ, List.getElem_cons_zero, List.setIfInBounds_toArray, List.set_cons_zero, List.set_cons_succ]
              refine wpAnyH_ready (rs := [12]) (by kernel_rfl) (by simp) ?_
              refine AllReadyH.cons rfl (fun K hK => ?_) AllReadyH.nil
              go_simp
              refine hK.out _ _ yp6 (fun hHeld => ?_)
              clear hK K
              try simp only [Act.put, List.getElem_toArray, List.getElem_cons_succ, List.getElem_cons_zero, List.setIfInBounds_toArray, List.set_cons_zero, List.set_cons_succ]
              refine wpAnyH_done (by kernel_rfl) ?_ _
              clear hHeld
              go_wp2
              exact ⟨⟨k + 1, _, ad', cap', a3, e3, HLT.out, by first | rw [hwk] | rfl | simp, HA2, by rw [List.length_append]; exact T5, HL2⟩, by (try rw [hwk]); have := HLT.out; simp [intOf]; omega⟩
            · go_simp
              refine hK.out _ _ yp4 (fun hHeld => ?_)
              clear hK K
              try simp only [Act.put, List.getElem_toArray, List.getElem_cons_succ, List.getElem_cons_zero, List.setIfInBounds_toArray, List.set_cons_zero, List.set_cons_succ]
              refine wpAnyH_ready (rs := [1]) (by kernel_rfl) (by simp) ?_
              refine AllReadyH.cons rfl (fun K hK => ?_) AllReadyH.nil
              go_simp
              refine hK.out _ _ yp4 (fun hHeld => ?_)
              clear hK K
              try simp only [Act.put, List.getElem_toArray, List.getElem_cons_succ, List.getElem_cons_zero, List.setIfInBounds_toArray, List.set_cons_zero, List.set_cons_succ]
              refine wpAnyH_ready (rs := [10]) (by kernel_rfl) (by simp) ?_
              refine AllReadyH.cons rfl (fun K hK => ?_) AllReadyH.nil
              refine step_gapp_at (w0 := u3.alloc (.cells #[.int .i64 (q1 : Int), .int .i64 (q2 : Int), .string q3] 51)) (by rfl) _ _ elEn (by rfl) (b + 1) (.slice ad acc.length cap) (.slice (some ⟨u3.heap.size, 0, none⟩) 1 1) (ensC acc) (enC ⟨(q1 : Int), (q2 : Int), q3⟩) acc.length 1 (acc.length + 1) rfl (Keep.refl _ _) (by rfl) (by rfl) T4.out.own T4.out.lt (gsrc_block (heap_alloc_new _ _)) rfl HO3.out HL3.out HB3.out ?_
              intro ad' cap' w4 ho4 hk4 hl4
              have ho5 : OwnE w4 (b + 1) (.slice ad' (acc.length + 1) cap') (acc ++ [(⟨(q1 : Int), (q2 : Int), q3⟩ : En)]) := by unfold OwnE; rw [ensC_snoc, List.length_append]; exact ho4
              have T5 := hid (T4.out.app ho5 hk4)
              have rb5 := T4.out.box.keep hk4 (fun e => by have := ownsRow_ge T4.out.own e; omega)
              have yb5 := rb5.cellAt (o := 10) rfl
              have fb5 := rb5.frozen (o := 10)
              have yp5 := (T4.out.dp.pb.keep hk4 (fun e => by have := ownsRow_ge T4.out.own e; have := T4.out.lo2; omega)).cellAt (o := 0) rfl
              have yp6 := T5.out.dp.pb.cellAt (o := 0) rfl
              clear ho4 hk4 hl4 ho5 rb5 T4
              refine hK.out _ _ yp5 (fun hHeld => ?_)
              clear hK K
              try simp only [Act.put, List.getElem_toArray, List.getElem_cons_succ, List.getElem_cons_zero, List.setIfInBounds_toArray, List.set_cons_zero, List.set_cons_succ]
              refine wpAnyH_take (i := 11) (v := ?vv13) rfl (by kernel_rfl) (by kernel_rfl) (by kernel_rfl) (fun _ _ _ h => h) (Or.inl ⟨by rfl, ?hy13⟩) (by assumption) ?rest13
              case hy13 => (intro w hSw; (try dsimp only at hSw); go_simp; first | done | with_reducible rfl)
              try simp only [Act.put, List.getElem_toArray, List.getElem_cons_succ, List.getElem_cons_zero, List.setIfInBounds_toArray, List.set_cons_zero, List.set_cons_succ]
              refine wpAnyH_ready (rs := [12]) (by kernel_rfl) (by simp) ?_
              refine AllReadyH.cons rfl (fun K hK => ?_) AllReadyH.nil
              go_simp
              refine hK.out _ _ yp6 (fun hHeld => ?_)
              clear hK K
              try simp only [Act.put, List.getElem_toArray, List.getElem_cons_succ, List.getElem_cons_zero, List.setIfInBounds_toArray, List.set_cons_zero, List.set_cons_succ]
              refine wpAnyH_done (by kernel_rfl) ?_ _
              clear hHeld
              go_wp2
              exact ⟨⟨k + 1, _, ad', cap', a3, e3, HLT.out, by first | rw [hwk] | rfl | simp, HA2, by rw [List.length_append]; exact T5, HL2⟩, by (try rw [hwk]); have := HLT.out; simp [intOf]; omega⟩
    · have hk9 : k = cn := by omega
      have hdl : decide ((k : Int) < (cn : Int)) = false := decide_eq_false (by omega)
      have hdl2 : decide (k < cn) = false := decide_eq_false (by omega)
      have HL2 : Hid ((⟨a, e, acc⟩ : DeR) = L) := by show _ = _; rw [HL.out, hk9, Nat.sub_self]; simp [dcE]
      have hX := HXX.out _ HL2.out
      have hl := HL2.out
      subst hl
      have HAL : Hid (acc.length ≤ 17592186044416) := by have := HA.out; have := HC16.out; show _ ≤ _; omega
      have NX := hid (fun W h => RT.out 4096 a e W h)
      rw [← hX] at NX
      obtain ⟨xa, xe, xx⟩ := X
      simp only at *
      have y0 := HS.out.dp.pb.cellAt (o := 0) rfl
      have NX2 := hid (NX.out _ HS.out.dp.rd)
      clear HL HL2 HA HXX RI RN RB RT HC16 hlt hk hk9 hX NX
      go_wp2_with fail
      refine NX2.out.mono ?_
      rintro e' w5 ⟨rfl, h5, o5⟩
      have H5 := hid (HS.out.read h5 o5)
      have z11 := H5.out.box.cellAt (o := 11) rfl
      have f11 := H5.out.box.frozen (o := 11)
      have H6 := hid (H5.out.put (m' := ⟨n0, n1, n2, n3, n4, n5, n6, n7, n8, ys, [], xx⟩) 11 (.string xx) rfl)
      have R7 := hid (RE.out xa xe _ H6.out.dp.rd)
      clear h5 o5 NX2 HS RE y0
      have y0 := H6.out.dp.pb.cellAt (o := 0) rfl
      clear H5
      go_wp2_with fail
      refine R7.out.mono ?_
      rintro e' w6 ⟨rfl, h6, o6⟩
      have H7 := hid (H6.out.read h6 o6)
      clear h6 o6 R7 H6 z11 f11 y0
      have HOK2 : Hid (OK = ((endE t xa xe == 0) && msOk ⟨n0, n1, n2, n3, n4, n5, n6, n7, n8, ys, acc, xx⟩)) := by show _ = _; rw [HOK.out, HT.out]
      have HVE2 : Hid (DE = (if OK = true then 0 else 3) ∧ DV = (if OK = true then (⟨n0, n1, n2, n3, n4, n5, n6, n7, n8, ys, acc, xx⟩ : Ms) else ms0)) := by
        have := HVE.out
        rw [HT.out] at this
        exact this
      clear HOK HVE HT hdl hdl2
      generalize endE t xa xe = E at *
      by_cases hE : E = 0
      · subst hE
        have C7 := hid (CK.out (.slice ad acc.length cap) ⟨n0, n1, n2, n3, n4, n5, n6, n7, n8, ys, acc, xx⟩ w6 H7.out.own.ents HAL.out)
        generalize msOk ⟨n0, n1, n2, n3, n4, n5, n6, n7, n8, ys, acc, xx⟩ = CB at *
        unfold msV at C7
        simp only at C7
        have y0 := H7.out.box.cellAt (o := 0) rfl
        have y1 := H7.out.box.cellAt (o := 1) rfl
        have y2 := H7.out.box.cellAt (o := 2) rfl
        have y3 := H7.out.box.cellAt (o := 3) rfl
        have y4 := H7.out.box.cellAt (o := 4) rfl
        have y5 := H7.out.box.cellAt (o := 5) rfl
        have y6 := H7.out.box.cellAt (o := 6) rfl
        have y7 := H7.out.box.cellAt (o := 7) rfl
        have y8 := H7.out.box.cellAt (o := 8) rfl
        have y9 := H7.out.box.cellAt (o := 9) rfl
        have y10 := H7.out.box.cellAt (o := 10) rfl
        have y11 := H7.out.box.cellAt (o := 11) rfl
        clear CK
        go_wp2_with fail
        refine C7.out.mono ?_
        rintro e' w7 ⟨rfl, b7⟩
        have H8 := hid (H7.out.call b7)
        clear C7 b7 y0 y1 y2 y3 y4 y5 y6 y7 y8 y9 y10 y11 H7
        have y0 := H8.out.box.cellAt (o := 0) rfl
        have y1 := H8.out.box.cellAt (o := 1) rfl
        have y2 := H8.out.box.cellAt (o := 2) rfl
        have y3 := H8.out.box.cellAt (o := 3) rfl
        have y4 := H8.out.box.cellAt (o := 4) rfl
        have y5 := H8.out.box.cellAt (o := 5) rfl
        have y6 := H8.out.box.cellAt (o := 6) rfl
        have y7 := H8.out.box.cellAt (o := 7) rfl
        have y8 := H8.out.box.cellAt (o := 8) rfl
        have y9 := H8.out.box.cellAt (o := 9) rfl
        have y10 := H8.out.box.cellAt (o := 10) rfl
        have y11 := H8.out.box.cellAt (o := 11) rfl
        have r0 := H8.out.dp.res.cellAt (o := 0) rfl
        have s0 := H8.out.dp.res.frozen (o := 0)
        have r1 := H8.out.dp.res.cellAt (o := 1) rfl
        have s1 := H8.out.dp.res.frozen (o := 1)
        have r2 := H8.out.dp.res.cellAt (o := 2) rfl
        have s2 := H8.out.dp.res.frozen (o := 2)
        have r3 := H8.out.dp.res.cellAt (o := 3) rfl
        have s3 := H8.out.dp.res.frozen (o := 3)
        have r4 := H8.out.dp.res.cellAt (o := 4) rfl
        have s4 := H8.out.dp.res.frozen (o := 4)
        have r5 := H8.out.dp.res.cellAt (o := 5) rfl
        have s5 := H8.out.dp.res.frozen (o := 5)
        have r6 := H8.out.dp.res.cellAt (o := 6) rfl
        have s6 := H8.out.dp.res.frozen (o := 6)
        have r7 := H8.out.dp.res.cellAt (o := 7) rfl
        have s7 := H8.out.dp.res.frozen (o := 7)
        have r8 := H8.out.dp.res.cellAt (o := 8) rfl
        have s8 := H8.out.dp.res.frozen (o := 8)
        have r9 := H8.out.dp.res.cellAt (o := 9) rfl
        have s9 := H8.out.dp.res.frozen (o := 9)
        have r10 := H8.out.dp.res.cellAt (o := 10) rfl
        have s10 := H8.out.dp.res.frozen (o := 10)
        have r11 := H8.out.dp.res.cellAt (o := 11) rfl
        have s11 := H8.out.dp.res.frozen (o := 11)
        cases CB
        · have hO : OK = false := by rw [HOK2.out]; simp
          subst hO
          obtain ⟨d1, d2⟩ := HVE2.out
          rw [if_neg (by simp)] at d1 d2
          have HD : Hid (DE = 3 ∧ DV = ms0) := ⟨d1, d2⟩
          clear d1 d2 HVE2 HOK2
          go_wp2
          obtain ⟨g1, g2, g3⟩ := H8.out.done (.int .i64 0) (.int .i64 0) (.int .i64 0) (.int .i64 0) (.int .i64 0) (.int .i64 0) (.int .i64 0) (.int .i64 0) (.int .i64 0) (.bool false) (.slice none 0 0) (.string ⟨#[]⟩) _ rfl
          refine bodyPost_ret (v := .tuple #[.agg #[.int .i64 0, .int .i64 0, .int .i64 0, .int .i64 0, .int .i64 0, .int .i64 0, .int .i64 0, .int .i64 0, .int .i64 0, .bool false, .slice none 0 0, .string ⟨#[]⟩], .int .i64 3]) (ret_ctM (p := 2) (u := 3) rfl _ _ w.heap.size _ _ rfl rfl (run_loadVar_row _ _ _ _ _ _ _ g1 Tryz.underlying24 rfl (by kernel_rfl))) rfl ?_
          rw [HD.out.1, HD.out.2]
          exact ⟨none, 0, rfl, ownE_nil _ _, g2⟩
        · have hO : OK = true := by rw [HOK2.out]; rfl
          subst hO
          obtain ⟨d1, d2⟩ := HVE2.out
          rw [if_pos rfl] at d1 d2
          have HD : Hid (DE = 0 ∧ DV = ⟨n0, n1, n2, n3, n4, n5, n6, n7, n8, ys, acc, xx⟩) := ⟨d1, d2⟩
          clear d1 d2 HVE2 HOK2
          go_wp2
          obtain ⟨g1, g2, g3⟩ := H8.out.done (.int .i64 n0) (.int .i64 n1) (.int .i64 n2) (.int .i64 n3) (.int .i64 n4) (.int .i64 n5) (.int .i64 n6) (.int .i64 n7) (.int .i64 n8) (.bool ys) (.slice ad acc.length cap) (.string xx) _ rfl
          refine bodyPost_ret (v := .tuple #[.agg #[.int .i64 n0, .int .i64 n1, .int .i64 n2, .int .i64 n3, .int .i64 n4, .int .i64 n5, .int .i64 n6, .int .i64 n7, .int .i64 n8, .bool ys, .slice ad acc.length cap, .string xx], .int .i64 0]) (ret_ctM (p := 2) (u := 3) rfl _ _ w.heap.size _ _ rfl rfl (run_loadVar_row _ _ _ _ _ _ _ g1 Tryz.underlying24 rfl (by kernel_rfl))) rfl ?_
          rw [HD.out.1, HD.out.2]
          exact ⟨ad, cap, rfl, g3, g2⟩
      · have hO : OK = false := by rw [HOK2.out, beq_eq_false_iff_ne.2 hE]; rfl
        subst hO
        obtain ⟨d1, d2⟩ := HVE2.out
        rw [if_neg (by simp)] at d1 d2
        have HD : Hid (DE = 3 ∧ DV = ms0) := ⟨d1, d2⟩
        have hEb : (E != 0) = true := bne_iff_ne.2 hE
        have hEb2 : (E == 0) = false := beq_eq_false_iff_ne.2 hE
        clear d1 d2 HVE2 HOK2
        have H8 := H7
        clear H7 CK
        have r0 := H8.out.dp.res.cellAt (o := 0) rfl
        have s0 := H8.out.dp.res.frozen (o := 0)
        have r1 := H8.out.dp.res.cellAt (o := 1) rfl
        have s1 := H8.out.dp.res.frozen (o := 1)
        have r2 := H8.out.dp.res.cellAt (o := 2) rfl
        have s2 := H8.out.dp.res.frozen (o := 2)
        have r3 := H8.out.dp.res.cellAt (o := 3) rfl
        have s3 := H8.out.dp.res.frozen (o := 3)
        have r4 := H8.out.dp.res.cellAt (o := 4) rfl
        have s4 := H8.out.dp.res.frozen (o := 4)
        have r5 := H8.out.dp.res.cellAt (o := 5) rfl
        have s5 := H8.out.dp.res.frozen (o := 5)
        have r6 := H8.out.dp.res.cellAt (o := 6) rfl
        have s6 := H8.out.dp.res.frozen (o := 6)
        have r7 := H8.out.dp.res.cellAt (o := 7) rfl
        have s7 := H8.out.dp.res.frozen (o := 7)
        have r8 := H8.out.dp.res.cellAt (o := 8) rfl
        have s8 := H8.out.dp.res.frozen (o := 8)
        have r9 := H8.out.dp.res.cellAt (o := 9) rfl
        have s9 := H8.out.dp.res.frozen (o := 9)
        have r10 := H8.out.dp.res.cellAt (o := 10) rfl
        have s10 := H8.out.dp.res.frozen (o := 10)
        have r11 := H8.out.dp.res.cellAt (o := 11) rfl
        have s11 := H8.out.dp.res.frozen (o := 11)
        go_wp2
        obtain ⟨g1, g2, g3⟩ := H8.out.done (.int .i64 0) (.int .i64 0) (.int .i64 0) (.int .i64 0) (.int .i64 0) (.int .i64 0) (.int .i64 0) (.int .i64 0) (.int .i64 0) (.bool false) (.slice none 0 0) (.string ⟨#[]⟩) _ rfl
        refine bodyPost_ret (v := .tuple #[.agg #[.int .i64 0, .int .i64 0, .int .i64 0, .int .i64 0, .int .i64 0, .int .i64 0, .int .i64 0, .int .i64 0, .int .i64 0, .bool false, .slice none 0 0, .string ⟨#[]⟩], .int .i64 3]) (ret_ctM (p := 2) (u := 3) rfl _ _ w.heap.size _ _ rfl rfl (run_loadVar_row _ _ _ _ _ _ _ g1 Tryz.underlying24 rfl (by kernel_rfl))) rfl ?_
        rw [HD.out.1, HD.out.2]
        exact ⟨none, 0, rfl, ownE_nil _ _, g2⟩
end Go.Proofs.YtlkidnfgodficaaGreat
namespace Go.Proofs.YtlkidnfgodficaaGreat
open Go.RowKit Go.Maps
set_option linter.unusedVariables false
set_option linter.unusedSimpArgs false

set_option maxRecDepth 100000 in
set_option maxHeartbeats 2000000 in
theorem qnumbers_any (ad : Option Addr) (n cap : Nat) (m : Ms) (w : World) : Calls Tryz.prog 35 #[msV (.slice ad n cap) m] w fun e w' => e = .returned (.agg (nmA m)) ∧ Below w.heap.size w w' := by
  have R9 : Hid (RowIs ((w.alloc (.cells #[.int .i64 m.kd, .int .i64 m.fr, .int .i64 m.to_, .int .i64 m.tm, .int .i64 m.ix, .int .i64 m.lt, .int .i64 m.cm, .int .i64 m.rd, .int .i64 m.at_, .bool m.ys, .slice ad n cap, .string m.da] 32)).alloc (.cells #[.int .i64 m.kd, .int .i64 m.fr, .int .i64 m.to_, .int .i64 m.tm, .int .i64 m.ix, .int .i64 m.lt, .int .i64 m.cm, .int .i64 m.rd, .int .i64 m.at_] 70)) (w.heap.size + 1) (nmA m).toList 70) := by
    have := srow (w.alloc (.cells #[.int .i64 m.kd, .int .i64 m.fr, .int .i64 m.to_, .int .i64 m.tm, .int .i64 m.ix, .int .i64 m.lt, .int .i64 m.cm, .int .i64 m.rd, .int .i64 m.at_, .bool m.ys, .slice ad n cap, .string m.da] 32)) [.int .i64 m.kd, .int .i64 m.fr, .int .i64 m.to_, .int .i64 m.tm, .int .i64 m.ix, .int .i64 m.lt, .int .i64 m.cm, .int .i64 m.rd, .int .i64 m.at_] 70
    rwa [World.size_alloc] at this
  have B9 : Hid (Below w.heap.size w ((w.alloc (.cells #[.int .i64 m.kd, .int .i64 m.fr, .int .i64 m.to_, .int .i64 m.tm, .int .i64 m.ix, .int .i64 m.lt, .int .i64 m.cm, .int .i64 m.rd, .int .i64 m.at_, .bool m.ys, .slice ad n cap, .string m.da] 32)).alloc (.cells #[.int .i64 m.kd, .int .i64 m.fr, .int .i64 m.to_, .int .i64 m.tm, .int .i64 m.ix, .int .i64 m.lt, .int .i64 m.cm, .int .i64 m.rd, .int .i64 m.at_] 70))) := below_al (below_al (Below.refl _ _) _) _
  have Q0 : Hid (RowIs ((w.alloc (.cells #[.int .i64 m.kd, .int .i64 m.fr, .int .i64 m.to_, .int .i64 m.tm, .int .i64 m.ix, .int .i64 m.lt, .int .i64 m.cm, .int .i64 m.rd, .int .i64 m.at_, .bool m.ys, .slice ad n cap, .string m.da] 32)).alloc (.cells #[.int .i64 0, .int .i64 0, .int .i64 0, .int .i64 0, .int .i64 0, .int .i64 0, .int .i64 0, .int .i64 0, .int .i64 0] 70)) w.heap.size [.int .i64 m.kd, .int .i64 m.fr, .int .i64 m.to_, .int .i64 m.tm, .int .i64 m.ix, .int .i64 m.lt, .int .i64 m.cm, .int .i64 m.rd, .int .i64 m.at_, .bool m.ys, .slice ad n cap, .string m.da] 32) := row_old (srow w _ _) _
  have y0 := Q0.out.cellAt (o := 0) rfl
  have y1 := Q0.out.cellAt (o := 1) rfl
  have y2 := Q0.out.cellAt (o := 2) rfl
  have y3 := Q0.out.cellAt (o := 3) rfl
  have y4 := Q0.out.cellAt (o := 4) rfl
  have y5 := Q0.out.cellAt (o := 5) rfl
  have y6 := Q0.out.cellAt (o := 6) rfl
  have y7 := Q0.out.cellAt (o := 7) rfl
  have y8 := Q0.out.cellAt (o := 8) rfl
  have y9 := Q0.out.cellAt (o := 9) rfl
  have y10 := Q0.out.cellAt (o := 10) rfl
  have y11 := Q0.out.cellAt (o := 11) rfl
  unfold msV
  go_enter Tryz.func35, Tryz.ntmps35
  go_wp2
  exact bodyPost_ret (v := .agg (nmA m)) (results_cell_row (p := 2) rfl _ _ (w.heap.size + 1) 70 (nmA m) (0, 0) _ rfl R9.out Tryz.underlying70 rfl (by kernel_rfl)) rfl ⟨rfl, B9.out⟩
theorem nm_cell (m : Ms) (k : Nat) (h : k < 9) : (nmA m).toList[k]? = some (.int .i64 (m.nm.getD k 0)) := by
  match k, h with
  | 0, _ => rfl
  | 1, _ => rfl
  | 2, _ => rfl
  | 3, _ => rfl
  | 4, _ => rfl
  | 5, _ => rfl
  | 6, _ => rfl
  | 7, _ => rfl
  | 8, _ => rfl
theorem mo_nd {x : Int} (h : tmB x = true) (h1 : ¬ x > 6) : ndOk x = true := by
  unfold tmB at h
  simp only [Bool.and_eq_true, decide_eq_true_eq] at h
  unfold ndOk
  rw [decide_eq_true h.1, decide_eq_true (show x < 7 by omega)]
  rfl
theorem mo_nb {x : Int} (h : x > 6) : ndOk x = false := by unfold ndOk; rw [decide_eq_false (show ¬ x < 7 by omega)]; simp
set_option maxRecDepth 100000 in
set_option maxHeartbeats 4000000 in
theorem qcheck_any (v : Value) (m : Ms) (w : World) (hv : EntI w v m.es) (hl : m.es.length ≤ 17592186044416) : Calls Tryz.prog 13 #[msV v m] w fun e w' => e = .returned (.bool (msOk m)) ∧ Below w.heap.size w w' := by
  obtain ⟨ad, cap, rfl, hcl⟩ := hv.form
  have HC := hid hcl
  obtain ⟨R, hR⟩ : ∃ R, R = msOk m := ⟨_, rfl⟩
  rw [← hR]
  have HR := hid hR
  have HLE := hid hl
  have R0 : Hid (RowIs (w.alloc (.cells #[.int .i64 m.kd, .int .i64 m.fr, .int .i64 m.to_, .int .i64 m.tm, .int .i64 m.ix, .int .i64 m.lt, .int .i64 m.cm, .int .i64 m.rd, .int .i64 m.at_, .bool m.ys, .slice ad m.es.length cap, .string m.da] 32)) w.heap.size [.int .i64 m.kd, .int .i64 m.fr, .int .i64 m.to_, .int .i64 m.tm, .int .i64 m.ix, .int .i64 m.lt, .int .i64 m.cm, .int .i64 m.rd, .int .i64 m.at_, .bool m.ys, .slice ad m.es.length cap, .string m.da] 32) := srow w _ _
  have B0 : Hid (Below w.heap.size w (w.alloc (.cells #[.int .i64 m.kd, .int .i64 m.fr, .int .i64 m.to_, .int .i64 m.tm, .int .i64 m.ix, .int .i64 m.lt, .int .i64 m.cm, .int .i64 m.rd, .int .i64 m.at_, .bool m.ys, .slice ad m.es.length cap, .string m.da] 32))) := below_al (Below.refl _ _) _
  have NU := hid (fun W => qnumbers_any ad m.es.length cap m W)
  have y0 := R0.out.cellAt (o := 0) rfl
  have y1 := R0.out.cellAt (o := 1) rfl
  have y2 := R0.out.cellAt (o := 2) rfl
  have y3 := R0.out.cellAt (o := 3) rfl
  have y4 := R0.out.cellAt (o := 4) rfl
  have y5 := R0.out.cellAt (o := 5) rfl
  have y6 := R0.out.cellAt (o := 6) rfl
  have y7 := R0.out.cellAt (o := 7) rfl
  have y8 := R0.out.cellAt (o := 8) rfl
  have y9 := R0.out.cellAt (o := 9) rfl
  have y10 := R0.out.cellAt (o := 10) rfl
  have y11 := R0.out.cellAt (o := 11) rfl
  clear hv hl hR hcl
  unfold msV nmA at NU
  unfold msV
  go_enter Tryz.func13, Tryz.ntmps13
  go_wp2_with fail
  refine (NU.out _).mono ?_
  rintro e w1 ⟨rfl, b1⟩
  have B1 : Hid (Below w.heap.size w (w1.alloc (.cells #[.int .i64 m.kd, .int .i64 m.fr, .int .i64 m.to_, .int .i64 m.tm, .int .i64 m.ix, .int .i64 m.lt, .int .i64 m.cm, .int .i64 m.rd, .int .i64 m.at_] 70))) := below_al (below_on B0.out b1) _
  have R1 : Hid (RowIs (w1.alloc (.cells #[.int .i64 m.kd, .int .i64 m.fr, .int .i64 m.to_, .int .i64 m.tm, .int .i64 m.ix, .int .i64 m.lt, .int .i64 m.cm, .int .i64 m.rd, .int .i64 m.at_] 70)) w.heap.size [.int .i64 m.kd, .int .i64 m.fr, .int .i64 m.to_, .int .i64 m.tm, .int .i64 m.ix, .int .i64 m.lt, .int .i64 m.cm, .int .i64 m.rd, .int .i64 m.at_, .bool m.ys, .slice ad m.es.length cap, .string m.da] 32) := row_old (R0.out.keep (b1.keep (fun _ => False)) (fun h => h)) _
  have Q1 : Hid (RowIs (w1.alloc (.cells #[.int .i64 m.kd, .int .i64 m.fr, .int .i64 m.to_, .int .i64 m.tm, .int .i64 m.ix, .int .i64 m.lt, .int .i64 m.cm, .int .i64 m.rd, .int .i64 m.at_] 70)) w1.heap.size [.int .i64 m.kd, .int .i64 m.fr, .int .i64 m.to_, .int .i64 m.tm, .int .i64 m.ix, .int .i64 m.lt, .int .i64 m.cm, .int .i64 m.rd, .int .i64 m.at_] 70) := srow w1 _ _
  have HNC : Hid (∀ (k : Nat), k < 9 → ([.int .i64 m.kd, .int .i64 m.fr, .int .i64 m.to_, .int .i64 m.tm, .int .i64 m.ix, .int .i64 m.lt, .int .i64 m.cm, .int .i64 m.rd, .int .i64 m.at_] : List Value)[k]? = some (.int .i64 (m.nm.getD k 0))) := fun k h => nm_cell m k h
  clear NU b1 B0 R0 y0 y1 y2 y3 y4 y5 y6 y7 y8 y9 y10 y11
  go_wp2
  generalize hq : w1.heap.size = q at *
  generalize hww : w1.alloc (.cells #[.int .i64 m.kd, .int .i64 m.fr, .int .i64 m.to_, .int .i64 m.tm, .int .i64 m.ix, .int .i64 m.lt, .int .i64 m.cm, .int .i64 m.rd, .int .i64 m.at_] 70) = w2 at *
  clear hq hww
  go_loopw [4] (fun i wr => ∃ (k : Nat), k ≤ 9 ∧ i = .int .i64 (k : Int) ∧ wr = w2 ∧ Hid (∀ j, j < k → tmB (m.nm.getD j 0) = true)) (fun i _ => 9 - (intOf i).toNat)
  case atStart => exact ⟨0, by omega, rfl, rfl, fun j hj => by omega⟩
  case round =>
    obtain ⟨k, hk, rfl, rfl, HJ⟩ := hrel
    by_cases hlt : k < 9
    · have r0 : (0 : Int) ≤ (k : Int) := by omega
      have r1 : (k : Int) < 9 := by omega
      have ck := Q1.out.cellAt (HNC.out k hlt)
      have HLT := hid hlt
      generalize hx : m.nm.getD k 0 = x at *
      have HX := hid hx
      clear hx HNC Q1 HC
      by_cases k3 : x < 0
      case pos =>
        have t3 : decide (x < 0) = true := decide_eq_true k3
        have hr : R = false := by rw [HR.out]; exact mo_nm k HLT.out (by rw [HX.out]; exact tmB_neg k3)
        subst hr
        clear HR HJ HX k3 hlt hk R1 HLE
        go_wp2
        go_ret
        exact ⟨rfl, B1.out⟩
      case neg =>
      have t3 : decide (x < 0) = false := decide_eq_false k3
      by_cases k4 : x > 1099511627776
      case pos =>
        have t4 : decide (x > 1099511627776) = true := decide_eq_true k4
        have hr : R = false := by rw [HR.out]; exact mo_nm k HLT.out (by rw [HX.out]; exact tmB_big k4)
        subst hr
        clear HR HJ HX k3 k4 hlt hk R1 HLE
        go_wp2
        go_ret
        exact ⟨rfl, B1.out⟩
      case neg =>
      have t4 : decide (x > 1099511627776) = false := decide_eq_false k4
      have HJ2 : Hid (∀ j, j < k + 1 → tmB (m.nm.getD j 0) = true) := fun j hj => by
        by_cases e : j = k
        · subst e; rw [HX.out]; exact tmB_ok k3 k4
        · exact HJ.out j (by omega)
      clear HR HJ HX k3 k4 R1 B1 HLE
      go_wp2
      exact ⟨⟨k + 1, by omega, by go_num, by first | rfl | trivial, HJ2⟩, by simp [intOf]; omega⟩
    · have hk9 : k = 9 := by omega
      subst hk9
      have B9 := B1
      clear HNC Q1 hk hlt
      have y0 := R1.out.cellAt (o := 0) rfl
      have y1 := R1.out.cellAt (o := 1) rfl
      have y2 := R1.out.cellAt (o := 2) rfl
      have y3 := R1.out.cellAt (o := 3) rfl
      have y5 := R1.out.cellAt (o := 5) rfl
      have y10 := R1.out.cellAt (o := 10) rfl
      have y11 := R1.out.cellAt (o := 11) rfl
      by_cases k1 : m.kd < 1
      case pos =>
        have tk1 : decide (m.kd < 1) = true := decide_eq_true k1
        have hr : R = false := by rw [HR.out]; exact mo_kd0 k1
        subst hr
        clear HR HJ HC
        go_wp2
        go_ret
        exact ⟨rfl, B9.out⟩
      case neg =>
      have tk1 : decide (m.kd < 1) = false := decide_eq_false k1
      by_cases k2 : m.kd > 6
      case pos =>
        have tk2 : decide (m.kd > 6) = true := decide_eq_true k2
        have hr : R = false := by rw [HR.out]; exact mo_kd1 k2
        subst hr
        clear HR HJ HC k1
        go_wp2
        go_ret
        exact ⟨rfl, B9.out⟩
      case neg =>
      have tk2 : decide (m.kd > 6) = false := decide_eq_false k2
      by_cases k3 : m.fr > 6
      case pos =>
        have tk3 : decide (m.fr > 6) = true := decide_eq_true k3
        have hr : R = false := by rw [HR.out]; exact mo_fr (mo_nb k3)
        subst hr
        clear HR HJ HC k1 k2
        go_wp2
        go_ret
        exact ⟨rfl, B9.out⟩
      case neg =>
      have tk3 : decide (m.fr > 6) = false := decide_eq_false k3
      by_cases k4 : m.to_ > 6
      case pos =>
        have tk4 : decide (m.to_ > 6) = true := decide_eq_true k4
        have hr : R = false := by rw [HR.out]; exact mo_to (mo_nb k4)
        subst hr
        clear HR HJ HC k1 k2 k3
        go_wp2
        go_ret
        exact ⟨rfl, B9.out⟩
      case neg =>
      have tk4 : decide (m.to_ > 6) = false := decide_eq_false k4
      by_cases k5 : m.fr = m.to_
      case pos =>
        have tk5 : decide (m.fr = m.to_) = true := decide_eq_true k5
        have tb : (m.fr == m.to_) = true := beq_iff_eq.2 k5
        have hr : R = false := by rw [HR.out]; exact mo_eq k5
        subst hr
        clear HR HJ HC k1 k2 k3 k4 k5
        go_wp2
        go_ret
        exact ⟨rfl, B9.out⟩
      case neg =>
      have tk5 : decide (m.fr = m.to_) = false := decide_eq_false k5
      have tb : (m.fr == m.to_) = false := beq_eq_false_iff_ne.2 k5
      by_cases k6 : m.lt > m.tm
      case pos =>
        have tk6 : decide (m.lt > m.tm) = true := decide_eq_true k6
        have hr : R = false := by rw [HR.out]; exact mo_lt k6
        subst hr
        clear HR HJ HC k1 k2 k3 k4 k5
        go_wp2
        go_ret
        exact ⟨rfl, B9.out⟩
      case neg =>
      have tk6 : decide (m.lt > m.tm) = false := decide_eq_false k6
      by_cases k7 : (m.es.length : Int) > 16
      case pos =>
        have tk7 : decide ((m.es.length : Int) > 16) = true := decide_eq_true k7
        have hr : R = false := by rw [HR.out]; exact mo_es k7
        subst hr
        clear HR HJ HC k1 k2 k3 k4 k5 k6
        go_wp2
        go_ret
        exact ⟨rfl, B9.out⟩
      case neg =>
      have tk7 : decide ((m.es.length : Int) > 16) = false := decide_eq_false k7
      by_cases k8 : (m.da.size : Int) > 4096
      case pos =>
        have tk8 : decide ((m.da.size : Int) > 4096) = true := decide_eq_true k8
        have hr : R = false := by rw [HR.out]; exact mo_da k8
        subst hr
        clear HR HJ HC k1 k2 k3 k4 k5 k6 k7
        go_wp2
        go_ret
        exact ⟨rfl, B9.out⟩
      case neg =>
      have tk8 : decide ((m.da.size : Int) > 4096) = false := decide_eq_false k8
      have HF : Hid (ndOk m.fr = true) := mo_nd (HJ.out 1 (by omega)) k3
      have HT : Hid (ndOk m.to_ = true) := mo_nd (HJ.out 2 (by omega)) k4
      have hr : R = mesOk m.lt m.tm m.es := by rw [HR.out]; exact mo_ok (by omega) (by omega) HF.out HT.out k5 HJ.out (by omega) (by omega) (by omega)
      have HR0 : Hid (R = mesOk m.lt m.tm (m.es.drop 0)) := hr
      have HL16 : Hid (m.es.length ≤ 16) := by show _ ≤ _; omega
      clear HF HT HR hr HJ k1 k2 k3 k4 k5 k6 k7 k8 HLE
      go_wp2
      go_loopg [5, 6] m.es.length (fun gk a i wr => ∃ (k : Nat) (a0 : Int), k ≤ m.es.length ∧ gk = m.es.length - k ∧ a = .int .i64 a0 ∧ i = .int .i64 (k : Int) ∧ Hid (R = mesOk a0 m.tm (m.es.drop k)) ∧ Hid (Below w.heap.size w wr) ∧ Hid (RowIs wr w.heap.size [.int .i64 m.kd, .int .i64 m.fr, .int .i64 m.to_, .int .i64 m.tm, .int .i64 m.ix, .int .i64 m.lt, .int .i64 m.cm, .int .i64 m.rd, .int .i64 m.at_, .bool m.ys, .slice ad m.es.length cap, .string m.da] 32))
      case atStart => exact ⟨0, m.lt, Nat.zero_le _, rfl, rfl, rfl, HR0, B9, R1⟩
      case round =>
        clear HR0 B9 R1 B1 y0 y1 y2 y3 y5 y10 y11
        obtain ⟨k, a0, hk, hgk, rfl, rfl, HR, HB, HS⟩ := hrel
        have y3 := HS.out.cellAt (o := 3) rfl
        have y10 := HS.out.cellAt (o := 10) rfl
        by_cases hlt : k < m.es.length
        · have hk1 : (k : Int) < (m.es.length : Int) := by omega
          have hk0 : (0 : Int) ≤ (k : Int) := by omega
          have hwk : wrap64 ((k : Int) + 1) = ((k + 1 : Nat) : Int) := by have := HL16.out; rw [IntWalk.wrap64_in _ (by omega)]; omega
          obtain ⟨b, off, hadr, hb, c0, c1, c2⟩ := HC.out k hlt
          have d0 := (HB.out.cell (p := ⟨b, off + k * 3, none⟩) hb).trans c0
          have d1 := (HB.out.cell (p := ⟨b, off + k * 3 + 1, none⟩) hb).trans c1
          have d2 := (HB.out.cell (p := ⟨b, off + k * 3 + 2, none⟩) hb).trans c2
          have HRD : Hid (R = (meOk a0 m.tm m.es[k] && mesOk m.es[k].tm m.tm (m.es.drop (k + 1)))) := HR.out.trans (mesOk_drop hlt)
          have HME : Hid (meOk a0 m.tm m.es[k] = (decide (a0 ≤ m.es[k].tm) && (decide (m.es[k].tm ≤ m.tm) && (decide (0 ≤ m.es[k].kd) && (decide (m.es[k].kd ≤ 255) && decide (m.es[k].da.size ≤ 65536)))))) := rfl
          have HLT := hid hlt
          have HGK := hid hgk
          clear HR c0 c1 c2 hb hk hgk HC
          generalize m.es[k] = x at *
          obtain ⟨tm, kd, da⟩ := x
          simp only at *
          have HAL : Hid (Below w.heap.size w (wr.alloc (.cells #[.int .i64 tm, .int .i64 kd, .string da] 78))) := below_al HB.out _
          have HSL := hid (row_old HS.out (.cells #[.int .i64 tm, .int .i64 kd, .string da] 78))
          have z3 := HSL.out.cellAt (o := 3) rfl
          have q0 := (srow wr [.int .i64 tm, .int .i64 kd, .string da] 78).cellAt (o := 0) rfl
          have q1 := (srow wr [.int .i64 tm, .int .i64 kd, .string da] 78).cellAt (o := 1) rfl
          have q2 := (srow wr [.int .i64 tm, .int .i64 kd, .string da] 78).cellAt (o := 2) rfl
          subst hadr
          generalize meOk a0 m.tm ⟨tm, kd, da⟩ = M at *
          clear HB HS hlt
          by_cases h0 : tm < a0
          case pos =>
            have th0 : decide (tm < a0) = true := decide_eq_true h0
            have hM : M = false := by rw [HME.out, decide_eq_false (show ¬ a0 ≤ tm by omega)]; simp
            have hr : R = false := by rw [HRD.out, hM]; rfl
            subst hr
            clear HRD HME hM h0
            go_wp2
            go_ret
            exact ⟨rfl, HAL.out⟩
          case neg =>
          have th0 : decide (tm < a0) = false := decide_eq_false h0
          by_cases h1 : tm > m.tm
          case pos =>
            have th1 : decide (tm > m.tm) = true := decide_eq_true h1
            have hM : M = false := by rw [HME.out, decide_eq_true (show a0 ≤ tm by omega), decide_eq_false (show ¬ tm ≤ m.tm by omega)]; simp
            have hr : R = false := by rw [HRD.out, hM]; rfl
            subst hr
            clear HRD HME hM h0 h1
            go_wp2
            go_ret
            exact ⟨rfl, HAL.out⟩
          case neg =>
          have th1 : decide (tm > m.tm) = false := decide_eq_false h1
          by_cases h2 : kd < 0
          case pos =>
            have th2 : decide (kd < 0) = true := decide_eq_true h2
            have hM : M = false := by rw [HME.out, decide_eq_true (show a0 ≤ tm by omega), decide_eq_true (show tm ≤ m.tm by omega), decide_eq_false (show ¬ 0 ≤ kd by omega)]; simp
            have hr : R = false := by rw [HRD.out, hM]; rfl
            subst hr
            clear HRD HME hM h0 h1 h2
            go_wp2
            go_ret
            exact ⟨rfl, HAL.out⟩
          case neg =>
          have th2 : decide (kd < 0) = false := decide_eq_false h2
          by_cases h3 : kd > 255
          case pos =>
            have th3 : decide (kd > 255) = true := decide_eq_true h3
            have hM : M = false := by rw [HME.out, decide_eq_true (show a0 ≤ tm by omega), decide_eq_true (show tm ≤ m.tm by omega), decide_eq_true (show 0 ≤ kd by omega), decide_eq_false (show ¬ kd ≤ 255 by omega)]; simp
            have hr : R = false := by rw [HRD.out, hM]; rfl
            subst hr
            clear HRD HME hM h0 h1 h2 h3
            go_wp2
            go_ret
            exact ⟨rfl, HAL.out⟩
          case neg =>
          have th3 : decide (kd > 255) = false := decide_eq_false h3
          by_cases h4 : (da.size : Int) > 65536
          case pos =>
            have th4 : decide ((da.size : Int) > 65536) = true := decide_eq_true h4
            have hM : M = false := by rw [HME.out, decide_eq_true (show a0 ≤ tm by omega), decide_eq_true (show tm ≤ m.tm by omega), decide_eq_true (show 0 ≤ kd by omega), decide_eq_true (show kd ≤ 255 by omega), decide_eq_false (show ¬ da.size ≤ 65536 by omega)]; simp
            have hr : R = false := by rw [HRD.out, hM]; rfl
            subst hr
            clear HRD HME hM h0 h1 h2 h3 h4
            go_wp2
            go_ret
            exact ⟨rfl, HAL.out⟩
          case neg =>
          have th4 : decide ((da.size : Int) > 65536) = false := decide_eq_false h4
          have hM : M = true := by rw [HME.out, decide_eq_true (show a0 ≤ tm by omega), decide_eq_true (show tm ≤ m.tm by omega), decide_eq_true (show 0 ≤ kd by omega), decide_eq_true (show kd ≤ 255 by omega), decide_eq_true (show da.size ≤ 65536 by omega)]; rfl
          have HR2 : Hid (R = mesOk tm m.tm (m.es.drop (k + 1))) := by show _ = _; rw [HRD.out, hM]; rfl
          have HM5 : Hid (m.es.length - (k + 1) < m.es.length - k) := by have := HLT.out; show _ < _; omega
          clear HRD HME hM HL16 h0 h1 h2 h3 h4
          go_wp2
          go_roundg (m.es.length - (k + 1))
          case measure => rw [HGK.out]; exact HM5.out
          case rel => exact ⟨k + 1, tm, HLT.out, rfl, rfl, by first | rw [hwk] | rfl | simp, HR2, HAL, HSL⟩
        · have hk9 : k = m.es.length := by omega
          have hdl : decide ((k : Int) < (m.es.length : Int)) = false := decide_eq_false (by omega)
          have hdl2 : decide (k < m.es.length) = false := decide_eq_false (by omega)
          have hr : R = true := by rw [HR.out, hk9, List.drop_length]; rfl
          subst hr
          clear HR HL16 HC hlt hk hk9 hgk HS
          go_wp2
          go_ret
          exact ⟨rfl, HB.out⟩
end Go.Proofs.YtlkidnfgodficaaGreat
namespace Go.Proofs.YtlkidnfgodficaaGreat
open Go.RowKit Go.Maps
set_option linter.unusedVariables false
set_option linter.unusedSimpArgs false

theorem elQE : ElT 30 78 3 32 := ⟨Tryz.underlying30, ⟨.agg #[.int .i64 0, .int .i64 0, .string ⟨#[]⟩], by kernel_rfl, rfl⟩, by decide⟩
/-- entries of the document's in a row that the call owns -/
def OwnQE (w : World) (B : Nat) (v : Value) (l : List En) : Prop := w.ownsRow B 78 3 v l.length (ensC l)
theorem OwnQE.ents {w : World} {B : Nat} {v : Value} {l : List En} (h : OwnQE w B v l) : EntI w v l := by
  rcases gsrc_all h with ⟨c, e, h0, h1⟩ | ⟨g, off, c, e, hg, hc⟩
  · have hl : l = [] := List.length_eq_zero_iff.1 h0
    subst hl
    exact .inl ⟨none, c, e, rfl⟩
  · refine .inr ⟨g, off, c, e, hg, fun j hj i hi => ?_⟩
    have h1 := ensC_get l j hj i hi
    have h2 : i < (enC l[j]).length := hi
    rw [List.getElem?_eq_getElem h2] at h1 ⊢
    have := hc _ _ h1
    rw [show off + (j * 3 + i) = off + j * 3 + i by omega] at this
    exact this
/-- the numbers that a message begins with, one behind the other -/
structure PnR where
  a : Int
  e : Int
  l : List Int
def pN (t : ByteArray) : Nat → PnR
  | 0 => ⟨0, 0, []⟩
  | k + 1 => ⟨(dcN t 1099511627776 (pN t k).a (pN t k).e).a, (dcN t 1099511627776 (pN t k).a (pN t k).e).e, (pN t k).l ++ [((dcN t 1099511627776 (pN t k).a (pN t k).e).n : Int)]⟩
theorem pN_len (t : ByteArray) : ∀ k, (pN t k).l.length = k
  | 0 => rfl
  | k + 1 => by show ((pN t k).l ++ [_]).length = _; rw [List.length_append, pN_len t k]; rfl
def pNC (t : ByteArray) (k : Nat) : List Int := (pN t k).l ++ List.replicate (9 - k) 0
theorem pNC_set (t : ByteArray) (k : Nat) (hk : k < 9) : (pNC t k).set k ((dcN t 1099511627776 (pN t k).a (pN t k).e).n : Int) = pNC t (k + 1) := by
  unfold pNC
  rw [List.set_append_right _ _ (by rw [pN_len]; omega), pN_len, Nat.sub_self, show 9 - k = (9 - (k + 1)) + 1 by omega, List.replicate_succ, List.set_cons_zero]
  show _ = ((pN t k).l ++ [_]) ++ _
  rw [List.append_assoc]
  rfl
theorem pNC_len (t : ByteArray) (k : Nat) (hk : k ≤ 9) : (pNC t k).length = 9 := by
  unfold pNC; rw [List.length_append, pN_len, List.length_replicate]; omega
theorem pN_nine (t : ByteArray) (p0 p1 p2 p3 p4 p5 p6 p7 p8 : St) (h0 : p0 = dcN t 1099511627776 0 0) (h1 : p1 = dcN t 1099511627776 p0.a p0.e) (h2 : p2 = dcN t 1099511627776 p1.a p1.e) (h3 : p3 = dcN t 1099511627776 p2.a p2.e) (h4 : p4 = dcN t 1099511627776 p3.a p3.e) (h5 : p5 = dcN t 1099511627776 p4.a p4.e) (h6 : p6 = dcN t 1099511627776 p5.a p5.e) (h7 : p7 = dcN t 1099511627776 p6.a p6.e) (h8 : p8 = dcN t 1099511627776 p7.a p7.e) : (pN t 9).a = p8.a ∧ (pN t 9).e = p8.e ∧ pNC t 9 = [(p0.n : Int), p1.n, p2.n, p3.n, p4.n, p5.n, p6.n, p7.n, p8.n] := by
  subst h0 h1 h2 h3 h4 h5 h6 h7 h8
  exact ⟨rfl, rfl, rfl⟩
/-- a reader's box at g, nine numbers at q, the result's cell ahead -/
structure DnS (w : World) (t : ByteArray) (a e : Int) (N : List Int) (W : World) : Prop where
  rd : RowIs W (w.heap.size + 1) [.string t, .int .i64 a, .int .i64 e] 84
  nq : RowIs W (w.heap.size + 1 + 1) (isC N) 70
  res : RowIs W w.heap.size (msC (.slice none 0 0) ms0) 32
  bel : Below w.heap.size w W
section
variable {w W W' : World} {t : ByteArray} {a e a' e' : Int} {N : List Int}
theorem DnS.call (h : DnS w t a e N W) (hb : Below W.heap.size W W') : DnS w t a e N W' :=
  ⟨h.rd.keep (hb.keep (fun _ => False)) (fun h => h), h.nq.keep (hb.keep (fun _ => False)) (fun h => h), h.res.keep (hb.keep (fun _ => False)) (fun h => h), h.bel.trans (hb.mono h.bel.size)⟩
theorem DnS.put (h : DnS w t a e N W) (a' e' : Int) : DnS w t a' e' N (((W.setCell ⟨w.heap.size + 1, 0, none⟩ (.string t)).setCell ⟨w.heap.size + 1, 1, none⟩ (.int .i64 a')).setCell ⟨w.heap.size + 1, 2, none⟩ (.int .i64 e')) := by
  have k : Keep (· = w.heap.size + 1) W (((W.setCell ⟨w.heap.size + 1, 0, none⟩ (.string t)).setCell ⟨w.heap.size + 1, 1, none⟩ (.int .i64 a')).setCell ⟨w.heap.size + 1, 2, none⟩ (.int .i64 e')) := ((keep_setCell _ _ _ _).trans (keep_setCell _ _ _ _)).trans (keep_setCell _ _ _ _)
  exact ⟨((h.rd.set 0 _).set 1 _).set 2 _, h.nq.keep k (by omega), h.res.keep k (by omega), h.bel.trans (keep_below k (fun j hj e => by omega) h.bel.size)⟩
theorem DnS.num (h : DnS w t a e N W) (k : Nat) (x : Int) : DnS w t a e (N.set k x) (W.setCell ⟨w.heap.size + 1 + 1, k, none⟩ (.int .i64 x)) := by
  have kS := keep_setCell W (w.heap.size + 1 + 1) k (.int .i64 x)
  exact ⟨h.rd.keep kS (by omega), by rw [← isC_set]; exact h.nq.set k _, h.res.keep kS (by omega), h.bel.trans (keep_below kS (fun j hj e => by omega) h.bel.size)⟩
end
/-- a reader's box at g, a message in a box ahead of it, its entries behind it -/
structure DqM (w : World) (t : ByteArray) (a e : Int) (b g : Nat) (m : Ms) (v : Value) (acc : List En) (W : World) : Prop where
  rd : RowIs W g [.string t, .int .i64 a, .int .i64 e] 84
  box : RowIs W b (msC v m) 32
  own : OwnQE W (g + 1) v acc
  res : RowIs W w.heap.size (msC (.slice none 0 0) ms0) 32
  bel : Below w.heap.size w W
  lo1 : w.heap.size < b
  lo2 : b < g
section
variable {w W W' : World} {t : ByteArray} {a e a' e' : Int} {b g : Nat} {m : Ms} {v v' : Value} {acc acc' : List En}
theorem DqM.call (h : DqM w t a e b g m v acc W) (hb : Below W.heap.size W W') : DqM w t a e b g m v acc W' :=
  ⟨h.rd.keep (hb.keep (fun _ => False)) (fun h => h), h.box.keep (hb.keep (fun _ => False)) (fun h => h), (hb.keep (fun _ => False)).ownsRow h.own (fun _ _ h => h), h.res.keep (hb.keep (fun _ => False)) (fun h => h), h.bel.trans (hb.mono h.bel.size), h.lo1, h.lo2⟩
theorem DqM.al (h : DqM w t a e b g m v acc W) (o : Obj) : DqM w t a e b g m v acc (W.alloc o) := h.call (below_al (Below.refl _ _) o)
theorem DqM.lt (h : DqM w t a e b g m v acc W) : g + 1 ≤ W.heap.size := h.rd.lt
theorem DqM.rput (h : DqM w t a e b g m v acc W) (a' e' : Int) : DqM w t a' e' b g m v acc (((W.setCell ⟨g, 0, none⟩ (.string t)).setCell ⟨g, 1, none⟩ (.int .i64 a')).setCell ⟨g, 2, none⟩ (.int .i64 e')) := by
  have k : Keep (· = g) W (((W.setCell ⟨g, 0, none⟩ (.string t)).setCell ⟨g, 1, none⟩ (.int .i64 a')).setCell ⟨g, 2, none⟩ (.int .i64 e')) := ((keep_setCell _ _ _ _).trans (keep_setCell _ _ _ _)).trans (keep_setCell _ _ _ _)
  have h1 := h.lo1
  have h2 := h.lo2
  exact ⟨((h.rd.set 0 _).set 1 _).set 2 _, h.box.keep k (by omega), k.ownsRow h.own (fun j hj e => by have := ownsRow_ge h.own hj; omega), h.res.keep k (by omega), h.bel.trans (keep_below k (fun j hj e => by omega) h.bel.size), h.lo1, h.lo2⟩
theorem DqM.put {m' : Ms} (h : DqM w t a e b g m v acc W) (o : Nat) (u : Value) (hc : (msC v m).set o u = msC v m') : DqM w t a e b g m' v acc (W.setCell ⟨b, o, none⟩ u) := by
  have kS := keep_setCell W b o u
  have h1 := h.lo1
  have h2 := h.lo2
  refine ⟨h.rd.keep kS (by omega), ?_, kS.ownsRow h.own (fun j hj e => by have := ownsRow_ge h.own hj; omega), h.res.keep kS (by omega), h.bel.trans (keep_below kS (fun j hj e => by omega) h.bel.size), h.lo1, h.lo2⟩
  rw [← hc]
  exact h.box.set o u
theorem DqM.app {WB : World} (h : DqM w t a e b g m v acc W) (ho : OwnQE WB (g + 1) v' acc') (hk : Keep (fun k => v.ownBlock = some k) W WB) : DqM w t a e b g m v' acc' (WB.setCell ⟨b, 10, none⟩ v') := by
  have hge := fun k (e : v.ownBlock = some k) => ownsRow_ge h.own e
  have h1 := h.lo1
  have h2 := h.lo2
  have kS := keep_setCell WB b 10 v'
  have rB := h.box.keep hk (fun e => by have := hge b e; omega)
  have rG := h.rd.keep hk (fun e => by have := hge g e; omega)
  have rR := h.res.keep hk (fun e => by have := hge _ e; omega)
  refine ⟨rG.keep kS (by omega), rB.set 10 v', kS.ownsRow ho (fun j hj e => by have := ownsRow_ge ho hj; omega), rR.keep kS (by omega), ?_, h.lo1, h.lo2⟩
  have b1 := keep_below hk (fun k hk' e => by have := hge k e; omega) h.bel.size (B := w.heap.size)
  have b2 := keep_below kS (fun k hk' e => by omega) (Nat.le_trans h.bel.size hk.size) (B := w.heap.size)
  exact (h.bel.trans b1).trans b2
theorem DqM.done (h : DqM w t a e b g m v acc W) (x0 x1 x2 x3 x4 x5 x6 x7 x8 x9 x10 x11 : Value) (W' : World) (hW : W' = ((((((((((((W.setCell ⟨w.heap.size, 0, none⟩ (x0)).setCell ⟨w.heap.size, 1, none⟩ (x1)).setCell ⟨w.heap.size, 2, none⟩ (x2)).setCell ⟨w.heap.size, 3, none⟩ (x3)).setCell ⟨w.heap.size, 4, none⟩ (x4)).setCell ⟨w.heap.size, 5, none⟩ (x5)).setCell ⟨w.heap.size, 6, none⟩ (x6)).setCell ⟨w.heap.size, 7, none⟩ (x7)).setCell ⟨w.heap.size, 8, none⟩ (x8)).setCell ⟨w.heap.size, 9, none⟩ (x9)).setCell ⟨w.heap.size, 10, none⟩ (x10)).setCell ⟨w.heap.size, 11, none⟩ (x11))) : RowIs W' w.heap.size [x0, x1, x2, x3, x4, x5, x6, x7, x8, x9, x10, x11] 32 ∧ Below w.heap.size w W' ∧ OwnQE W' w.heap.size v acc := by
  subst hW
  have f := twelve (x0 := x0) (x1 := x1) (x2 := x2) (x3 := x3) (x4 := x4) (x5 := x5) (x6 := x6) (x7 := x7) (x8 := x8) (x9 := x9) (x10 := x10) (x11 := x11) (by rfl) h.res
  have h1 := h.lo1
  have h2 := h.lo2
  exact ⟨f.1, h.bel.trans (keep_below f.2 (fun k hk e => by omega) h.bel.size), ownsRow_base (f.2.ownsRow h.own (fun j hj e => by have := ownsRow_ge h.own hj; omega)) (by omega)⟩
end
set_option maxRecDepth 100000 in
set_option maxHeartbeats 8000000 in
theorem qdecode_any (t : ByteArray) (w : World) (hs : t.size ≤ 140737488355328) : Calls Tryz.prog 10 #[.string t] w fun e w' => ∃ ad cap, e = .returned (.tuple #[msV (.slice ad (mdV t).es.length cap) (mdV t), .int .i64 (mdE t)]) ∧ OwnQE w' w.heap.size (.slice ad (mdV t).es.length cap) (mdV t).es ∧ Below w.heap.size w w' := by
  have hsm : t.size ≤ maxLen := by unfold maxLen; omega
  have RI : Hid (∀ (m a e : Int) (W : World), m ≤ 9223372036854775807 → Calls Tryz.prog 44 #[.agg #[.string t, .int .i64 a, .int .i64 e], .int .i64 m] W fun r w' => r = .returned (.tuple #[.agg #[.string t, .int .i64 (dcN t m a e).a, .int .i64 (dcN t m a e).e], .int .i64 ((dcN t m a e).n : Int)]) ∧ Below W.heap.size W w') := fun m a e W hm => ref_reader_int t a e m W hsm hm (nS_int t a e m hm)
  have RB : Hid (∀ (a e : Int) (W : World), Calls Tryz.prog 45 #[.agg #[.string t, .int .i64 a, .int .i64 e]] W fun r w' => r = .returned (.tuple #[.agg #[.string t, .int .i64 (dcF t a e).a, .int .i64 (dcF t a e).e], .bool (((dcF t a e).n : Int) == 1)]) ∧ Below W.heap.size W w') := fun a e W => ref_reader_bool t a e W hsm
  have RT : Hid (∀ (m a e : Int) (W : World), Calls Tryz.prog 46 #[.agg #[.string t, .int .i64 a, .int .i64 e], .int .i64 m] W fun r w' => r = .returned (.tuple #[.agg #[.string t, .int .i64 (tS t a e m).a, .int .i64 (tS t a e m).e], .string (tS t a e m).x]) ∧ Below W.heap.size W w') := fun m a e W => ref_reader_text t a e m W hs
  have RE := hid (fun a e W => ref_reader_end t a e W)
  have CK : Hid (∀ (v : Value) (m : Ms) W, EntI W v m.es → m.es.length ≤ 17592186044416 → Calls Tryz.prog 13 #[msV v m] W fun e w' => e = .returned (.bool (msOk m)) ∧ Below W.heap.size W w') := fun v m W hv hl => qcheck_any v m W hv hl
  have HVE : Hid (mdE t = (if mdOk t = true then 0 else 3) ∧ mdV t = (if mdOk t = true then (mdT t).m else ms0)) := ⟨rfl, rfl⟩
  have HOK : Hid (mdOk t = ((endE t (mdT t).a (mdT t).e == 0) && msOk (mdT t).m)) := rfl
  obtain ⟨P0, hP0⟩ : ∃ P, P = dcN t 1099511627776 0 0 := ⟨_, rfl⟩
  obtain ⟨P1, hP1⟩ : ∃ P, P = dcN t 1099511627776 P0.a P0.e := ⟨_, rfl⟩
  obtain ⟨P2, hP2⟩ : ∃ P, P = dcN t 1099511627776 P1.a P1.e := ⟨_, rfl⟩
  obtain ⟨P3, hP3⟩ : ∃ P, P = dcN t 1099511627776 P2.a P2.e := ⟨_, rfl⟩
  obtain ⟨P4, hP4⟩ : ∃ P, P = dcN t 1099511627776 P3.a P3.e := ⟨_, rfl⟩
  obtain ⟨P5, hP5⟩ : ∃ P, P = dcN t 1099511627776 P4.a P4.e := ⟨_, rfl⟩
  obtain ⟨P6, hP6⟩ : ∃ P, P = dcN t 1099511627776 P5.a P5.e := ⟨_, rfl⟩
  obtain ⟨P7, hP7⟩ : ∃ P, P = dcN t 1099511627776 P6.a P6.e := ⟨_, rfl⟩
  obtain ⟨P8, hP8⟩ : ∃ P, P = dcN t 1099511627776 P7.a P7.e := ⟨_, rfl⟩
  obtain ⟨Y, hY⟩ : ∃ Y, Y = dcF t P8.a P8.e := ⟨_, rfl⟩
  obtain ⟨C, hC⟩ : ∃ C, C = dcN t 16 Y.a Y.e := ⟨_, rfl⟩
  obtain ⟨L, hL⟩ : ∃ L, L = dcE t C.n C.a C.e := ⟨_, rfl⟩
  obtain ⟨X, hX⟩ : ∃ X, X = tS t L.a L.e 4096 := ⟨_, rfl⟩
  have HT := hid (mdT_eq t P0 P1 P2 P3 P4 P5 P6 P7 P8 Y C L X hP0 hP1 hP2 hP3 hP4 hP5 hP6 hP7 hP8 hY hC hL hX)
  have HP9 := hid (pN_nine t P0 P1 P2 P3 P4 P5 P6 P7 P8 hP0 hP1 hP2 hP3 hP4 hP5 hP6 hP7 hP8)
  have NY := hid (fun W => RB.out P8.a P8.e W)
  rw [← hY] at NY
  have NC := hid (fun W => RI.out 16 Y.a Y.e W (by omega))
  rw [← hC] at NC
  have HC16 : Hid (C.n ≤ 16) := by have := dcN_le t 16 Y.a Y.e (by omega); rw [← hC] at this; show _ ≤ _; omega
  have HL : Hid (L = dcE t (C.n - 0) C.a C.e) := hL
  have HXX : Hid (∀ (q : DeR), q = L → X = tS t q.a q.e 4096) := fun q hq => by rw [hq]; exact hX
  have NN : Hid (∀ (k : Nat) W, Calls Tryz.prog 44 #[.agg #[.string t, .int .i64 (pN t k).a, .int .i64 (pN t k).e], .int .i64 1099511627776] W fun r w' => r = .returned (.tuple #[.agg #[.string t, .int .i64 (pN t (k + 1)).a, .int .i64 (pN t (k + 1)).e], .int .i64 ((dcN t 1099511627776 (pN t k).a (pN t k).e).n : Int)]) ∧ Below W.heap.size W w') := fun k W => RI.out 1099511627776 _ _ W (by omega)
  have HNS : Hid (∀ k, k < 9 → (pNC t k).set k ((dcN t 1099511627776 (pN t k).a (pN t k).e).n : Int) = pNC t (k + 1)) := fun k h => pNC_set t k h
  have HNL : Hid (∀ k, k ≤ 9 → (pNC t k).length = 9) := fun k h => pNC_len t k h
  have D0 : Hid (DnS w t (pN t 0).a (pN t 0).e (pNC t 0) (((w.alloc (.cells #[.int .i64 0, .int .i64 0, .int .i64 0, .int .i64 0, .int .i64 0, .int .i64 0, .int .i64 0, .int .i64 0, .int .i64 0, .bool false, .slice none 0 0, .string ⟨#[]⟩] 32)).alloc (.cells #[.string t, .int .i64 0, .int .i64 0] 84)).alloc (.cells #[.int .i64 0, .int .i64 0, .int .i64 0, .int .i64 0, .int .i64 0, .int .i64 0, .int .i64 0, .int .i64 0, .int .i64 0] 70))) := by
    have r0 : RowIs (w.alloc (.cells #[.int .i64 0, .int .i64 0, .int .i64 0, .int .i64 0, .int .i64 0, .int .i64 0, .int .i64 0, .int .i64 0, .int .i64 0, .bool false, .slice none 0 0, .string ⟨#[]⟩] 32)) w.heap.size (msC (.slice none 0 0) ms0) 32 := srow w _ _
    have r1 : RowIs ((w.alloc (.cells #[.int .i64 0, .int .i64 0, .int .i64 0, .int .i64 0, .int .i64 0, .int .i64 0, .int .i64 0, .int .i64 0, .int .i64 0, .bool false, .slice none 0 0, .string ⟨#[]⟩] 32)).alloc (.cells #[.string t, .int .i64 0, .int .i64 0] 84)) (w.heap.size + 1) [.string t, .int .i64 0, .int .i64 0] 84 := by
      have := srow (w.alloc (.cells #[.int .i64 0, .int .i64 0, .int .i64 0, .int .i64 0, .int .i64 0, .int .i64 0, .int .i64 0, .int .i64 0, .int .i64 0, .bool false, .slice none 0 0, .string ⟨#[]⟩] 32)) [.string t, .int .i64 0, .int .i64 0] 84
      rwa [World.size_alloc] at this
    have r2 : RowIs (((w.alloc (.cells #[.int .i64 0, .int .i64 0, .int .i64 0, .int .i64 0, .int .i64 0, .int .i64 0, .int .i64 0, .int .i64 0, .int .i64 0, .bool false, .slice none 0 0, .string ⟨#[]⟩] 32)).alloc (.cells #[.string t, .int .i64 0, .int .i64 0] 84)).alloc (.cells #[.int .i64 0, .int .i64 0, .int .i64 0, .int .i64 0, .int .i64 0, .int .i64 0, .int .i64 0, .int .i64 0, .int .i64 0] 70)) (w.heap.size + 1 + 1) (isC (pNC t 0)) 70 := by
      have := srow ((w.alloc (.cells #[.int .i64 0, .int .i64 0, .int .i64 0, .int .i64 0, .int .i64 0, .int .i64 0, .int .i64 0, .int .i64 0, .int .i64 0, .bool false, .slice none 0 0, .string ⟨#[]⟩] 32)).alloc (.cells #[.string t, .int .i64 0, .int .i64 0] 84)) (isC (pNC t 0)) 70
      rw [World.size_alloc, World.size_alloc] at this
      exact this
    exact ⟨row_old r1 _, r2, row_old (row_old r0 _) _, below_al (below_al (below_al (Below.refl _ _) _) _) _⟩
  clear hs hsm hP0 hP1 hP2 hP3 hP4 hP5 hP6 hP7 hP8 hY hC hL hX RB
  obtain ⟨a0, e0, n0⟩ := P0
  obtain ⟨a1, e1, n1⟩ := P1
  obtain ⟨a2, e2, n2⟩ := P2
  obtain ⟨a3, e3, n3⟩ := P3
  obtain ⟨a4, e4, n4⟩ := P4
  obtain ⟨a5, e5, n5⟩ := P5
  obtain ⟨a6, e6, n6⟩ := P6
  obtain ⟨a7, e7, n7⟩ := P7
  obtain ⟨a8, e8, n8⟩ := P8
  obtain ⟨ya, ye, yn⟩ := Y
  obtain ⟨ca, ce, cn⟩ := C
  simp only at *
  generalize mdE t = DE at *
  generalize mdV t = DV at *
  generalize mdOk t = OK at *
  generalize mdT t = T at *
  generalize ((yn : Int) == 1) = ys at *
  go_enter Tryz.func10, Tryz.ntmps10
  go_wp2
  go_loopw [6] (fun i wr => ∃ (k : Nat), k ≤ 9 ∧ i = .int .i64 (k : Int) ∧ Hid (DnS w t (pN t k).a (pN t k).e (pNC t k) wr)) (fun i _ => 9 - (intOf i).toNat)
  case atStart => exact ⟨0, by omega, rfl, D0⟩
  case round =>
    clear D0
    obtain ⟨k, hk, rfl, HD⟩ := hrel
    by_cases hlt : k < 9
    · have r0 : (0 : Int) ≤ (k : Int) := by omega
      have r1 : (k : Int) < 9 := by omega
      have y0 := HD.out.rd.cellAt (o := 0) rfl
      have y1 := HD.out.rd.cellAt (o := 1) rfl
      have y2 := HD.out.rd.cellAt (o := 2) rfl
      have N1 := hid (fun W => NN.out k W)
      have HS := hid (HNS.out k hlt)
      have hkl : k < (isC (pNC t k)).length := by rw [isC_len, HNL.out k hk]; omega
      obtain ⟨u, hu⟩ : ∃ u, (isC (pNC t k))[k]? = some u := ⟨_, List.getElem?_eq_getElem hkl⟩
      have HU := hid hu
      clear NN HNS HNL HP9 NY NC HC16 HL HXX RI RT RE CK HVE HOK HT hkl hu
      generalize (dcN t 1099511627776 (pN t k).a (pN t k).e).n = x at *
      generalize hg1 : (pN t (k + 1)).a = a1 at *
      generalize hg2 : (pN t (k + 1)).e = e1 at *
      generalize hg3 : pNC t (k + 1) = N2 at *
      have HG1 := hid hg1
      have HG2 := hid hg2
      have HG3 := hid hg3
      clear hg1 hg2 hg3
      generalize pNC t k = N1' at *
      generalize (pN t k).a = a0' at *
      generalize (pN t k).e = e0' at *
      go_wp2_with fail
      refine (N1.out _).mono ?_
      rintro e w2 ⟨rfl, b2⟩
      have D1 := hid (HD.out.call (b2.trans ((below_al (Below.refl _ _) (.cells #[.string t, .int .i64 a1, .int .i64 e1] 84)).mono b2.size)))
      have q0 := (srow w2 [.string t, .int .i64 a1, .int .i64 e1] 84).cellAt (o := 0) rfl
      have q1 := (srow w2 [.string t, .int .i64 a1, .int .i64 e1] 84).cellAt (o := 1) rfl
      have q2 := (srow w2 [.string t, .int .i64 a1, .int .i64 e1] 84).cellAt (o := 2) rfl
      have z0 := D1.out.rd.cellAt (o := 0) rfl
      have z1 := D1.out.rd.cellAt (o := 1) rfl
      have z2 := D1.out.rd.cellAt (o := 2) rfl
      have f0 := D1.out.rd.frozen (o := 0)
      have f1 := D1.out.rd.frozen (o := 1)
      have f2 := D1.out.rd.frozen (o := 2)
      have D2 := hid (D1.out.put a1 e1)
      have zk := D2.out.nq.cellAt HU.out
      have fk := D2.out.nq.frozen (o := k)
      have D3 := hid (D2.out.num k (x : Int))
      rw [HS.out] at D3
      clear N1 b2 HD D1 D2 y0 y1 y2 HU HS
      go_wp2
      exact ⟨⟨k + 1, by omega, by go_num, by rw [HG1.out, HG2.out, HG3.out]; exact D3⟩, by simp [intOf]; omega⟩
    · have hk9 : k = 9 := by omega
      subst hk9
      obtain ⟨h9a, h9e, h9l⟩ := HP9.out
      have D9 : Hid (DnS w t a8 e8 [(n0 : Int), n1, n2, n3, n4, n5, n6, n7, n8] wr) := by have := HD.out; rw [h9a, h9e, h9l] at this; exact this
      clear NN HNS HNL HP9 h9a h9e h9l HD hk hlt
      have q0' := D9.out.nq.cellAt (o := 0) rfl
      have q1' := D9.out.nq.cellAt (o := 1) rfl
      have q2' := D9.out.nq.cellAt (o := 2) rfl
      have q3' := D9.out.nq.cellAt (o := 3) rfl
      have q4' := D9.out.nq.cellAt (o := 4) rfl
      have q5' := D9.out.nq.cellAt (o := 5) rfl
      have q6' := D9.out.nq.cellAt (o := 6) rfl
      have q7' := D9.out.nq.cellAt (o := 7) rfl
      have q8' := D9.out.nq.cellAt (o := 8) rfl
      have y0 := D9.out.rd.cellAt (o := 0) rfl
      have y1 := D9.out.rd.cellAt (o := 1) rfl
      have y2 := D9.out.rd.cellAt (o := 2) rfl
      obtain ⟨b, hb⟩ : ∃ b, b = wr.heap.size := ⟨_, rfl⟩
      have R1 : Hid (RowIs (wr.alloc (.cells #[.int .i64 n0, .int .i64 n1, .int .i64 n2, .int .i64 n3, .int .i64 n4, .int .i64 n5, .int .i64 n6, .int .i64 n7, .int .i64 n8, .bool false, .slice none 0 0, .string ⟨#[]⟩] 32)) b (msC (.slice none 0 0) ⟨n0, n1, n2, n3, n4, n5, n6, n7, n8, false, [], ⟨#[]⟩⟩) 32) := by rw [hb]; exact srow wr _ _
      have D10 : Hid (DnS w t a8 e8 [(n0 : Int), n1, n2, n3, n4, n5, n6, n7, n8] (wr.alloc (.cells #[.int .i64 n0, .int .i64 n1, .int .i64 n2, .int .i64 n3, .int .i64 n4, .int .i64 n5, .int .i64 n6, .int .i64 n7, .int .i64 n8, .bool false, .slice none 0 0, .string ⟨#[]⟩] 32))) := D9.out.call (below_al (Below.refl _ _) _)
      have HBL : Hid (w.heap.size < b) := by show _ < _; rw [hb]; exact Nat.lt_of_le_of_lt (Nat.le_add_right _ 1) D9.out.rd.lt
      have x0 := D10.out.rd.cellAt (o := 0) rfl
      have x1 := D10.out.rd.cellAt (o := 1) rfl
      have x2 := D10.out.rd.cellAt (o := 2) rfl
      have NY2 := hid (NY.out (wr.alloc (.cells #[.int .i64 n0, .int .i64 n1, .int .i64 n2, .int .i64 n3, .int .i64 n4, .int .i64 n5, .int .i64 n6, .int .i64 n7, .int .i64 n8, .bool false, .slice none 0 0, .string ⟨#[]⟩] 32)))
      clear NY D9
      go_wp2_with fail
      rw [← hb]
      clear hb
      refine NY2.out.mono ?_
      rintro e w4 ⟨rfl, b4⟩
      have b4' := b4.trans ((below_al (Below.refl _ _) (.cells #[.string t, .int .i64 ya, .int .i64 ye] 84)).mono b4.size)
      have R4 := hid (R1.out.keep (b4'.keep (fun _ => False)) (fun h => h))
      have D4 := hid (D10.out.call b4')
      have q0 := (srow w4 [.string t, .int .i64 ya, .int .i64 ye] 84).cellAt (o := 0) rfl
      have q1 := (srow w4 [.string t, .int .i64 ya, .int .i64 ye] 84).cellAt (o := 1) rfl
      have q2 := (srow w4 [.string t, .int .i64 ya, .int .i64 ye] 84).cellAt (o := 2) rfl
      have z9 := R4.out.cellAt (o := 9) rfl
      have f9 := R4.out.frozen (o := 9)
      have HNE : Hid (b < w4.heap.size) := by have := R1.out.lt; exact Nat.lt_of_lt_of_le this b4.size
      have hne := Nat.ne_of_lt HNE.out
      have hne2 := fun e : w4.heap.size = b => hne e.symm
      have kS := keep_setCell (w4.alloc (.cells #[.string t, .int .i64 ya, .int .i64 ye] 84)) b 9 (.bool ys)
      have R5 : Hid (RowIs ((w4.alloc (.cells #[.string t, .int .i64 ya, .int .i64 ye] 84)).setCell ⟨b, 9, none⟩ (.bool ys)) b (msC (.slice none 0 0) ⟨n0, n1, n2, n3, n4, n5, n6, n7, n8, ys, [], ⟨#[]⟩⟩) 32) := R4.out.set 9 _
      have RR5 : Hid (RowIs ((w4.alloc (.cells #[.string t, .int .i64 ya, .int .i64 ye] 84)).setCell ⟨b, 9, none⟩ (.bool ys)) w.heap.size (msC (.slice none 0 0) ms0) 32) := D4.out.res.keep kS (by have := HBL.out; omega)
      have BB5 : Hid (Below w.heap.size w ((w4.alloc (.cells #[.string t, .int .i64 ya, .int .i64 ye] 84)).setCell ⟨b, 9, none⟩ (.bool ys))) := D4.out.bel.trans (keep_below kS (fun j hj e => by have := HBL.out; omega) D4.out.bel.size)
      have RK5 : RowIs ((w4.alloc (.cells #[.string t, .int .i64 ya, .int .i64 ye] 84)).setCell ⟨b, 9, none⟩ (.bool ys)) w4.heap.size [.string t, .int .i64 ya, .int .i64 ye] 84 := (srow w4 [.string t, .int .i64 ya, .int .i64 ye] 84).keep kS (fun e => hne e.symm)
      have v0 := RK5.cellAt (o := 0) rfl
      have v1 := RK5.cellAt (o := 1) rfl
      have v2 := RK5.cellAt (o := 2) rfl
      have HBW5 : Hid (b < ((w4.alloc (.cells #[.string t, .int .i64 ya, .int .i64 ye] 84)).setCell ⟨b, 9, none⟩ (.bool ys)).heap.size) := R5.out.lt
      have NC2 := hid (NC.out ((w4.alloc (.cells #[.string t, .int .i64 ya, .int .i64 ye] 84)).setCell ⟨b, 9, none⟩ (.bool ys)))
      clear NC NY2 b4 b4' D4 R4 R1 D10 kS RK5 x0 x1 x2
      go_wp2_with fail
      refine NC2.out.mono ?_
      rintro e w6 ⟨rfl, b6⟩
      obtain ⟨g, hg⟩ : ∃ g, g = w6.heap.size := ⟨_, rfl⟩
      have S0 : Hid (DqM w t ca ce b g ⟨n0, n1, n2, n3, n4, n5, n6, n7, n8, ys, [], ⟨#[]⟩⟩ (.slice none 0 0) [] (w6.alloc (.cells #[.string t, .int .i64 ca, .int .i64 ce] 84))) := by
        subst hg
        exact ⟨srow w6 _ _, row_old (R5.out.keep (b6.keep (fun _ => False)) (fun h => h)) _, ⟨rfl, .inl ⟨rfl, rfl⟩⟩, row_old (RR5.out.keep (b6.keep (fun _ => False)) (fun h => h)) _, below_al (below_on BB5.out b6) _, HBL.out, Nat.lt_of_lt_of_le HBW5.out b6.size⟩
      clear NC2 b6 R5 RR5 BB5 v0 v1 v2 z9 f9 q0 q1 q2 y0 y1 y2 q0' q1' q2' q3' q4' q5' q6' q7' q8' HBW5 HNE hne hne2 HBL
      have HGG := hid hg
      clear hg
      go_wp2
      rw [← HGG.out]
      clear HGG
      go_loopw [14] (fun i wr => ∃ (k : Nat) (acc : List En) (ad : Option Addr) (cap : Nat) (a e : Int), k ≤ cn ∧ i = .int .i64 (k : Int) ∧ Hid (acc.length = k) ∧ Hid (DqM w t a e b g ⟨n0, n1, n2, n3, n4, n5, n6, n7, n8, ys, [], ⟨#[]⟩⟩ (.slice ad acc.length cap) acc wr) ∧ Hid (L = ⟨(dcE t (cn - k) a e).a, (dcE t (cn - k) a e).e, acc ++ (dcE t (cn - k) a e).l⟩)) (fun i _ => cn - (intOf i).toNat)
      case atStart => exact ⟨0, [], none, 0, ca, ce, Nat.zero_le _, rfl, rfl, S0, HL⟩
      case round =>
        clear S0 HL
        obtain ⟨k, acc, ad, cap, a, e, hk, rfl, HA, HS, HL⟩ := hrel
        have y0 := HS.out.rd.cellAt (o := 0) rfl
        have y1 := HS.out.rd.cellAt (o := 1) rfl
        have y2 := HS.out.rd.cellAt (o := 2) rfl
        by_cases hlt : k < cn
        · have hk1 : (k : Int) < (cn : Int) := by omega
          have hk16 : k < 16 := by have := HC16.out; omega
          have HK16 := hid hk16
          obtain ⟨Q1, hQ1⟩ : ∃ Q, Q = dcN t 1099511627776 a e := ⟨_, rfl⟩
          obtain ⟨Q2, hQ2⟩ : ∃ Q, Q = dcN t 255 Q1.a Q1.e := ⟨_, rfl⟩
          obtain ⟨Q3, hQ3⟩ : ∃ Q, Q = tS t Q2.a Q2.e 65536 := ⟨_, rfl⟩
          have HL2 : Hid (L = ⟨(dcE t (cn - (k + 1)) Q3.a Q3.e).a, (dcE t (cn - (k + 1)) Q3.a Q3.e).e, (acc ++ [⟨(Q1.n : Int), (Q2.n : Int), Q3.x⟩]) ++ (dcE t (cn - (k + 1)) Q3.a Q3.e).l⟩) := by
            show _ = _
            rw [HL.out, show cn - k = (cn - (k + 1)) + 1 by omega]
            subst hQ3 hQ2 hQ1
            simp only [dcE, List.append_assoc, List.singleton_append]
          have C1 := hid (fun W => RI.out 1099511627776 a e W (by omega))
          have C2 := hid (fun W => RI.out 255 Q1.a Q1.e W (by omega))
          have C3 := hid (fun W => RT.out 65536 Q2.a Q2.e W)
          rw [← hQ1] at C1
          rw [← hQ2] at C2
          rw [← hQ3] at C3
          clear hQ1 hQ2 hQ3
          obtain ⟨a1, e1, q1⟩ := Q1
          obtain ⟨a2, e2, q2⟩ := Q2
          obtain ⟨a3, e3, q3⟩ := Q3
          simp only at *
          have HA2 : Hid ((acc ++ [(⟨(q1 : Int), (q2 : Int), q3⟩ : En)]).length = k + 1) := by show _ = _; simp; exact HA.out
          have HL3 : Hid (acc.length + 1 ≤ 70368744177) := by have := HA.out; have := HK16.out; show _ ≤ _; omega
          have HB3 : Hid ((acc.length + 1) * 32 ≤ 140737488355328) := by have := HA.out; have := HK16.out; show _ ≤ _; omega
          have HO3 : Hid (∀ u ∈ enC ⟨(q1 : Int), (q2 : Int), q3⟩, u.oneCell' = true) := enC_cell1 _
          have HLT := hid hlt
          have hwk : wrap64 ((k : Int) + 1) = ((k + 1 : Nat) : Int) := by rw [IntWalk.wrap64_in _ (by omega)]; omega
          clear HL HA RE CK HT HOK HVE RI RT HC16 HXX hk16 hk hlt
          go_wp2_with fail
          refine (C1.out _).mono ?_
          rintro e' u1 ⟨rfl, b1⟩
          have T1 := hid ((HS.out.call b1).al (.cells #[.string t, .int .i64 a1, .int .i64 e1] 84))
          have p0 := (srow u1 [.string t, .int .i64 a1, .int .i64 e1] 84).cellAt (o := 0) rfl
          have p1 := (srow u1 [.string t, .int .i64 a1, .int .i64 e1] 84).cellAt (o := 1) rfl
          have p2 := (srow u1 [.string t, .int .i64 a1, .int .i64 e1] 84).cellAt (o := 2) rfl
          clear C1 b1 HS y0 y1 y2
          go_wp2_with fail
          refine (C2.out _).mono ?_
          rintro e' u2 ⟨rfl, b2⟩
          have T2 := hid ((T1.out.call b2).al (.cells #[.string t, .int .i64 a2, .int .i64 e2] 84))
          have r0 := (srow u2 [.string t, .int .i64 a2, .int .i64 e2] 84).cellAt (o := 0) rfl
          have r1 := (srow u2 [.string t, .int .i64 a2, .int .i64 e2] 84).cellAt (o := 1) rfl
          have r2 := (srow u2 [.string t, .int .i64 a2, .int .i64 e2] 84).cellAt (o := 2) rfl
          clear C2 b2 T1 p0 p1 p2
          go_wp2_with fail
          refine (C3.out _).mono ?_
          rintro e' u3 ⟨rfl, b3⟩
          have T3 := hid ((T2.out.call b3).al (.cells #[.string t, .int .i64 a3, .int .i64 e3] 84))
          have s0 := (srow u3 [.string t, .int .i64 a3, .int .i64 e3] 84).cellAt (o := 0) rfl
          have s1 := (srow u3 [.string t, .int .i64 a3, .int .i64 e3] 84).cellAt (o := 1) rfl
          have s2 := (srow u3 [.string t, .int .i64 a3, .int .i64 e3] 84).cellAt (o := 2) rfl
          have z0 := T3.out.rd.cellAt (o := 0) rfl
          have z1 := T3.out.rd.cellAt (o := 1) rfl
          have z2 := T3.out.rd.cellAt (o := 2) rfl
          have f0 := T3.out.rd.frozen (o := 0)
          have f1 := T3.out.rd.frozen (o := 1)
          have f2 := T3.out.rd.frozen (o := 2)
          have T4 := hid (T3.out.rput a3 e3)
          have y10 := T3.out.box.cellAt (o := 10) rfl
          have hbg : ¬ b = g := Nat.ne_of_lt T3.out.lo2
          have hbg2 : ¬ g = b := fun e => hbg e.symm
          have T5 := hid (T4.out.al (.cells #[.int .i64 (q1 : Int), .int .i64 (q2 : Int), .string q3] 78))
          clear C3 b3 T2 r0 r1 r2
          have HGX : Hid (GSrc (((((u3.alloc (.cells #[.string t, .int .i64 a3, .int .i64 e3] 84)).setCell ⟨g, 0, none⟩ (.string t)).setCell ⟨g, 1, none⟩ (.int .i64 a3)).setCell ⟨g, 2, none⟩ (.int .i64 e3)).alloc (.cells #[.int .i64 (q1 : Int), .int .i64 (q2 : Int), .string q3] 78)) (.slice (some ⟨u3.heap.size + 1, 0, none⟩) 1 1) 1 (enC ⟨(q1 : Int), (q2 : Int), q3⟩)) := by
            have h := heap_alloc_new ((((u3.alloc (.cells #[.string t, .int .i64 a3, .int .i64 e3] 84)).setCell ⟨g, 0, none⟩ (.string t)).setCell ⟨g, 1, none⟩ (.int .i64 a3)).setCell ⟨g, 2, none⟩ (.int .i64 e3)) (.cells #[.int .i64 (q1 : Int), .int .i64 (q2 : Int), .string q3] 78)
            rw [show ((((u3.alloc (.cells #[.string t, .int .i64 a3, .int .i64 e3] 84)).setCell ⟨g, 0, none⟩ (.string t)).setCell ⟨g, 1, none⟩ (.int .i64 a3)).setCell ⟨g, 2, none⟩ (.int .i64 e3)).heap.size = u3.heap.size + 1 by simp [World.setCell]] at h
            exact gsrc_block h
          have FIN : Hid (∀ v' w4, w4.ownsRow (g + 1) 78 3 v' (acc.length + 1) (ensC acc ++ enC ⟨(q1 : Int), (q2 : Int), q3⟩) → Keep (fun k => (Value.slice ad acc.length cap).ownBlock = some k) (((((u3.alloc (.cells #[.string t, .int .i64 a3, .int .i64 e3] 84)).setCell ⟨g, 0, none⟩ (.string t)).setCell ⟨g, 1, none⟩ (.int .i64 a3)).setCell ⟨g, 2, none⟩ (.int .i64 e3)).alloc (.cells #[.int .i64 (q1 : Int), .int .i64 (q2 : Int), .string q3] 78)) w4 → w4.cell? ⟨b, 10, none⟩ = some (.slice ad acc.length cap) ∧ w4.frozen? ⟨b, 10, none⟩ = false ∧ Hid (DqM w t a3 e3 b g ⟨n0, n1, n2, n3, n4, n5, n6, n7, n8, ys, [], ⟨#[]⟩⟩ v' (acc ++ [(⟨(q1 : Int), (q2 : Int), q3⟩ : En)]) (w4.setCell ⟨b, 10, none⟩ v'))) := fun v' w4 ho4 hk4 => by
            have ho5 : OwnQE w4 (g + 1) v' (acc ++ [(⟨(q1 : Int), (q2 : Int), q3⟩ : En)]) := by unfold OwnQE; rw [ensC_snoc, List.length_append]; exact ho4
            have rb5 := T5.out.box.keep hk4 (fun e => by have := ownsRow_ge T5.out.own e; have := T5.out.lo2; omega)
            exact ⟨rb5.cellAt rfl, rb5.frozen, T5.out.app ho5 hk4⟩
          go_wp2_with (at_builtin; refine wpl_gapp rfl _ _ elQE (by rfl) (g + 1) (.slice ad acc.length cap) (.slice (some ⟨u3.heap.size + 1, 0, none⟩) 1 1) (ensC acc) (enC ⟨(q1 : Int), (q2 : Int), q3⟩) acc.length 1 (acc.length + 1) rfl (by rfl) (by rfl) T5.out.own T5.out.lt HGX.out rfl HO3.out HL3.out HB3.out ?_; intro ad' cap' w4 ho4 hk4; obtain ⟨yb5, fb5, T6⟩ := FIN.out _ _ ho4 hk4; clear ho4 hk4 FIN T5 T4 T3 y10 HGX s0 s1 s2 z0 z1 z2 f0 f1 f2)
          exact ⟨⟨k + 1, _, ad', cap', a3, e3, HLT.out, by first | rw [hwk] | rfl | simp, HA2, by rw [List.length_append]; exact T6, HL2⟩, by (try rw [hwk]); have := HLT.out; simp [intOf]; omega⟩
        · have hk9 : k = cn := by omega
          have hdl : decide ((k : Int) < (cn : Int)) = false := decide_eq_false (by omega)
          have hdl2 : decide (k < cn) = false := decide_eq_false (by omega)
          have HL2 : Hid ((⟨a, e, acc⟩ : DeR) = L) := by show _ = _; rw [HL.out, hk9, Nat.sub_self]; simp [dcE]
          have hX := HXX.out _ HL2.out
          have hl := HL2.out
          subst hl
          have HAL : Hid (acc.length ≤ 17592186044416) := by have := HA.out; have := HC16.out; show _ ≤ _; omega
          have NX := hid (fun W => RT.out 4096 a e W)
          rw [← hX] at NX
          obtain ⟨xa, xe, xx⟩ := X
          simp only at *
          clear HL HL2 HA HXX RI RT HC16 hlt hk hk9 hX
          go_wp2_with fail
          refine (NX.out _).mono ?_
          rintro e' w5 ⟨rfl, b5⟩
          have H5 := hid ((HS.out.call b5).al (.cells #[.string t, .int .i64 xa, .int .i64 xe] 84))
          have p0 := (srow w5 [.string t, .int .i64 xa, .int .i64 xe] 84).cellAt (o := 0) rfl
          have p1 := (srow w5 [.string t, .int .i64 xa, .int .i64 xe] 84).cellAt (o := 1) rfl
          have p2 := (srow w5 [.string t, .int .i64 xa, .int .i64 xe] 84).cellAt (o := 2) rfl
          have z11 := H5.out.box.cellAt (o := 11) rfl
          have f11 := H5.out.box.frozen (o := 11)
          have HNE : Hid (b < w5.heap.size) := by have h1 := (HS.out.call b5).lt; have h2 := HS.out.lo2; show _ < _; omega
          have hne := Nat.ne_of_lt HNE.out
          have hne2 := fun e : w5.heap.size = b => hne e.symm
          have H6 := hid (H5.out.put (m' := ⟨n0, n1, n2, n3, n4, n5, n6, n7, n8, ys, [], xx⟩) 11 (.string xx) rfl)
          have R7 := hid (fun W => RE.out xa xe W)
          clear NX b5 HS RE y0 y1 y2 H5 HNE
          go_wp2_with fail
          refine (R7.out _).mono ?_
          rintro e' w6 ⟨rfl, b6⟩
          have H7 := hid (H6.out.call b6)
          clear b6 R7 H6 z11 f11 p0 p1 p2 hne hne2
          have HOK2 : Hid (OK = ((endE t xa xe == 0) && msOk ⟨n0, n1, n2, n3, n4, n5, n6, n7, n8, ys, acc, xx⟩)) := by show _ = _; rw [HOK.out, HT.out]
          have HVE2 : Hid (DE = (if OK = true then 0 else 3) ∧ DV = (if OK = true then (⟨n0, n1, n2, n3, n4, n5, n6, n7, n8, ys, acc, xx⟩ : Ms) else ms0)) := by
            have := HVE.out
            rw [HT.out] at this
            exact this
          clear HOK HVE HT hdl hdl2
          generalize endE t xa xe = E at *
          have hfd : ∀ W, (Instr.field 84 (.agg #[.string t, .int .i64 xa, .int .i64 E]) 2).run Tryz.prog W = .ok (.int .i64 E) W := fun W => by kernel_rfl
          by_cases hE : E = 0
          · subst hE
            have C7 := hid (CK.out (.slice ad acc.length cap) ⟨n0, n1, n2, n3, n4, n5, n6, n7, n8, ys, acc, xx⟩ w6 H7.out.own.ents HAL.out)
            generalize msOk ⟨n0, n1, n2, n3, n4, n5, n6, n7, n8, ys, acc, xx⟩ = CB at *
            unfold msV at C7
            simp only at C7
            have y0 := H7.out.box.cellAt (o := 0) rfl
            have y1 := H7.out.box.cellAt (o := 1) rfl
            have y2 := H7.out.box.cellAt (o := 2) rfl
            have y3 := H7.out.box.cellAt (o := 3) rfl
            have y4 := H7.out.box.cellAt (o := 4) rfl
            have y5 := H7.out.box.cellAt (o := 5) rfl
            have y6 := H7.out.box.cellAt (o := 6) rfl
            have y7 := H7.out.box.cellAt (o := 7) rfl
            have y8 := H7.out.box.cellAt (o := 8) rfl
            have y9 := H7.out.box.cellAt (o := 9) rfl
            have y10 := H7.out.box.cellAt (o := 10) rfl
            have y11 := H7.out.box.cellAt (o := 11) rfl
            clear CK
            go_wp2_with fail
            refine C7.out.mono ?_
            rintro e' w7 ⟨rfl, b7⟩
            have H8 := hid (H7.out.call b7)
            clear C7 b7 y0 y1 y2 y3 y4 y5 y6 y7 y8 y9 y10 y11 H7
            have y0 := H8.out.box.cellAt (o := 0) rfl
            have y1 := H8.out.box.cellAt (o := 1) rfl
            have y2 := H8.out.box.cellAt (o := 2) rfl
            have y3 := H8.out.box.cellAt (o := 3) rfl
            have y4 := H8.out.box.cellAt (o := 4) rfl
            have y5 := H8.out.box.cellAt (o := 5) rfl
            have y6 := H8.out.box.cellAt (o := 6) rfl
            have y7 := H8.out.box.cellAt (o := 7) rfl
            have y8 := H8.out.box.cellAt (o := 8) rfl
            have y9 := H8.out.box.cellAt (o := 9) rfl
            have y10 := H8.out.box.cellAt (o := 10) rfl
            have y11 := H8.out.box.cellAt (o := 11) rfl
            have r0 := H8.out.res.cellAt (o := 0) rfl
            have s0 := H8.out.res.frozen (o := 0)
            have r1 := H8.out.res.cellAt (o := 1) rfl
            have s1 := H8.out.res.frozen (o := 1)
            have r2 := H8.out.res.cellAt (o := 2) rfl
            have s2 := H8.out.res.frozen (o := 2)
            have r3 := H8.out.res.cellAt (o := 3) rfl
            have s3 := H8.out.res.frozen (o := 3)
            have r4 := H8.out.res.cellAt (o := 4) rfl
            have s4 := H8.out.res.frozen (o := 4)
            have r5 := H8.out.res.cellAt (o := 5) rfl
            have s5 := H8.out.res.frozen (o := 5)
            have r6 := H8.out.res.cellAt (o := 6) rfl
            have s6 := H8.out.res.frozen (o := 6)
            have r7 := H8.out.res.cellAt (o := 7) rfl
            have s7 := H8.out.res.frozen (o := 7)
            have r8 := H8.out.res.cellAt (o := 8) rfl
            have s8 := H8.out.res.frozen (o := 8)
            have r9 := H8.out.res.cellAt (o := 9) rfl
            have s9 := H8.out.res.frozen (o := 9)
            have r10 := H8.out.res.cellAt (o := 10) rfl
            have s10 := H8.out.res.frozen (o := 10)
            have r11 := H8.out.res.cellAt (o := 11) rfl
            have s11 := H8.out.res.frozen (o := 11)
            cases CB
            · have hO : OK = false := by rw [HOK2.out]; simp
              subst hO
              obtain ⟨d1, d2⟩ := HVE2.out
              rw [if_neg (by simp)] at d1 d2
              have HD : Hid (DE = 3 ∧ DV = ms0) := ⟨d1, d2⟩
              clear d1 d2 HVE2 HOK2
              go_wp2
              obtain ⟨g1, g2, g3⟩ := H8.out.done (.int .i64 0) (.int .i64 0) (.int .i64 0) (.int .i64 0) (.int .i64 0) (.int .i64 0) (.int .i64 0) (.int .i64 0) (.int .i64 0) (.bool false) (.slice none 0 0) (.string ⟨#[]⟩) _ rfl
              refine bodyPost_ret (v := .tuple #[.agg #[.int .i64 0, .int .i64 0, .int .i64 0, .int .i64 0, .int .i64 0, .int .i64 0, .int .i64 0, .int .i64 0, .int .i64 0, .bool false, .slice none 0 0, .string ⟨#[]⟩], .int .i64 3]) (ret_ctM (p := 2) (u := 3) rfl _ _ w.heap.size _ _ rfl rfl (run_loadVar_row _ _ _ _ _ _ _ g1 Tryz.underlying32 rfl (by kernel_rfl))) rfl ?_
              rw [HD.out.1, HD.out.2]
              exact ⟨none, 0, rfl, ⟨rfl, .inl ⟨rfl, rfl⟩⟩, g2⟩
            · have hO : OK = true := by rw [HOK2.out]; rfl
              subst hO
              obtain ⟨d1, d2⟩ := HVE2.out
              rw [if_pos rfl] at d1 d2
              have HD : Hid (DE = 0 ∧ DV = ⟨n0, n1, n2, n3, n4, n5, n6, n7, n8, ys, acc, xx⟩) := ⟨d1, d2⟩
              clear d1 d2 HVE2 HOK2
              go_wp2
              obtain ⟨g1, g2, g3⟩ := H8.out.done (.int .i64 n0) (.int .i64 n1) (.int .i64 n2) (.int .i64 n3) (.int .i64 n4) (.int .i64 n5) (.int .i64 n6) (.int .i64 n7) (.int .i64 n8) (.bool ys) (.slice ad acc.length cap) (.string xx) _ rfl
              refine bodyPost_ret (v := .tuple #[.agg #[.int .i64 n0, .int .i64 n1, .int .i64 n2, .int .i64 n3, .int .i64 n4, .int .i64 n5, .int .i64 n6, .int .i64 n7, .int .i64 n8, .bool ys, .slice ad acc.length cap, .string xx], .int .i64 0]) (ret_ctM (p := 2) (u := 3) rfl _ _ w.heap.size _ _ rfl rfl (run_loadVar_row _ _ _ _ _ _ _ g1 Tryz.underlying32 rfl (by kernel_rfl))) rfl ?_
              rw [HD.out.1, HD.out.2]
              exact ⟨ad, cap, rfl, g3, g2⟩
          · have hO : OK = false := by rw [HOK2.out, beq_eq_false_iff_ne.2 hE]; rfl
            subst hO
            obtain ⟨d1, d2⟩ := HVE2.out
            rw [if_neg (by simp)] at d1 d2
            have HD : Hid (DE = 3 ∧ DV = ms0) := ⟨d1, d2⟩
            have hEb : (E != 0) = true := bne_iff_ne.2 hE
            have hEb2 : (E == 0) = false := beq_eq_false_iff_ne.2 hE
            have hEd : decide (E = 0) = false := decide_eq_false hE
            clear d1 d2 HVE2 HOK2
            have H8 := H7
            clear H7 CK
            have r0 := H8.out.res.cellAt (o := 0) rfl
            have s0 := H8.out.res.frozen (o := 0)
            have r1 := H8.out.res.cellAt (o := 1) rfl
            have s1 := H8.out.res.frozen (o := 1)
            have r2 := H8.out.res.cellAt (o := 2) rfl
            have s2 := H8.out.res.frozen (o := 2)
            have r3 := H8.out.res.cellAt (o := 3) rfl
            have s3 := H8.out.res.frozen (o := 3)
            have r4 := H8.out.res.cellAt (o := 4) rfl
            have s4 := H8.out.res.frozen (o := 4)
            have r5 := H8.out.res.cellAt (o := 5) rfl
            have s5 := H8.out.res.frozen (o := 5)
            have r6 := H8.out.res.cellAt (o := 6) rfl
            have s6 := H8.out.res.frozen (o := 6)
            have r7 := H8.out.res.cellAt (o := 7) rfl
            have s7 := H8.out.res.frozen (o := 7)
            have r8 := H8.out.res.cellAt (o := 8) rfl
            have s8 := H8.out.res.frozen (o := 8)
            have r9 := H8.out.res.cellAt (o := 9) rfl
            have s9 := H8.out.res.frozen (o := 9)
            have r10 := H8.out.res.cellAt (o := 10) rfl
            have s10 := H8.out.res.frozen (o := 10)
            have r11 := H8.out.res.cellAt (o := 11) rfl
            have s11 := H8.out.res.frozen (o := 11)
            go_wp2
            obtain ⟨g1, g2, g3⟩ := H8.out.done (.int .i64 0) (.int .i64 0) (.int .i64 0) (.int .i64 0) (.int .i64 0) (.int .i64 0) (.int .i64 0) (.int .i64 0) (.int .i64 0) (.bool false) (.slice none 0 0) (.string ⟨#[]⟩) _ rfl
            refine bodyPost_ret (v := .tuple #[.agg #[.int .i64 0, .int .i64 0, .int .i64 0, .int .i64 0, .int .i64 0, .int .i64 0, .int .i64 0, .int .i64 0, .int .i64 0, .bool false, .slice none 0 0, .string ⟨#[]⟩], .int .i64 3]) (ret_ctM (p := 2) (u := 3) rfl _ _ w.heap.size _ _ rfl rfl (run_loadVar_row _ _ _ _ _ _ _ g1 Tryz.underlying32 rfl (by kernel_rfl))) rfl ?_
            rw [HD.out.1, HD.out.2]
            exact ⟨none, 0, rfl, ⟨rfl, .inl ⟨rfl, rfl⟩⟩, g2⟩
end Go.Proofs.YtlkidnfgodficaaGreat
