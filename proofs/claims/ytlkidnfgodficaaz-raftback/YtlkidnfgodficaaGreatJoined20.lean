/- Joined: The message that a text says: the program's walk. A message: its numbers, and whether it may be: the document's walks. The message that a text says: the document's walk. Small calls on a node. A node whose fields are written: to wait, to follow, to rise, to vote. A node: to follow, to rise, to vote; who is a member; whether an entry is there and of a term. A node: whether those of whom a closure says so are a majority. A node: to meet another node; whether an index is of a term; whether it is chosen. A node: whether it is chosen; an entry laid behind its log. -/
import Derived.Test.YtlkidnfgodficaaGreatJoined19
import Derived.Test.YtlkidnfgodficaaGreatJoined09
import Derived.Test.YtlkidnfgodficaaGreatJoined07
import Derived.Test.YtlkidnfgodficaaGreatJoined04
import Derived.Laws.ResultCell
import Derived.Test.YtlkidnfgodficaaGreatJoined08
import Derived.Test.YtlkidnfgodficaaGreatJoined11
import Derived.BigQuiet
import Derived.Test.YtlkidnfgodficaaGreatGApR
namespace Go.Proofs.YtlkidnfgodficaaGreat
open Go.RowKit Go.Maps
set_option linter.unusedVariables false
set_option linter.unusedSimpArgs false

/-- a reader, and a pointer to it in a box at p -/
structure DpS (w : World) (s : ByteArray) (a e : Int) (p : Nat) (W : World) : Prop where
  rd : RdAt W (w.heap.size + 1) s a e
  pb : RowIs W p [.pointer (some ⟨w.heap.size + 1, 0, none⟩)] 79
  res : RowIs W w.heap.size (msC (.slice none 0 0) ms0) 24
  bel : Below w.heap.size w W
  low : w.heap.size + 2 ≤ p
section
variable {w W W' : World} {s : ByteArray} {a e a' e' : Int} {p b : Nat}
theorem DpS.read (h : DpS w s a e p W) (hr : RdAt W' (w.heap.size + 1) s a' e') (ho : Only (w.heap.size + 1) W W') : DpS w s a' e' p W' :=
  ⟨hr, h.pb.keep ho.keep (by have := h.low; omega), h.res.keep ho.keep (by omega), h.bel.trans (ho.below (by omega) h.bel.size), h.low⟩
theorem DpS.call (h : DpS w s a e p W) (hb : Below W.heap.size W W') : DpS w s a e p W' :=
  ⟨h.rd.keeps hb, h.pb.keep (hb.keep (fun _ => False)) (fun h => h), h.res.keep (hb.keep (fun _ => False)) (fun h => h), h.bel.trans (hb.mono h.bel.size), h.low⟩
theorem DpS.drew (h : DpS w s a e p W) : DpS w s a e p W.drew := h.call (Below.refl _ _).drew
end
/-- a message in a box behind it, and its entries behind that -/
structure DmS (w : World) (s : ByteArray) (a e : Int) (p b : Nat) (m : Ms) (v : Value) (acc : List En) (W : World) : Prop where
  dp : DpS w s a e p W
  box : RowIs W b (msC v m) 24
  own : OwnE W (b + 1) v acc
  lo2 : p < b
section
variable {w W W' : World} {s : ByteArray} {a e a' e' : Int} {p b : Nat} {m : Ms} {v v' : Value} {acc acc' : List En}
theorem DmS.read (h : DmS w s a e p b m v acc W) (hr : RdAt W' (w.heap.size + 1) s a' e') (ho : Only (w.heap.size + 1) W W') : DmS w s a' e' p b m v acc W' :=
  ⟨h.dp.read hr ho, h.box.keep ho.keep (by have := h.dp.low; have := h.lo2; omega), ho.keep.ownsRow h.own (fun g hg e => by have := ownsRow_ge h.own hg; have := h.dp.low; have := h.lo2; omega), h.lo2⟩
theorem DmS.call (h : DmS w s a e p b m v acc W) (hb : Below W.heap.size W W') : DmS w s a e p b m v acc W' :=
  ⟨h.dp.call hb, h.box.keep (hb.keep (fun _ => False)) (fun h => h), (hb.keep (fun _ => False)).ownsRow h.own (fun _ _ h => h), h.lo2⟩
theorem DmS.drew (h : DmS w s a e p b m v acc W) : DmS w s a e p b m v acc W.drew := h.call (Below.refl _ _).drew
theorem DmS.al (h : DmS w s a e p b m v acc W) (o : Obj) : DmS w s a e p b m v acc (W.alloc o) := h.call ((Below.refl _ _).alloc (Nat.le_refl _) o)
theorem DmS.lt (h : DmS w s a e p b m v acc W) : b + 1 ≤ W.heap.size := h.box.lt
/-- a cell of the box set, but not that of the entries -/
theorem DmS.put {m' : Ms} (h : DmS w s a e p b m v acc W) (o : Nat) (u : Value) (hc : (msC v m).set o u = msC v m') : DmS w s a e p b m' v acc (W.setCell ⟨b, o, none⟩ u) := by
  have kS := keep_setCell W b o u
  have h1 := h.dp.low
  have h2 := h.lo2
  refine ⟨⟨h.dp.rd.same (kS.block _ (rd_lt h.dp.rd) (by omega)), h.dp.pb.keep kS (by omega), h.dp.res.keep kS (by omega), h.dp.bel.trans (keep_below kS (fun j hj e => by omega) h.dp.bel.size), h.dp.low⟩, ?_, kS.ownsRow h.own (fun g hg e => by have := ownsRow_ge h.own hg; omega), h.lo2⟩
  rw [← hc]
  exact h.box.set o u
/-- behind an append, the field set -/
theorem DmS.app {WB : World} (h : DmS w s a e p b m v acc W) (ho : OwnE WB (b + 1) v' acc') (hk : Keep (fun k => v.ownBlock = some k) W WB) : DmS w s a e p b m v' acc' (WB.setCell ⟨b, 10, none⟩ v') := by
  have hge := fun k (e : v.ownBlock = some k) => ownsRow_ge h.own e
  have h1 := h.dp.low
  have h2 := h.lo2
  have kS := keep_setCell WB b 10 v'
  have rB := h.box.keep hk (fun e => by have := hge b e; omega)
  have rP := h.dp.pb.keep hk (fun e => by have := hge p e; omega)
  have rR := h.dp.res.keep hk (fun e => by have := hge _ e; omega)
  refine ⟨⟨?_, rP.keep kS (by omega), rR.keep kS (by omega), ?_, h.dp.low⟩, rB.set 10 v', kS.ownsRow ho (fun g hg e => by have := ownsRow_ge ho hg; omega), h.lo2⟩
  · have e1 := hk.block (w.heap.size + 1) (rd_lt h.dp.rd) (fun e => by have := hge _ e; omega)
    have e2 := kS.block (w.heap.size + 1) (Nat.lt_of_lt_of_le (rd_lt h.dp.rd) hk.size) (by omega)
    exact h.dp.rd.same (e2.trans e1)
  · have b1 := keep_below hk (fun k hk' e => by have := hge k e; omega) h.dp.bel.size (B := w.heap.size)
    have b2 := keep_below kS (fun k hk' e => by omega) (Nat.le_trans h.dp.bel.size hk.size) (B := w.heap.size)
    exact (h.dp.bel.trans b1).trans b2
theorem twelve {g : Nat} {cs : List Value} {x0 x1 x2 x3 x4 x5 x6 x7 x8 x9 x10 x11 : Value} {t : TypeId} (hl : cs.length = 12) (h : RowIs W g cs t) : RowIs ((((((((((((W.setCell ⟨g, 0, none⟩ (x0)).setCell ⟨g, 1, none⟩ (x1)).setCell ⟨g, 2, none⟩ (x2)).setCell ⟨g, 3, none⟩ (x3)).setCell ⟨g, 4, none⟩ (x4)).setCell ⟨g, 5, none⟩ (x5)).setCell ⟨g, 6, none⟩ (x6)).setCell ⟨g, 7, none⟩ (x7)).setCell ⟨g, 8, none⟩ (x8)).setCell ⟨g, 9, none⟩ (x9)).setCell ⟨g, 10, none⟩ (x10)).setCell ⟨g, 11, none⟩ (x11)) g [x0, x1, x2, x3, x4, x5, x6, x7, x8, x9, x10, x11] t ∧ Keep (· = g) W ((((((((((((W.setCell ⟨g, 0, none⟩ (x0)).setCell ⟨g, 1, none⟩ (x1)).setCell ⟨g, 2, none⟩ (x2)).setCell ⟨g, 3, none⟩ (x3)).setCell ⟨g, 4, none⟩ (x4)).setCell ⟨g, 5, none⟩ (x5)).setCell ⟨g, 6, none⟩ (x6)).setCell ⟨g, 7, none⟩ (x7)).setCell ⟨g, 8, none⟩ (x8)).setCell ⟨g, 9, none⟩ (x9)).setCell ⟨g, 10, none⟩ (x10)).setCell ⟨g, 11, none⟩ (x11)) := by
  refine ⟨?_, (((((((((((keep_setCell _ _ _ _).trans (keep_setCell _ _ _ _)).trans (keep_setCell _ _ _ _)).trans (keep_setCell _ _ _ _)).trans (keep_setCell _ _ _ _)).trans (keep_setCell _ _ _ _)).trans (keep_setCell _ _ _ _)).trans (keep_setCell _ _ _ _)).trans (keep_setCell _ _ _ _)).trans (keep_setCell _ _ _ _)).trans (keep_setCell _ _ _ _)).trans (keep_setCell _ _ _ _)⟩
  have := ((((((((((((h.set 0 x0).set 1 x1).set 2 x2).set 3 x3).set 4 x4).set 5 x5).set 6 x6).set 7 x7).set 8 x8).set 9 x9).set 10 x10).set 11 x11)
  match cs, hl with
  | [c0, c1, c2, c3, c4, c5, c6, c7, c8, c9, c10, c11], _ => exact this
/-- what was read lies in the result's cell -/
theorem DmS.done (h : DmS w s a e p b m v acc W) (x0 x1 x2 x3 x4 x5 x6 x7 x8 x9 x10 x11 : Value) (W' : World) (hW : W' = ((((((((((((W.setCell ⟨w.heap.size, 0, none⟩ (x0)).setCell ⟨w.heap.size, 1, none⟩ (x1)).setCell ⟨w.heap.size, 2, none⟩ (x2)).setCell ⟨w.heap.size, 3, none⟩ (x3)).setCell ⟨w.heap.size, 4, none⟩ (x4)).setCell ⟨w.heap.size, 5, none⟩ (x5)).setCell ⟨w.heap.size, 6, none⟩ (x6)).setCell ⟨w.heap.size, 7, none⟩ (x7)).setCell ⟨w.heap.size, 8, none⟩ (x8)).setCell ⟨w.heap.size, 9, none⟩ (x9)).setCell ⟨w.heap.size, 10, none⟩ (x10)).setCell ⟨w.heap.size, 11, none⟩ (x11))) : RowIs W' w.heap.size [x0, x1, x2, x3, x4, x5, x6, x7, x8, x9, x10, x11] 24 ∧ Below w.heap.size w W' ∧ OwnE W' w.heap.size v acc := by
  subst hW
  have f := twelve (x0 := x0) (x1 := x1) (x2 := x2) (x3 := x3) (x4 := x4) (x5 := x5) (x6 := x6) (x7 := x7) (x8 := x8) (x9 := x9) (x10 := x10) (x11 := x11) (by rfl) h.dp.res
  have h1 := h.dp.low
  have h2 := h.lo2
  exact ⟨f.1, h.dp.bel.trans (keep_below f.2 (fun k hk e => by omega) h.dp.bel.size), ownsRow_base (f.2.ownsRow h.own (fun g hg e => by have := ownsRow_ge h.own hg; omega)) (by omega)⟩
end
theorem ret_ctM {fn : Func} {p u : Tmp} {ty : TypeId} (h : fn.results = #[.cell p ty, .tmp u]) (tmps : Array Value) (w : World) (g : Nat) (cs : Array Value) (x : Value)
    (hp : tmps.getD p undef = .pointer (some ⟨g, 0, none⟩)) (hx : tmps.getD u undef = x) (hg : (loadVar ty ⟨g, 0, none⟩).run Tryz.prog w = .ok (.agg cs) w) :
    (results fn tmps).run Tryz.prog w = .ok (.tuple #[.agg cs, x]) w := by
  rw [results_cell_tmp h, hp, hx]
  simp [asAddr, hg, Result.andThen]
set_option maxRecDepth 100000 in
set_option maxHeartbeats 1000000 in
theorem mnext_any {w W : World} {t : ByteArray} {a e : Int} {p : Nat} (h : DpS w t a e p W) (hs : t.size ≤ 140737488355328) : Calls Tryz.prog 39 #[.pointer (some ⟨p, 0, none⟩)] W fun r w' => r = .returned (.int .i64 ((dcN t 1099511627776 a e).n : Int)) ∧ RdAt w' (w.heap.size + 1) t (dcN t 1099511627776 a e).a (dcN t 1099511627776 a e).e ∧ Only (w.heap.size + 1) W w' := by
  have RI := hid (rd_int (w.heap.size + 1) t a e 1099511627776 W h.rd (by unfold maxLen; omega) (by omega) (nS_int t a e 1099511627776 (by omega)))
  have y0 := h.pb.cellAt (o := 0) rfl
  clear h hs
  change Hid (Calls Tryz.prog 40 _ _ fun r w' => r = .returned (.int .i64 ((dcN t 1099511627776 a e).n : Int)) ∧ RdAt w' (w.heap.size + 1) t (dcN t 1099511627776 a e).a (dcN t 1099511627776 a e).e ∧ Only (w.heap.size + 1) W w') at RI
  generalize dcN t 1099511627776 a e = X at *
  go_enter Tryz.func39, Tryz.ntmps39
  go_wp2_with fail
  refine RI.out.mono ?_
  rintro r w1 ⟨rfl, h1, h2⟩
  have H1 := hid h1
  have H2 := hid h2
  clear RI h1 h2 y0
  go_wp2
  go_ret
  exact ⟨rfl, H1.out, H2.out⟩
theorem mdT_eq (s : ByteArray) (p0 p1 p2 p3 p4 p5 p6 p7 p8 y c : St) (l : DeR) (t : StT) (h0 : p0 = dcN s 1099511627776 0 0) (h1 : p1 = dcN s 1099511627776 p0.a p0.e) (h2 : p2 = dcN s 1099511627776 p1.a p1.e) (h3 : p3 = dcN s 1099511627776 p2.a p2.e) (h4 : p4 = dcN s 1099511627776 p3.a p3.e) (h5 : p5 = dcN s 1099511627776 p4.a p4.e) (h6 : p6 = dcN s 1099511627776 p5.a p5.e) (h7 : p7 = dcN s 1099511627776 p6.a p6.e) (h8 : p8 = dcN s 1099511627776 p7.a p7.e) (hy : y = dcF s p8.a p8.e) (hc : c = dcN s 16 y.a y.e) (hl : l = dcE s c.n c.a c.e) (ht : t = tS s l.a l.e 4096) : mdT s = ⟨t.a, t.e, ⟨p0.n, p1.n, p2.n, p3.n, p4.n, p5.n, p6.n, p7.n, p8.n, (y.n : Int) == 1, l.l, t.x⟩⟩ := by
  subst h0 h1 h2 h3 h4 h5 h6 h7 h8 hy hc hl ht
  rfl
set_option maxRecDepth 100000 in
set_option maxHeartbeats 8000000 in
theorem mdecode_any (t : ByteArray) (w : World) (hs : t.size ≤ 140737488355328) : Calls Tryz.prog 9 #[.string t] w fun e w' => ∃ ad cap, e = .returned (.tuple #[msV (.slice ad (mdV t).es.length cap) (mdV t), .int .i64 (mdE t)]) ∧ OwnE w' w.heap.size (.slice ad (mdV t).es.length cap) (mdV t).es ∧ Below w.heap.size w w' := by
  have hsm : t.size ≤ maxLen := by unfold maxLen; omega
  have hz1 : (w.alloc (.cells (msC (.slice none 0 0) ms0).toArray 24)).heap.size = w.heap.size + 1 := by simp
  have NW0 := new_reader t (w.alloc (.cells (msC (.slice none 0 0) ms0).toArray 24))
  rw [hz1] at NW0
  have NW := hid NW0
  clear NW0
  have RN : Hid (∀ (a e : Int) (p : Nat) (W : World), DpS w t a e p W → Calls Tryz.prog 39 #[.pointer (some ⟨p, 0, none⟩)] W fun r w' => r = .returned (.int .i64 ((dcN t 1099511627776 a e).n : Int)) ∧ DpS w t (dcN t 1099511627776 a e).a (dcN t 1099511627776 a e).e p w' ∧ RdAt w' (w.heap.size + 1) t (dcN t 1099511627776 a e).a (dcN t 1099511627776 a e).e ∧ Only (w.heap.size + 1) W w') := fun a e p W h => (mnext_any h hs).mono fun r w' ⟨h1, h2, h3⟩ => ⟨h1, h.read h2 h3, h2, h3⟩
  have RI : Hid (∀ (m a e : Int) (W : World), RdAt W (w.heap.size + 1) t a e → m ≤ 9223372036854775807 → Calls Tryz.prog 40 #[.pointer (some ⟨w.heap.size + 1, 0, none⟩), .int .i64 m] W fun r w' => r = .returned (.int .i64 ((dcN t m a e).n : Int)) ∧ RdAt w' (w.heap.size + 1) t (dcN t m a e).a (dcN t m a e).e ∧ Only (w.heap.size + 1) W w') := fun m a e W h hm => rd_int (w.heap.size + 1) t a e m W h hsm hm (nS_int t a e m hm)
  have RB : Hid (∀ (a e : Int) (W : World), RdAt W (w.heap.size + 1) t a e → Calls Tryz.prog 41 #[.pointer (some ⟨w.heap.size + 1, 0, none⟩)] W fun r w' => r = .returned (.bool (((dcF t a e).n : Int) == 1)) ∧ RdAt w' (w.heap.size + 1) t (dcF t a e).a (dcF t a e).e ∧ Only (w.heap.size + 1) W w') := fun a e W h => rd_bool (w.heap.size + 1) t a e W h hsm
  have RT : Hid (∀ (m a e : Int) (W : World), RdAt W (w.heap.size + 1) t a e → Calls Tryz.prog 42 #[.pointer (some ⟨w.heap.size + 1, 0, none⟩), .int .i64 m] W fun r w' => r = .returned (.string (tS t a e m).x) ∧ RdAt w' (w.heap.size + 1) t (tS t a e m).a (tS t a e m).e ∧ Only (w.heap.size + 1) W w') := fun m a e W h => rd_text (w.heap.size + 1) t a e m W h hs
  have RE := hid (fun a e W h => rd_end (w.heap.size + 1) t a e W h)
  have CK : Hid (∀ (v : Value) (m : Ms) W, EntI W v m.es → m.es.length ≤ 17592186044416 → Calls Tryz.prog 12 #[msV v m] W fun e w' => e = .returned (.bool (msOk m)) ∧ Below W.heap.size W w') := fun v m W hv hl => mcheck_any v m W hv hl
  have HR0 : Hid (RowIs (w.alloc (.cells (msC (.slice none 0 0) ms0).toArray 24)) w.heap.size (msC (.slice none 0 0) ms0) 24) := srow w _ _
  have HB0 : Hid (Below w.heap.size w (w.alloc (.cells (msC (.slice none 0 0) ms0).toArray 24))) := below_al (Below.refl _ _) _
  have HZ1 := hid hz1
  have HVE : Hid (mdE t = (if mdOk t = true then 0 else 3) ∧ mdV t = (if mdOk t = true then (mdT t).m else ms0)) := ⟨rfl, rfl⟩
  have HOK : Hid (mdOk t = ((endE t (mdT t).a (mdT t).e == 0) && msOk (mdT t).m)) := rfl
  obtain ⟨P0, hP0⟩ : ∃ P, P = dcN t 1099511627776 0 0 := ⟨_, rfl⟩
  obtain ⟨P1, hP1⟩ : ∃ P, P = dcN t 1099511627776 P0.a P0.e := ⟨_, rfl⟩
  obtain ⟨P2, hP2⟩ : ∃ P, P = dcN t 1099511627776 P1.a P1.e := ⟨_, rfl⟩
  obtain ⟨P3, hP3⟩ : ∃ P, P = dcN t 1099511627776 P2.a P2.e := ⟨_, rfl⟩
  obtain ⟨P4, hP4⟩ : ∃ P, P = dcN t 1099511627776 P3.a P3.e := ⟨_, rfl⟩
  obtain ⟨P5, hP5⟩ : ∃ P, P = dcN t 1099511627776 P4.a P4.e := ⟨_, rfl⟩
  obtain ⟨P6, hP6⟩ : ∃ P, P = dcN t 1099511627776 P5.a P5.e := ⟨_, rfl⟩
  obtain ⟨P7, hP7⟩ : ∃ P, P = dcN t 1099511627776 P6.a P6.e := ⟨_, rfl⟩
  obtain ⟨P8, hP8⟩ : ∃ P, P = dcN t 1099511627776 P7.a P7.e := ⟨_, rfl⟩
  obtain ⟨Y, hY⟩ : ∃ Y, Y = dcF t P8.a P8.e := ⟨_, rfl⟩
  obtain ⟨C, hC⟩ : ∃ C, C = dcN t 16 Y.a Y.e := ⟨_, rfl⟩
  obtain ⟨L, hL⟩ : ∃ L, L = dcE t C.n C.a C.e := ⟨_, rfl⟩
  obtain ⟨X, hX⟩ : ∃ X, X = tS t L.a L.e 4096 := ⟨_, rfl⟩
  have HT := hid (mdT_eq t P0 P1 P2 P3 P4 P5 P6 P7 P8 Y C L X hP0 hP1 hP2 hP3 hP4 hP5 hP6 hP7 hP8 hY hC hL hX)
  have N0 := hid (fun p W h => RN.out 0 0 p W h)
  rw [← hP0] at N0
  have N1 := hid (fun p W h => RN.out P0.a P0.e p W h)
  rw [← hP1] at N1
  have N2 := hid (fun p W h => RN.out P1.a P1.e p W h)
  rw [← hP2] at N2
  have N3 := hid (fun p W h => RN.out P2.a P2.e p W h)
  rw [← hP3] at N3
  have N4 := hid (fun p W h => RN.out P3.a P3.e p W h)
  rw [← hP4] at N4
  have N5 := hid (fun p W h => RN.out P4.a P4.e p W h)
  rw [← hP5] at N5
  have N6 := hid (fun p W h => RN.out P5.a P5.e p W h)
  rw [← hP6] at N6
  have N7 := hid (fun p W h => RN.out P6.a P6.e p W h)
  rw [← hP7] at N7
  have N8 := hid (fun p W h => RN.out P7.a P7.e p W h)
  rw [← hP8] at N8
  have NY := hid (fun W h => RB.out P8.a P8.e W h)
  rw [← hY] at NY
  have NC := hid (fun W h => RI.out 16 Y.a Y.e W h (by omega))
  rw [← hC] at NC
  have HC16 : Hid (C.n ≤ 16) := by have := dcN_le t 16 Y.a Y.e (by omega); rw [← hC] at this; show _ ≤ _; omega
  have HL : Hid (L = dcE t (C.n - 0) C.a C.e) := hL
  clear hs hsm hz1 hP0 hP1 hP2 hP3 hP4 hP5 hP6 hP7 hP8 hY hC hL
  obtain ⟨a0, e0, n0⟩ := P0
  obtain ⟨a1, e1, n1⟩ := P1
  obtain ⟨a2, e2, n2⟩ := P2
  obtain ⟨a3, e3, n3⟩ := P3
  obtain ⟨a4, e4, n4⟩ := P4
  obtain ⟨a5, e5, n5⟩ := P5
  obtain ⟨a6, e6, n6⟩ := P6
  obtain ⟨a7, e7, n7⟩ := P7
  obtain ⟨a8, e8, n8⟩ := P8
  obtain ⟨ya, ye, yn⟩ := Y
  obtain ⟨ca, ce, cn⟩ := C
  have hx2 := hX
  have HXX : Hid (∀ (q : DeR), q = L → X = tS t q.a q.e 4096) := fun q hq => by rw [hq]; exact hX
  clear hX hx2
  simp only at *
  generalize mdE t = DE at *
  generalize mdV t = DV at *
  generalize mdOk t = OK at *
  generalize mdT t = T at *
  rw [show (msC (.slice none 0 0) ms0).toArray = #[.int .i64 0, .int .i64 0, .int .i64 0, .int .i64 0, .int .i64 0, .int .i64 0, .int .i64 0, .int .i64 0, .int .i64 0, .bool false, .slice none 0 0, .string ⟨#[]⟩] from rfl] at NW HR0 HB0 HZ1
  go_enter Tryz.func9, Tryz.ntmps9
  go_wp2_with fail
  refine NW.out.mono ?_
  rintro e w1 ⟨rfl, h1, b1⟩
  have b1' : Below (w.alloc (.cells #[.int .i64 0, .int .i64 0, .int .i64 0, .int .i64 0, .int .i64 0, .int .i64 0, .int .i64 0, .int .i64 0, .int .i64 0, .bool false, .slice none 0 0, .string ⟨#[]⟩] 24)).heap.size (w.alloc (.cells #[.int .i64 0, .int .i64 0, .int .i64 0, .int .i64 0, .int .i64 0, .int .i64 0, .int .i64 0, .int .i64 0, .int .i64 0, .bool false, .slice none 0 0, .string ⟨#[]⟩] 24)) w1 := by rw [HZ1.out]; exact b1
  obtain ⟨p, hp⟩ : ∃ p, p = w1.heap.size := ⟨_, rfl⟩
  have D0 : Hid (DpS w t 0 0 p (w1.alloc (.cells #[.pointer (some ⟨w.heap.size + 1, 0, none⟩)] 79))) := by
    subst hp
    exact ⟨h1.keeps (below_al (Below.refl _ _) _), srow w1 _ _, row_old (HR0.out.keep (b1'.keep (fun _ => False)) (fun h => h)) _, below_al (below_on HB0.out b1') _, rd_lt h1⟩
  clear h1 b1 b1' NW HR0 HB0 HZ1
  have M0 := hid (N0.out p _ D0.out)
  clear N0
  go_wp2_with fail
  rw [← hp]
  clear hp
  refine M0.out.mono ?_
  rintro e v0 ⟨rfl, d0, -, -⟩
  have D1 := hid d0
  clear M0 d0 D0
  have M1 := hid (N1.out p _ D1.out)
  clear N1
  go_wp2_with fail
  refine M1.out.mono ?_
  rintro e v1 ⟨rfl, d1, -, -⟩
  have D2 := hid d1
  clear M1 d1 D1
  have M2 := hid (N2.out p _ D2.out)
  clear N2
  go_wp2_with fail
  refine M2.out.mono ?_
  rintro e v2 ⟨rfl, d2, -, -⟩
  have D3 := hid d2
  clear M2 d2 D2
  have M3 := hid (N3.out p _ D3.out)
  clear N3
  go_wp2_with fail
  refine M3.out.mono ?_
  rintro e v3 ⟨rfl, d3, -, -⟩
  have D4 := hid d3
  clear M3 d3 D3
  have M4 := hid (N4.out p _ D4.out)
  clear N4
  go_wp2_with fail
  refine M4.out.mono ?_
  rintro e v4 ⟨rfl, d4, -, -⟩
  have D5 := hid d4
  clear M4 d4 D4
  have M5 := hid (N5.out p _ D5.out)
  clear N5
  go_wp2_with fail
  refine M5.out.mono ?_
  rintro e v5 ⟨rfl, d5, -, -⟩
  have D6 := hid d5
  clear M5 d5 D5
  have M6 := hid (N6.out p _ D6.out)
  clear N6
  go_wp2_with fail
  refine M6.out.mono ?_
  rintro e v6 ⟨rfl, d6, -, -⟩
  have D7 := hid d6
  clear M6 d6 D6
  have M7 := hid (N7.out p _ D7.out)
  clear N7
  go_wp2_with fail
  refine M7.out.mono ?_
  rintro e v7 ⟨rfl, d7, -, -⟩
  have D8 := hid d7
  clear M7 d7 D7
  have M8 := hid (N8.out p _ D8.out)
  clear N8
  go_wp2_with fail
  refine M8.out.mono ?_
  rintro e v8 ⟨rfl, d8, -, -⟩
  have D9 := hid d8
  clear M8 d8 D8
  obtain ⟨b, hb⟩ : ∃ b, b = v8.heap.size := ⟨_, rfl⟩
  have S0 : Hid (DmS w t a8 e8 p b ⟨n0, n1, n2, n3, n4, n5, n6, n7, n8, false, [], ⟨#[]⟩⟩ (.slice none 0 0) [] (v8.alloc (.cells #[.int .i64 n0, .int .i64 n1, .int .i64 n2, .int .i64 n3, .int .i64 n4, .int .i64 n5, .int .i64 n6, .int .i64 n7, .int .i64 n8, .bool false, .slice none 0 0, .string ⟨#[]⟩] 24))) := by
    subst hb
    exact ⟨D9.out.call (below_al (Below.refl _ _) _), srow v8 _ _, ownE_nil _ _, D9.out.pb.lt⟩
  have y0 := S0.out.dp.pb.cellAt (o := 0) rfl
  have NY2 := hid (NY.out _ S0.out.dp.rd)
  clear D9 NY
  go_wp2_with fail
  rw [← hb]
  refine NY2.out.mono ?_
  rintro e v9 ⟨rfl, h9, o9⟩
  have S1 := hid (S0.out.read h9 o9)
  clear h9 o9 NY2 S0 y0 hb
  have z9 := S1.out.box.cellAt (o := 9) rfl
  have f9 := S1.out.box.frozen (o := 9)
  have S2 := hid (S1.out.put (m' := ⟨n0, n1, n2, n3, n4, n5, n6, n7, n8, (yn : Int) == 1, [], ⟨#[]⟩⟩) 9 (.bool ((yn : Int) == 1)) rfl)
  have y0 := S2.out.dp.pb.cellAt (o := 0) rfl
  have NC2 := hid (NC.out _ S2.out.dp.rd)
  clear NC
  generalize ((yn : Int) == 1) = ys at *
  go_wp2_with fail
  refine NC2.out.mono ?_
  rintro e v10 ⟨rfl, h10, o10⟩
  have S3 := hid (S2.out.read h10 o10)
  clear h10 o10 NC2 S1 S2 y0 z9 f9
  go_wp2
  go_loopw [34] (fun i wr => ∃ (k : Nat) (acc : List En) (ad : Option Addr) (cap : Nat) (a e : Int), k ≤ cn ∧ i = .int .i64 (k : Int) ∧ Hid (acc.length = k) ∧ Hid (DmS w t a e p b ⟨n0, n1, n2, n3, n4, n5, n6, n7, n8, ys, [], ⟨#[]⟩⟩ (.slice ad acc.length cap) acc wr) ∧ Hid (L = ⟨(dcE t (cn - k) a e).a, (dcE t (cn - k) a e).e, acc ++ (dcE t (cn - k) a e).l⟩)) (fun i _ => cn - (intOf i).toNat)
  case atStart => exact ⟨0, [], none, 0, ca, ce, Nat.zero_le _, rfl, rfl, S3, HL⟩
  case round =>
    clear S3 HL
    obtain ⟨k, acc, ad, cap, a, e, hk, rfl, HA, HS, HL⟩ := hrel
    by_cases hlt : k < cn
    · have hk1 : (k : Int) < (cn : Int) := by omega
      have hk16 : k < 16 := by have := HC16.out; omega
      have HK16 := hid hk16
      obtain ⟨Q1, hQ1⟩ : ∃ Q, Q = dcN t 1099511627776 a e := ⟨_, rfl⟩
      obtain ⟨Q2, hQ2⟩ : ∃ Q, Q = dcN t 255 Q1.a Q1.e := ⟨_, rfl⟩
      obtain ⟨Q3, hQ3⟩ : ∃ Q, Q = tS t Q2.a Q2.e 65536 := ⟨_, rfl⟩
      have HL2 : Hid (L = ⟨(dcE t (cn - (k + 1)) Q3.a Q3.e).a, (dcE t (cn - (k + 1)) Q3.a Q3.e).e, (acc ++ [⟨(Q1.n : Int), (Q2.n : Int), Q3.x⟩]) ++ (dcE t (cn - (k + 1)) Q3.a Q3.e).l⟩) := by
        show _ = _
        rw [HL.out, show cn - k = (cn - (k + 1)) + 1 by omega]
        subst hQ3 hQ2 hQ1
        simp only [dcE, List.append_assoc, List.singleton_append]
      have C1 := hid (fun W (h : DmS w t a e p b ⟨n0, n1, n2, n3, n4, n5, n6, n7, n8, ys, [], ⟨#[]⟩⟩ (.slice ad acc.length cap) acc W) => RN.out a e p W h.dp)
      have C2 := hid (fun W h => RI.out 255 Q1.a Q1.e W h (by omega))
      have C3 := hid (fun W h => RT.out 65536 Q2.a Q2.e W h)
      rw [← hQ1] at C1
      rw [← hQ2] at C2
      rw [← hQ3] at C3
      clear hQ1 hQ2 hQ3
      obtain ⟨a1, e1, q1⟩ := Q1
      obtain ⟨a2, e2, q2⟩ := Q2
      obtain ⟨a3, e3, q3⟩ := Q3
      simp only at *
      have HA2 : Hid ((acc ++ [(⟨(q1 : Int), (q2 : Int), q3⟩ : En)]).length = k + 1) := by show _ = _; simp; exact HA.out
      have HL3 : Hid (acc.length + 1 ≤ 70368744177) := by have := HA.out; have := HK16.out; show _ ≤ _; omega
      have HB3 : Hid ((acc.length + 1) * 32 ≤ 140737488355328) := by have := HA.out; have := HK16.out; show _ ≤ _; omega
      have HO3 : Hid (∀ u ∈ enC ⟨(q1 : Int), (q2 : Int), q3⟩, u.oneCell' = true) := enC_cell1 _
      have HLT := hid hlt
      have hwk : wrap64 ((k : Int) + 1) = ((k + 1 : Nat) : Int) := by rw [IntWalk.wrap64_in _ (by omega)]; omega
      have T0 := hid HS.out.drew
      have yp := T0.out.dp.pb.cellAt (o := 0) rfl
      have yb := T0.out.box.cellAt (o := 10) rfl
      clear HL HA HS RE CK HT HOK HVE RI RN RB RT HC16 HXX hk16 hk hlt
      go_wp2
      refine wp_region_held_drew (S := fun W => W.cell? ⟨p, 0, none⟩ = some (.pointer (some ⟨w.heap.size + 1, 0, none⟩))) (by kernel_rfl) yp (fun hHeld => ?_)
      generalize wr.drew = V at *
      refine wpAnyH_take (i := 0) (v := ?vv1) rfl (by kernel_rfl) (by kernel_rfl) (by kernel_rfl) (fun _ _ _ h => h) (Or.inl ⟨by rfl, ?hy1⟩) (by assumption) ?rest1
      case hy1 => (intro w hSw; (try dsimp only at hSw); go_simp; first | done | with_reducible rfl)
      try simp only [Act.put, List.getElem_toArray, List.getElem_cons_succ, List.getElem_cons_zero, List.setIfInBounds_toArray, List.set_cons_zero, List.set_cons_succ]
      refine wpAnyH_take (i := 2) (v := ?vv2) rfl (by kernel_rfl) (by kernel_rfl) (by kernel_rfl) (fun _ _ _ h => h) (Or.inl ⟨by rfl, ?hy2⟩) (by assumption) ?rest2
      case hy2 => (intro w hSw; (try dsimp only at hSw); go_simp; first | done | with_reducible rfl)
      try simp only [Act.put, List.getElem_toArray, List.getElem_cons_succ, List.getElem_cons_zero, List.setIfInBounds_toArray, List.set_cons_zero, List.set_cons_succ]
      refine wpAnyH_take (i := 4) (v := ?vv3) rfl (by kernel_rfl) (by kernel_rfl) (by kernel_rfl) (fun _ _ _ h => h) (Or.inl ⟨by rfl, ?hy3⟩) (by assumption) ?rest3
      case hy3 => (intro w hSw; (try dsimp only at hSw); go_simp; first | done | with_reducible rfl)
      try simp only [Act.put, List.getElem_toArray, List.getElem_cons_succ, List.getElem_cons_zero, List.setIfInBounds_toArray, List.set_cons_zero, List.set_cons_succ]
      refine wpAnyH_take (i := 6) (v := ?vv4) rfl (by kernel_rfl) (by kernel_rfl) (by kernel_rfl) (fun _ _ _ h => h) (Or.inl ⟨by rfl, ?hy4⟩) (by assumption) ?rest4
      case hy4 => (intro w hSw; (try dsimp only at hSw); go_simp; first | done | with_reducible rfl)
      try simp only [Act.put, List.getElem_toArray, List.getElem_cons_succ, List.getElem_cons_zero, List.setIfInBounds_toArray, List.set_cons_zero, List.set_cons_succ]
      refine wpAnyH_ready (rs := [1, 3]) (by kernel_rfl) (by simp) ?_
      refine AllReadyH.cons rfl (fun K hK => ?_) (AllReadyH.cons rfl (fun K hK => ?_) AllReadyH.nil)
      · go_simp
        refine hK.out _ _ yp (fun hHeld => ?_)
        clear hK K
        try simp only [Act.put, List.getElem_toArray, List.getElem_cons_succ, List.getElem_cons_zero, List.setIfInBounds_toArray, List.set_cons_zero, List.set_cons_succ]
        refine wpAnyH_ready (rs := [3]) (by kernel_rfl) (by simp) ?_
        refine AllReadyH.cons rfl (fun K hK => ?_) AllReadyH.nil
        go_simp
        refine (C1.out _ T0.out).mono ?_
        rintro e' u1 ⟨rfl, -, h1, o1⟩
        have T1 := hid (T0.out.read h1 o1)
        have yb := T1.out.box.cellAt (o := 10) rfl
        have yp1 := T1.out.dp.pb.cellAt (o := 0) rfl
        clear h1 o1 C1
        go_wp2_with fail
        refine hK.out _ _ yp1 (fun hHeld => ?_)
        clear hK K
        try simp only [Act.put, List.getElem_toArray, List.getElem_cons_succ, List.getElem_cons_zero, List.setIfInBounds_toArray, List.set_cons_zero, List.set_cons_succ]
        refine wpAnyH_ready (rs := [5]) (by kernel_rfl) (by simp) ?_
        refine AllReadyH.cons rfl (fun K hK => ?_) AllReadyH.nil
        go_simp
        refine (C2.out _ T1.out.dp.rd).mono ?_
        rintro e' u2 ⟨rfl, h1, o1⟩
        have T2 := hid (T1.out.read h1 o1)
        have yb := T2.out.box.cellAt (o := 10) rfl
        have yp2 := T2.out.dp.pb.cellAt (o := 0) rfl
        clear h1 o1 C2
        go_wp2_with fail
        refine hK.out _ _ yp2 (fun hHeld => ?_)
        clear hK K
        try simp only [Act.put, List.getElem_toArray, List.getElem_cons_succ, List.getElem_cons_zero, List.setIfInBounds_toArray, List.set_cons_zero, List.set_cons_succ]
        refine wpAnyH_ready (rs := [7]) (by kernel_rfl) (by simp) ?_
        refine AllReadyH.cons rfl (fun K hK => ?_) AllReadyH.nil
        go_simp
        refine (C3.out _ T2.out.dp.rd).mono ?_
        rintro e' u3 ⟨rfl, h1, o1⟩
        have T3 := hid (T2.out.read h1 o1)
        have yb := T3.out.box.cellAt (o := 10) rfl
        have yp3 := T3.out.dp.pb.cellAt (o := 0) rfl
        have T4 := hid (T3.out.al (.cells #[.int .i64 (q1 : Int), .int .i64 (q2 : Int), .string q3] 51))
        have yp4 := T4.out.dp.pb.cellAt (o := 0) rfl
        have yb4 := T4.out.box.cellAt (o := 10) rfl
        clear h1 o1 C3
        go_wp2_with fail
        refine hK.out _ _ yp3 (fun hHeld => ?_)
        clear hK K
        try simp only [Act.put, List.getElem_toArray, List.getElem_cons_succ, List.getElem_cons_zero, List.setIfInBounds_toArray, List.set_cons_zero, List.set_cons_succ]
        refine wpAnyH_take (i := 8) (v := ?vv5) rfl (by kernel_rfl) (by kernel_rfl) (by kernel_rfl) (fun _ _ _ h => h) (Or.inl ⟨by rfl, ?hy5⟩) (by assumption) ?rest5
        case hy5 => (intro w hSw; (try dsimp only at hSw); go_simp; first | done | with_reducible rfl)
        try simp only [Act.put, List.getElem_toArray, List.getElem_cons_succ, List.getElem_cons_zero, List.setIfInBounds_toArray, List.set_cons_zero, List.set_cons_succ]
        refine wpAnyH_ready (rs := [9]) (by kernel_rfl) (by simp) ?_
        refine AllReadyH.cons rfl (fun K hK => ?_) AllReadyH.nil
        go_simp
        refine hK.out _ _ yp4 (fun hHeld => ?_)
        clear hK K
        try simp only [Act.put, List.getElem_toArray, List.getElem_cons_succ, List.getElem_cons_zero, List.setIfInBounds_toArray, List.set_cons_zero, List.set_cons_succ]
        refine wpAnyH_ready (rs := [10]) (by kernel_rfl) (by simp) ?_
        refine AllReadyH.cons rfl (fun K hK => ?_) AllReadyH.nil
        refine step_gapp_at (w0 := u3.alloc (.cells #[.int .i64 (q1 : Int), .int .i64 (q2 : Int), .string q3] 51)) (by rfl) _ _ elEn (by rfl) (b + 1) (.slice ad acc.length cap) (.slice (some ⟨u3.heap.size, 0, none⟩) 1 1) (ensC acc) (enC ⟨(q1 : Int), (q2 : Int), q3⟩) acc.length 1 (acc.length + 1) rfl (Keep.refl _ _) (by rfl) (by rfl) T4.out.own T4.out.lt (gsrc_block (heap_alloc_new _ _)) rfl HO3.out HL3.out HB3.out ?_
        intro ad' cap' w4 ho4 hk4 hl4
        have ho5 : OwnE w4 (b + 1) (.slice ad' (acc.length + 1) cap') (acc ++ [(⟨(q1 : Int), (q2 : Int), q3⟩ : En)]) := by unfold OwnE; rw [ensC_snoc, List.length_append]; exact ho4
        have T5 := hid (T4.out.app ho5 hk4)
        have rb5 := T4.out.box.keep hk4 (fun e => by have := ownsRow_ge T4.out.own e; omega)
        have yb5 := rb5.cellAt (o := 10) rfl
        have fb5 := rb5.frozen (o := 10)
        have yp5 := (T4.out.dp.pb.keep hk4 (fun e => by have := ownsRow_ge T4.out.own e; have := T4.out.lo2; omega)).cellAt (o := 0) rfl
        have yp6 := T5.out.dp.pb.cellAt (o := 0) rfl
        clear ho4 hk4 hl4 ho5 rb5 T4
        refine hK.out _ _ yp5 (fun hHeld => ?_)
        clear hK K
        try simp only [Act.put, List.getElem_toArray, List.getElem_cons_succ, List.getElem_cons_zero, List.setIfInBounds_toArray, List.set_cons_zero, List.set_cons_succ]
        refine wpAnyH_take (i := 11) (v := ?vv6) rfl (by kernel_rfl) (by kernel_rfl) (by kernel_rfl) (fun _ _ _ h => h) (Or.inl ⟨by rfl, ?hy6⟩) (by assumption) ?rest6
        case hy6 => (intro w hSw; (try dsimp only at hSw); go_simp; first | done | with_reducible rfl)
        try simp only [Act.put, List.getElem_toArray, List.getElem_cons_succ, List.getElem_cons_zero, List.setIfInBounds_toArray, List.set_cons_zero, List.set_cons_succ]
        refine wpAnyH_ready (rs := [12]) (by kernel_rfl) (by simp) ?_
        refine AllReadyH.cons rfl (fun K hK => ?_) AllReadyH.nil
        go_simp
        refine hK.out _ _ yp6 (fun hHeld => ?_)
        clear hK K
        try simp only [Act.put, List.getElem_toArray, List.getElem_cons_succ, List.getElem_cons_zero, List.setIfInBounds_toArray, List.set_cons_zero, List.set_cons_succ]
        refine wpAnyH_done (by kernel_rfl) ?_ _
        clear hHeld
        go_wp2
        exact ⟨⟨k + 1, _, ad', cap', a3, e3, HLT.out, by first | rw [hwk] | rfl | simp, HA2, by rw [List.length_append]; exact T5, HL2⟩, by (try rw [hwk]); have := HLT.out; simp [intOf]; omega⟩
      · go_simp
        refine (C1.out _ T0.out).mono ?_
        rintro e' u1 ⟨rfl, -, h1, o1⟩
        have T1 := hid (T0.out.read h1 o1)
        have yb := T1.out.box.cellAt (o := 10) rfl
        have yp1 := T1.out.dp.pb.cellAt (o := 0) rfl
        clear h1 o1 C1
        go_wp2_with fail
        refine hK.out _ _ yp1 (fun hHeld => ?_)
        clear hK K
        try simp only [Act.put, List.getElem_toArray, List.getElem_cons_succ, List.getElem_cons_zero, List.setIfInBounds_toArray, List.set_cons_zero, List.set_cons_succ]
        refine wpAnyH_ready (rs := [1, 5]) (by kernel_rfl) (by simp) ?_
        refine AllReadyH.cons rfl (fun K hK => ?_) (AllReadyH.cons rfl (fun K hK => ?_) AllReadyH.nil)
        · go_simp
          refine hK.out _ _ yp1 (fun hHeld => ?_)
          clear hK K
          try simp only [Act.put, List.getElem_toArray, List.getElem_cons_succ, List.getElem_cons_zero, List.setIfInBounds_toArray, List.set_cons_zero, List.set_cons_succ]
          refine wpAnyH_ready (rs := [5]) (by kernel_rfl) (by simp) ?_
          refine AllReadyH.cons rfl (fun K hK => ?_) AllReadyH.nil
          go_simp
          refine (C2.out _ T1.out.dp.rd).mono ?_
          rintro e' u2 ⟨rfl, h1, o1⟩
          have T2 := hid (T1.out.read h1 o1)
          have yb := T2.out.box.cellAt (o := 10) rfl
          have yp2 := T2.out.dp.pb.cellAt (o := 0) rfl
          clear h1 o1 C2
          go_wp2_with fail
          refine hK.out _ _ yp2 (fun hHeld => ?_)
          clear hK K
          try simp only [Act.put, List.getElem_toArray, List.getElem_cons_succ, List.getElem_cons_zero, List.setIfInBounds_toArray, List.set_cons_zero, List.set_cons_succ]
          refine wpAnyH_ready (rs := [7]) (by kernel_rfl) (by simp) ?_
          refine AllReadyH.cons rfl (fun K hK => ?_) AllReadyH.nil
          go_simp
          refine (C3.out _ T2.out.dp.rd).mono ?_
          rintro e' u3 ⟨rfl, h1, o1⟩
          have T3 := hid (T2.out.read h1 o1)
          have yb := T3.out.box.cellAt (o := 10) rfl
          have yp3 := T3.out.dp.pb.cellAt (o := 0) rfl
          have T4 := hid (T3.out.al (.cells #[.int .i64 (q1 : Int), .int .i64 (q2 : Int), .string q3] 51))
          have yp4 := T4.out.dp.pb.cellAt (o := 0) rfl
          have yb4 := T4.out.box.cellAt (o := 10) rfl
          clear h1 o1 C3
          go_wp2_with fail
          refine hK.out _ _ yp3 (fun hHeld => ?_)
          clear hK K
          try simp only [Act.put, List.getElem_toArray, List.getElem_cons_succ, List.getElem_cons_zero, List.setIfInBounds_toArray, List.set_cons_zero, List.set_cons_succ]
          refine wpAnyH_take (i := 8) (v := ?vv7) rfl (by kernel_rfl) (by kernel_rfl) (by kernel_rfl) (fun _ _ _ h => h) (Or.inl ⟨by rfl, ?hy7⟩) (by assumption) ?rest7
          case hy7 => (intro w hSw; (try dsimp only at hSw); go_simp; first | done | with_reducible rfl)
          try simp only [Act.put, List.getElem_toArray, List.getElem_cons_succ, List.getElem_cons_zero, List.setIfInBounds_toArray, List.set_cons_zero, List.set_cons_succ]
          refine wpAnyH_ready (rs := [9]) (by kernel_rfl) (by simp) ?_
          refine AllReadyH.cons rfl (fun K hK => ?_) AllReadyH.nil
          go_simp
          refine hK.out _ _ yp4 (fun hHeld => ?_)
          clear hK K
          try simp only [Act.put, List.getElem_toArray, List.getElem_cons_succ, List.getElem_cons_zero, List.setIfInBounds_toArray, List.set_cons_zero, List.set_cons_succ]
          refine wpAnyH_ready (rs := [10]) (by kernel_rfl) (by simp) ?_
          refine AllReadyH.cons rfl (fun K hK => ?_) AllReadyH.nil
          refine step_gapp_at (w0 := u3.alloc (.cells #[.int .i64 (q1 : Int), .int .i64 (q2 : Int), .string q3] 51)) (by rfl) _ _ elEn (by rfl) (b + 1) (.slice ad acc.length cap) (.slice (some ⟨u3.heap.size, 0, none⟩) 1 1) (ensC acc) (enC ⟨(q1 : Int), (q2 : Int), q3⟩) acc.length 1 (acc.length + 1) rfl (Keep.refl _ _) (by rfl) (by rfl) T4.out.own T4.out.lt (gsrc_block (heap_alloc_new _ _)) rfl HO3.out HL3.out HB3.out ?_
          intro ad' cap' w4 ho4 hk4 hl4
          have ho5 : OwnE w4 (b + 1) (.slice ad' (acc.length + 1) cap') (acc ++ [(⟨(q1 : Int), (q2 : Int), q3⟩ : En)]) := by unfold OwnE; rw [ensC_snoc, List.length_append]; exact ho4
          have T5 := hid (T4.out.app ho5 hk4)
          have rb5 := T4.out.box.keep hk4 (fun e => by have := ownsRow_ge T4.out.own e; omega)
          have yb5 := rb5.cellAt (o := 10) rfl
          have fb5 := rb5.frozen (o := 10)
          have yp5 := (T4.out.dp.pb.keep hk4 (fun e => by have := ownsRow_ge T4.out.own e; have := T4.out.lo2; omega)).cellAt (o := 0) rfl
          have yp6 := T5.out.dp.pb.cellAt (o := 0) rfl
          clear ho4 hk4 hl4 ho5 rb5 T4
          refine hK.out _ _ yp5 (fun hHeld => ?_)
          clear hK K
          try simp only [Act.put, List.getElem_toArray, List.getElem_cons_succ, List.getElem_cons_zero, List.setIfInBounds_toArray, List.set_cons_zero, List.set_cons_succ]
          refine wpAnyH_take (i := 11) (v := ?vv8) rfl (by kernel_rfl) (by kernel_rfl) (by kernel_rfl) (fun _ _ _ h => h) (Or.inl ⟨by rfl, ?hy8⟩) (by assumption) ?rest8
          case hy8 => (intro w hSw; (try dsimp only at hSw); go_simp; first | done | with_reducible rfl)
          try simp only [Act.put, List.getElem_toArray, List.getElem_cons_succ, List.getElem_cons_zero, List.setIfInBounds_toArray, List.set_cons_zero, List.set_cons_succ]
          refine wpAnyH_ready (rs := [12]) (by kernel_rfl) (by simp) ?_
          refine AllReadyH.cons rfl (fun K hK => ?_) AllReadyH.nil
          go_simp
          refine hK.out _ _ yp6 (fun hHeld => ?_)
          clear hK K
          try simp only [Act.put, List.getElem_toArray, List.getElem_cons_succ, List.getElem_cons_zero, List.setIfInBounds_toArray, List.set_cons_zero, List.set_cons_succ]
          refine wpAnyH_done (by kernel_rfl) ?_ _
          clear hHeld
          go_wp2
          exact ⟨⟨k + 1, _, ad', cap', a3, e3, HLT.out, by first | rw [hwk] | rfl | simp, HA2, by rw [List.length_append]; exact T5, HL2⟩, by (try rw [hwk]); have := HLT.out; simp [intOf]; omega⟩
        · go_simp
          refine (C2.out _ T1.out.dp.rd).mono ?_
          rintro e' u2 ⟨rfl, h1, o1⟩
          have T2 := hid (T1.out.read h1 o1)
          have yb := T2.out.box.cellAt (o := 10) rfl
          have yp2 := T2.out.dp.pb.cellAt (o := 0) rfl
          clear h1 o1 C2
          go_wp2_with fail
          refine hK.out _ _ yp2 (fun hHeld => ?_)
          clear hK K
          try simp only [Act.put, List.getElem_toArray, List.getElem_cons_succ, List.getElem_cons_zero, List.setIfInBounds_toArray, List.set_cons_zero, List.set_cons_succ]
          refine wpAnyH_ready (rs := [1, 7]) (by kernel_rfl) (by simp) ?_
          refine AllReadyH.cons rfl (fun K hK => ?_) (AllReadyH.cons rfl (fun K hK => ?_) AllReadyH.nil)
          · go_simp
            refine hK.out _ _ yp2 (fun hHeld => ?_)
            clear hK K
            try simp only [Act.put, List.getElem_toArray, List.getElem_cons_succ, List.getElem_cons_zero, List.setIfInBounds_toArray, List.set_cons_zero, List.set_cons_succ]
            refine wpAnyH_ready (rs := [7]) (by kernel_rfl) (by simp) ?_
            refine AllReadyH.cons rfl (fun K hK => ?_) AllReadyH.nil
            go_simp
            refine (C3.out _ T2.out.dp.rd).mono ?_
            rintro e' u3 ⟨rfl, h1, o1⟩
            have T3 := hid (T2.out.read h1 o1)
            have yb := T3.out.box.cellAt (o := 10) rfl
            have yp3 := T3.out.dp.pb.cellAt (o := 0) rfl
            have T4 := hid (T3.out.al (.cells #[.int .i64 (q1 : Int), .int .i64 (q2 : Int), .string q3] 51))
            have yp4 := T4.out.dp.pb.cellAt (o := 0) rfl
            have yb4 := T4.out.box.cellAt (o := 10) rfl
            clear h1 o1 C3
            go_wp2_with fail
            refine hK.out _ _ yp3 (fun hHeld => ?_)
            clear hK K
            try simp only [Act.put, List.getElem_toArray, List.getElem_cons_succ, List.getElem_cons_zero, List.setIfInBounds_toArray, List.set_cons_zero, List.set_cons_succ]
            refine wpAnyH_take (i := 8) (v := ?vv9) rfl (by kernel_rfl) (by kernel_rfl) (by kernel_rfl) (fun _ _ _ h => h) (Or.inl ⟨by rfl, ?hy9⟩) (by assumption) ?rest9
            case hy9 => (intro w hSw; (try dsimp only at hSw); go_simp; first | done | with_reducible rfl)
            try simp only [Act.put, List.getElem_toArray, List.getElem_cons_succ, List.getElem_cons_zero, List.setIfInBounds_toArray, List.set_cons_zero, List.set_cons_succ]
            refine wpAnyH_ready (rs := [9]) (by kernel_rfl) (by simp) ?_
            refine AllReadyH.cons rfl (fun K hK => ?_) AllReadyH.nil
            go_simp
            refine hK.out _ _ yp4 (fun hHeld => ?_)
            clear hK K
            try simp only [Act.put, List.getElem_toArray, List.getElem_cons_succ, List.getElem_cons_zero, List.setIfInBounds_toArray, List.set_cons_zero, List.set_cons_succ]
            refine wpAnyH_ready (rs := [10]) (by kernel_rfl) (by simp) ?_
            refine AllReadyH.cons rfl (fun K hK => ?_) AllReadyH.nil
            refine step_gapp_at (w0 := u3.alloc (.cells #[.int .i64 (q1 : Int), .int .i64 (q2 : Int), .string q3] 51)) (by rfl) _ _ elEn (by rfl) (b + 1) (.slice ad acc.length cap) (.slice (some ⟨u3.heap.size, 0, none⟩) 1 1) (ensC acc) (enC ⟨(q1 : Int), (q2 : Int), q3⟩) acc.length 1 (acc.length + 1) rfl (Keep.refl _ _) (by rfl) (by rfl) T4.out.own T4.out.lt (gsrc_block (heap_alloc_new _ _)) rfl HO3.out HL3.out HB3.out ?_
            intro ad' cap' w4 ho4 hk4 hl4
            have ho5 : OwnE w4 (b + 1) (.slice ad' (acc.length + 1) cap') (acc ++ [(⟨(q1 : Int), (q2 : Int), q3⟩ : En)]) := by unfold OwnE; rw [ensC_snoc, List.length_append]; exact ho4
            have T5 := hid (T4.out.app ho5 hk4)
            have rb5 := T4.out.box.keep hk4 (fun e => by have := ownsRow_ge T4.out.own e; omega)
            have yb5 := rb5.cellAt (o := 10) rfl
            have fb5 := rb5.frozen (o := 10)
            have yp5 := (T4.out.dp.pb.keep hk4 (fun e => by have := ownsRow_ge T4.out.own e; have := T4.out.lo2; omega)).cellAt (o := 0) rfl
            have yp6 := T5.out.dp.pb.cellAt (o := 0) rfl
            clear ho4 hk4 hl4 ho5 rb5 T4
            refine hK.out _ _ yp5 (fun hHeld => ?_)
            clear hK K
            try simp only [Act.put, List.getElem_toArray, List.getElem_cons_succ, List.getElem_cons_zero, List.setIfInBounds_toArray, List.set_cons_zero, List.set_cons_succ]
            refine wpAnyH_take (i := 11) (v := ?vv10) rfl (by kernel_rfl) (by kernel_rfl) (by kernel_rfl) (fun _ _ _ h => h) (Or.inl ⟨by rfl, ?hy10⟩) (by assumption) ?rest10
            case hy10 => (intro w hSw; (try dsimp only at hSw); go_simp; first | done | with_reducible rfl)
            try simp only [Act.put, List.getElem_toArray, List.getElem_cons_succ, List.getElem_cons_zero, List.setIfInBounds_toArray, List.set_cons_zero, List.set_cons_succ]
            refine wpAnyH_ready (rs := [12]) (by kernel_rfl) (by simp) ?_
            refine AllReadyH.cons rfl (fun K hK => ?_) AllReadyH.nil
            go_simp
            refine hK.out _ _ yp6 (fun hHeld => ?_)
            clear hK K
            try simp only [Act.put, List.getElem_toArray, List.getElem_cons_succ, List.getElem_cons_zero, List.setIfInBounds_toArray, List.set_cons_zero, List.set_cons_succ]
            refine wpAnyH_done (by kernel_rfl) ?_ _
            clear hHeld
            go_wp2
            exact ⟨⟨k + 1, _, ad', cap', a3, e3, HLT.out, by first | rw [hwk] | rfl | simp, HA2, by rw [List.length_append]; exact T5, HL2⟩, by (try rw [hwk]); have := HLT.out; simp [intOf]; omega⟩
          · go_simp
            refine (C3.out _ T2.out.dp.rd).mono ?_
            rintro e' u3 ⟨rfl, h1, o1⟩
            have T3 := hid (T2.out.read h1 o1)
            have yb := T3.out.box.cellAt (o := 10) rfl
            have yp3 := T3.out.dp.pb.cellAt (o := 0) rfl
            have T4 := hid (T3.out.al (.cells #[.int .i64 (q1 : Int), .int .i64 (q2 : Int), .string q3] 51))
            have yp4 := T4.out.dp.pb.cellAt (o := 0) rfl
            have yb4 := T4.out.box.cellAt (o := 10) rfl
            clear h1 o1 C3
            go_wp2_with fail
            refine hK.out _ _ yp3 (fun hHeld => ?_)
            clear hK K
            try simp only [Act.put, List.getElem_toArray, List.getElem_cons_succ, List.getElem_cons_zero, List.setIfInBounds_toArray, List.set_cons_zero, List.set_cons_succ]
            refine wpAnyH_take (i := 8) (v := ?vv11) rfl (by kernel_rfl) (by kernel_rfl) (by kernel_rfl) (fun _ _ _ h => h) (Or.inl ⟨by rfl, ?hy11⟩) (by assumption) ?rest11
            case hy11 => (intro w hSw; (try dsimp only at hSw); go_simp; first | done | with_reducible rfl)
            try simp only [Act.put, List.getElem_toArray, List.getElem_cons_succ, List.getElem_cons_zero, List.setIfInBounds_toArray, List.set_cons_zero, List.set_cons_succ]
            refine wpAnyH_ready (rs := [1, 9]) (by kernel_rfl) (by simp) ?_
            refine AllReadyH.cons rfl (fun K hK => ?_) (AllReadyH.cons rfl (fun K hK => ?_) AllReadyH.nil)
            · go_simp
              refine hK.out _ _ yp3 (fun hHeld => ?_)
              clear hK K
              try simp only [Act.put, List.getElem_toArray, List.getElem_cons_succ, List.getElem_cons_zero, List.setIfInBounds_toArray, List.set_cons_zero, List.set_cons_succ]
              refine wpAnyH_ready (rs := [9]) (by kernel_rfl) (by simp) ?_
              refine AllReadyH.cons rfl (fun K hK => ?_) AllReadyH.nil
              go_simp
              refine hK.out _ _ yp4 (fun hHeld => ?_)
              clear hK K
              try simp only [Act.put, List.getElem_toArray, List.getElem_cons_succ, List.getElem_cons_zero, List.setIfInBounds_toArray, List.set_cons_zero, List.set_cons_succ]
              refine wpAnyH_ready (rs := [10]) (by kernel_rfl) (by simp) ?_
              refine AllReadyH.cons rfl (fun K hK => ?_) AllReadyH.nil
              refine step_gapp_at (w0 := u3.alloc (.cells #[.int .i64 (q1 : Int), .int .i64 (q2 : Int), .string q3] 51)) (by rfl) _ _ elEn (by rfl) (b + 1) (.slice ad acc.length cap) (.slice (some ⟨u3.heap.size, 0, none⟩) 1 1) (ensC acc) (enC ⟨(q1 : Int), (q2 : Int), q3⟩) acc.length 1 (acc.length + 1) rfl (Keep.refl _ _) (by rfl) (by rfl) T4.out.own T4.out.lt (gsrc_block (heap_alloc_new _ _)) rfl HO3.out HL3.out HB3.out ?_
              intro ad' cap' w4 ho4 hk4 hl4
              have ho5 : OwnE w4 (b + 1) (.slice ad' (acc.length + 1) cap') (acc ++ [(⟨(q1 : Int), (q2 : Int), q3⟩ : En)]) := by unfold OwnE; rw [ensC_snoc, List.length_append]; exact ho4
              have T5 := hid (T4.out.app ho5 hk4)
              have rb5 := T4.out.box.keep hk4 (fun e => by have := ownsRow_ge T4.out.own e; omega)
              have yb5 := rb5.cellAt (o := 10) rfl
              have fb5 := rb5.frozen (o := 10)
              have yp5 := (T4.out.dp.pb.keep hk4 (fun e => by have := ownsRow_ge T4.out.own e; have := T4.out.lo2; omega)).cellAt (o := 0) rfl
              have yp6 := T5.out.dp.pb.cellAt (o := 0) rfl
              clear ho4 hk4 hl4 ho5 rb5 T4
              refine hK.out _ _ yp5 (fun hHeld => ?_)
              clear hK K
              try simp only [Act.put, List.getElem_toArray, List.getElem_cons_succ, List.getElem_cons_zero, List.setIfInBounds_toArray, List.set_cons_zero, List.set_cons_succ]
              refine wpAnyH_take (i := 11) (v := ?vv12) rfl (by kernel_rfl) (by kernel_rfl) (by kernel_rfl) (fun _ _ _ h => h) (Or.inl ⟨by rfl, ?hy12⟩) (by assumption) ?rest12
              case hy12 => (intro w hSw; (try dsimp only at hSw); go_simp; first | done | with_reducible rfl)
              try simp only [Act.put, List.getElem_toArray, List.getElem_cons_succ, List.getElem_cons_zero, List.setIfInBounds_toArray, List.set_cons_zero, List.set_cons_succ]
              refine wpAnyH_ready (rs := [12]) (by kernel_rfl) (by simp) ?_
              refine AllReadyH.cons rfl (fun K hK => ?_) AllReadyH.nil
              go_simp
              refine hK.out _ _ yp6 (fun hHeld => ?_)
              clear hK K
              try simp only [Act.put, List.getElem_toArray, List.getElem_cons_succ, List.getElem_cons_zero, List.setIfInBounds_toArray, List.set_cons_zero, List.set_cons_succ]
              refine wpAnyH_done (by kernel_rfl) ?_ _
              clear hHeld
              go_wp2
              exact ⟨⟨k + 1, _, ad', cap', a3, e3, HLT.out, by first | rw [hwk] | rfl | simp, HA2, by rw [List.length_append]; exact T5, HL2⟩, by (try rw [hwk]); have := HLT.out; simp [intOf]; omega⟩
            · go_simp
              refine hK.out _ _ yp4 (fun hHeld => ?_)
              clear hK K
              try simp only [Act.put, List.getElem_toArray, List.getElem_cons_succ, List.getElem_cons_zero, List.setIfInBounds_toArray, List.set_cons_zero, List.set_cons_succ]
              refine wpAnyH_ready (rs := [1]) (by kernel_rfl) (by simp) ?_
              refine AllReadyH.cons rfl (fun K hK => ?_) AllReadyH.nil
              go_simp
              refine hK.out _ _ yp4 (fun hHeld => ?_)
              clear hK K
              try simp only [Act.put, List.getElem_toArray, List.getElem_cons_succ, List.getElem_cons_zero, List.setIfInBounds_toArray, List.set_cons_zero, List.set_cons_succ]
              refine wpAnyH_ready (rs := [10]) (by kernel_rfl) (by simp) ?_
              refine AllReadyH.cons rfl (fun K hK => ?_) AllReadyH.nil
              refine step_gapp_at (w0 := u3.alloc (.cells #[.int .i64 (q1 : Int), .int .i64 (q2 : Int), .string q3] 51)) (by rfl) _ _ elEn (by rfl) (b + 1) (.slice ad acc.length cap) (.slice (some ⟨u3.heap.size, 0, none⟩) 1 1) (ensC acc) (enC ⟨(q1 : Int), (q2 : Int), q3⟩) acc.length 1 (acc.length + 1) rfl (Keep.refl _ _) (by rfl) (by rfl) T4.out.own T4.out.lt (gsrc_block (heap_alloc_new _ _)) rfl HO3.out HL3.out HB3.out ?_
              intro ad' cap' w4 ho4 hk4 hl4
              have ho5 : OwnE w4 (b + 1) (.slice ad' (acc.length + 1) cap') (acc ++ [(⟨(q1 : Int), (q2 : Int), q3⟩ : En)]) := by unfold OwnE; rw [ensC_snoc, List.length_append]; exact ho4
              have T5 := hid (T4.out.app ho5 hk4)
              have rb5 := T4.out.box.keep hk4 (fun e => by have := ownsRow_ge T4.out.own e; omega)
              have yb5 := rb5.cellAt (o := 10) rfl
              have fb5 := rb5.frozen (o := 10)
              have yp5 := (T4.out.dp.pb.keep hk4 (fun e => by have := ownsRow_ge T4.out.own e; have := T4.out.lo2; omega)).cellAt (o := 0) rfl
              have yp6 := T5.out.dp.pb.cellAt (o := 0) rfl
              clear ho4 hk4 hl4 ho5 rb5 T4
              refine hK.out _ _ yp5 (fun hHeld => ?_)
              clear hK K
              try simp only [Act.put, List.getElem_toArray, List.getElem_cons_succ, List.getElem_cons_zero, List.setIfInBounds_toArray, List.set_cons_zero, List.set_cons_succ]
              refine wpAnyH_take (i := 11) (v := ?vv13) rfl (by kernel_rfl) (by kernel_rfl) (by kernel_rfl) (fun _ _ _ h => h) (Or.inl ⟨by rfl, ?hy13⟩) (by assumption) ?rest13
              case hy13 => (intro w hSw; (try dsimp only at hSw); go_simp; first | done | with_reducible rfl)
              try simp only [Act.put, List.getElem_toArray, List.getElem_cons_succ, List.getElem_cons_zero, List.setIfInBounds_toArray, List.set_cons_zero, List.set_cons_succ]
              refine wpAnyH_ready (rs := [12]) (by kernel_rfl) (by simp) ?_
              refine AllReadyH.cons rfl (fun K hK => ?_) AllReadyH.nil
              go_simp
              refine hK.out _ _ yp6 (fun hHeld => ?_)
              clear hK K
              try simp only [Act.put, List.getElem_toArray, List.getElem_cons_succ, List.getElem_cons_zero, List.setIfInBounds_toArray, List.set_cons_zero, List.set_cons_succ]
              refine wpAnyH_done (by kernel_rfl) ?_ _
              clear hHeld
              go_wp2
              exact ⟨⟨k + 1, _, ad', cap', a3, e3, HLT.out, by first | rw [hwk] | rfl | simp, HA2, by rw [List.length_append]; exact T5, HL2⟩, by (try rw [hwk]); have := HLT.out; simp [intOf]; omega⟩
    · have hk9 : k = cn := by omega
      have hdl : decide ((k : Int) < (cn : Int)) = false := decide_eq_false (by omega)
      have hdl2 : decide (k < cn) = false := decide_eq_false (by omega)
      have HL2 : Hid ((⟨a, e, acc⟩ : DeR) = L) := by show _ = _; rw [HL.out, hk9, Nat.sub_self]; simp [dcE]
      have hX := HXX.out _ HL2.out
      have hl := HL2.out
      subst hl
      have HAL : Hid (acc.length ≤ 17592186044416) := by have := HA.out; have := HC16.out; show _ ≤ _; omega
      have NX := hid (fun W h => RT.out 4096 a e W h)
      rw [← hX] at NX
      obtain ⟨xa, xe, xx⟩ := X
      simp only at *
      have y0 := HS.out.dp.pb.cellAt (o := 0) rfl
      have NX2 := hid (NX.out _ HS.out.dp.rd)
      clear HL HL2 HA HXX RI RN RB RT HC16 hlt hk hk9 hX NX
      go_wp2_with fail
      refine NX2.out.mono ?_
      rintro e' w5 ⟨rfl, h5, o5⟩
      have H5 := hid (HS.out.read h5 o5)
      have z11 := H5.out.box.cellAt (o := 11) rfl
      have f11 := H5.out.box.frozen (o := 11)
      have H6 := hid (H5.out.put (m' := ⟨n0, n1, n2, n3, n4, n5, n6, n7, n8, ys, [], xx⟩) 11 (.string xx) rfl)
      have R7 := hid (RE.out xa xe _ H6.out.dp.rd)
      clear h5 o5 NX2 HS RE y0
      have y0 := H6.out.dp.pb.cellAt (o := 0) rfl
      clear H5
      go_wp2_with fail
      refine R7.out.mono ?_
      rintro e' w6 ⟨rfl, h6, o6⟩
      have H7 := hid (H6.out.read h6 o6)
      clear h6 o6 R7 H6 z11 f11 y0
      have HOK2 : Hid (OK = ((endE t xa xe == 0) && msOk ⟨n0, n1, n2, n3, n4, n5, n6, n7, n8, ys, acc, xx⟩)) := by show _ = _; rw [HOK.out, HT.out]
      have HVE2 : Hid (DE = (if OK = true then 0 else 3) ∧ DV = (if OK = true then (⟨n0, n1, n2, n3, n4, n5, n6, n7, n8, ys, acc, xx⟩ : Ms) else ms0)) := by
        have := HVE.out
        rw [HT.out] at this
        exact this
      clear HOK HVE HT hdl hdl2
      generalize endE t xa xe = E at *
      by_cases hE : E = 0
      · subst hE
        have C7 := hid (CK.out (.slice ad acc.length cap) ⟨n0, n1, n2, n3, n4, n5, n6, n7, n8, ys, acc, xx⟩ w6 H7.out.own.ents HAL.out)
        generalize msOk ⟨n0, n1, n2, n3, n4, n5, n6, n7, n8, ys, acc, xx⟩ = CB at *
        unfold msV at C7
        simp only at C7
        have y0 := H7.out.box.cellAt (o := 0) rfl
        have y1 := H7.out.box.cellAt (o := 1) rfl
        have y2 := H7.out.box.cellAt (o := 2) rfl
        have y3 := H7.out.box.cellAt (o := 3) rfl
        have y4 := H7.out.box.cellAt (o := 4) rfl
        have y5 := H7.out.box.cellAt (o := 5) rfl
        have y6 := H7.out.box.cellAt (o := 6) rfl
        have y7 := H7.out.box.cellAt (o := 7) rfl
        have y8 := H7.out.box.cellAt (o := 8) rfl
        have y9 := H7.out.box.cellAt (o := 9) rfl
        have y10 := H7.out.box.cellAt (o := 10) rfl
        have y11 := H7.out.box.cellAt (o := 11) rfl
        clear CK
        go_wp2_with fail
        refine C7.out.mono ?_
        rintro e' w7 ⟨rfl, b7⟩
        have H8 := hid (H7.out.call b7)
        clear C7 b7 y0 y1 y2 y3 y4 y5 y6 y7 y8 y9 y10 y11 H7
        have y0 := H8.out.box.cellAt (o := 0) rfl
        have y1 := H8.out.box.cellAt (o := 1) rfl
        have y2 := H8.out.box.cellAt (o := 2) rfl
        have y3 := H8.out.box.cellAt (o := 3) rfl
        have y4 := H8.out.box.cellAt (o := 4) rfl
        have y5 := H8.out.box.cellAt (o := 5) rfl
        have y6 := H8.out.box.cellAt (o := 6) rfl
        have y7 := H8.out.box.cellAt (o := 7) rfl
        have y8 := H8.out.box.cellAt (o := 8) rfl
        have y9 := H8.out.box.cellAt (o := 9) rfl
        have y10 := H8.out.box.cellAt (o := 10) rfl
        have y11 := H8.out.box.cellAt (o := 11) rfl
        have r0 := H8.out.dp.res.cellAt (o := 0) rfl
        have s0 := H8.out.dp.res.frozen (o := 0)
        have r1 := H8.out.dp.res.cellAt (o := 1) rfl
        have s1 := H8.out.dp.res.frozen (o := 1)
        have r2 := H8.out.dp.res.cellAt (o := 2) rfl
        have s2 := H8.out.dp.res.frozen (o := 2)
        have r3 := H8.out.dp.res.cellAt (o := 3) rfl
        have s3 := H8.out.dp.res.frozen (o := 3)
        have r4 := H8.out.dp.res.cellAt (o := 4) rfl
        have s4 := H8.out.dp.res.frozen (o := 4)
        have r5 := H8.out.dp.res.cellAt (o := 5) rfl
        have s5 := H8.out.dp.res.frozen (o := 5)
        have r6 := H8.out.dp.res.cellAt (o := 6) rfl
        have s6 := H8.out.dp.res.frozen (o := 6)
        have r7 := H8.out.dp.res.cellAt (o := 7) rfl
        have s7 := H8.out.dp.res.frozen (o := 7)
        have r8 := H8.out.dp.res.cellAt (o := 8) rfl
        have s8 := H8.out.dp.res.frozen (o := 8)
        have r9 := H8.out.dp.res.cellAt (o := 9) rfl
        have s9 := H8.out.dp.res.frozen (o := 9)
        have r10 := H8.out.dp.res.cellAt (o := 10) rfl
        have s10 := H8.out.dp.res.frozen (o := 10)
        have r11 := H8.out.dp.res.cellAt (o := 11) rfl
        have s11 := H8.out.dp.res.frozen (o := 11)
        cases CB
        · have hO : OK = false := by rw [HOK2.out]; simp
          subst hO
          obtain ⟨d1, d2⟩ := HVE2.out
          rw [if_neg (by simp)] at d1 d2
          have HD : Hid (DE = 3 ∧ DV = ms0) := ⟨d1, d2⟩
          clear d1 d2 HVE2 HOK2
          go_wp2
          obtain ⟨g1, g2, g3⟩ := H8.out.done (.int .i64 0) (.int .i64 0) (.int .i64 0) (.int .i64 0) (.int .i64 0) (.int .i64 0) (.int .i64 0) (.int .i64 0) (.int .i64 0) (.bool false) (.slice none 0 0) (.string ⟨#[]⟩) _ rfl
          refine bodyPost_ret (v := .tuple #[.agg #[.int .i64 0, .int .i64 0, .int .i64 0, .int .i64 0, .int .i64 0, .int .i64 0, .int .i64 0, .int .i64 0, .int .i64 0, .bool false, .slice none 0 0, .string ⟨#[]⟩], .int .i64 3]) (ret_ctM (p := 2) (u := 3) rfl _ _ w.heap.size _ _ rfl rfl (run_loadVar_row _ _ _ _ _ _ _ g1 Tryz.underlying24 rfl (by kernel_rfl))) rfl ?_
          rw [HD.out.1, HD.out.2]
          exact ⟨none, 0, rfl, ownE_nil _ _, g2⟩
        · have hO : OK = true := by rw [HOK2.out]; rfl
          subst hO
          obtain ⟨d1, d2⟩ := HVE2.out
          rw [if_pos rfl] at d1 d2
          have HD : Hid (DE = 0 ∧ DV = ⟨n0, n1, n2, n3, n4, n5, n6, n7, n8, ys, acc, xx⟩) := ⟨d1, d2⟩
          clear d1 d2 HVE2 HOK2
          go_wp2
          obtain ⟨g1, g2, g3⟩ := H8.out.done (.int .i64 n0) (.int .i64 n1) (.int .i64 n2) (.int .i64 n3) (.int .i64 n4) (.int .i64 n5) (.int .i64 n6) (.int .i64 n7) (.int .i64 n8) (.bool ys) (.slice ad acc.length cap) (.string xx) _ rfl
          refine bodyPost_ret (v := .tuple #[.agg #[.int .i64 n0, .int .i64 n1, .int .i64 n2, .int .i64 n3, .int .i64 n4, .int .i64 n5, .int .i64 n6, .int .i64 n7, .int .i64 n8, .bool ys, .slice ad acc.length cap, .string xx], .int .i64 0]) (ret_ctM (p := 2) (u := 3) rfl _ _ w.heap.size _ _ rfl rfl (run_loadVar_row _ _ _ _ _ _ _ g1 Tryz.underlying24 rfl (by kernel_rfl))) rfl ?_
          rw [HD.out.1, HD.out.2]
          exact ⟨ad, cap, rfl, g3, g2⟩
      · have hO : OK = false := by rw [HOK2.out, beq_eq_false_iff_ne.2 hE]; rfl
        subst hO
        obtain ⟨d1, d2⟩ := HVE2.out
        rw [if_neg (by simp)] at d1 d2
        have HD : Hid (DE = 3 ∧ DV = ms0) := ⟨d1, d2⟩
        have hEb : (E != 0) = true := bne_iff_ne.2 hE
        have hEb2 : (E == 0) = false := beq_eq_false_iff_ne.2 hE
        clear d1 d2 HVE2 HOK2
        have H8 := H7
        clear H7 CK
        have r0 := H8.out.dp.res.cellAt (o := 0) rfl
        have s0 := H8.out.dp.res.frozen (o := 0)
        have r1 := H8.out.dp.res.cellAt (o := 1) rfl
        have s1 := H8.out.dp.res.frozen (o := 1)
        have r2 := H8.out.dp.res.cellAt (o := 2) rfl
        have s2 := H8.out.dp.res.frozen (o := 2)
        have r3 := H8.out.dp.res.cellAt (o := 3) rfl
        have s3 := H8.out.dp.res.frozen (o := 3)
        have r4 := H8.out.dp.res.cellAt (o := 4) rfl
        have s4 := H8.out.dp.res.frozen (o := 4)
        have r5 := H8.out.dp.res.cellAt (o := 5) rfl
        have s5 := H8.out.dp.res.frozen (o := 5)
        have r6 := H8.out.dp.res.cellAt (o := 6) rfl
        have s6 := H8.out.dp.res.frozen (o := 6)
        have r7 := H8.out.dp.res.cellAt (o := 7) rfl
        have s7 := H8.out.dp.res.frozen (o := 7)
        have r8 := H8.out.dp.res.cellAt (o := 8) rfl
        have s8 := H8.out.dp.res.frozen (o := 8)
        have r9 := H8.out.dp.res.cellAt (o := 9) rfl
        have s9 := H8.out.dp.res.frozen (o := 9)
        have r10 := H8.out.dp.res.cellAt (o := 10) rfl
        have s10 := H8.out.dp.res.frozen (o := 10)
        have r11 := H8.out.dp.res.cellAt (o := 11) rfl
        have s11 := H8.out.dp.res.frozen (o := 11)
        go_wp2
        obtain ⟨g1, g2, g3⟩ := H8.out.done (.int .i64 0) (.int .i64 0) (.int .i64 0) (.int .i64 0) (.int .i64 0) (.int .i64 0) (.int .i64 0) (.int .i64 0) (.int .i64 0) (.bool false) (.slice none 0 0) (.string ⟨#[]⟩) _ rfl
        refine bodyPost_ret (v := .tuple #[.agg #[.int .i64 0, .int .i64 0, .int .i64 0, .int .i64 0, .int .i64 0, .int .i64 0, .int .i64 0, .int .i64 0, .int .i64 0, .bool false, .slice none 0 0, .string ⟨#[]⟩], .int .i64 3]) (ret_ctM (p := 2) (u := 3) rfl _ _ w.heap.size _ _ rfl rfl (run_loadVar_row _ _ _ _ _ _ _ g1 Tryz.underlying24 rfl (by kernel_rfl))) rfl ?_
        rw [HD.out.1, HD.out.2]
        exact ⟨none, 0, rfl, ownE_nil _ _, g2⟩
end Go.Proofs.YtlkidnfgodficaaGreat
namespace Go.Proofs.YtlkidnfgodficaaGreat
open Go.RowKit Go.Maps
set_option linter.unusedVariables false
set_option linter.unusedSimpArgs false

set_option maxRecDepth 100000 in
set_option maxHeartbeats 2000000 in
theorem qnumbers_any (ad : Option Addr) (n cap : Nat) (m : Ms) (w : World) : Calls Tryz.prog 35 #[msV (.slice ad n cap) m] w fun e w' => e = .returned (.agg (nmA m)) ∧ Below w.heap.size w w' := by
  have R9 : Hid (RowIs ((w.alloc (.cells #[.int .i64 m.kd, .int .i64 m.fr, .int .i64 m.to_, .int .i64 m.tm, .int .i64 m.ix, .int .i64 m.lt, .int .i64 m.cm, .int .i64 m.rd, .int .i64 m.at_, .bool m.ys, .slice ad n cap, .string m.da] 32)).alloc (.cells #[.int .i64 m.kd, .int .i64 m.fr, .int .i64 m.to_, .int .i64 m.tm, .int .i64 m.ix, .int .i64 m.lt, .int .i64 m.cm, .int .i64 m.rd, .int .i64 m.at_] 70)) (w.heap.size + 1) (nmA m).toList 70) := by
    have := srow (w.alloc (.cells #[.int .i64 m.kd, .int .i64 m.fr, .int .i64 m.to_, .int .i64 m.tm, .int .i64 m.ix, .int .i64 m.lt, .int .i64 m.cm, .int .i64 m.rd, .int .i64 m.at_, .bool m.ys, .slice ad n cap, .string m.da] 32)) [.int .i64 m.kd, .int .i64 m.fr, .int .i64 m.to_, .int .i64 m.tm, .int .i64 m.ix, .int .i64 m.lt, .int .i64 m.cm, .int .i64 m.rd, .int .i64 m.at_] 70
    rwa [World.size_alloc] at this
  have B9 : Hid (Below w.heap.size w ((w.alloc (.cells #[.int .i64 m.kd, .int .i64 m.fr, .int .i64 m.to_, .int .i64 m.tm, .int .i64 m.ix, .int .i64 m.lt, .int .i64 m.cm, .int .i64 m.rd, .int .i64 m.at_, .bool m.ys, .slice ad n cap, .string m.da] 32)).alloc (.cells #[.int .i64 m.kd, .int .i64 m.fr, .int .i64 m.to_, .int .i64 m.tm, .int .i64 m.ix, .int .i64 m.lt, .int .i64 m.cm, .int .i64 m.rd, .int .i64 m.at_] 70))) := below_al (below_al (Below.refl _ _) _) _
  have Q0 : Hid (RowIs ((w.alloc (.cells #[.int .i64 m.kd, .int .i64 m.fr, .int .i64 m.to_, .int .i64 m.tm, .int .i64 m.ix, .int .i64 m.lt, .int .i64 m.cm, .int .i64 m.rd, .int .i64 m.at_, .bool m.ys, .slice ad n cap, .string m.da] 32)).alloc (.cells #[.int .i64 0, .int .i64 0, .int .i64 0, .int .i64 0, .int .i64 0, .int .i64 0, .int .i64 0, .int .i64 0, .int .i64 0] 70)) w.heap.size [.int .i64 m.kd, .int .i64 m.fr, .int .i64 m.to_, .int .i64 m.tm, .int .i64 m.ix, .int .i64 m.lt, .int .i64 m.cm, .int .i64 m.rd, .int .i64 m.at_, .bool m.ys, .slice ad n cap, .string m.da] 32) := row_old (srow w _ _) _
  have y0 := Q0.out.cellAt (o := 0) rfl
  have y1 := Q0.out.cellAt (o := 1) rfl
  have y2 := Q0.out.cellAt (o := 2) rfl
  have y3 := Q0.out.cellAt (o := 3) rfl
  have y4 := Q0.out.cellAt (o := 4) rfl
  have y5 := Q0.out.cellAt (o := 5) rfl
  have y6 := Q0.out.cellAt (o := 6) rfl
  have y7 := Q0.out.cellAt (o := 7) rfl
  have y8 := Q0.out.cellAt (o := 8) rfl
  have y9 := Q0.out.cellAt (o := 9) rfl
  have y10 := Q0.out.cellAt (o := 10) rfl
  have y11 := Q0.out.cellAt (o := 11) rfl
  unfold msV
  go_enter Tryz.func35, Tryz.ntmps35
  go_wp2
  exact bodyPost_ret (v := .agg (nmA m)) (results_cell_row (p := 2) rfl _ _ (w.heap.size + 1) 70 (nmA m) (0, 0) _ rfl R9.out Tryz.underlying70 rfl (by kernel_rfl)) rfl ⟨rfl, B9.out⟩
theorem nm_cell (m : Ms) (k : Nat) (h : k < 9) : (nmA m).toList[k]? = some (.int .i64 (m.nm.getD k 0)) := by
  match k, h with
  | 0, _ => rfl
  | 1, _ => rfl
  | 2, _ => rfl
  | 3, _ => rfl
  | 4, _ => rfl
  | 5, _ => rfl
  | 6, _ => rfl
  | 7, _ => rfl
  | 8, _ => rfl
end Go.Proofs.YtlkidnfgodficaaGreat
namespace Go.Proofs.YtlkidnfgodficaaGreat
open Go.RowKit Go.Maps
set_option linter.unusedVariables false
set_option linter.unusedSimpArgs false

theorem elQE : ElT 30 78 3 32 := ⟨Tryz.underlying30, ⟨.agg #[.int .i64 0, .int .i64 0, .string ⟨#[]⟩], by kernel_rfl, rfl⟩, by decide⟩
/-- entries of the document's in a row that the call owns -/
def OwnQE (w : World) (B : Nat) (v : Value) (l : List En) : Prop := w.ownsRow B 78 3 v l.length (ensC l)
theorem OwnQE.ents {w : World} {B : Nat} {v : Value} {l : List En} (h : OwnQE w B v l) : EntI w v l := by
  rcases gsrc_all h with ⟨c, e, h0, h1⟩ | ⟨g, off, c, e, hg, hc⟩
  · have hl : l = [] := List.length_eq_zero_iff.1 h0
    subst hl
    exact .inl ⟨none, c, e, rfl⟩
  · refine .inr ⟨g, off, c, e, hg, fun j hj i hi => ?_⟩
    have h1 := ensC_get l j hj i hi
    have h2 : i < (enC l[j]).length := hi
    rw [List.getElem?_eq_getElem h2] at h1 ⊢
    have := hc _ _ h1
    rw [show off + (j * 3 + i) = off + j * 3 + i by omega] at this
    exact this
/-- a reader's box at g, nine numbers at q, the result's cell ahead -/
structure DnS (w : World) (t : ByteArray) (a e : Int) (N : List Int) (W : World) : Prop where
  rd : RowIs W (w.heap.size + 1) [.string t, .int .i64 a, .int .i64 e] 84
  nq : RowIs W (w.heap.size + 1 + 1) (isC N) 70
  res : RowIs W w.heap.size (msC (.slice none 0 0) ms0) 32
  bel : Below w.heap.size w W
section
variable {w W W' : World} {t : ByteArray} {a e a' e' : Int} {N : List Int}
theorem DnS.call (h : DnS w t a e N W) (hb : Below W.heap.size W W') : DnS w t a e N W' :=
  ⟨h.rd.keep (hb.keep (fun _ => False)) (fun h => h), h.nq.keep (hb.keep (fun _ => False)) (fun h => h), h.res.keep (hb.keep (fun _ => False)) (fun h => h), h.bel.trans (hb.mono h.bel.size)⟩
theorem DnS.put (h : DnS w t a e N W) (a' e' : Int) : DnS w t a' e' N (((W.setCell ⟨w.heap.size + 1, 0, none⟩ (.string t)).setCell ⟨w.heap.size + 1, 1, none⟩ (.int .i64 a')).setCell ⟨w.heap.size + 1, 2, none⟩ (.int .i64 e')) := by
  have k : Keep (· = w.heap.size + 1) W (((W.setCell ⟨w.heap.size + 1, 0, none⟩ (.string t)).setCell ⟨w.heap.size + 1, 1, none⟩ (.int .i64 a')).setCell ⟨w.heap.size + 1, 2, none⟩ (.int .i64 e')) := ((keep_setCell _ _ _ _).trans (keep_setCell _ _ _ _)).trans (keep_setCell _ _ _ _)
  exact ⟨((h.rd.set 0 _).set 1 _).set 2 _, h.nq.keep k (by omega), h.res.keep k (by omega), h.bel.trans (keep_below k (fun j hj e => by omega) h.bel.size)⟩
end
/-- a reader's box at g, a message in a box ahead of it, its entries behind it -/
structure DqM (w : World) (t : ByteArray) (a e : Int) (b g : Nat) (m : Ms) (v : Value) (acc : List En) (W : World) : Prop where
  rd : RowIs W g [.string t, .int .i64 a, .int .i64 e] 84
  box : RowIs W b (msC v m) 32
  own : OwnQE W (g + 1) v acc
  res : RowIs W w.heap.size (msC (.slice none 0 0) ms0) 32
  bel : Below w.heap.size w W
  lo1 : w.heap.size < b
  lo2 : b < g
section
variable {w W W' : World} {t : ByteArray} {a e a' e' : Int} {b g : Nat} {m : Ms} {v v' : Value} {acc acc' : List En}
theorem DqM.call (h : DqM w t a e b g m v acc W) (hb : Below W.heap.size W W') : DqM w t a e b g m v acc W' :=
  ⟨h.rd.keep (hb.keep (fun _ => False)) (fun h => h), h.box.keep (hb.keep (fun _ => False)) (fun h => h), (hb.keep (fun _ => False)).ownsRow h.own (fun _ _ h => h), h.res.keep (hb.keep (fun _ => False)) (fun h => h), h.bel.trans (hb.mono h.bel.size), h.lo1, h.lo2⟩
theorem DqM.al (h : DqM w t a e b g m v acc W) (o : Obj) : DqM w t a e b g m v acc (W.alloc o) := h.call (below_al (Below.refl _ _) o)
theorem DqM.lt (h : DqM w t a e b g m v acc W) : g + 1 ≤ W.heap.size := h.rd.lt
theorem DqM.put {m' : Ms} (h : DqM w t a e b g m v acc W) (o : Nat) (u : Value) (hc : (msC v m).set o u = msC v m') : DqM w t a e b g m' v acc (W.setCell ⟨b, o, none⟩ u) := by
  have kS := keep_setCell W b o u
  have h1 := h.lo1
  have h2 := h.lo2
  refine ⟨h.rd.keep kS (by omega), ?_, kS.ownsRow h.own (fun j hj e => by have := ownsRow_ge h.own hj; omega), h.res.keep kS (by omega), h.bel.trans (keep_below kS (fun j hj e => by omega) h.bel.size), h.lo1, h.lo2⟩
  rw [← hc]
  exact h.box.set o u
theorem DqM.app {WB : World} (h : DqM w t a e b g m v acc W) (ho : OwnQE WB (g + 1) v' acc') (hk : Keep (fun k => v.ownBlock = some k) W WB) : DqM w t a e b g m v' acc' (WB.setCell ⟨b, 10, none⟩ v') := by
  have hge := fun k (e : v.ownBlock = some k) => ownsRow_ge h.own e
  have h1 := h.lo1
  have h2 := h.lo2
  have kS := keep_setCell WB b 10 v'
  have rB := h.box.keep hk (fun e => by have := hge b e; omega)
  have rG := h.rd.keep hk (fun e => by have := hge g e; omega)
  have rR := h.res.keep hk (fun e => by have := hge _ e; omega)
  refine ⟨rG.keep kS (by omega), rB.set 10 v', kS.ownsRow ho (fun j hj e => by have := ownsRow_ge ho hj; omega), rR.keep kS (by omega), ?_, h.lo1, h.lo2⟩
  have b1 := keep_below hk (fun k hk' e => by have := hge k e; omega) h.bel.size (B := w.heap.size)
  have b2 := keep_below kS (fun k hk' e => by omega) (Nat.le_trans h.bel.size hk.size) (B := w.heap.size)
  exact (h.bel.trans b1).trans b2
theorem DqM.done (h : DqM w t a e b g m v acc W) (x0 x1 x2 x3 x4 x5 x6 x7 x8 x9 x10 x11 : Value) (W' : World) (hW : W' = ((((((((((((W.setCell ⟨w.heap.size, 0, none⟩ (x0)).setCell ⟨w.heap.size, 1, none⟩ (x1)).setCell ⟨w.heap.size, 2, none⟩ (x2)).setCell ⟨w.heap.size, 3, none⟩ (x3)).setCell ⟨w.heap.size, 4, none⟩ (x4)).setCell ⟨w.heap.size, 5, none⟩ (x5)).setCell ⟨w.heap.size, 6, none⟩ (x6)).setCell ⟨w.heap.size, 7, none⟩ (x7)).setCell ⟨w.heap.size, 8, none⟩ (x8)).setCell ⟨w.heap.size, 9, none⟩ (x9)).setCell ⟨w.heap.size, 10, none⟩ (x10)).setCell ⟨w.heap.size, 11, none⟩ (x11))) : RowIs W' w.heap.size [x0, x1, x2, x3, x4, x5, x6, x7, x8, x9, x10, x11] 32 ∧ Below w.heap.size w W' ∧ OwnQE W' w.heap.size v acc := by
  subst hW
  have f := twelve (x0 := x0) (x1 := x1) (x2 := x2) (x3 := x3) (x4 := x4) (x5 := x5) (x6 := x6) (x7 := x7) (x8 := x8) (x9 := x9) (x10 := x10) (x11 := x11) (by rfl) h.res
  have h1 := h.lo1
  have h2 := h.lo2
  exact ⟨f.1, h.bel.trans (keep_below f.2 (fun k hk e => by omega) h.bel.size), ownsRow_base (f.2.ownsRow h.own (fun j hj e => by have := ownsRow_ge h.own hj; omega)) (by omega)⟩
end
end Go.Proofs.YtlkidnfgodficaaGreat
namespace Go.Proofs.YtlkidnfgodficaaGreat
open Go.RowKit Go.Maps
set_option linter.unusedVariables false
set_option linter.unusedSimpArgs false

theorem NdI.bmf {w : World} {B nb : Nat} {n : Nd} {ms : List Int} {es : List En} (h : NdI w B nb n ms es) : ∃ ad cap, w.cell? ⟨nb, 5, none⟩ = some (.slice ad ms.length cap) ∧ n.bm = .slice ad ms.length cap := by
  obtain ⟨ad, cap, e⟩ := h.mi.form
  exact ⟨ad, cap, by rw [← e]; exact h.bx.cellAt (o := 5) rfl, e⟩
theorem NdI.lgf {w : World} {B nb : Nat} {n : Nd} {ms : List Int} {es : List En} (h : NdI w B nb n ms es) : ∃ ad cap, w.cell? ⟨nb, 7, none⟩ = some (.slice ad es.length cap) ∧ n.lg = .slice ad es.length cap := by
  obtain ⟨ad, cap, e⟩ := h.lo.form
  exact ⟨ad, cap, by rw [← e]; exact h.bx.cellAt (o := 7) rfl, e⟩
section
variable {w : World} {B nb : Nat} {n : Nd} {ms : List Int} {es : List En}
set_option maxRecDepth 100000 in
set_option maxHeartbeats 1000000 in
theorem nisNone_any (h : NdI w B nb n ms es) (hne : ms ≠ []) : Calls Tryz.prog 56 #[.pointer (some ⟨nb, 0, none⟩)] w fun e w' => e = .returned (.bool false) ∧ w' = w := by
  obtain ⟨ad, cap, c5, -⟩ := h.bmf
  have h0 : decide ((ms.length : Int) = 0) = false := decide_eq_false (by have := List.length_pos_iff.2 hne; omega)
  have h1 : decide (ms.length = 0) = false := decide_eq_false (by have := List.length_pos_iff.2 hne; omega)
  have h2 : (ms.length == 0) = false := by simp [hne]
  have h3 : ((ms.length : Int) == 0) = false := by simp [hne]
  have HF := hid (List.length_pos_iff.2 hne)
  generalize ms.length = N at *
  clear h hne
  go_enter Tryz.func56, Tryz.ntmps56
  go_wp2
  go_ret
  exact ⟨by first | rfl | simp, rfl⟩
set_option maxRecDepth 100000 in
set_option maxHeartbeats 1000000 in
theorem nplace_any (h : NdI w B nb n ms es) (i k : Int) (hk : i - n.bi = k) (h0 : -4611686018427387904 ≤ k) (h1 : k ≤ 4611686018427387904) : Calls Tryz.prog 60 #[.pointer (some ⟨nb, 0, none⟩), .int .i64 i] w fun e w' => e = .returned (.int .i64 k) ∧ w' = w := by
  have c3 := h.bx.cellAt (o := 3) rfl
  have hw : wrap64 (i - n.bi) = k := by rw [hk]; exact IntWalk.wrap64_in _ (by omega)
  have hw2 : wrap64 k = k := IntWalk.wrap64_in _ (by omega)
  generalize n.bi = b at *
  clear h h0 h1
  go_enter Tryz.func60, Tryz.ntmps60
  go_wp2
  go_ret
  exact ⟨by first | rw [hw] | (simp; omega), rfl⟩
/-- the term of the last entry, or of the base -/
def ltT (bt : Int) (es : List En) : Int := match es.getLast? with
  | none => bt
  | some x => x.tm
set_option maxRecDepth 100000 in
set_option maxHeartbeats 1000000 in
theorem ntermAt_base (h : NdI w B nb n ms es) : Calls Tryz.prog 57 #[.pointer (some ⟨nb, 0, none⟩), .int .i64 n.bi] w fun e w' => e = .returned (.tuple #[.int .i64 n.bt, .bool true]) ∧ Below w.heap.size w w' := by
  have c3 := h.bx.cellAt (o := 3) rfl
  have c4 := h.bx.cellAt (o := 4) rfl
  generalize n.bi = b at *
  generalize n.bt = t at *
  have h2 : decide (b = b) = true := decide_eq_true rfl
  clear h
  go_enter Tryz.func57, Tryz.ntmps57
  go_wp2
  go_ret2
  exact ⟨rfl, Below.refl _ _⟩
set_option maxRecDepth 100000 in
set_option maxHeartbeats 2000000 in
theorem ntermAt_in (h : NdI w B nb n ms es) (k : Nat) (hk : k < es.length) (hl : es.length ≤ 17592186044416) (hb0 : 0 ≤ n.bi) (hb1 : n.bi ≤ 1099511627776) : Calls Tryz.prog 57 #[.pointer (some ⟨nb, 0, none⟩), .int .i64 (n.bi + k + 1)] w fun e w' => e = .returned (.tuple #[.int .i64 (es[k]).tm, .bool true]) ∧ Below w.heap.size w w' := by
  have c3 := h.bx.cellAt (o := 3) rfl
  obtain ⟨ad, cap, c7, e7⟩ := h.lgf
  have PL : Hid (∀ W, Below w.heap.size w W → Calls Tryz.prog 60 #[.pointer (some ⟨nb, 0, none⟩), .int .i64 (n.bi + k + 1)] W fun e w' => e = .returned (.int .i64 ((k + 1 : Nat) : Int)) ∧ w' = W) := fun W hW => nplace_any (h.next hW) _ _ (by omega) (by omega) (by omega)
  have hv := h.lo.ents
  rw [e7] at hv
  obtain ⟨ad', cap', e8, hc⟩ := hv.form
  cases e8
  obtain ⟨b, off, hb, hbl, d0, -, -⟩ := hc k hk
  subst hb
  have c3' : w.cell? ⟨nb, 3, none⟩ = some (.int .i64 n.bi) := c3
  have h1 : decide (n.bi + (k : Int) + 1 = n.bi) = false := decide_eq_false (by omega)
  have h1b : (n.bi + (k : Int) + 1 == n.bi) = false := by rw [beq_eq_false_iff_ne]; omega
  have h2 : decide (n.bi + (k : Int) + 1 < n.bi) = false := decide_eq_false (by omega)
  have h3 : decide (((k + 1 : Nat) : Int) > (es.length : Int)) = false := decide_eq_false (by omega)
  have h3' : decide (((k : Int) + 1) > (es.length : Int)) = false := decide_eq_false (by omega)
  have h3n : decide (es.length < k + 1) = false := decide_eq_false (by omega)
  have q0 : wrap64 (((k + 1 : Nat) : Int) - 1) = (k : Int) := by rw [IntWalk.wrap64_in _ (by omega)]; omega
  have q0' : ((k + 1 : Nat) : Int) - 1 = (k : Int) := by omega
  have q1 : IntKind.i64.wrap (k : Int) = (k : Int) := by rw [IntKind.wrap_i64]; omega
  have q2 : wrap64 (k : Int) = (k : Int) := IntWalk.wrap64_in _ (by omega)
  have r0 : (0 : Int) ≤ (k : Int) := by omega
  have r1 : (k : Int) < (es.length : Int) := by omega
  have HB : Hid (∀ q, Below w.heap.size w (w.drewN q)) := fun q => below_drewN (Below.refl _ _) _
  generalize (es[k]).tm = t at *
  generalize n.bi + (k : Int) + 1 = i at *
  clear h hc hv c3 e7 hl hb0 hb1 hk
  generalize n.bi = bi at *
  generalize es.length = N at *
  generalize hk1 : k + 1 = k1 at *
  clear hk1
  go_enter Tryz.func57, Tryz.ntmps57
  go_wp2
  go_quiet (first | (go_at_call 60; exact Calls.quiet_of_same (PL.out _ (by first | exact Below.refl _ _ | exact (Below.refl _ _).drew | exact below_drewN (Below.refl _ _) _ | exact below_drewN (below_drewN (Below.refl _ _) _) _))))
  have B1 := hid (HB.out nq)
  have e7 : (w.drewN nq).cell? ⟨nb, 7, none⟩ = some (.slice (some ⟨b, off, none⟩) N cap) := c7
  have e0 : (w.drewN nq).cell? ⟨b, off + k * 3, none⟩ = some (.int .i64 t) := d0
  have PL2 : Hid (∀ q, Calls Tryz.prog 60 #[.pointer (some ⟨nb, 0, none⟩), .int .i64 i] ((w.drewN nq).drewN q) fun e w' => e = .returned (.int .i64 (k1 : Int)) ∧ w' = (w.drewN nq).drewN q) := fun q => PL.out _ (below_drewN B1.out q)
  clear c7 d0 c3' HB PL h1 h1b h2 h3 h3' h3n
  generalize w.drewN nq = W2 at *
  go_wp2
  go_quiet (first | (go_at_call 60; exact Calls.quiet_of_same (PL2.out _)))
  go_wp2
  go_ret2
  exact ⟨rfl, below_drewN B1.out _⟩
theorem ltT_snoc (bt : Int) (es : List En) (x : En) : ltT bt (es ++ [x]) = x.tm := by simp [ltT]
set_option maxRecDepth 100000 in
set_option maxHeartbeats 2000000 in
theorem nlast_any (h : NdI w B nb n ms es) (hne : ms ≠ []) (hl : es.length ≤ 17592186044416) (hb0 : 0 ≤ n.bi) (hb1 : n.bi ≤ 1099511627776) : Calls Tryz.prog 17 #[.pointer (some ⟨nb, 0, none⟩)] w fun e w' => e = .returned (.tuple #[.int .i64 (n.bi + es.length), .int .i64 (ltT n.bt es)]) ∧ Below w.heap.size w w' := by
  have N := hid (nisNone_any h hne)
  have TA : Hid (∀ W, Below w.heap.size w W → Calls Tryz.prog 57 #[.pointer (some ⟨nb, 0, none⟩), .int .i64 (n.bi + es.length)] W fun e w' => e = .returned (.tuple #[.int .i64 (ltT n.bt es), .bool true]) ∧ Below W.heap.size W w') := fun W hW => by
    have hW' := h.next hW
    rcases List.eq_nil_or_concat es with rfl | ⟨l, x, rfl⟩
    · have := ntermAt_base hW'
      simpa [ltT] using this
    · rw [List.concat_eq_append] at *
      have := ntermAt_in hW' l.length (by simp) hl hb0 hb1
      rw [ltT_snoc]
      simp only [List.length_append, List.length_cons, List.length_nil, Nat.zero_add] at this ⊢
      rw [show ((l ++ [x])[l.length]'(by simp)) = x by simp] at this
      rw [show n.bi + ((l.length + 1 : Nat) : Int) = n.bi + (l.length : Int) + 1 by omega]
      exact this
  have c3 := h.bx.cellAt (o := 3) rfl
  obtain ⟨ad, cap, c7, -⟩ := h.lgf
  have c3' : w.cell? ⟨nb, 3, none⟩ = some (.int .i64 n.bi) := c3
  have q1 : wrap64 (n.bi + (es.length : Int)) = n.bi + (es.length : Int) := IntWalk.wrap64_in _ (by omega)
  have q2 : IntKind.i64.wrap (n.bi + (es.length : Int)) = n.bi + (es.length : Int) := by rw [IntKind.wrap_i64]; omega
  have HB : Hid (∀ q, Below w.heap.size w (w.drewN q)) := fun q => below_drewN (Below.refl _ _) _
  generalize ltT n.bt es = lt at *
  obtain ⟨s, hs⟩ : ∃ s, n.bi + (es.length : Int) = s := ⟨_, rfl⟩
  rw [hs] at q1 q2 TA ⊢
  clear h hne hl hb0 hb1 c3
  generalize n.bi = bi at *
  generalize es.length = M at *
  go_enter Tryz.func17, Tryz.ntmps17
  go_wp2_with fail
  refine N.out.mono ?_
  rintro e w1 ⟨rfl, rfl⟩
  clear N
  go_wp2
  go_quiet (fail)
  clear q1 q2 c3' c7
  go_wp2_with fail
  refine (TA.out _ (HB.out _)).mono ?_
  rintro e w2 ⟨rfl, b2⟩
  have B2 := hid (below_on (HB.out _) b2)
  clear TA HB b2
  go_wp2
  go_ret2
  exact ⟨by first | rfl | (simp; omega), B2.out⟩
/-- the configuration that a node's log says last -/
def mbL (ms : List Int) (es : List En) : List Int := (latF ⟨ms, 0⟩ 0 es).l
set_option maxRecDepth 100000 in
set_option maxHeartbeats 2000000 in
theorem nmembers_any (h : NdI w B nb n ms es) (hne : ms ≠ []) (hm : ms.length ≤ 17592186044416) (hl : es.length ≤ 17592186044416) (hd : ∀ x ∈ es, x.da.size ≤ 140737488355328) : Calls Tryz.prog 30 #[.pointer (some ⟨nb, 0, none⟩)] w fun e w' => ∃ v', e = .returned v' ∧ IntsI w' v' (mbL ms es) ∧ Below w.heap.size w w' := by
  have N := hid (nisNone_any h hne)
  obtain ⟨ad, cap, c5, e5⟩ := h.bmf
  obtain ⟨ad2, cap2, c7, e7⟩ := h.lgf
  have LA : Hid (∀ q, Calls Tryz.prog 59 #[.slice ad ms.length cap, .slice ad2 es.length cap2] (w.drewN q) fun e w' => ∃ v', e = .returned (.tuple #[v', .int .i64 ((latF ⟨ms, 0⟩ 0 es).p : Nat)]) ∧ IntsI w' v' (mbL ms es) ∧ Below w.heap.size w w') := fun q => by
    have h1 := h.keep (keep_drewN w q) (fun _ _ h => h)
    have hi := h1.mi.ints
    have ho := h1.lo.ents
    rw [e5] at hi
    rw [e7] at ho
    exact (clatest_any _ _ ms es (w.drewN q) hi ho hm hl hd).mono fun e w' ⟨v', he, hi, hb⟩ => ⟨v', he, hi, below_on (below_drewN (Below.refl _ _) _) hb⟩
  have CC : Hid (∀ W, Below w.heap.size w W → W.cell? ⟨nb, 5, none⟩ = some (.slice ad ms.length cap) ∧ W.cell? ⟨nb, 7, none⟩ = some (.slice ad2 es.length cap2)) := fun W hW => ⟨(hW.cell h.lt).trans c5, (hW.cell h.lt).trans c7⟩
  clear h hne hm hl hd e5 e7
  generalize mbL ms es = R at *
  generalize (latF ⟨ms, 0⟩ 0 es).p = P at *
  generalize ms.length = M at *
  generalize es.length = E at *
  go_enter Tryz.func30, Tryz.ntmps30
  go_wp2_with fail
  refine N.out.mono ?_
  rintro e w1 ⟨rfl, rfl⟩
  clear N
  go_wp2
  refine wp_region_held_drew (S := fun W => W.cell? ⟨nb, 5, none⟩ = some (.slice ad M cap) ∧ W.cell? ⟨nb, 7, none⟩ = some (.slice ad2 E cap2)) (by kernel_rfl) ⟨c5, c7⟩ (fun hHeld => ?_)
  refine wpAnyH_take (i := 0) (v := ?vv1) rfl (by kernel_rfl) (by kernel_rfl) (by kernel_rfl) (fun _ _ _ h => h) (Or.inl ⟨by rfl, ?hy1⟩) (by assumption) ?rest1
  case hy1 => (intro w hSw; (try dsimp only at hSw); go_simp; first | done | with_reducible rfl)
  try simp only [Act.put, List.getElem_toArray, List.getElem_cons_succ, List.getElem_cons_zero, List.setIfInBounds_toArray, List.set_cons_zero, List.set_cons_succ]
  refine wpAnyH_take (i := 1) (v := ?vv2) rfl (by kernel_rfl) (by kernel_rfl) (by kernel_rfl) (fun _ _ _ h => h) (Or.inl ⟨by rfl, ?hy2⟩) (by assumption) ?rest2
  case hy2 => (intro w hSw; (try dsimp only at hSw); go_simp; first | done | with_reducible rfl)
  try simp only [Act.put, List.getElem_toArray, List.getElem_cons_succ, List.getElem_cons_zero, List.setIfInBounds_toArray, List.set_cons_zero, List.set_cons_succ]
  refine wpAnyH_take (i := 2) (v := ?vv3) rfl (by kernel_rfl) (by kernel_rfl) (by kernel_rfl) (fun _ _ _ h => h) (Or.inl ⟨by rfl, ?hy3⟩) (by assumption) ?rest3
  case hy3 => (intro w hSw; (try dsimp only at hSw); go_simp; first | done | with_reducible rfl)
  try simp only [Act.put, List.getElem_toArray, List.getElem_cons_succ, List.getElem_cons_zero, List.setIfInBounds_toArray, List.set_cons_zero, List.set_cons_succ]
  refine wpAnyH_take (i := 3) (v := ?vv4) rfl (by kernel_rfl) (by kernel_rfl) (by kernel_rfl) (fun _ _ _ h => h) (Or.inl ⟨by rfl, ?hy4⟩) (by assumption) ?rest4
  case hy4 => (intro w hSw; (try dsimp only at hSw); go_simp; first | done | with_reducible rfl)
  try simp only [Act.put, List.getElem_toArray, List.getElem_cons_succ, List.getElem_cons_zero, List.setIfInBounds_toArray, List.set_cons_zero, List.set_cons_succ]
  refine wpAnyH_take (i := 4) (v := ?vv5) rfl (by kernel_rfl) (by kernel_rfl) (by kernel_rfl) (fun _ _ _ h => h) (Or.inl ⟨by rfl, ?hy5⟩) (by assumption) ?rest5
  case hy5 => (intro w hSw; (try dsimp only at hSw); go_simp; first | done | with_reducible rfl)
  try simp only [Act.put, List.getElem_toArray, List.getElem_cons_succ, List.getElem_cons_zero, List.setIfInBounds_toArray, List.set_cons_zero, List.set_cons_succ]
  refine wpAnyH_take (i := 5) (v := ?vv6) rfl (by kernel_rfl) (by kernel_rfl) (by kernel_rfl) (fun _ _ _ h => h) (Or.inl ⟨by rfl, ?hy6⟩) (by assumption) ?rest6
  case hy6 => (intro w hSw; (try dsimp only at hSw); go_simp; first | done | with_reducible rfl)
  try simp only [Act.put, List.getElem_toArray, List.getElem_cons_succ, List.getElem_cons_zero, List.setIfInBounds_toArray, List.set_cons_zero, List.set_cons_succ]
  refine wpAnyH_take (i := 6) (v := ?vv7) rfl (by kernel_rfl) (by kernel_rfl) (by kernel_rfl) (fun _ _ _ h => h) (Or.inl ⟨by rfl, ?hy7⟩) (by assumption) ?rest7
  case hy7 => (intro w hSw; (try dsimp only at hSw); go_simp; first | done | with_reducible rfl)
  try simp only [Act.put, List.getElem_toArray, List.getElem_cons_succ, List.getElem_cons_zero, List.setIfInBounds_toArray, List.set_cons_zero, List.set_cons_succ]
  refine wpAnyH_take (i := 7) (v := ?vv8) rfl (by kernel_rfl) (by kernel_rfl) (by kernel_rfl) (fun _ _ _ h => h) (Or.inl ⟨by rfl, ?hy8⟩) (by assumption) ?rest8
  case hy8 => (intro w hSw; (try dsimp only at hSw); go_simp; first | done | with_reducible rfl)
  try simp only [Act.put, List.getElem_toArray, List.getElem_cons_succ, List.getElem_cons_zero, List.setIfInBounds_toArray, List.set_cons_zero, List.set_cons_succ]
  refine wpAnyH_take (i := 8) (v := ?vv9) rfl (by kernel_rfl) (by kernel_rfl) (by kernel_rfl) (fun _ _ _ h => h) (Or.inl ⟨by rfl, ?hy9⟩) (by assumption) ?rest9
  case hy9 => (intro w hSw; (try dsimp only at hSw); go_simp; first | done | with_reducible rfl)
  try simp only [Act.put, List.getElem_toArray, List.getElem_cons_succ, List.getElem_cons_zero, List.setIfInBounds_toArray, List.set_cons_zero, List.set_cons_succ]
  refine wpAnyH_ready (rs := [9]) (by kernel_rfl) (by simp) ?_
  refine AllReadyH.cons rfl (fun K hK => ?_) AllReadyH.nil
  go_simp
  refine (LA.out 1).mono ?_
  rintro q1 w2 ⟨v', rfl, hi, hb⟩
  have HI := hid hi
  have HBB := hid hb
  clear LA hi hb hHeld
  go_wp2_with fail
  refine hK.out _ _ (CC.out _ HBB.out) (fun hHeld => ?_)
  clear hK K
  try simp only [Act.put, List.getElem_toArray, List.getElem_cons_succ, List.getElem_cons_zero, List.setIfInBounds_toArray, List.set_cons_zero, List.set_cons_succ]
  refine wpAnyH_take (i := 10) (v := ?vv10) rfl (by kernel_rfl) (by kernel_rfl) (by kernel_rfl) (fun _ _ _ h => h) (Or.inl ⟨by rfl, ?hy10⟩) (by assumption) ?rest10
  case hy10 => (intro w hSw; (try dsimp only at hSw); go_simp; first | done | with_reducible rfl)
  try simp only [Act.put, List.getElem_toArray, List.getElem_cons_succ, List.getElem_cons_zero, List.setIfInBounds_toArray, List.set_cons_zero, List.set_cons_succ]
  refine wpAnyH_take (i := 11) (v := ?vv11) rfl (by kernel_rfl) (by kernel_rfl) (by kernel_rfl) (fun _ _ _ h => h) (Or.inl ⟨by rfl, ?hy11⟩) (by assumption) ?rest11
  case hy11 => (intro w hSw; (try dsimp only at hSw); go_simp; first | done | with_reducible rfl)
  try simp only [Act.put, List.getElem_toArray, List.getElem_cons_succ, List.getElem_cons_zero, List.setIfInBounds_toArray, List.set_cons_zero, List.set_cons_succ]
  refine wpAnyH_take (i := 12) (v := ?vv12) rfl (by kernel_rfl) (by kernel_rfl) (by kernel_rfl) (fun _ _ _ h => h) (Or.inl ⟨by rfl, ?hy12⟩) (by assumption) ?rest12
  case hy12 => (intro w hSw; (try dsimp only at hSw); go_simp; first | done | with_reducible rfl)
  try simp only [Act.put, List.getElem_toArray, List.getElem_cons_succ, List.getElem_cons_zero, List.setIfInBounds_toArray, List.set_cons_zero, List.set_cons_succ]
  refine wpAnyH_take (i := 13) (v := ?vv13) rfl (by kernel_rfl) (by kernel_rfl) (by kernel_rfl) (fun _ _ _ h => h) (Or.inl ⟨by rfl, ?hy13⟩) (by assumption) ?rest13
  case hy13 => (intro w hSw; (try dsimp only at hSw); go_simp; first | done | with_reducible rfl)
  try simp only [Act.put, List.getElem_toArray, List.getElem_cons_succ, List.getElem_cons_zero, List.setIfInBounds_toArray, List.set_cons_zero, List.set_cons_succ]
  refine wpAnyH_take (i := 14) (v := ?vv14) rfl (by kernel_rfl) (by kernel_rfl) (by kernel_rfl) (fun _ _ _ h => h) (Or.inl ⟨by rfl, ?hy14⟩) (by assumption) ?rest14
  case hy14 => (intro w hSw; (try dsimp only at hSw); go_simp; first | done | with_reducible rfl)
  try simp only [Act.put, List.getElem_toArray, List.getElem_cons_succ, List.getElem_cons_zero, List.setIfInBounds_toArray, List.set_cons_zero, List.set_cons_succ]
  refine wpAnyH_done (by kernel_rfl) ?_ _
  clear hHeld
  go_wp2
  go_ret
  exact ⟨_, rfl, HI.out, HBB.out⟩
end
end Go.Proofs.YtlkidnfgodficaaGreat
namespace Go.Proofs.YtlkidnfgodficaaGreat
open Go.RowKit Go.Maps
set_option linter.unusedVariables false
set_option linter.unusedSimpArgs false

/-- the blocks of a node -/
def NdB (nb : Nat) (n : Nd) (j : Nat) : Prop := j = nb ∨ n.bm.ownBlock = some j ∨ n.lg.ownBlock = some j
/-- a node behind some calls on it -/
structure NdG (w : World) (B nb : Nat) (n : Nd) (w' : World) (n' : Nd) (ms : List Int) (es : List En) : Prop where
  nd : NdI w' B nb n' ms es
  kp : Keep (NdB nb n) w w'
  nx : ∀ j, NdB nb n' j → NdB nb n j ∨ w.heap.size ≤ j
section
variable {w w1 w2 : World} {B nb : Nat} {n n1 n2 : Nd} {ms ms1 ms2 : List Int} {es es1 es2 : List En}
theorem NdG.refl (h : NdI w B nb n ms es) : NdG w B nb n w n ms es := ⟨h, Keep.refl _ _, fun j h => .inl h⟩
theorem NdG.trans (h : NdG w B nb n w1 n1 ms1 es1) (k : NdG w1 B nb n1 w2 n2 ms2 es2) : NdG w B nb n w2 n2 ms2 es2 :=
  ⟨k.nd, h.kp.then (T := NdB nb n1) k.kp (fun j hj hT => (h.nx j hT).resolve_right (by omega)), fun j hj => by
    rcases k.nx j hj with h1 | h1
    · exact h.nx j h1
    · exact .inr (Nat.le_trans h.kp.size h1)⟩
theorem NdG.next (h : NdG w B nb n w1 n1 ms es) (b : Below w1.heap.size w1 w2) : NdG w B nb n w2 n1 ms es :=
  ⟨h.nd.next b, h.kp.then (T := fun _ => False) (b.keep _) (fun _ _ h => h.elim), h.nx⟩
theorem NdG.drewN (h : NdG w B nb n w1 n1 ms es) (q : Nat) : NdG w B nb n (w1.drewN q) n1 ms es := h.next (below_drewN (Below.refl _ _) q)
theorem NdG.drew (h : NdG w B nb n w1 n1 ms es) : NdG w B nb n w1.drew n1 ms es := h.next (Below.refl _ _).drew
theorem NdI.bel (h : NdI w B nb n ms es) (k : NdG w B nb n w1 n1 ms1 es1) {C : Nat} (hC : C ≤ B) : Below C w w1 :=
  keep_below k.kp (fun j hj e => by
    have h1 := h.ge
    rcases e with e | e | e
    · omega
    · have := ownsRow_ge h.mi e; omega
    · have := ownsRow_ge h.lo e; omega) (Nat.le_trans hC (Nat.le_trans h.ge (Nat.le_of_lt h.lt)))
theorem NdI.put (h : NdI w B nb n ms es) (o : Nat) (v : Value) (hc : n.c.set o v = n1.c) (h1 : n1.bm = n.bm) (h2 : n1.lg = n.lg) : NdG w B nb n (w.setCell ⟨nb, o, none⟩ v) n1 ms es :=
  ⟨h.set o v hc h1 h2, (keep_setCell w nb o v).mono (fun j _ e => .inl e), fun j hj => by
    rcases hj with e | e | e
    · exact .inl (.inl e)
    · rw [h1] at e; exact .inl (.inr (.inl e))
    · rw [h2] at e; exact .inl (.inr (.inr e))⟩
end
theorem Nd.c_vs (n : Nd) (j : Nat) (v : Value) (hj : j < n.vs.length) : n.c.set (21 + j) v = { n with vs := n.vs.set j v }.c := by
  unfold Nd.c
  rw [List.set_append_right _ _ (by simp), List.set_append_left _ _ (by simp; omega)]
  simp
theorem Nd.c_rn (n : Nd) (x : Int) (h : n.vs.length = 7) : n.c.set 28 (.int .i64 x) = { n with rn := x }.c := by
  unfold Nd.c
  rw [List.set_append_right _ _ (by simp), List.set_append_right _ _ (by simp; omega)]
  simp [h]
theorem Nd.c_be (n : Nd) (x : Int) (h : n.vs.length = 7) : n.c.set 29 (.int .i64 x) = { n with be := x }.c := by
  unfold Nd.c
  rw [List.set_append_right _ _ (by simp), List.set_append_right _ _ (by simp; omega)]
  simp [h]
theorem Nd.c_ps (n : Nd) (j : Nat) (v : Value) (h : n.vs.length = 7) : n.c.set (30 + j) v = { n with ps := n.ps.set j v }.c := by
  unfold Nd.c
  rw [List.set_append_right _ _ (by simp; omega), List.set_append_right _ _ (by simp; omega), List.set_append_right _ _ (by simp; omega)]
  simp [h]
  congr 1
  omega
theorem Nd.g_vs (n : Nd) (j : Nat) (hj : j < n.vs.length) : n.c[21 + j]? = some n.vs[j] := by
  unfold Nd.c
  rw [List.getElem?_append_right (by simp), List.getElem?_append_left (by simp; omega)]
  simp
theorem Nd.g_rn (n : Nd) (h : n.vs.length = 7) : n.c[28]? = some (.int .i64 n.rn) := by
  unfold Nd.c
  rw [List.getElem?_append_right (by simp), List.getElem?_append_right (by simp; omega)]
  simp [h]
theorem Nd.g_be (n : Nd) (h : n.vs.length = 7) : n.c[29]? = some (.int .i64 n.be) := by
  unfold Nd.c
  rw [List.getElem?_append_right (by simp), List.getElem?_append_right (by simp; omega)]
  simp [h]
theorem Nd.g_ps (n : Nd) (j : Nat) (h : n.vs.length = 7) (hj : j < n.ps.length) : n.c[30 + j]? = some n.ps[j] := by
  unfold Nd.c
  rw [List.getElem?_append_right (by simp; omega), List.getElem?_append_right (by simp; omega), List.getElem?_append_right (by simp; omega)]
  simp only [List.length_cons, List.length_nil, h]
  rw [show 30 + j - (0 + 1 + 1 + 1 + 1 + 1 + 1 + 1 + 1 + 1 + 1 + 1 + 1 + 1 + 1 + 1 + 1 + 1 + 1 + 1 + 1 + 1) - 7 - (0 + 1 + 1) = j by omega, List.getElem?_eq_getElem hj]
/-- for how long a draw lets a node wait -/
def wtD (d : Int) : Int := 10 + (d.tmod 11 + 11).tmod 11
theorem wtD_ar (d : Int) : wrap64 (d.tmod 11) = d.tmod 11 ∧ wrap64 (d.tmod 11 + 11) = d.tmod 11 + 11 ∧ wrap64 ((d.tmod 11 + 11).tmod 11) = (d.tmod 11 + 11).tmod 11 ∧ wrap64 (10 + (d.tmod 11 + 11).tmod 11) = 10 + (d.tmod 11 + 11).tmod 11 := by
  have h1 : d.tmod 11 < 11 := Int.tmod_lt_of_pos d (by omega)
  have h2 : -11 < d.tmod 11 := by
    have := Int.tmod_lt_of_pos (-d) (b := 11) (by omega)
    rw [Int.neg_tmod] at this
    omega
  have h3 : (d.tmod 11 + 11).tmod 11 < 11 := Int.tmod_lt_of_pos _ (by omega)
  have h4 : 0 ≤ (d.tmod 11 + 11).tmod 11 := Int.tmod_nonneg _ (by omega)
  refine ⟨?_, ?_, ?_, ?_⟩ <;> exact IntWalk.wrap64_in _ (by omega)
section
variable {w : World} {B nb : Nat} {n : Nd} {ms : List Int} {es : List En}
set_option maxRecDepth 100000 in
set_option maxHeartbeats 1000000 in
theorem nwait_any (h : NdI w B nb n ms es) : Calls Tryz.prog 55 #[.pointer (some ⟨nb, 0, none⟩)] w fun e w' => e = .returned (.tuple #[]) ∧ NdG w B nb n w' { n with wd := 0, wt := wtD n.dr } ms es := by
  have c8 := h.bx.cellAt (o := 11) rfl
  have c9 := h.bx.cellAt (o := 12) rfl
  have c10 := h.bx.cellAt (o := 13) rfl
  have f9 := h.bx.frozen (o := 12)
  have f10 := h.bx.frozen (o := 13)
  obtain ⟨q1, q2, q3, q4⟩ := wtD_ar n.dr
  have FIN : Hid (NdG w B nb n ((w.setCell ⟨nb, 13, none⟩ (.int .i64 0)).setCell ⟨nb, 12, none⟩ (.int .i64 (10 + (n.dr.tmod 11 + 11).tmod 11))) { n with wd := 0, wt := wtD n.dr } ms es) := by
    have k1 := h.put (n1 := { n with wd := 0 }) 13 (.int .i64 0) rfl rfl rfl
    have k2 := k1.nd.put (n1 := { n with wd := 0, wt := wtD n.dr }) 12 (.int .i64 (wtD n.dr)) rfl rfl rfl
    exact k1.trans k2
  clear h
  go_enter Tryz.func55, Tryz.ntmps55
  go_wp2
  go_end0
  exact ⟨rfl, FIN.out⟩
end
end Go.Proofs.YtlkidnfgodficaaGreat
namespace Go.Proofs.YtlkidnfgodficaaGreat
open Go.RowKit Go.Maps
set_option linter.unusedVariables false
set_option linter.unusedSimpArgs false

def ndWa (n : Nd) : Nd := { n with wd := 0, wt := wtD n.dr }
def ndFo (n : Nd) (x : Int) : Nd := if n.rl = 0 then { n with rl := 0, ld := x } else { n with wd := 0, wt := wtD n.dr, rl := 0, ld := x }
def ndRi (n : Nd) (t : Int) : Nd := ndFo { n with tm := t, vt := -1 } (-1)
def ndVo (n : Nd) (x : Int) : Nd := ndWa { n with vt := x }
section
variable {w : World} {B nb : Nat} {n : Nd} {ms : List Int} {es : List En}
theorem nfollow_end (h : NdI w B nb n ms es) (x : Int) : NdG w B nb n ((w.setCell ⟨nb, 9, none⟩ (.int .i64 0)).setCell ⟨nb, 10, none⟩ (.int .i64 x)) { n with rl := 0, ld := x } ms es :=
  have k1 := h.put (n1 := { n with rl := 0 }) 9 (.int .i64 0) rfl rfl rfl
  k1.trans (k1.nd.put (n1 := { n with rl := 0, ld := x }) 10 (.int .i64 x) rfl rfl rfl)
set_option maxRecDepth 100000 in
set_option maxHeartbeats 1000000 in
theorem nfollow_any (h : NdI w B nb n ms es) (x : Int) : Calls Tryz.prog 116 #[.pointer (some ⟨nb, 0, none⟩), .int .i64 x] w fun e w' => e = .returned (.tuple #[]) ∧ NdG w B nb n w' (ndFo n x) ms es := by
  unfold ndFo
  have c9 := h.bx.cellAt (o := 9) rfl
  by_cases hr : n.rl = 0
  · rw [if_pos hr]
    have c10 := h.bx.cellAt (o := 10) rfl
    have f9 := h.bx.frozen (o := 9)
    have f10 := h.bx.frozen (o := 10)
    have FIN := hid (nfollow_end h x)
    have hb : (n.rl != 0) = false := by simp [hr]
    have hd : decide (n.rl = 0) = true := decide_eq_true hr
    generalize n.rl = r at *
    clear h hr
    go_enter Tryz.func116, Tryz.ntmps116
    go_wp2
    go_end0
    exact ⟨rfl, FIN.out⟩
  · rw [if_neg hr]
    have WA := hid (nwait_any h)
    have FIN : Hid (∀ W, NdG w B nb n W { n with wd := 0, wt := wtD n.dr } ms es → W.cell? ⟨nb, 9, none⟩ = some (.int .i64 n.rl) ∧ W.cell? ⟨nb, 10, none⟩ = some (.int .i64 n.ld) ∧ W.frozen? ⟨nb, 9, none⟩ = false ∧ W.frozen? ⟨nb, 10, none⟩ = false ∧ Hid (NdG w B nb n ((W.setCell ⟨nb, 9, none⟩ (.int .i64 0)).setCell ⟨nb, 10, none⟩ (.int .i64 x)) { n with wd := 0, wt := wtD n.dr, rl := 0, ld := x } ms es)) := fun W g => ⟨g.nd.bx.cellAt rfl, g.nd.bx.cellAt rfl, g.nd.bx.frozen, g.nd.bx.frozen, g.trans (nfollow_end g.nd x)⟩
    have hb : (n.rl != 0) = true := by simp [hr]
    have hd : decide (n.rl = 0) = false := decide_eq_false hr
    generalize hrr : n.rl = r at *
    clear h hr hrr
    go_enter Tryz.func116, Tryz.ntmps116
    go_wp2_with fail
    refine WA.out.mono ?_
    rintro e w1 ⟨rfl, g1⟩
    obtain ⟨d9, d10, f9, f10, F2⟩ := FIN.out w1 g1
    clear WA g1 FIN c9
    go_wp2
    go_end0
    exact ⟨rfl, F2.out⟩
set_option maxRecDepth 100000 in
set_option maxHeartbeats 1000000 in
theorem nrise_any (h : NdI w B nb n ms es) (t : Int) : Calls Tryz.prog 79 #[.pointer (some ⟨nb, 0, none⟩), .int .i64 t] w fun e w' => e = .returned (.tuple #[]) ∧ NdG w B nb n w' (ndRi n t) ms es := by
  have c1 := h.bx.cellAt (o := 1) rfl
  have c2 := h.bx.cellAt (o := 2) rfl
  have f1 := h.bx.frozen (o := 1)
  have f2 := h.bx.frozen (o := 2)
  have k1 := h.put (n1 := { n with tm := t }) 1 (.int .i64 t) rfl rfl rfl
  have k2 := k1.trans (k1.nd.put (n1 := { n with tm := t, vt := -1 }) 2 (.int .i64 (-1)) rfl rfl rfl)
  have FO : Hid (Calls Tryz.prog 116 #[.pointer (some ⟨nb, 0, none⟩), .int .i64 (-1)] ((w.setCell ⟨nb, 1, none⟩ (.int .i64 t)).setCell ⟨nb, 2, none⟩ (.int .i64 (-1))) fun e w' => e = .returned (.tuple #[]) ∧ NdG w B nb n w' (ndRi n t) ms es) := (nfollow_any k2.nd (-1)).mono fun e w' ⟨he, g⟩ => ⟨he, k2.trans g⟩
  clear h k1 k2
  go_enter Tryz.func79, Tryz.ntmps79
  go_wp2_with fail
  refine FO.out.mono ?_
  rintro e w1 ⟨rfl, g1⟩
  have G1 := hid g1
  clear FO g1 c1 c2 f1 f2
  go_wp2
  go_end0
  exact ⟨rfl, G1.out⟩
set_option maxRecDepth 100000 in
set_option maxHeartbeats 1000000 in
theorem nvote_any (h : NdI w B nb n ms es) (x : Int) : Calls Tryz.prog 118 #[.pointer (some ⟨nb, 0, none⟩), .int .i64 x] w fun e w' => e = .returned (.tuple #[]) ∧ NdG w B nb n w' (ndVo n x) ms es := by
  have c2 := h.bx.cellAt (o := 2) rfl
  have f2 := h.bx.frozen (o := 2)
  have k1 := h.put (n1 := { n with vt := x }) 2 (.int .i64 x) rfl rfl rfl
  have FO : Hid (Calls Tryz.prog 55 #[.pointer (some ⟨nb, 0, none⟩)] (w.setCell ⟨nb, 2, none⟩ (.int .i64 x)) fun e w' => e = .returned (.tuple #[]) ∧ NdG w B nb n w' (ndVo n x) ms es) := (nwait_any k1.nd).mono fun e w' ⟨he, g⟩ => ⟨he, k1.trans g⟩
  clear h k1
  go_enter Tryz.func118, Tryz.ntmps118
  go_wp2_with fail
  refine FO.out.mono ?_
  rintro e w1 ⟨rfl, g1⟩
  have G1 := hid g1
  clear FO g1 c2 f2
  go_wp2
  go_end0
  exact ⟨rfl, G1.out⟩
set_option maxRecDepth 100000 in
set_option maxHeartbeats 1000000 in
theorem nisMember_any (h : NdI w B nb n ms es) (hne : ms ≠ []) (hm : ms.length ≤ 17592186044416) (hl : es.length ≤ 17592186044416) (hd : ∀ x ∈ es, x.da.size ≤ 140737488355328) (hq : (mbL ms es).length ≤ 9223372036854775807) (x : Int) : Calls Tryz.prog 117 #[.pointer (some ⟨nb, 0, none⟩), .int .i64 x] w fun e w' => e = .returned (.bool (hasI x (mbL ms es))) ∧ Below w.heap.size w w' := by
  have ME := hid (nmembers_any h hne hm hl hd)
  have HA : Hid (∀ v W, IntsI W v (mbL ms es) → Calls Tryz.prog 68 #[v, .int .i64 x] W fun e w' => e = .returned (.bool (hasI x (mbL ms es))) ∧ w' = W) := fun v W hv => chas_any v _ x W hv hq
  clear h hne hm hl hd hq
  generalize hasI x (mbL ms es) = R at *
  go_enter Tryz.func117, Tryz.ntmps117
  go_wp2_with fail
  refine ME.out.mono ?_
  rintro e w1 ⟨v', rfl, hi, b1⟩
  have HA1 := hid (HA.out v' w1 hi)
  have B1 := hid b1
  clear ME hi b1 HA
  go_wp2_with fail
  refine HA1.out.mono ?_
  rintro e w2 ⟨rfl, rfl⟩
  clear HA1
  go_wp2
  go_ret
  exact ⟨rfl, B1.out⟩
end
end Go.Proofs.YtlkidnfgodficaaGreat
namespace Go.Proofs.YtlkidnfgodficaaGreat
open Go.RowKit Go.Maps
set_option linter.unusedVariables false
set_option linter.unusedSimpArgs false

theorem nodes_at (f : Int → Bool) (k : Nat) (hk : k < 7) : ((nodesF 7 0).drop k).filter f = (if f (k : Int) = true then [(k : Int)] else []) ++ ((nodesF 7 0).drop (k + 1)).filter f := by
  rw [nds_at k hk, List.filter_cons]
  split <;> rfl
theorem nodes_len (f : Int → Bool) : ((nodesF 7 0).filter f).length ≤ 7 := List.length_filter_le ..
section
variable {w : World} {B nb : Nat} {n : Nd} {ms : List Int} {es : List En}
set_option maxRecDepth 100000 in
set_option maxHeartbeats 4000000 in
theorem nenough_chosen (h : NdI w B nb n ms es) (hne : ms ≠ []) (hm : ms.length ≤ 17592186044416) (hl : es.length ≤ 17592186044416) (hd : ∀ x ∈ es, x.da.size ≤ 140737488355328) (hq : (mbL ms es).length ≤ 4611686018427387904) (b : Nat) (f : Int → Bool)
    (hcl : ∀ (k : Nat) W, k < 7 → Below w.heap.size w W → Calls Tryz.prog 137 #[.int .i64 (k : Int), .pointer (some ⟨b, 0, none⟩)] W fun e w' => e = .returned (.bool (f (k : Int))) ∧ Below W.heap.size W w') :
    Calls Tryz.prog 73 #[.pointer (some ⟨nb, 0, none⟩), .func (.func 137) #[] #[.pointer (some ⟨b, 0, none⟩)]] w fun e w' => e = .returned (.bool (engC (mbL ms es) ((nodesF 7 0).filter f))) ∧ Below w.heap.size w w' := by
  have ME : Hid (∀ W, Below w.heap.size w W → Calls Tryz.prog 30 #[.pointer (some ⟨nb, 0, none⟩)] W fun e w' => ∃ ad cap, e = .returned (.slice ad (mbL ms es).length cap) ∧ IntsI w' (.slice ad (mbL ms es).length cap) (mbL ms es) ∧ Below W.heap.size W w') := fun W b => (nmembers_any (h.next b) hne hm hl hd).mono fun e w' ⟨v, he, hi, hb⟩ => by
    obtain ⟨ad, cap, rfl, -⟩ := hi.form
    exact ⟨ad, cap, he, hi, hb⟩
  have EN : Hid (∀ v v2 o W, IntsI W v (mbL ms es) → IntsI W v2 o → o.length ≤ 7 → Calls Tryz.prog 114 #[v, v2] W fun e w' => e = .returned (.bool (engC (mbL ms es) o)) ∧ w' = W) := fun v v2 o W h1 h2 h3 => cenough_any v v2 _ o W h1 h2 hq (by omega)
  have CL := hid hcl
  have HR : Hid (∃ R, R = (nodesF 7 0).filter f) := ⟨_, rfl⟩
  obtain ⟨R, HR0⟩ := HR.out
  have HRL : Hid (R.length ≤ 7) := by show _ ≤ _; rw [HR0]; exact nodes_len f
  clear HR
  have HR : Hid (R = ((nodesF 7 0).drop 0).filter f) := HR0
  clear HR0
  rw [show (nodesF 7 0).filter f = R from HR.out.symm]
  clear hcl h hne hm hl hd hq
  generalize mbL ms es = M at *
  go_enter Tryz.func73, Tryz.ntmps73
  go_wp2
  go_loopw [5, 7] (fun t i wr => ∃ (k : Nat) (acc : List Int) (ad : Option Addr) (cap : Nat), k ≤ 7 ∧ t = .slice ad acc.length cap ∧ i = .int .i64 (k : Int) ∧ Hid (acc.length ≤ k) ∧ Hid (OwnI wr w.heap.size (.slice ad acc.length cap) acc) ∧ Hid (Below w.heap.size w wr) ∧ Hid (R = acc ++ ((nodesF 7 0).drop k).filter f)) (fun _ i _ => 7 - (intOf i).toNat)
  case atStart => exact ⟨0, [], none, 0, by omega, rfl, rfl, Nat.le_refl _, ownI_nil _ _, Below.refl _ _, by rw [List.nil_append]; exact HR⟩
  case round =>
    clear HR
    obtain ⟨k, acc, ad, cap, hk, rfl, rfl, HA, HO, HB, HR⟩ := hrel
    by_cases hlt : k < 7
    · have hk7 : (k : Int) < 7 := by omega
      have HRA := hid (nodes_at f k hlt)
      have CK := hid (fun W hW => CL.out k W hlt hW)
      have HA2 : Hid (acc.length + 1 ≤ k + 1) := by have := HA.out; show _ ≤ _; omega
      have HA3 : Hid (acc.length + 1 ≤ 70368744177) := by have := HA.out; show _ ≤ _; omega
      have HA4 : Hid (acc.length ≤ k + 1) := by have := HA.out; show _ ≤ _; omega
      have CK2 := hid (CK.out wr HB.out)
      clear CK CL ME EN HRL
      cases hq : f (k : Int)
      · rw [hq] at CK2
        have HR2 : Hid (R = acc ++ ((nodesF 7 0).drop (k + 1)).filter f) := by show _ = _; rw [HR.out, HRA.out, hq]; rfl
        clear HR HRA HA HA2 HA3 hq
        go_wp2_with fail
        refine CK2.out.mono ?_
        rintro e w2 ⟨rfl, b2⟩
        have HO2 := hid (HO.out.next b2)
        have HB2 := hid (below_on HB.out b2)
        clear b2 HO HB CK2
        go_wp2
        exact ⟨⟨k + 1, acc, ad, cap, by omega, rfl, by go_num, HA4, HO2, HB2, HR2⟩, by simp [intOf]; omega⟩
      · rw [hq] at CK2
        have HR2 : Hid (R = (acc ++ [(k : Int)]) ++ ((nodesF 7 0).drop (k + 1)).filter f) := by show _ = _; rw [HR.out, HRA.out, hq, if_pos rfl, List.append_assoc]
        clear HR HRA HA HA4 hq
        go_wp2_with fail
        refine CK2.out.mono ?_
        rintro e w2 ⟨rfl, b2⟩
        have HNX : Hid (RowIs (w2.alloc (.cells #[.int .i64 (k : Int)] 3)) w2.heap.size [.int .i64 (k : Int)] 3) := srow w2 [.int .i64 (k : Int)] 3
        have HON : Hid (OwnI (w2.alloc (.cells #[.int .i64 (k : Int)] 3)) w.heap.size (.slice ad acc.length cap) acc) := own_new (HO.out.next b2) _
        have HBN : Hid (Below w.heap.size w (w2.alloc (.cells #[.int .i64 (k : Int)] 3))) := below_al (below_on HB.out b2) _
        clear b2 HO HB CK2
        go_wp2_with (at_builtin; refine wpl_iapp rfl _ _ rfl w.heap.size w2.heap.size acc.length (.slice ad acc.length cap) acc (k : Int) rfl rfl rfl HON.out HBN.out.size HNX.out HA3.out ?_; intro ad' cap' w' ho' hk')
        have HO' := hid ho'
        have HB' : Hid (Below w.heap.size w w') := HBN.out.trans hk'
        clear ho' hk' HON HBN HNX
        go_wp2
        exact ⟨⟨k + 1, acc ++ [(k : Int)], ad', cap', by omega, by simp, by go_num, hid (by simpa using HA2.out), hid (by simpa using HO'.out), HB', HR2⟩, by simp [intOf]; omega⟩
    · have hk9 : k = 7 := by omega
      subst hk9
      have HR2 : Hid (acc = R) := by show _ = _; rw [HR.out]; simp [nodesF]
      have hr2 := HR2.out
      subst hr2
      have ME2 := hid (ME.out wr HB.out)
      clear HR HR2 HA CL ME hlt hk
      go_wp2_with fail
      refine ME2.out.mono ?_
      rintro e w2 ⟨ad2, cap2, rfl, hi, b2⟩
      have EN2 := hid (EN.out _ (.slice ad acc.length cap) acc w2 hi (HO.out.next b2).ints HRL.out)
      have HB2 := hid (below_on HB.out b2)
      clear hi b2 ME2 EN HO HB
      go_wp2_with fail
      refine EN2.out.mono ?_
      rintro e w3 ⟨rfl, rfl⟩
      clear EN2
      go_wp2
      go_ret
      exact ⟨rfl, HB2.out⟩
end
end Go.Proofs.YtlkidnfgodficaaGreat
namespace Go.Proofs.YtlkidnfgodficaaGreat
open Go.RowKit Go.Maps
set_option linter.unusedVariables false
set_option linter.unusedSimpArgs false

set_option maxRecDepth 100000 in
set_option maxHeartbeats 1000000 in
theorem nisSame_of {w : World} {nb : Nat} (i t t' : Int) (is : Bool) (TA : Calls Tryz.prog 57 #[.pointer (some ⟨nb, 0, none⟩), .int .i64 i] w fun e w' => e = .returned (.tuple #[.int .i64 t', .bool is]) ∧ Below w.heap.size w w') :
    Calls Tryz.prog 109 #[.pointer (some ⟨nb, 0, none⟩), .int .i64 i, .int .i64 t] w fun e w' => e = .returned (.bool (is && decide (t' = t))) ∧ Below w.heap.size w w' := by
  have TAH := hid TA
  clear TA
  cases is
  · go_enter Tryz.func109, Tryz.ntmps109
    go_wp2_with fail
    refine TAH.out.mono ?_
    rintro e w1 ⟨rfl, b1⟩
    have B1 := hid b1
    clear TAH b1
    go_wp2
    go_ret
    exact ⟨rfl, B1.out⟩
  · go_enter Tryz.func109, Tryz.ntmps109
    go_wp2_with fail
    refine TAH.out.mono ?_
    rintro e w1 ⟨rfl, b1⟩
    have B1 := hid b1
    clear TAH b1
    go_wp2
    go_ret
    exact ⟨by first | rfl | simp | (by_cases h : t' = t <;> simp [h]), B1.out⟩
/-- what a leader knows of a node that it meets -/
def psM (ps : List Value) (k : Nat) (x : Int) : List Value := ((((ps.set (5 * k) (.int .i64 x)).set (5 * k + 1) (.int .i64 0)).set (5 * k + 2) (.int .i64 0)).set (5 * k + 3) (.int .i64 (-1))).set (5 * k + 4) (.int .i64 0)
theorem psM_len (ps : List Value) (k : Nat) (x : Int) : (psM ps k x).length = ps.length := by simp [psM]
section
variable {w : World} {B nb : Nat} {n : Nd} {ms : List Int} {es : List En}
theorem nmeet_end (h : NdI w B nb n ms es) (k : Nat) (x : Int) (h7 : n.vs.length = 7) : NdG w B nb n (((((w.setCell ⟨nb, 30 + k * 5, none⟩ (.int .i64 x)).setCell ⟨nb, 30 + k * 5 + 1, none⟩ (.int .i64 0)).setCell ⟨nb, 30 + k * 5 + 2, none⟩ (.int .i64 0)).setCell ⟨nb, 30 + k * 5 + 3, none⟩ (.int .i64 (-1))).setCell ⟨nb, 30 + k * 5 + 4, none⟩ (.int .i64 0)) { n with ps := psM n.ps k x } ms es := by
  have s : ∀ {W : World} {m : Nd} (g : NdI W B nb m ms es) (_ : m.vs.length = 7) (j : Nat) (v : Value), NdG W B nb m (W.setCell ⟨nb, 30 + j, none⟩ v) { m with ps := m.ps.set j v } ms es := fun g h j v => g.put (30 + j) v (Nd.c_ps _ j v h) rfl rfl
  have k1 := s h h7 (5 * k) (.int .i64 x)
  have k2 := k1.trans (s k1.nd h7 (5 * k + 1) (.int .i64 0))
  have k3 := k2.trans (s k2.nd h7 (5 * k + 2) (.int .i64 0))
  have k4 := k3.trans (s k3.nd h7 (5 * k + 3) (.int .i64 (-1)))
  have k5 := k4.trans (s k4.nd h7 (5 * k + 4) (.int .i64 0))
  rw [show 30 + k * 5 = 30 + 5 * k by omega]
  exact k5
set_option maxRecDepth 100000 in
set_option maxHeartbeats 1000000 in
theorem nmeet_any (h : NdI w B nb n ms es) (hne : ms ≠ []) (hl : es.length ≤ 17592186044416) (hb0 : 0 ≤ n.bi) (hb1 : n.bi ≤ 1099511627776) (h7 : n.vs.length = 7) (h35 : n.ps.length = 35) (k : Nat) (hk : k < 7) :
    Calls Tryz.prog 69 #[.pointer (some ⟨nb, 0, none⟩), .int .i64 (k : Int)] w fun e w' => e = .returned (.tuple #[]) ∧ NdG w B nb n w' { n with ps := psM n.ps k (n.bi + es.length + 1) } ms es := by
  have LA := hid (nlast_any h hne hl hb0 hb1)
  have hw : wrap64 (n.bi + (es.length : Int) + 1) = n.bi + (es.length : Int) + 1 := IntWalk.wrap64_in _ (by omega)
  have FIN : Hid (∀ W, Below w.heap.size w W → (∃ u0 u1 u2 u3 u4, W.cell? ⟨nb, 30 + k * 5, none⟩ = some u0 ∧ W.cell? ⟨nb, 30 + k * 5 + 1, none⟩ = some u1 ∧ W.cell? ⟨nb, 30 + k * 5 + 2, none⟩ = some u2 ∧ W.cell? ⟨nb, 30 + k * 5 + 3, none⟩ = some u3 ∧ W.cell? ⟨nb, 30 + k * 5 + 4, none⟩ = some u4) ∧ (∀ o, W.frozen? ⟨nb, o, none⟩ = false) ∧ Hid (NdG w B nb n (((((W.setCell ⟨nb, 30 + k * 5, none⟩ (.int .i64 (n.bi + (es.length : Int) + 1))).setCell ⟨nb, 30 + k * 5 + 1, none⟩ (.int .i64 0)).setCell ⟨nb, 30 + k * 5 + 2, none⟩ (.int .i64 0)).setCell ⟨nb, 30 + k * 5 + 3, none⟩ (.int .i64 (-1))).setCell ⟨nb, 30 + k * 5 + 4, none⟩ (.int .i64 0)) { n with ps := psM n.ps k (n.bi + es.length + 1) } ms es)) := fun W hW => by
    have hb := (NdG.refl h).next hW
    have g : ∀ j (hj : j < 35), W.cell? ⟨nb, 30 + j, none⟩ = some (n.ps[j]'(by omega)) := fun j hj => hb.nd.bx.cellAt (Nd.g_ps n j h7 (by omega))
    refine ⟨⟨_, _, _, _, _, g (k * 5) (by omega), by rw [Nat.add_assoc]; exact g (k * 5 + 1) (by omega), by rw [Nat.add_assoc]; exact g (k * 5 + 2) (by omega), by rw [Nat.add_assoc]; exact g (k * 5 + 3) (by omega), by rw [Nat.add_assoc]; exact g (k * 5 + 4) (by omega)⟩, fun o => hb.nd.bx.frozen, hb.trans (nmeet_end hb.nd k _ h7)⟩
  have r0 : (0 : Int) ≤ (k : Int) := by omega
  have r1 : (k : Int) < 7 := by omega
  generalize ltT n.bt es = lt at *
  generalize n.bi + (es.length : Int) = s at *
  generalize { n with ps := psM n.ps k (s + 1) } = n2 at *
  clear h hne hl hb0 hb1 h7 h35 hk
  go_enter Tryz.func69, Tryz.ntmps69
  go_wp2_with fail
  refine LA.out.mono ?_
  rintro e w1 ⟨rfl, b1⟩
  obtain ⟨⟨u0, u1, u2, u3, u4, c0, c1, c2, c3, c4⟩, ff, F2⟩ := FIN.out w1 b1
  have f0 := ff (30 + k * 5)
  have f1 := ff (30 + k * 5 + 1)
  have f2 := ff (30 + k * 5 + 2)
  have f3 := ff (30 + k * 5 + 3)
  have f4 := ff (30 + k * 5 + 4)
  clear LA FIN b1 ff
  go_wp2
  go_end0
  exact ⟨rfl, F2.out⟩
end
end Go.Proofs.YtlkidnfgodficaaGreat
namespace Go.Proofs.YtlkidnfgodficaaGreat
open Go.RowKit Go.Maps
set_option linter.unusedVariables false
set_option linter.unusedSimpArgs false

section
variable {w w1 : World} {B nb : Nat} {n : Nd} {ms : List Int} {es : List En}
theorem NdI.app (h : NdI w B nb n ms es) (x : En) {v' : Value} (ho : w1.ownsRow B 51 3 v' (es.length + 1) (ensC es ++ enC x)) (hk : Keep (fun k => n.lg.ownBlock = some k) w w1) (hl : LocG w n.lg v') : NdG w B nb n (w1.setCell ⟨nb, 7, none⟩ v') { n with lg := v' } ms (es ++ [x]) := by
  have rB := h.bx.keep hk (h.nm.2 nb · rfl)
  have kS := keep_setCell w1 nb 7 v'
  have hlo := h.lo
  unfold OwnE at hlo
  have hmi := hk.ownsRow h.mi (fun g hg e => rows_apart2 h.mi hlo (by decide) hg e)
  have h2 : OwnE w1 B v' (es ++ [x]) := by
    unfold OwnE
    rw [ensC_snoc, List.length_append]
    exact ho
  refine ⟨⟨rB.set 7 v', h.ge, kS.ownsRow hmi (fun g hg e => own_ne_row hmi rB (by decide) (e ▸ hg)), kS.ownsRow h2 (fun g hg e => own_ne_row h2 rB (by decide) (e ▸ hg))⟩, ?_, ?_⟩
  · exact (hk.mono (fun j _ e => .inr (.inr e))).then (T := (· = nb)) kS (fun j _ e => .inl e)
  · intro j hj
    rcases hj with e | e | e
    · exact .inl (.inl e)
    · exact .inl (.inr (.inl e))
    · rcases hl with h1 | ⟨g, h1, h2⟩
      · exact .inl (.inr (.inr (by rw [← h1]; exact e)))
      · have e2 : v'.ownBlock = some j := e
        rw [h1] at e2
        injection e2 with e2
        exact .inr (by omega)
theorem lay_ar (bi : Int) (es : List En) (x : En) (t : Int) : Ending.returned (.tuple #[.int .i64 (bi + (((es ++ [x]).length : Nat) : Int)), .int .i64 t]) = Ending.returned (.tuple #[.int .i64 (bi + (es.length : Int) + 1), .int .i64 t]) := by
  have hlen : bi + (((es ++ [x]).length : Nat) : Int) = bi + (es.length : Int) + 1 := by simp; omega
  rw [hlen]
set_option maxRecDepth 100000 in
set_option maxHeartbeats 4000000 in
theorem nlay_of (h : NdI w B nb n ms es) (hne : ms ≠ []) (hl : es.length ≤ 1000000) (hb0 : 0 ≤ n.bi) (hb1 : n.bi ≤ 1099511627776) (kd : Int) (da : ByteArray) (cm : Int) (n2 : Value → Nd)
    (hA : ∀ W lg', NdG w B nb n W { n with lg := lg' } ms (es ++ [⟨n.tm, kd, da⟩]) → Calls Tryz.prog 105 #[.pointer (some ⟨nb, 0, none⟩)] W fun e w' => (∃ b, e = .returned (.bool b)) ∧ NdG w B nb n w' { n with lg := lg', cm := cm } ms (es ++ [⟨n.tm, kd, da⟩]))
    (hT : ∀ W lg', NdG w B nb n W { n with lg := lg', cm := cm } ms (es ++ [⟨n.tm, kd, da⟩]) → Calls Tryz.prog 106 #[.pointer (some ⟨nb, 0, none⟩)] W fun e w' => e = .returned (.slice none 0 0) ∧ NdG w B nb n w' (n2 lg') ms (es ++ [⟨n.tm, kd, da⟩])) :
    Calls Tryz.prog 64 #[.pointer (some ⟨nb, 0, none⟩), .int .i64 kd, .string da] w fun e w' => e = .returned (.tuple #[.int .i64 (n.bi + es.length + 1), .slice none 0 0]) ∧ ∃ lg', NdG w B nb n w' (n2 lg') ms (es ++ [⟨n.tm, kd, da⟩]) := by
  have HA := hid hA
  have HT := hid hT
  have LA : Hid (∀ W lg', NdG w B nb n W { n with lg := lg' } ms (es ++ [⟨n.tm, kd, da⟩]) → Calls Tryz.prog 17 #[.pointer (some ⟨nb, 0, none⟩)] W fun e w' => (∃ t, e = .returned (.tuple #[.int .i64 (n.bi + es.length + 1), .int .i64 t])) ∧ NdG w B nb n w' { n with lg := lg' } ms (es ++ [⟨n.tm, kd, da⟩])) := fun W lg' g =>
    (nlast_any g.nd hne (by simp; omega) hb0 hb1).mono fun e w' ⟨he, hb⟩ => ⟨⟨_, he.trans (lay_ar n.bi es ⟨n.tm, kd, da⟩ _)⟩, g.next hb⟩
  obtain ⟨ad, cap, c7, e7⟩ := h.lgf
  have c1 := h.bx.cellAt (o := 1) rfl
  have c1' : w.cell? ⟨nb, 1, none⟩ = some (.int .i64 n.tm) := c1
  have HV : Hid (NdG w B nb n w.drew n ms es) := (NdG.refl h).drew
  have HC1 : Hid (∀ u ∈ enC ⟨n.tm, kd, da⟩, u.oneCell' = true) := enC_cell1 _
  have HL1 : Hid (es.length + 1 ≤ 70368744177) := by show _ ≤ _; omega
  have HL2 : Hid ((es.length + 1) * 32 ≤ 140737488355328) := by show _ ≤ _; omega
  have HE7 := hid e7
  clear h hne hl hb0 hb1 c1 e7 hA hT
  generalize hs : n.bi + (es.length : Int) + 1 = s at *
  clear hs
  go_enter Tryz.func64, Tryz.ntmps64
  go_wp2
  refine wp_region_held_drew (S := fun W => W.cell? ⟨nb, 1, none⟩ = some (.int .i64 n.tm)) (by kernel_rfl) c1' (fun hHeld => ?_)
  generalize w.drew = V at *
  have c7 : V.cell? ⟨nb, 7, none⟩ = some (.slice ad es.length cap) := by rw [← HE7.out]; exact HV.out.nd.bx.cellAt rfl
  have Z0 : V.cell? ⟨nb, 1, none⟩ = some (.int .i64 n.tm) := HV.out.nd.bx.cellAt rfl
  have G1 := hid (HV.out.next (below_al (Below.refl _ _) (.cells #[.int .i64 n.tm, .int .i64 kd, .string da] 51)))
  have Z1 : (V.alloc (.cells #[.int .i64 n.tm, .int .i64 kd, .string da] 51)).cell? ⟨nb, 1, none⟩ = some (.int .i64 n.tm) := G1.out.nd.bx.cellAt rfl
  have d7 : (V.alloc (.cells #[.int .i64 n.tm, .int .i64 kd, .string da] 51)).cell? ⟨nb, 7, none⟩ = some (.slice ad es.length cap) := by rw [← HE7.out]; exact G1.out.nd.bx.cellAt rfl
  have OG : Hid ((V.alloc (.cells #[.int .i64 n.tm, .int .i64 kd, .string da] 51)).ownsRow B 51 3 (.slice ad es.length cap) es.length (ensC es)) := by have := G1.out.nd.lo; unfold OwnE at this; rw [HE7.out] at this; exact this
  have HBZ : Hid (B ≤ (V.alloc (.cells #[.int .i64 n.tm, .int .i64 kd, .string da] 51)).heap.size) := Nat.le_trans G1.out.nd.ge (Nat.le_of_lt G1.out.nd.lt)
  have GX : Hid (GSrc (V.alloc (.cells #[.int .i64 n.tm, .int .i64 kd, .string da] 51)) (.slice (some ⟨V.heap.size, 0, none⟩) 1 1) 1 (enC ⟨n.tm, kd, da⟩)) := gsrc_block (heap_alloc_new _ _)
  have FIN : Hid (∀ v' w1, w1.ownsRow B 51 3 v' (es.length + 1) (ensC es ++ enC ⟨n.tm, kd, da⟩) → Keep (fun k => (Value.slice ad es.length cap).ownBlock = some k) (V.alloc (.cells #[.int .i64 n.tm, .int .i64 kd, .string da] 51)) w1 → LocG (V.alloc (.cells #[.int .i64 n.tm, .int .i64 kd, .string da] 51)) (Value.slice ad es.length cap) v' → w1.cell? ⟨nb, 1, none⟩ = some (.int .i64 n.tm) ∧ (w1.frozen? ⟨nb, 7, none⟩ = false ∧ w1.cell? ⟨nb, 7, none⟩ = some (.slice ad es.length cap)) ∧ (w1.setCell ⟨nb, 7, none⟩ v').cell? ⟨nb, 1, none⟩ = some (.int .i64 n.tm) ∧ Hid (NdG w B nb n (w1.setCell ⟨nb, 7, none⟩ v') { n with lg := v' } ms (es ++ [⟨n.tm, kd, da⟩]))) := fun v' w1 ho hk hl => by
    rw [← HE7.out] at hk hl
    have g := G1.out.nd.app _ ho hk hl
    have rB := G1.out.nd.bx.keep hk (G1.out.nd.nm.2 nb · rfl)
    exact ⟨rB.cellAt rfl, ⟨rB.frozen, by rw [← HE7.out]; exact rB.cellAt rfl⟩, g.nd.bx.cellAt rfl, G1.out.trans g⟩
  clear HV
  refine wpAnyH_take (i := 0) (v := ?vv1) rfl (by kernel_rfl) (by kernel_rfl) (by kernel_rfl) (fun _ _ _ h => h) (Or.inl ⟨by rfl, ?hy1⟩) (by assumption) ?rest1
  case hy1 => (intro w hSw; (try dsimp only at hSw); go_simp; first | done | with_reducible rfl)
  try simp only [Act.put, List.getElem_toArray, List.getElem_cons_succ, List.getElem_cons_zero, List.setIfInBounds_toArray, List.set_cons_zero, List.set_cons_succ]
  refine wpAnyH_take (i := 1) (v := ?vv2) rfl (by kernel_rfl) (by kernel_rfl) (by kernel_rfl) (fun _ _ _ h => h) (Or.inl ⟨by rfl, ?hy2⟩) (by assumption) ?rest2
  case hy2 => (intro w hSw; (try dsimp only at hSw); go_simp; first | done | with_reducible rfl)
  try simp only [Act.put, List.getElem_toArray, List.getElem_cons_succ, List.getElem_cons_zero, List.setIfInBounds_toArray, List.set_cons_zero, List.set_cons_succ]
  refine wpAnyH_take (i := 2) (v := ?vv3) rfl (by kernel_rfl) (by kernel_rfl) (by kernel_rfl) (fun _ _ _ h => h) (Or.inl ⟨by rfl, ?hy3⟩) (by assumption) ?rest3
  case hy3 => (intro w hSw; (try dsimp only at hSw); go_simp; first | done | with_reducible rfl)
  try simp only [Act.put, List.getElem_toArray, List.getElem_cons_succ, List.getElem_cons_zero, List.setIfInBounds_toArray, List.set_cons_zero, List.set_cons_succ]
  refine wpAnyH_take (i := 3) (v := ?vv4) rfl (by kernel_rfl) (by kernel_rfl) (by kernel_rfl) (fun _ _ _ h => h) (Or.inl ⟨by rfl, ?hy4⟩) (by assumption) ?rest4
  case hy4 => (intro w hSw; (try dsimp only at hSw); go_simp; first | done | with_reducible rfl)
  try simp only [Act.put, List.getElem_toArray, List.getElem_cons_succ, List.getElem_cons_zero, List.setIfInBounds_toArray, List.set_cons_zero, List.set_cons_succ]
  refine wpAnyH_take (i := 5) (v := ?vv5) rfl (by kernel_rfl) (by kernel_rfl) (by kernel_rfl) (fun _ _ _ h => h) (Or.inl ⟨by rfl, ?hy5⟩) (by assumption) ?rest5
  case hy5 => (intro w hSw; (try dsimp only at hSw); go_simp; first | done | with_reducible rfl)
  try simp only [Act.put, List.getElem_toArray, List.getElem_cons_succ, List.getElem_cons_zero, List.setIfInBounds_toArray, List.set_cons_zero, List.set_cons_succ]
  refine wpAnyH_take (i := 6) (v := ?vv6) rfl (by kernel_rfl) (by kernel_rfl) (by kernel_rfl) (fun _ _ _ h => h) (Or.inl ⟨by rfl, ?hy6⟩) (by assumption) ?rest6
  case hy6 => (intro w hSw; (try dsimp only at hSw); go_simp; first | done | with_reducible rfl)
  try simp only [Act.put, List.getElem_toArray, List.getElem_cons_succ, List.getElem_cons_zero, List.setIfInBounds_toArray, List.set_cons_zero, List.set_cons_succ]
  refine wpAnyH_take (i := 7) (v := ?vv7) rfl (by kernel_rfl) (by kernel_rfl) (by kernel_rfl) (fun _ _ _ h => h) (Or.inl ⟨by rfl, ?hy7⟩) (by assumption) ?rest7
  case hy7 => (intro w hSw; (try dsimp only at hSw); go_simp; first | done | with_reducible rfl)
  try simp only [Act.put, List.getElem_toArray, List.getElem_cons_succ, List.getElem_cons_zero, List.setIfInBounds_toArray, List.set_cons_zero, List.set_cons_succ]
  refine wpAnyH_take (i := 8) (v := ?vv8) rfl (by kernel_rfl) (by kernel_rfl) (by kernel_rfl) (fun _ _ _ h => h) (Or.inl ⟨by rfl, ?hy8⟩) (by assumption) ?rest8
  case hy8 => (intro w hSw; (try dsimp only at hSw); go_simp; first | done | with_reducible rfl)
  try simp only [Act.put, List.getElem_toArray, List.getElem_cons_succ, List.getElem_cons_zero, List.setIfInBounds_toArray, List.set_cons_zero, List.set_cons_succ]
  refine wpAnyH_take (i := 9) (v := ?vv9) rfl (by kernel_rfl) (by kernel_rfl) (by kernel_rfl) (fun _ _ _ h => h) (Or.inl ⟨by rfl, ?hy9⟩) (by assumption) ?rest9
  case hy9 => (intro w hSw; (try dsimp only at hSw); go_simp; first | done | with_reducible rfl)
  try simp only [Act.put, List.getElem_toArray, List.getElem_cons_succ, List.getElem_cons_zero, List.setIfInBounds_toArray, List.set_cons_zero, List.set_cons_succ]
  refine wpAnyH_take (i := 10) (v := ?vv10) rfl (by kernel_rfl) (by kernel_rfl) (by kernel_rfl) (fun _ _ _ h => h) (Or.inl ⟨by rfl, ?hy10⟩) (by assumption) ?rest10
  case hy10 => (intro w hSw; (try dsimp only at hSw); go_simp; first | done | with_reducible rfl)
  try simp only [Act.put, List.getElem_toArray, List.getElem_cons_succ, List.getElem_cons_zero, List.setIfInBounds_toArray, List.set_cons_zero, List.set_cons_succ]
  refine wpAnyH_take (i := 11) (v := ?vv11) rfl (by kernel_rfl) (by kernel_rfl) (by kernel_rfl) (fun _ _ _ h => h) (Or.inl ⟨by rfl, ?hy11⟩) (by assumption) ?rest11
  case hy11 => (intro w hSw; (try dsimp only at hSw); go_simp; first | done | with_reducible rfl)
  try simp only [Act.put, List.getElem_toArray, List.getElem_cons_succ, List.getElem_cons_zero, List.setIfInBounds_toArray, List.set_cons_zero, List.set_cons_succ]
  refine wpAnyH_ready (rs := [4, 12]) (by kernel_rfl) (by simp) ?_
  refine AllReadyH.cons rfl (fun K hK => ?_) (AllReadyH.cons rfl (fun K hK => ?_) AllReadyH.nil)
  · go_simp
    refine hK.out _ _ Z0 (fun hHeld => ?_)
    clear hK K
    try simp only [Act.put, List.getElem_toArray, List.getElem_cons_succ, List.getElem_cons_zero, List.setIfInBounds_toArray, List.set_cons_zero, List.set_cons_succ]
    refine wpAnyH_ready (rs := [12]) (by kernel_rfl) (by simp) ?_
    refine AllReadyH.cons rfl (fun K hK => ?_) AllReadyH.nil
    go_simp
    refine hK.out _ _ Z1 (fun hHeld => ?_)
    clear hK K
    try simp only [Act.put, List.getElem_toArray, List.getElem_cons_succ, List.getElem_cons_zero, List.setIfInBounds_toArray, List.set_cons_zero, List.set_cons_succ]
    refine wpAnyH_ready (rs := [13]) (by kernel_rfl) (by simp) ?_
    refine AllReadyH.cons rfl (fun K hK => ?_) AllReadyH.nil
    refine step_gapp_at (w0 := (V.alloc (.cells #[.int .i64 n.tm, .int .i64 kd, .string da] 51))) (by rfl) _ _ elEn (by rfl) B (.slice ad es.length cap) (.slice (some ⟨V.heap.size, 0, none⟩) 1 1) (ensC es) (enC ⟨n.tm, kd, da⟩) es.length 1 (es.length + 1) rfl (Keep.refl _ _) (by rfl) (by rfl) OG.out HBZ.out GX.out rfl HC1.out HL1.out HL2.out ?_
    intro ad' cap' w1 ho1 hk1 hl1
    obtain ⟨Z2, ⟨f2, y2⟩, Z3, G9⟩ := FIN.out _ _ ho1 hk1 hl1
    clear ho1 hk1 hl1 FIN OG GX HBZ G1 Z1 d7 c7
    refine hK.out _ _ Z2 (fun hHeld => ?_)
    clear hK K
    try simp only [Act.put, List.getElem_toArray, List.getElem_cons_succ, List.getElem_cons_zero, List.setIfInBounds_toArray, List.set_cons_zero, List.set_cons_succ]
    refine wpAnyH_take (i := 14) (v := ?vv12) rfl (by kernel_rfl) (by kernel_rfl) (by kernel_rfl) (fun _ _ _ h => h) (Or.inl ⟨by rfl, ?hy12⟩) (by assumption) ?rest12
    case hy12 => (intro w hSw; (try dsimp only at hSw); go_simp; first | done | with_reducible rfl)
    try simp only [Act.put, List.getElem_toArray, List.getElem_cons_succ, List.getElem_cons_zero, List.setIfInBounds_toArray, List.set_cons_zero, List.set_cons_succ]
    refine wpAnyH_take (i := 15) (v := ?vv13) rfl (by kernel_rfl) (by kernel_rfl) (by kernel_rfl) (fun _ _ _ h => h) (Or.inl ⟨by rfl, ?hy13⟩) (by assumption) ?rest13
    case hy13 => (intro w hSw; (try dsimp only at hSw); go_simp; first | done | with_reducible rfl)
    try simp only [Act.put, List.getElem_toArray, List.getElem_cons_succ, List.getElem_cons_zero, List.setIfInBounds_toArray, List.set_cons_zero, List.set_cons_succ]
    refine wpAnyH_ready (rs := [16]) (by kernel_rfl) (by simp) ?_
    refine AllReadyH.cons rfl (fun K hK => ?_) AllReadyH.nil
    go_simp
    refine hK.out _ _ Z3 (fun hHeld => ?_)
    clear hK K
    try simp only [Act.put, List.getElem_toArray, List.getElem_cons_succ, List.getElem_cons_zero, List.setIfInBounds_toArray, List.set_cons_zero, List.set_cons_succ]
    refine wpAnyH_done (by kernel_rfl) ?_ _
    clear hHeld c1'
    have LA2 := hid (LA.out _ _ G9.out)
    clear LA f2 y2 Z3 Z2
    go_wp2_with fail
    refine LA2.out.mono ?_
    rintro e w2 ⟨⟨lt, rfl⟩, g2⟩
    have HA2 := hid (HA.out _ _ g2)
    clear LA2 g2 HA G9
    go_wp2_with fail
    refine HA2.out.mono ?_
    rintro e w3 ⟨⟨bb, rfl⟩, g3⟩
    have HT2 := hid (HT.out _ _ g3)
    clear HA2 g3 HT
    go_wp2_with fail
    refine HT2.out.mono ?_
    rintro e w4 ⟨rfl, g4⟩
    have G4 := hid g4
    clear HT2 g4
    go_wp2
    go_ret2
    exact ⟨rfl, _, G4.out⟩
  · go_simp
    refine hK.out _ _ Z1 (fun hHeld => ?_)
    clear hK K
    try simp only [Act.put, List.getElem_toArray, List.getElem_cons_succ, List.getElem_cons_zero, List.setIfInBounds_toArray, List.set_cons_zero, List.set_cons_succ]
    refine wpAnyH_ready (rs := [4]) (by kernel_rfl) (by simp) ?_
    refine AllReadyH.cons rfl (fun K hK => ?_) AllReadyH.nil
    go_simp
    refine hK.out _ _ Z1 (fun hHeld => ?_)
    clear hK K
    try simp only [Act.put, List.getElem_toArray, List.getElem_cons_succ, List.getElem_cons_zero, List.setIfInBounds_toArray, List.set_cons_zero, List.set_cons_succ]
    refine wpAnyH_ready (rs := [13]) (by kernel_rfl) (by simp) ?_
    refine AllReadyH.cons rfl (fun K hK => ?_) AllReadyH.nil
    refine step_gapp_at (w0 := (V.alloc (.cells #[.int .i64 n.tm, .int .i64 kd, .string da] 51))) (by rfl) _ _ elEn (by rfl) B (.slice ad es.length cap) (.slice (some ⟨V.heap.size, 0, none⟩) 1 1) (ensC es) (enC ⟨n.tm, kd, da⟩) es.length 1 (es.length + 1) rfl (Keep.refl _ _) (by rfl) (by rfl) OG.out HBZ.out GX.out rfl HC1.out HL1.out HL2.out ?_
    intro ad' cap' w1 ho1 hk1 hl1
    obtain ⟨Z2, ⟨f2, y2⟩, Z3, G9⟩ := FIN.out _ _ ho1 hk1 hl1
    clear ho1 hk1 hl1 FIN OG GX HBZ G1 Z1 d7 c7
    refine hK.out _ _ Z2 (fun hHeld => ?_)
    clear hK K
    try simp only [Act.put, List.getElem_toArray, List.getElem_cons_succ, List.getElem_cons_zero, List.setIfInBounds_toArray, List.set_cons_zero, List.set_cons_succ]
    refine wpAnyH_take (i := 14) (v := ?vv14) rfl (by kernel_rfl) (by kernel_rfl) (by kernel_rfl) (fun _ _ _ h => h) (Or.inl ⟨by rfl, ?hy14⟩) (by assumption) ?rest14
    case hy14 => (intro w hSw; (try dsimp only at hSw); go_simp; first | done | with_reducible rfl)
    try simp only [Act.put, List.getElem_toArray, List.getElem_cons_succ, List.getElem_cons_zero, List.setIfInBounds_toArray, List.set_cons_zero, List.set_cons_succ]
    refine wpAnyH_take (i := 15) (v := ?vv15) rfl (by kernel_rfl) (by kernel_rfl) (by kernel_rfl) (fun _ _ _ h => h) (Or.inl ⟨by rfl, ?hy15⟩) (by assumption) ?rest15
    case hy15 => (intro w hSw; (try dsimp only at hSw); go_simp; first | done | with_reducible rfl)
    try simp only [Act.put, List.getElem_toArray, List.getElem_cons_succ, List.getElem_cons_zero, List.setIfInBounds_toArray, List.set_cons_zero, List.set_cons_succ]
    refine wpAnyH_ready (rs := [16]) (by kernel_rfl) (by simp) ?_
    refine AllReadyH.cons rfl (fun K hK => ?_) AllReadyH.nil
    go_simp
    refine hK.out _ _ Z3 (fun hHeld => ?_)
    clear hK K
    try simp only [Act.put, List.getElem_toArray, List.getElem_cons_succ, List.getElem_cons_zero, List.setIfInBounds_toArray, List.set_cons_zero, List.set_cons_succ]
    refine wpAnyH_done (by kernel_rfl) ?_ _
    clear hHeld c1'
    have LA2 := hid (LA.out _ _ G9.out)
    clear LA f2 y2 Z3 Z2
    go_wp2_with fail
    refine LA2.out.mono ?_
    rintro e w2 ⟨⟨lt, rfl⟩, g2⟩
    have HA2 := hid (HA.out _ _ g2)
    clear LA2 g2 HA G9
    go_wp2_with fail
    refine HA2.out.mono ?_
    rintro e w3 ⟨⟨bb, rfl⟩, g3⟩
    have HT2 := hid (HT.out _ _ g3)
    clear HA2 g3 HT
    go_wp2_with fail
    refine HT2.out.mono ?_
    rintro e w4 ⟨rfl, g4⟩
    have G4 := hid g4
    clear HT2 g4
    go_wp2
    go_ret2
    exact ⟨rfl, _, G4.out⟩
end
end Go.Proofs.YtlkidnfgodficaaGreat
