/- A version as the document has it, and one in memory of its own. -/
import Derived.Test.YtbiapepalkdkdaaCvF
namespace Go.Proofs.Ytbiapepalkdkdaa
open Go.RowKit Go.Maps
set_option linter.unusedVariables false
set_option linter.unusedSimpArgs false

/-- a box and a result's cell -/
structure Tb (w : World) (cs zs : List Value) (t1 t2 : TypeId) (W : World) : Prop where
  row : RowIs W w.heap.size cs t1
  res : RowIs W (w.heap.size + 1) zs t2
  b : Below w.heap.size w W
theorem Tb.next {w W W' : World} {cs zs : List Value} {t1 t2 : TypeId} (h : Tb w cs zs t1 t2 W) (hb : Below W.heap.size W W') : Tb w cs zs t1 t2 W' :=
  ⟨h.row.keep (hb.keep (fun _ => False)) (fun h => h), h.res.keep (hb.keep (fun _ => False)) (fun h => h), below_on h.b hb⟩
theorem Tb.drew {w W : World} {cs zs : List Value} {t1 t2 : TypeId} (h : Tb w cs zs t1 t2 W) : Tb w cs zs t1 t2 W.drew := ⟨h.row, h.res, h.b.drew⟩
theorem Tb.al {w W : World} {cs zs : List Value} {t1 t2 : TypeId} (h : Tb w cs zs t1 t2 W) (o : Obj) : Tb w cs zs t1 t2 (W.alloc o) := h.next ((Below.refl _ _).alloc (Nat.le_refl _) o)
theorem Tb.made (w : World) (cs zs : List Value) (t1 t2 : TypeId) : Tb w cs zs t1 t2 ((w.alloc (.cells cs.toArray t1)).alloc (.cells zs.toArray t2)) := by
  have hsz : (w.alloc (.cells cs.toArray t1)).heap.size = w.heap.size + 1 := by simp
  refine ⟨row_old (srow w cs t1) _, ?_, below_al (below_al (Below.refl _ _) _) _⟩
  rw [← hsz]
  exact srow _ zs t2
theorem five {W : World} {g : Nat} {v0 v1 v2 v3 v4 x0 x1 x2 x3 x4 : Value} {t : TypeId} (h : RowIs W g [v0, v1, v2, v3, v4] t) : RowIs (((((W.setCell ⟨g, 0, none⟩ x0).setCell ⟨g, 1, none⟩ x1).setCell ⟨g, 2, none⟩ x2).setCell ⟨g, 3, none⟩ x3).setCell ⟨g, 4, none⟩ x4) g [x0, x1, x2, x3, x4] t ∧ Keep (· = g) W (((((W.setCell ⟨g, 0, none⟩ x0).setCell ⟨g, 1, none⟩ x1).setCell ⟨g, 2, none⟩ x2).setCell ⟨g, 3, none⟩ x3).setCell ⟨g, 4, none⟩ x4) :=
  ⟨((((h.set 0 x0).set 1 x1).set 2 x2).set 3 x3).set 4 x4, ((((keep_setCell _ _ _ _).trans (keep_setCell _ _ _ _)).trans (keep_setCell _ _ _ _)).trans (keep_setCell _ _ _ _)).trans (keep_setCell _ _ _ _)⟩
/-- the result's cell set -/
theorem Tb.done {w W : World} {cs : List Value} {t1 t2 : TypeId} {z0 z1 z2 z3 z4 : Value} (h : Tb w cs [z0, z1, z2, z3, z4] t1 t2 W) (x0 x1 x2 x3 x4 : Value) : RowIs (((((W.setCell ⟨w.heap.size + 1, 0, none⟩ x0).setCell ⟨w.heap.size + 1, 1, none⟩ x1).setCell ⟨w.heap.size + 1, 2, none⟩ x2).setCell ⟨w.heap.size + 1, 3, none⟩ x3).setCell ⟨w.heap.size + 1, 4, none⟩ x4) (w.heap.size + 1) [x0, x1, x2, x3, x4] t2 ∧ Below w.heap.size w (((((W.setCell ⟨w.heap.size + 1, 0, none⟩ x0).setCell ⟨w.heap.size + 1, 1, none⟩ x1).setCell ⟨w.heap.size + 1, 2, none⟩ x2).setCell ⟨w.heap.size + 1, 3, none⟩ x3).setCell ⟨w.heap.size + 1, 4, none⟩ x4) ∧ Keep (· = w.heap.size + 1) W (((((W.setCell ⟨w.heap.size + 1, 0, none⟩ x0).setCell ⟨w.heap.size + 1, 1, none⟩ x1).setCell ⟨w.heap.size + 1, 2, none⟩ x2).setCell ⟨w.heap.size + 1, 3, none⟩ x3).setCell ⟨w.heap.size + 1, 4, none⟩ x4) := by
  have f := five h.res (x0 := x0) (x1 := x1) (x2 := x2) (x3 := x3) (x4 := x4)
  exact ⟨f.1, h.b.trans (keep_below f.2 (fun k hk e => by omega) h.b.size), f.2⟩
/-- the box's five cells -/
theorem Tb.five {w W : World} {zs : List Value} {t1 t2 : TypeId} {x0 x1 x2 x3 x4 : Value} (h : Tb w [x0, x1, x2, x3, x4] zs t1 t2 W) : W.cell? ⟨w.heap.size, 0, none⟩ = some x0 ∧ W.cell? ⟨w.heap.size, 1, none⟩ = some x1 ∧ W.cell? ⟨w.heap.size, 2, none⟩ = some x2 ∧ W.cell? ⟨w.heap.size, 3, none⟩ = some x3 ∧ W.cell? ⟨w.heap.size, 4, none⟩ = some x4 :=
  ⟨h.row.cellAt rfl, h.row.cellAt rfl, h.row.cellAt rfl, h.row.cellAt rfl, h.row.cellAt rfl⟩
/-- the result's five cells may be set -/
theorem Tb.may {w W : World} {cs : List Value} {t1 t2 : TypeId} {z0 z1 z2 z3 z4 : Value} (h : Tb w cs [z0, z1, z2, z3, z4] t1 t2 W) : (W.cell? ⟨w.heap.size + 1, 0, none⟩ = some z0 ∧ W.cell? ⟨w.heap.size + 1, 1, none⟩ = some z1 ∧ W.cell? ⟨w.heap.size + 1, 2, none⟩ = some z2 ∧ W.cell? ⟨w.heap.size + 1, 3, none⟩ = some z3 ∧ W.cell? ⟨w.heap.size + 1, 4, none⟩ = some z4) ∧ (W.frozen? ⟨w.heap.size + 1, 0, none⟩ = false ∧ W.frozen? ⟨w.heap.size + 1, 1, none⟩ = false ∧ W.frozen? ⟨w.heap.size + 1, 2, none⟩ = false ∧ W.frozen? ⟨w.heap.size + 1, 3, none⟩ = false ∧ W.frozen? ⟨w.heap.size + 1, 4, none⟩ = false) :=
  ⟨⟨h.res.cellAt rfl, h.res.cellAt rfl, h.res.cellAt rfl, h.res.cellAt rfl, h.res.cellAt rfl⟩, h.res.frozen, h.res.frozen, h.res.frozen, h.res.frozen, h.res.frozen⟩
/-- behind the store -/
theorem Tb.set {w W : World} {cs : List Value} {t1 t2 : TypeId} {z0 z1 z2 z3 z4 : Value} (h : Tb w cs [z0, z1, z2, z3, z4] t1 t2 W) (x0 x1 x2 x3 x4 : Value) : Tb w cs [x0, x1, x2, x3, x4] t1 t2 (((((W.setCell ⟨w.heap.size + 1, 0, none⟩ x0).setCell ⟨w.heap.size + 1, 1, none⟩ x1).setCell ⟨w.heap.size + 1, 2, none⟩ x2).setCell ⟨w.heap.size + 1, 3, none⟩ x3).setCell ⟨w.heap.size + 1, 4, none⟩ x4) := by
  have d := h.done x0 x1 x2 x3 x4
  exact ⟨h.row.keep d.2.2 (by omega), d.1, d.2.1⟩
set_option maxRecDepth 100000 in
set_option maxHeartbeats 2000000 in
theorem lref_any (pv : Value) (x : Vn) (w : World) (hp : PcI w pv x.ps) (hl : x.ps.length * 24 ≤ 140737488355328) : Calls Try.prog 15 #[vnV (pv, x)] w fun e w' => ∃ ad cap, e = .returned (vnV (.slice ad x.ps.length cap, x)) ∧ OwnP w' w.heap.size 74 (.slice ad x.ps.length cap) x.ps ∧ Below w.heap.size w w' := by
  obtain ⟨ad, cap, rfl⟩ := hp.sl
  have LP : Hid (∀ W, Tb w [.int .i64 x.id, .bool x.ma, .int .i64 x.sz, .string x.sum, .slice ad x.ps.length cap] [.int .i64 0, .bool false, .int .i64 0, .string ⟨#[]⟩, .slice none 0 0] 24 36 W → Calls Try.prog 11 #[.slice ad x.ps.length cap] W fun e w' => ∃ ad' cap', e = .returned (.slice ad' x.ps.length cap') ∧ (w'.cell? ⟨w.heap.size, 0, none⟩ = some (.int .i64 x.id) ∧ w'.cell? ⟨w.heap.size, 1, none⟩ = some (.bool x.ma) ∧ w'.cell? ⟨w.heap.size, 2, none⟩ = some (.int .i64 x.sz) ∧ w'.cell? ⟨w.heap.size, 3, none⟩ = some (.string x.sum) ∧ w'.cell? ⟨w.heap.size, 4, none⟩ = some (.slice ad x.ps.length cap)) ∧ Hid (OwnP w' (w.heap.size + 2) 74 (.slice ad' x.ps.length cap') x.ps) ∧ Hid (Tb w [.int .i64 x.id, .bool x.ma, .int .i64 x.sz, .string x.sum, .slice ad x.ps.length cap] [.int .i64 0, .bool false, .int .i64 0, .string ⟨#[]⟩, .slice none 0 0] 24 36 w')) := fun W hW => (lpiece_any _ x.ps W (hp.next hW.b) hl).mono fun e w' ⟨ad', cap', he, ho, hb⟩ => by
    have hn := hW.next hb
    exact ⟨ad', cap', he, ⟨hn.row.cellAt rfl, hn.row.cellAt rfl, hn.row.cellAt rfl, hn.row.cellAt rfl, hn.row.cellAt rfl⟩, ownsRow_base ho (by have := hW.res.lt; omega), hn⟩
  have TM := hid (Tb.made w [.int .i64 x.id, .bool x.ma, .int .i64 x.sz, .string x.sum, .slice ad x.ps.length cap] [.int .i64 0, .bool false, .int .i64 0, .string ⟨#[]⟩, .slice none 0 0] 24 36)
  clear hp hl
  unfold vnV
  obtain ⟨id, ma, sz, sum, ps⟩ := x
  simp only at *
  generalize hpn : ps.length = pn at *
  clear hpn
  have YD := hid TM.out.drew.five
  have KS : Hid (∀ W v', OwnP W (w.heap.size + 2) 74 v' ps → Tb w [.int .i64 id, .bool ma, .int .i64 sz, .string sum, .slice ad pn cap] [.int .i64 0, .bool false, .int .i64 0, .string ⟨#[]⟩, .slice none 0 0] 24 36 W → Hid (Tb w [.int .i64 id, .bool ma, .int .i64 sz, .string sum, .slice ad pn cap] [.int .i64 id, .bool ma, .int .i64 sz, .string sum, v'] 24 36 (((((W.setCell ⟨w.heap.size + 1, 0, none⟩ (.int .i64 id)).setCell ⟨w.heap.size + 1, 1, none⟩ (.bool ma)).setCell ⟨w.heap.size + 1, 2, none⟩ (.int .i64 sz)).setCell ⟨w.heap.size + 1, 3, none⟩ (.string sum)).setCell ⟨w.heap.size + 1, 4, none⟩ v')) ∧ Hid (OwnP (((((W.setCell ⟨w.heap.size + 1, 0, none⟩ (.int .i64 id)).setCell ⟨w.heap.size + 1, 1, none⟩ (.bool ma)).setCell ⟨w.heap.size + 1, 2, none⟩ (.int .i64 sz)).setCell ⟨w.heap.size + 1, 3, none⟩ (.string sum)).setCell ⟨w.heap.size + 1, 4, none⟩ v') w.heap.size 74 v' ps)) := fun W v' ho h => ⟨h.set _ _ _ _ _, ownsRow_base ((h.done _ _ _ _ _).2.2.ownsRow ho (fun g hg e => by have := ownsRow_ge ho hg; omega)) (by omega)⟩
  go_enter Try.func15, Try.ntmps15
  go_wp2
  go_region_held3 (fun w' => w'.cell? ⟨w.heap.size, 0, none⟩ = some (.int .i64 id) ∧ w'.cell? ⟨w.heap.size, 1, none⟩ = some (.bool ma) ∧ w'.cell? ⟨w.heap.size, 2, none⟩ = some (.int .i64 sz) ∧ w'.cell? ⟨w.heap.size, 3, none⟩ = some (.string sum) ∧ w'.cell? ⟨w.heap.size, 4, none⟩ = some (.slice ad pn cap)) (first | with_reducible exact YD.out | with_reducible assumption | with_reducible exact T6.out.five) (first | (go_at_call 11; with_reducible (refine (LP.out _ ?_).mono ?_); (exact TM.out.drew); rintro e w5 ⟨ad', cap', rfl, ZC, OP, T5⟩; obtain ⟨⟨r0, r1, r2, r3, r4⟩, q0, q1, q2, q3, q4⟩ := T5.out.may; obtain ⟨T6, O6⟩ := KS.out w5 (.slice ad' pn cap') OP.out T5.out))
  clear ZC r0 r1 r2 r3 r4 q0 q1 q2 q3 q4 KS YD OP T5 LP TM
  go_wp2
  refine bodyPost_ret (v := .agg #[.int .i64 id, .bool ma, .int .i64 sz, .string sum, .slice ad' pn cap']) (results_cell_row (p := 2) rfl _ _ (w.heap.size + 1) 36 #[.int .i64 id, .bool ma, .int .i64 sz, .string sum, .slice ad' pn cap'] (0, 0) _ rfl T6.out.res Try.underlying36 rfl (by kernel_rfl)) rfl ⟨ad', cap', rfl, O6.out, T6.out.b⟩
/-- a cell of the box set -/
theorem Tb.put {w W : World} {cs zs : List Value} {t1 t2 : TypeId} (h : Tb w cs zs t1 t2 W) (i : Nat) (x : Value) : Tb w (cs.set i x) zs t1 t2 (W.setCell ⟨w.heap.size, i, none⟩ x) := by
  have kS := keep_setCell W w.heap.size i x
  exact ⟨h.row.set i x, h.res.keep kS (by omega), h.b.trans (keep_below kS (fun k hk e => by omega) h.b.size)⟩
set_option maxRecDepth 100000 in
set_option maxHeartbeats 2000000 in
theorem own_any (pv : Value) (x : Vn) (w : World) (hp : PcI w pv x.ps) (hl : x.ps.length ≤ 1048576) (hs : ∀ p ∈ x.ps, p.id.size ≤ 1048576) (hu : x.sum.size ≤ 1048576) : Calls Try.prog 43 #[vnV (pv, x)] w fun e w' => ∃ ad cap, e = .returned (vnV (.slice ad x.ps.length cap, x)) ∧ OwnP w' w.heap.size 72 (.slice ad x.ps.length cap) x.ps ∧ Below w.heap.size w w' := by
  obtain ⟨ad, cap, rfl⟩ := hp.sl
  have CL := hid (fun W => clone_any x.sum W (Nat.le_trans hu (by omega)))
  have PA : Hid (∀ W, Below w.heap.size w W → Calls Try.prog 63 #[.slice ad x.ps.length cap] W fun e w' => ∃ ad cap, e = .returned (.slice ad x.ps.length cap) ∧ OwnP w' W.heap.size 72 (.slice ad x.ps.length cap) x.ps ∧ Below W.heap.size W w') := fun W hW => papart_any _ x.ps W (hp.next hW) hl hs
  have TM := hid (Tb.made w [.int .i64 x.id, .bool x.ma, .int .i64 x.sz, .string x.sum, .slice ad x.ps.length cap] [.int .i64 0, .bool false, .int .i64 0, .string ⟨#[]⟩, .slice none 0 0] 24 24)
  clear hp hl hs hu
  unfold vnV
  obtain ⟨id, ma, sz, sum, ps⟩ := x
  simp only at *
  generalize hpn : ps.length = pn at *
  clear hpn
  have y3 := TM.out.row.cellAt (o := 3) rfl
  go_enter Try.func43, Try.ntmps43
  go_wp2_with fail
  refine (CL.out _).mono ?_
  rintro e w1 ⟨rfl, b1⟩
  have T1 := hid (TM.out.next b1)
  clear CL b1 TM y3
  have y3 := T1.out.row.cellAt (o := 3) rfl
  have f3 := T1.out.row.frozen (o := 3)
  have T2 : Hid (Tb w [.int .i64 id, .bool ma, .int .i64 sz, .string sum, .slice ad pn cap] [.int .i64 0, .bool false, .int .i64 0, .string ⟨#[]⟩, .slice none 0 0] 24 24 (w1.setCell ⟨w.heap.size, 3, none⟩ (.string sum))) := T1.out.put 3 (.string sum)
  have y4 := T2.out.row.cellAt (o := 4) rfl
  go_wp2_with fail
  refine (PA.out _ T2.out.b).mono ?_
  rintro e w3 ⟨ad', cap', rfl, o3, b3⟩
  have T3 := hid (T2.out.next b3)
  have O3 : Hid (OwnP w3 (w.heap.size + 2) 72 (.slice ad' pn cap') ps) := ownsRow_base o3 (by have := T2.out.res.lt; omega)
  clear o3 b3 T1 T2 PA y3 f3 y4
  have y4 := T3.out.row.cellAt (o := 4) rfl
  have f4 := T3.out.row.frozen (o := 4)
  have T4 : Hid (Tb w [.int .i64 id, .bool ma, .int .i64 sz, .string sum, .slice ad' pn cap'] [.int .i64 0, .bool false, .int .i64 0, .string ⟨#[]⟩, .slice none 0 0] 24 24 (w3.setCell ⟨w.heap.size, 4, none⟩ (.slice ad' pn cap'))) := T3.out.put 4 (.slice ad' pn cap')
  have O4 : Hid (OwnP (w3.setCell ⟨w.heap.size, 4, none⟩ (.slice ad' pn cap')) (w.heap.size + 2) 72 (.slice ad' pn cap') ps) := (keep_setCell w3 w.heap.size 4 _).ownsRow O3.out (fun g hg e => by have := ownsRow_ge O3.out hg; omega)
  obtain ⟨z0, z1, z2, z3, z4⟩ := T4.out.five
  obtain ⟨⟨r0, r1, r2, r3, r4⟩, q0, q1, q2, q3, q4⟩ := T4.out.may
  have T5 := hid (T4.out.set (.int .i64 id) (.bool ma) (.int .i64 sz) (.string sum) (.slice ad' pn cap'))
  have O5 := hid (ownsRow_base ((T4.out.done (.int .i64 id) (.bool ma) (.int .i64 sz) (.string sum) (.slice ad' pn cap')).2.2.ownsRow O4.out (fun g hg e => by have := ownsRow_ge O4.out hg; omega)) (B' := w.heap.size) (by omega))
  clear O3 O4 T3 T4
  go_wp2
  refine bodyPost_ret (v := .agg #[.int .i64 id, .bool ma, .int .i64 sz, .string sum, .slice ad' pn cap']) (results_cell_row (p := 2) rfl _ _ (w.heap.size + 1) 24 #[.int .i64 id, .bool ma, .int .i64 sz, .string sum, .slice ad' pn cap'] (0, 0) _ rfl T5.out.res Try.underlying24 rfl (by kernel_rfl)) rfl ⟨ad', cap', rfl, O5.out, T5.out.b⟩
end Go.Proofs.Ytbiapepalkdkdaa
