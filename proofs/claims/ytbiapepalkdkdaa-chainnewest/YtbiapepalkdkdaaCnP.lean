/- For the law ChainNewest: the chain and what was put, side by side. -/
import Derived.Test.YtbiapepalkdkdaaCnO
import Derived.Test.YtbiapepalkdkdaaCatM
import Derived.Test.YtbiapepalkdkdaaWVPuts
namespace Go.Proofs.Ytbiapepalkdkdaa
open Go.RowKit Go.Maps
set_option linter.unusedVariables false
set_option linter.unusedSimpArgs false

/-- a chain, and what was put and not dropped, in the order in which it was put -/
def RlN (qc qm : List (Value × Vn)) : Prop := vqL qc = (vqL qm).reverse ∧ isCh (vqL qc) = true
theorem rlN_nil : RlN [] [] := ⟨rfl, by decide +kernel⟩
theorem RlN.len {qc qm : List (Value × Vn)} (h : RlN qc qm) : qc.length = qm.length := by
  have := congrArg List.length h.1
  rw [List.length_reverse, vqL_len, vqL_len] at this
  exact this
theorem RlN.le {qc qm : List (Value × Vn)} (h : RlN qc qm) : qm.length ≤ 32 := by
  have := isCh_len h.2
  rw [vqL_len] at this
  have := h.len
  omega
theorem RlN.rev {qc qm : List (Value × Vn)} (h : RlN qc qm) : isCh (vqL qm).reverse = true := by rw [← h.1]; exact h.2
theorem RlN.ok {qc qm : List (Value × Vn)} (h : RlN qc qm) {y : Value × Vn} (hy : y ∈ qm) : vnOk y.2 = true := isCh_all h.rev _ (List.mem_reverse.2 (vq_mem hy))
theorem RlN.put {qc qm q' : List (Value × Vn)} {y : Value × Vn} (h : RlN qc qm) (hp : putE (vqL qc) y.2 = 0) (hq : vqL q' = putL (vqL qc) y.2) : RlN q' (qm ++ [y]) := by
  obtain ⟨h1, h2⟩ := isCh_put hp
  rw [h2] at hq
  refine ⟨?_, by rw [hq]; exact h1⟩
  rw [hq, vqL_app, List.reverse_append, h.1]
  rfl
theorem RlN.at {qc qm : List (Value × Vn)} (h : RlN qc qm) {k : Nat} (hk : k < qm.length) : plE (vqL qc) qm[k].2.id = 0 ∧ fdV (vqL qc) qm[k].2.id = qm[k].2 ∧ ∀ q', vqL q' = drL (vqL qc) qm[k].2.id → RlN q' (qm.take k ++ qm.drop (k + 1)) := by
  have hk' : k < (vqL qm).length := by rw [vqL_len]; exact hk
  obtain ⟨h1, h2, h3, h4⟩ := drL_rev h.rev hk'
  rw [vqL_get qm k hk] at h1 h2 h4
  rw [h.1]
  refine ⟨h2, h4, fun q' hq => ?_⟩
  rw [h1] at hq
  refine ⟨?_, by rw [hq]; exact h3⟩
  rw [hq, vqL_cut]
theorem RlN.last {qc qm : List (Value × Vn)} (h : RlN qc qm) (hm : 0 < qm.length) : latE (vqL qc) = (if (qm[qm.length - 1]'(by omega)).2.ma = true then 130 else 0) ∧ latV (vqL qc) = (if (qm[qm.length - 1]'(by omega)).2.ma = true then vn0 else (qm[qm.length - 1]'(by omega)).2) := by
  have hm' : 0 < (vqL qm).length := by rw [vqL_len]; exact hm
  have := lat_rev h.rev hm'
  rw [← h.1] at this
  have e : (vqL qm)[(vqL qm).length - 1]'(by omega) = (qm[qm.length - 1]'(by omega)).2 := by
    have := vqL_get qm (qm.length - 1) (by omega)
    rw [← this]
    congr 1
    rw [vqL_len]
  rw [e] at this
  exact this
theorem RlN.none {qc qm : List (Value × Vn)} (h : RlN qc qm) (hm : qm.length = 0) : latE (vqL qc) = 4 := by
  have : qm = [] := List.length_eq_zero_iff.1 hm
  rw [h.1, this]
  rfl
structure NS (w : World) (cv : Value) (qc : List (Value × Vn)) (mv : Value) (qm : List (Value × Vn)) (W : World) : Prop where
  c : OwnQ W w.heap.size 24 72 cv qc
  m : OwnQ W w.heap.size 36 74 mv qm
  b : Below w.heap.size w W
section
variable {w W W' : World} {cv cv' mv mv' : Value} {qc qc' qm qm' : List (Value × Vn)}
theorem NS.nil (h : Below w.heap.size w W) : NS w (.slice none 0 0) [] (.slice none 0 0) [] W := ⟨ownQ_nil _ _ _ _, ownQ_nil _ _ _ _, h⟩
theorem NS.next (h : NS w cv qc mv qm W) (hb : Below W.heap.size W W') : NS w cv qc mv qm W' := ⟨h.c.next hb, h.m.next hb, below_on h.b hb⟩
theorem NS.newC (h : NS w cv qc mv qm W) (ho : OwnQ W' W.heap.size 24 72 cv' qc') (hb : Below W.heap.size W W') : NS w cv' qc' mv qm W' := ⟨ho.base h.b.size, h.m.next hb, below_on h.b hb⟩
theorem NS.appM {y : Value × Vn} (h : NS w cv qc mv qm W) (hy : OwnP W w.heap.size 74 y.1 y.2.ps) (hr : W'.ownsRow w.heap.size 36 5 mv' (qm.length + 1) (vqC qm ++ vnC y)) (hk : Keep (fun j => mv.ownBlock = some j) W W') : NS w cv qc mv' (qm ++ [y]) W' :=
  ⟨⟨hk.ownsRow h.c.1 (fun g hg e => rows_apart2 h.c.1 h.m.1 (by decide) hg e), fun y hy => hk.ownsRow (h.c.2 y hy) (fun g hg e => rows_apart2 (h.c.2 y hy) h.m.1 (by decide) hg e)⟩, h.m.app hy (by decide) hr hk, h.b.trans (keep_below hk (fun j hj e => by have := ownsRow_ge h.m.1 e; omega) h.b.size)⟩
theorem NS.newM (h : NS w cv qc mv qm W) {n : Nat} {cs : List Value} (hn : n = qm'.length) (hcs : cs = vqC qm') (hr : W'.ownsRow W.heap.size 36 5 mv' n cs) (hs : ∀ y ∈ qm', y ∈ qm) (hb : Below W.heap.size W W') : NS w cv qc mv' qm' W' := by
  subst hn hcs
  exact ⟨h.c.next hb, ⟨ownsRow_base hr h.b.size, fun y hy => (h.m.2 y (hs y hy)).next hb⟩, below_on h.b hb⟩
theorem NS.at {ad : Option Addr} {cap : Nat} (h : NS w cv qc (.slice ad qm.length cap) qm W) (k : Nat) (hk : k < qm.length) : ∃ b off, ad = some ⟨b, off, none⟩ ∧ ∀ W', NS w cv qc (.slice ad qm.length cap) qm W' → (W'.cell? ⟨b, off + k * 5, none⟩ = some (.int .i64 qm[k].2.id) ∧ W'.cell? ⟨b, off + k * 5 + 1, none⟩ = some (.bool qm[k].2.ma) ∧ W'.cell? ⟨b, off + k * 5 + 2, none⟩ = some (.int .i64 qm[k].2.sz) ∧ W'.cell? ⟨b, off + k * 5 + 3, none⟩ = some (.string qm[k].2.sum) ∧ W'.cell? ⟨b, off + k * 5 + 4, none⟩ = some qm[k].1) ∧ PcI W' qm[k].1 qm[k].2.ps := by
  obtain ⟨ad', cap', e, hc⟩ := h.m.vn.form
  injection e with e1 e2 e3
  subst e1
  obtain ⟨b, off, e, -⟩ := hc k hk
  refine ⟨b, off, e, fun W' h' => ?_⟩
  obtain ⟨ad2, cap2, e', hc'⟩ := h'.m.vn.form
  injection e' with f1 f2 f3
  subst f1
  obtain ⟨b', off', e', _, c0, c1, c2, c3, c4, c5⟩ := hc' k hk
  rw [e] at e'
  injection e' with e'
  injection e' with g1 g2
  subst g1 g2
  exact ⟨⟨c0, c1, c2, c3, c4⟩, c5⟩
theorem NS.sl (h : NS w cv qc mv qm W) : (∃ ad cap, cv = .slice ad qc.length cap) ∧ ∃ ad cap, mv = .slice ad qm.length cap := by
  obtain ⟨a, c, e, -⟩ := h.c.vn.form
  obtain ⟨a', c', e', -⟩ := h.m.vn.form
  exact ⟨⟨a, c, e⟩, a', c', e'⟩
end
theorem put_cases (l : List Vn) (x : Vn) : putE l x = 0 ∨ putE l x = 1 ∨ putE l x = 131 := by
  unfold putE
  split
  · split
    · exact .inr (.inl rfl)
    · split
      · exact .inr (.inr rfl)
      · exact .inl rfl
  · exact .inr (.inl rfl)
theorem vqC_tk (q : List (Value × Vn)) (k : Nat) (hk : k ≤ q.length) : (vqC q).take (k * 5) = vqC (q.take k) := by
  have e : vqC q = vqC (q.take k) ++ vqC (q.drop k) := by rw [← vqC_app, List.take_append_drop]
  have hl : (vqC (q.take k)).length = k * 5 := by rw [vqC_len, List.length_take, Nat.min_eq_left hk]
  rw [e, ← hl, List.take_left]
/-- 'append' of a row of whatever memory to a row of the call's own, in a region that draws its order -/
theorem step_gappR {w w0 : World} {ops : Array Oper} {o : Oper} {a : Act} {K : Act → World → Prop} {Q : Exit → Act → World → Prop} {E : Prop} (hgd : o.guard = none) (sl x : Operand) {st e size bytes : Nat} (T : ElT st e size bytes)
    (ho : o.op = .call { callee := .builtin .append, args := #[sl, x], argTypes := #[st, st] }) (B : Nat) (v xv : Value) (xs cs : List Value) (n m nm : Nat) (hnm : n + m = nm) (hk : Keep (fun _ => False) w0 w)
    (hs : a.eval sl = v) (hx : a.eval x = xv) (h0 : w0.ownsRow B e size v n xs) (hB : B ≤ w0.heap.size) (hX : RowC w0 xv m cs) (hcs : cs.length = m * size) (h1 : ∀ u ∈ cs, u.oneCell' = true) (hl : nm ≤ 70368744177) (hby : nm * bytes ≤ 140737488355328)
    (h : ∀ ad' cap' w', w'.ownsRow B e size (.slice ad' nm cap') nm (xs ++ cs) → Keep (fun k => v.ownBlock = some k) w0 w' → K (a.put o.dst (.slice ad' nm cap')) w') : if Region.wanted o (yielded ops a.tmps) = true then Oper.wp Try.prog o a w K Q else E := by
  subst hnm
  have hwn : Region.wanted o (yielded ops a.tmps) = true := by simp [Region.wanted, hgd]
  rw [if_pos hwn]
  obtain ⟨ad', cap', w', hr, h2, h3⟩ := gappR T o.type (hk.ownsRow h0 (fun _ _ h => h)) (Nat.le_trans hB hk.size) (hX.keep hk (fun _ _ h => h)) hcs h1 (by omega) hby
  unfold Oper.wp execOp
  simp only [ho, resolve, invoke, builtin, Sem.run_bind, Sem.run_pure, Result.andThen_ok, List.map_toArray, List.map_cons, List.map_nil, hs, hx, hr, Oper.upon]
  exact h ad' cap' w' h2 ((hk.mono (fun _ _ h => h.elim)).trans h3)
/-- a version in a box -/
structure VB (g t : Nat) (pv : Value) (x : Vn) (W : World) : Prop where
  r : RowIs W g [.int .i64 x.id, .bool x.ma, .int .i64 x.sz, .string x.sum, pv] t
  p : PcI W pv x.ps
theorem VB.next {g t : Nat} {pv : Value} {x : Vn} {W W' : World} (h : VB g t pv x W) (hb : Below W.heap.size W W') : VB g t pv x W' := ⟨h.r.keep (hb.keep (fun _ => False)) (fun h => h), h.p.next hb⟩
theorem VB.made (W : World) (t : Nat) (pv : Value) (x : Vn) (hp : PcI W pv x.ps) : VB W.heap.size t pv x (W.alloc (.cells #[.int .i64 x.id, .bool x.ma, .int .i64 x.sz, .string x.sum, pv] t)) := ⟨srow W _ _, hp.next (below_al (Below.refl _ _) _)⟩
theorem VB.cells {g t : Nat} {pv : Value} {x : Vn} {W : World} (h : VB g t pv x W) : W.cell? ⟨g, 0, none⟩ = some (.int .i64 x.id) ∧ W.cell? ⟨g, 1, none⟩ = some (.bool x.ma) ∧ W.cell? ⟨g, 2, none⟩ = some (.int .i64 x.sz) ∧ W.cell? ⟨g, 3, none⟩ = some (.string x.sum) ∧ W.cell? ⟨g, 4, none⟩ = some pv := ⟨h.r.cellAt rfl, h.r.cellAt rfl, h.r.cellAt rfl, h.r.cellAt rfl, h.r.cellAt rfl⟩
end Go.Proofs.Ytbiapepalkdkdaa
