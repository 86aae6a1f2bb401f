/- The walk of falls being laid. -/
import Derived.Test.YtnlodlpjokkepabSyncW
namespace Go.Proofs.Ytnlodlpjokkepab
open Go.RowKit Go.Maps
set_option linter.unusedVariables false
set_option linter.unusedSimpArgs false

/-- a fall's cells -/
def flC (x : Fl) : List Value := [.int .i64 x.at_, .int .i64 x.keep, .int .i64 x.torn]
def fls (l : List Fl) : List Value := l.flatMap flC
theorem fls_get : ∀ (l : List Fl) (i : Nat) (h : i < l.length) (j : Nat), j < 3 → (fls l)[3 * i + j]? = (flC l[i])[j]?
  | x :: r, 0, _, j, hj => by
    show (flC x ++ fls r)[3 * 0 + j]? = _
    rw [List.getElem?_append_left (by simp [flC]; omega)]
    simp
  | x :: r, i + 1, h, j, hj => by
    show (flC x ++ fls r)[3 * (i + 1) + j]? = _
    rw [List.getElem?_append_right (by simp [flC]; omega), show 3 * (i + 1) + j - (flC x).length = 3 * i + j by simp [flC]; omega]
    exact fls_get r i (by simpa using h) j hj
theorem flC_cell1 (x : Fl) : ∀ u ∈ flC x, u.oneCell' = true := by
  intro u hu
  simp [flC] at hu
  rcases hu with rfl | rfl | rfl <;> rfl
theorem info35 : (Try.prog.info? 35).map (fun i => (i.zero, i.size, i.bytes)) = some (some (.agg #[.int .i64 0, .int .i64 0, .int .i64 0]), 3, 24) := by kernel_rfl

/-- what 'append(falls, f)' leaves -/
structure FMore (w : World) (B : Nat) (v : Value) (fs : List Fl) (x : Fl) (v' : Value) (w' : World) : Prop where
  is : w'.ownsRow B 35 3 v' (fs.length + 1) (fls (fs ++ [x]))
  loc : v'.ownBlock = v.ownBlock ∨ ∃ g, v'.ownBlock = some g ∧ w.heap.size ≤ g
  keep : Keep (fun k => v.ownBlock = some k) w w'

theorem step_fapp {w w0 : World} {ops : Array Oper} {o : Oper} {a : Act} {K : Act → World → Prop} {Q : Exit → Act → World → Prop} {E : Prop} (hgd : o.guard = none) (sl x : Operand)
    (ho : o.op = .call { callee := .builtin .append, args := #[sl, x], argTypes := #[36, 36] }) (B : Nat) (v : Value) (fs : List Fl) (y : Fl) (Mc : Array Value) (hMc : Mc = (flC y).toArray) (hw : w.heap = (w0.alloc (.cells Mc 35)).heap) (hK : Keep (fun _ => False) w0 w)
    (hs : a.eval sl = v) (hx : a.eval x = .slice (some ⟨w0.heap.size, 0, none⟩) 1 1) (h0 : w0.ownsRow B 35 3 v fs.length (fls fs)) (hB : B ≤ w0.heap.size) (hl : fs.length ≤ 70368744177)
    (h : ∀ ad' cap' w', FMore w0 B v fs y (.slice ad' (fs.length + 1) cap') w' → K (a.put o.dst (.slice ad' (fs.length + 1) cap')) w') : if Region.wanted o (yielded ops a.tmps) = true then Oper.wp Try.prog o a w K Q else E := by
  have hwn : Region.wanted o (yielded ops a.tmps) = true := by simp [Region.wanted, hgd]
  rw [if_pos hwn]
  subst hMc
  obtain ⟨i0, hi, hz0, hz1, hz2⟩ := info_parts info35
  have hsz := hK.size
  have hcell : ∀ p, w.cell? p = (w0.alloc (.cells (flC y).toArray 35)).cell? p := fun p => by simp [World.cell?, hw]
  obtain ⟨v', w', hr, h2, h3, h4, h5⟩ := run_append_own_at (P := Try.prog) w B 36 o.type 35 i0 _ 3 24 Try.underlying36 hi hz0 hz1 hz2 rfl (by decide) v fs.length (fls fs) (hK.ownsRow h0 (fun _ _ h => h)) ⟨w0.heap.size, 0, none⟩ 1 1 (flC y) rfl
    (fun j u hu => by rw [Addr.add_lit, Nat.zero_add, hcell, cell_of_row _ _ _ _ _ _ (heap_alloc_new _ _)]; simpa using hu) (flC_cell1 y) (by unfold maxLen; omega) (by omega) (by omega)
  unfold Oper.wp execOp
  simp only [ho, resolve, invoke, builtin, Sem.run_bind, Sem.run_pure, Result.andThen_ok, List.map_toArray, List.map_cons, List.map_nil, hs, hx, hr, Oper.upon]
  obtain ⟨ad', cap', rfl⟩ : ∃ ad' cap', v' = .slice ad' (fs.length + 1) cap' := by
    rcases h2.2 with ⟨_, h0⟩ | ⟨g, cap, cur, e, _⟩
    · omega
    · exact ⟨_, _, e⟩
  refine h ad' cap' w' ⟨by rw [show fls (fs ++ [y]) = fls fs ++ flC y by simp [fls]]; exact h2, h5.imp id (fun e => ⟨_, e, hsz⟩), (hK.mono (fun _ _ h => h.elim)).trans ⟨h3.os, h3.tape, h3.output, h3.size, fun k hk hn => h3.block k hk (fun e => hn e.symm)⟩⟩

/-- the first falls are laid, in the map in block b -/
structure PlanAt (w : World) (p : Nat) (cs : List Value) (b B : Nat) (l : List Fl) (wr : World) : Prop where
  row : RowIs wr p (cs.set 6 (.map (some b))) 73
  keep : Keep (fun k => k = p) w wr
  hB : B ≤ wr.heap.size
  map : ∃ (D : DataW Value) (f : Int → Value), wr.ownsMap Try.prog 3 rawE b l.length D ∧ IsMap D ∧ (∀ q : Int, D.atKey (.int .i64 q) (.held (.slice none 0 0)) = .held (f q)) ∧ (∀ q : Int, wr.ownsRow B 35 3 (f q) (l.filter fun x => x.at_ = q).length (fls (l.filter fun x => x.at_ = q))) ∧
    ∀ q r : Int, q ≠ r → ∀ g, (f q).ownBlock = some g → (f r).ownBlock ≠ some g

theorem keyI {q : Int} (h : (Lit.int .i64 q).wf = true) : keyOf Try.prog 3 (.int .i64 q) = some (.int .i64 q) := keyOf_int_mk (P := Try.prog) Try.underlying3 h
theorem Keep.ownsMap {S : Nat → Prop} {w w' : World} {b n : Nat} {D : DataW Value} (k : Keep S w w') (h : w.ownsMap Try.prog 3 rawE b n D) (hS : ¬ S b) : w'.ownsMap Try.prog 3 rawE b n D := by
  have hlt := h.lt
  obtain ⟨es, clock, hb, r⟩ := h
  exact ⟨es, clock, (k.block b hlt hS).trans hb, r⟩
theorem filter_snoc (l : List Fl) (x : Fl) (q : Int) : ((l ++ [x]).filter fun y => y.at_ = q) = (l.filter fun y => y.at_ = q) ++ if x.at_ = q then [x] else [] := by
  rw [List.filter_append]
  by_cases h : x.at_ = q <;> simp [h]

/-- what one fall more asks -/
def PStep (w : World) (p : Nat) (cs : List Value) (b B : Nat) (l : List Fl) (x : Fl) (wr : World) : Prop :=
    ∃ v fs, fs.length ≤ 70368744177 ∧ wr.ownsRow B 35 3 v fs.length (fls fs) ∧ (∀ W, Keep (fun _ => False) wr W → (Instr.lookup 71 (.map (some b)) (.int .i64 x.at_) false).run Try.prog W = .ok v W) ∧
      ∀ v' wA w4, Keep (fun _ => False) wr wA → FMore wA B v fs x v' w4 → (∀ o, w4.cell? ⟨p, o, none⟩ = wr.cell? ⟨p, o, none⟩) ∧ (∀ g o u, wr.heap.size ≤ g → wA.cell? ⟨g, o, none⟩ = some u → w4.cell? ⟨g, o, none⟩ = some u) ∧
        ∀ W, Keep (fun _ => False) w4 W → ∃ w5, (Instr.mapUpdate 71 (.map (some b)) (.int .i64 x.at_) v').run Try.prog W = .ok () w5 ∧ PlanAt w p cs b B (l ++ [x]) w5 ∧ Keep (· = b) W w5
/-- one fall more -/
theorem plan_step {w wr : World} {p : Nat} {cs : List Value} {b B : Nat} {l : List Fl} (h : PlanAt w p cs b B l wr) (x : Fl) (hx : (Lit.int .i64 x.at_).wf = true) (hbB : b < B) (hbp : b ≠ p) (hpB : p < B) (hwb : w.heap.size ≤ b) (hll : l.length ≤ 70368744177) : PStep w p cs b B l x wr := by
  obtain ⟨D, f, hO, hI, hat, hrow, hap⟩ := h.map
  have hkey := keyI hx
  refine ⟨f x.at_, l.filter fun y => y.at_ = x.at_, Nat.le_trans (List.length_filter_le _ _) hll, hrow x.at_, fun W hW => ?_, fun v' wA w4 hA hm => ?_⟩
  · obtain ⟨v, ps, hr, hv⟩ := World.ownsMap.lookup (hW.ownsMap hO (fun h => h)) law3 Try.underlying71 (zero36 W) (zd := .held (.slice none 0 0)) (zp := []) rfl hkey
    rw [hat] at hv
    have e : f x.at_ = v := DataW.held.inj (held_inj hv)
    rw [← e] at hr
    exact hr
  · have hblk : ∀ q g, (f q).ownBlock = some g → B ≤ g ∧ g < wr.heap.size := fun q g e => by
      refine ⟨?_, ownsRow_lt (hrow q) e⟩
      rcases (hrow q).2 with ⟨e2, _⟩ | ⟨g', cap, cur, e2, hg, _⟩
      · rw [e2] at e; simp [Value.ownBlock] at e
      · rw [e2] at e; simp [Value.ownBlock] at e; omega
    have hpk : ¬ (f x.at_).ownBlock = some p := fun e => by have := hblk _ _ e; omega
    have hbk : ¬ (f x.at_).ownBlock = some b := fun e => by have := hblk _ _ e; omega
    have kr4 : Keep (fun k => (f x.at_).ownBlock = some k) wr w4 := (hA.mono (fun _ _ h => h.elim)).trans hm.keep
    have hp := h.row.lt
    have hsA := hA.size
    refine ⟨fun o => kr4.cell hp hpk, fun g o u hg hu => (hm.keep.cell (World.block_lt_of_cell? _ _ hu) (fun (e : (f x.at_).ownBlock = some g) => by have := hblk _ _ e; omega)).trans hu, fun W hW => ?_⟩
    have kW : Keep (fun k => (f x.at_).ownBlock = some k) wr W := kr4.trans (hW.mono (fun _ _ h => h.elim))
    have hOW := kW.ownsMap hO hbk
    obtain ⟨w5, hr5, hO5, ht5⟩ := World.ownsMap.store hOW law3 Try.underlying71 (by unfold maxLen; omega) (val := v') (d := .held v') (ps := []) hkey rfl
    have k5 := keep_map ht5
    have K5 : Keep (fun k => (f x.at_).ownBlock = some k ∨ k = b) wr w5 := (kW.mono (fun _ _ e => .inl e)).trans (k5.mono (fun _ _ e => .inr e))
    have hv'b : ∀ g, v'.ownBlock = some g → ¬ g = b := fun g e e2 => by
      rcases hm.loc with h1 | ⟨g', h1, h2⟩
      · exact hbk (by rw [← h1, e, e2])
      · rw [h1] at e; injection e with e
        have := hO.lt; omega
    refine ⟨w5, hr5, ⟨h.row.keep K5 (by rintro (e | e); exact hpk e; exact hbp e.symm), h.keep.then K5 (fun j hj e => ?_), Nat.le_trans h.hB K5.size, D.put (.int .i64 x.at_) (.held v'), fun q => if q = x.at_ then v' else f q, ?_, hI.put _ _, fun q => ?_, fun q => ?_, ?_⟩, k5⟩
    · rcases e with e | e
      · have := hblk _ _ e; omega
      · omega
    · simp only [List.length_append, List.length_singleton]; exact hO5
    · show _ = DataW.held (if q = x.at_ then v' else f q)
      by_cases hq : q = x.at_
      · subst hq; rw [if_pos rfl]; exact atKey_put_same (k := .int .i64 x.at_) hI (by simp [WideAt.IsKeyLit]) _ _
      · rw [if_neg hq, atKey_put_other (fun e => hq (by injection e))]; exact hat q
    · show w5.ownsRow B 35 3 (if q = x.at_ then v' else f q) _ _
      rw [filter_snoc]
      by_cases hq : q = x.at_
      · subst hq
        rw [if_pos rfl, if_pos rfl, List.length_append, List.length_singleton]
        exact k5.ownsRow (hW.ownsRow hm.is (fun _ _ h => h)) hv'b
      · rw [if_neg hq, if_neg (fun e => hq e.symm), List.append_nil]
        refine K5.ownsRow (hrow q) ?_
        rintro g e (e2 | e2)
        · exact hap q x.at_ hq g e e2
        · have := hblk _ _ e; omega
    · intro q r hqr g
      show (if q = x.at_ then v' else f q).ownBlock = some g → (if r = x.at_ then v' else f r).ownBlock ≠ some g
      have hvf : ∀ s, s ≠ x.at_ → ∀ g, v'.ownBlock = some g → (f s).ownBlock ≠ some g := fun s hs g e e2 => by
        rcases hm.loc with h1 | ⟨g', h1, h2⟩
        · exact hap x.at_ s (fun e => hs e.symm) g (h1 ▸ e) e2
        · rw [h1] at e; injection e with e
          have := hblk _ _ e2; omega
      by_cases hq : q = x.at_
      · rw [if_pos hq, if_neg (fun e => hqr (hq.trans e.symm))]
        exact hvf r (fun e => hqr (hq.trans e.symm)) g
      · rw [if_neg hq]
        by_cases hr : r = x.at_
        · rw [if_pos hr]; intro e e2; exact hvf q hq g e2 e
        · rw [if_neg hr]; exact hap q r hqr g

theorem plan_end {w wr : World} {c : Nat → Nat} {p : Nat} {R : Raw} {d : Ds} (h : DiskR w c p R d) (l : List Fl) (hl : l.length ≤ 70368744177) (ha : PlanAt w p (R.cs d) w.heap.size (w.heap.size + 1) l wr) : Left w c p { d with fl := l } wr := by
  obtain ⟨D, f, hO, hI, hat, hrow, hap⟩ := ha.map
  have hcp := h.cp
  have hp := h.row.lt
  have k := ha.keep
  let c' : Nat → Nat := fun j => if j < w.heap.size then c j else if j = w.heap.size then 5 else 6
  have hc : ∀ j, j < w.heap.size → c' j = c j := fun j hj => if_pos hj
  refine ⟨⟨c', ⟨{ R with fm := some w.heap.size }, ?_, by rw [hc p hp]; exact hcp, h.now.keep' k hc (fun j _ e => by rw [e]; omega), h.sure.keep' k hc (fun j _ e => by rw [e]; omega), h.eS, h.eN, h.safe, k.ownsRow h.wrow (fun g e e2 => by have := h.wcol g e; rw [e2] at this; omega), fun g e => by rw [hc g (ownsRow_lt h.wrow e)]; exact h.wcol g e, ?_, h.unt, h.oks⟩, hc⟩, k.mono fun j _ e => by rw [e]; omega⟩
  · have e : (R.cs d).set 6 (.map (some w.heap.size)) = Raw.cs { R with fm := some w.heap.size } { d with fl := l } := by simp [Raw.cs, dC]
    rw [← e]; exact ha.row
  · refine .inr ⟨w.heap.size, l.length, D, f, rfl, ?_, hO, hI, by show l.length + l.length ≤ _; omega, hat, fun q => ?_⟩
    · show (if w.heap.size < w.heap.size then _ else if w.heap.size = w.heap.size then 5 else 6) = 5
      rw [if_neg (by omega), if_pos rfl]
    · have hq := hrow q
      show FRow wr c' (f q) (l.filter fun x => x.at_ = q)
      generalize (l.filter fun x => x.at_ = q) = fs at hq ⊢
      obtain ⟨h1, h2⟩ := hq
      rcases h2 with ⟨e, h0⟩ | ⟨g, cap, cur, e, hg, hb, hn, hm, hs, ht⟩
      · exact .inl ⟨none, 0, e, List.length_eq_zero_iff.1 h0⟩
      · refine .inr ⟨g, 0, cap, e, ?_, (Array.getElem?_eq_some_iff.1 hb).1, hn, fun j hj => ?_⟩
        · show (if g < w.heap.size then _ else if g = w.heap.size then 5 else 6) = 6
          rw [if_neg (by omega), if_neg (by omega)]
        · have hcell : ∀ i, i < 3 → wr.cell? ⟨g, 0 + 3 * j + i, none⟩ = (flC fs[j])[i]? := fun i hi => by
            rw [cell_of_row _ _ _ _ _ _ hb, ← fls_get fs j hj i hi, ← ht, List.getElem?_take_of_lt (by omega), Nat.zero_add]
            simp
          exact ⟨hcell 0 (by omega), hcell 1 (by omega), hcell 2 (by omega)⟩

/-- falls that are handed in -/
def FIn (w : World) (p : Nat) (v : Value) (l : List Fl) : Prop := (∃ ad cap, v = .slice ad 0 cap ∧ l = []) ∨ ∃ g off cap, v = .slice (some ⟨g, off, none⟩) l.length cap ∧ g ≠ p ∧ g < w.heap.size ∧
    ∀ j (h : j < l.length), w.cell? ⟨g, off + j * 3, none⟩ = some (.int .i64 l[j].at_) ∧ w.cell? ⟨g, off + j * 3 + 1, none⟩ = some (.int .i64 l[j].keep) ∧ w.cell? ⟨g, off + j * 3 + 2, none⟩ = some (.int .i64 l[j].torn)

set_option maxRecDepth 100000 in
set_option maxHeartbeats 4000000 in
theorem plan_any (p : Nat) (c : Nat → Nat) (d : Ds) (v : Value) (l : List Fl) (w : World) (h : DiskIs w c p d) (hv : FIn w p v l) (hl : l.length ≤ 70368744177) (hwf : ∀ x ∈ l, (Lit.int .i64 x.at_).wf = true) :
    Calls Try.prog 27 #[.pointer (some ⟨p, 0, none⟩), v] w fun e w' => e = .returned (.tuple #[]) ∧ Left w c p { d with fl := l } w' := by
  obtain ⟨R, h⟩ := h
  obtain ⟨ad, cap, rfl⟩ : ∃ ad cap, v = .slice ad l.length cap := by
    rcases hv with ⟨ad, cap, e, e2⟩ | ⟨g, off, cap, e, _⟩
    · exact ⟨ad, cap, by rw [e, e2]; rfl⟩
    · exact ⟨_, _, e⟩
  have hp := h.row.lt
  have m6 : w.cell? ⟨p, 6, none⟩ = some (.map R.fm) := h.row.cellAt (by simp [Raw.cs, dC])
  have ka := keep_alloc (fun _ => False) w (.map #[] 0)
  have hrA := h.row.keep ka (fun h => h)
  have m6a : (w.alloc (.map #[] 0)).cell? ⟨p, 6, none⟩ = some (.map R.fm) := hrA.cellAt (by simp [Raw.cs, dC])
  have f6a : (w.alloc (.map #[] 0)).frozen? ⟨p, 6, none⟩ = false := hrA.frozen
  have hsz : (w.setCell ⟨p, 6, none⟩ (.map (some w.heap.size))).heap.size = w.heap.size := by simp [World.setCell]
  have H0 : Hid (PlanAt w p (R.cs d) w.heap.size (w.heap.size + 1) (l.take 0) ((w.setCell ⟨p, 6, none⟩ (.map (some w.heap.size))).alloc (.map #[] 0))) := by
    have hmd := World.ownsMap_made (w.setCell ⟨p, 6, none⟩ (.map (some w.heap.size))) Try.prog 3 rawE
    rw [hsz] at hmd
    refine ⟨(h.row.set 6 _).keep (keep_alloc (fun _ => False) _ _) (fun h => h), (keep_setCell _ _ _ _).trans (keep_alloc _ _ _), by simp [hsz], .map [], fun _ => .slice none 0 0, hmd, ⟨[], rfl⟩, fun q => rfl, fun q => ⟨rfl, .inl ⟨rfl, rfl⟩⟩, fun q r _ g e => by simp [Value.ownBlock] at e⟩
  clear hsz
  have HEND : Hid (∀ wr, PlanAt w p (R.cs d) w.heap.size (w.heap.size + 1) l wr → Left w c p { d with fl := l } wr) := fun wr ha => plan_end h l hl ha
  have HST : Hid (∀ (k : Nat) (hk : k < l.length) (wr : World), PlanAt w p (R.cs d) w.heap.size (w.heap.size + 1) (l.take k) wr → ∃ g off, ad = some ⟨g, off, none⟩ ∧ wr.cell? ⟨g, off + k * 3, none⟩ = some (.int .i64 l[k].at_) ∧ wr.cell? ⟨g, off + k * 3 + 1, none⟩ = some (.int .i64 l[k].keep) ∧ wr.cell? ⟨g, off + k * 3 + 2, none⟩ = some (.int .i64 l[k].torn) ∧ wr.cell? ⟨p, 6, none⟩ = some (.map (some w.heap.size)) ∧ PStep w p (R.cs d) w.heap.size (w.heap.size + 1) (l.take k) l[k] wr ∧ PlanAt w p (R.cs d) w.heap.size (w.heap.size + 1) (l.take k) wr) := by
    intro k hk wr ha
    rcases hv with ⟨_, _, _, e⟩ | ⟨g, off, cap', e, hgp, hgl, hcl⟩
    · rw [e] at hk; simp at hk
    · injection e with e1 e2 e3
      have hc := hcl k hk
      have kk := ha.keep
      exact ⟨g, off, e1, (kk.cell hgl hgp).trans hc.1, (kk.cell hgl hgp).trans hc.2.1, (kk.cell hgl hgp).trans hc.2.2, ha.row.cellAt (by simp [Raw.cs, dC]), plan_step ha l[k] (hwf _ (List.getElem_mem _)) (by omega) (by omega) (by omega) (Nat.le_refl _) (by rw [List.length_take]; omega), ha⟩
  have HTK : Hid (∀ (k : Nat) (hk : k < l.length), l.take k ++ [l[k]] = l.take (k + 1)) := fun k hk => (List.take_succ_eq_append_getElem hk).symm
  have hmm := @run_makeMap Try.prog
  clear h hv ka hrA hwf m6
  go_enter Try.func27, Try.ntmps27
  go_wp2
  go_loopw [14] (fun i wr => ∃ k : Nat, k ≤ l.length ∧ i = .int .i64 k ∧ Hid (PlanAt w p (R.cs d) w.heap.size (w.heap.size + 1) (l.take k) wr)) (fun i _ => l.length - (intOf i).toNat)
  case atStart => exact ⟨0, by omega, rfl, H0⟩
  case round =>
    clear H0 hmm m6a f6a
    obtain ⟨k, hk, rfl, HA⟩ := hrel
    by_cases hlt : k < l.length
    · have hk0 : (0 : Int) ≤ (k : Int) := by omega
      have hk1 : (k : Int) < (l.length : Int) := by omega
      obtain ⟨g, off, hg, q0, q1, q2, p6, ⟨v, fs, hfl, hrow, hlk, hst⟩, hpa⟩ := HST.out k hlt wr HA.out
      have hpr : p < wr.heap.size := by have := World.block_lt_of_cell? _ _ p6; simpa using this
      have hBr := hpa.hB
      have HTK2 := hid (HTK.out k hlt)
      clear HST HEND HTK HA hpa
      generalize l[k] = x at *
      subst hg
      have HLK := hid hlk
      have HST2 := hid hst
      have HRO := hid hrow
      have HFL := hid hfl
      clear hlk hst hrow hfl
      go_wp2
      clear q0 q1 q2
      have hKA := keep_alloc (fun _ => False) wr (.cells #[.int .i64 x.at_, .int .i64 x.keep, .int .i64 x.torn] 35)
      have hbA : RowIs (wr.alloc (.cells #[.int .i64 x.at_, .int .i64 x.keep, .int .i64 x.torn] 35)) wr.heap.size (flC x) 35 := heap_alloc_new _ _
      have p6A : (wr.alloc (.cells #[.int .i64 x.at_, .int .i64 x.keep, .int .i64 x.torn] 35)).cell? ⟨p, 6, none⟩ = some (.map (some w.heap.size)) := (hKA.cell hpr (fun h => h)).trans p6
      generalize wr.alloc (.cells #[.int .i64 x.at_, .int .i64 x.keep, .int .i64 x.torn] 35) = wA at *
      have kB := keep_alloc (fun _ => False) wA (.cells #[.int .i64 x.at_, .int .i64 x.keep, .int .i64 x.torn] 35)
      have a0 := hbA.cellAt (o := 0) rfl
      have a1 := hbA.cellAt (o := 1) rfl
      have a2 := hbA.cellAt (o := 2) rfl
      have hbB := hbA.keep kB (fun h => h)
      have z0 := hbB.cellAt (o := 0) rfl
      have z1 := hbB.cellAt (o := 1) rfl
      have z2 := hbB.cellAt (o := 2) rfl
      have p6B := (kB.cell (o := 6) (Nat.lt_of_lt_of_le hpr hKA.size) (fun h => h)).trans p6A
      have l1 := HLK.out wA hKA
      have l2 := HLK.out wA.drew (hKA.trans (keep_drew _ _))
      have l3 := HLK.out _ (hKA.trans kB)
      have l4 := HLK.out _ ((hKA.trans kB).trans (keep_drew _ _))
      have HRA := hid (hKA.ownsRow HRO.out (fun _ _ h => h))
      have HBA : Hid (w.heap.size + 1 ≤ wA.heap.size) := Nat.le_trans hBr hKA.size
      have HMc : Hid (#[Value.int .i64 x.at_, .int .i64 x.keep, .int .i64 x.torn] = (flC x).toArray) := rfl
      have HK1 : Hid (∀ X, Keep (fun _ => False) wA (wA.alloc X)) := fun X => keep_alloc _ _ _
      have HK2 : Hid (∀ X, Keep (fun _ => False) wA (wA.alloc X).drew) := fun X => (keep_alloc _ _ _).trans (keep_drew _ _)
      have hbl := hbA.lt
      have hpl : p < wA.heap.size := Nat.lt_of_lt_of_le hpr hKA.size
      have PS : Hid (∀ v' w4, FMore wA (w.heap.size + 1) v fs x v' w4 → w4.cell? ⟨p, 6, none⟩ = some (.map (some w.heap.size)) ∧ w4.cell? ⟨wr.heap.size, 0, none⟩ = some (.int .i64 x.at_) ∧ w4.cell? ⟨wr.heap.size, 1, none⟩ = some (.int .i64 x.keep) ∧ w4.cell? ⟨wr.heap.size, 2, none⟩ = some (.int .i64 x.torn) ∧ ∃ w5, (Instr.mapUpdate 71 (.map (some w.heap.size)) (.int .i64 x.at_) v').run Try.prog w4 = .ok () w5 ∧ PlanAt w p (R.cs d) w.heap.size (w.heap.size + 1) (l.take (k + 1)) w5 ∧ w5.cell? ⟨p, 6, none⟩ = some (.map (some w.heap.size)) ∧ w5.cell? ⟨wr.heap.size, 0, none⟩ = some (.int .i64 x.at_) ∧ w5.cell? ⟨wr.heap.size, 1, none⟩ = some (.int .i64 x.keep) ∧ w5.cell? ⟨wr.heap.size, 2, none⟩ = some (.int .i64 x.torn)) := by
        intro v' w4 hm
        obtain ⟨s1, s2, s3⟩ := HST2.out v' wA w4 hKA hm
        obtain ⟨w5, hr5, hP5, hk5⟩ := s3 w4 (Keep.refl _ _)
        rw [HTK2.out] at hP5
        have hb : wr.heap.size ≠ w.heap.size := by omega
        have t0 := s2 _ _ _ (Nat.le_refl _) a0
        have t1 := s2 _ _ _ (Nat.le_refl _) a1
        have t2 := s2 _ _ _ (Nat.le_refl _) a2
        have hl4 : wr.heap.size < w4.heap.size := World.block_lt_of_cell? _ _ t0
        exact ⟨(s1 6).trans p6, t0, t1, t2, w5, hr5, hP5, hP5.row.cellAt (by simp [Raw.cs, dC]), (hk5.cell hl4 hb).trans t0, (hk5.cell hl4 hb).trans t1, (hk5.cell hl4 hb).trans t2⟩
      have SA : Hid (wA.cell? ⟨p, 6, none⟩ = some (.map (some w.heap.size)) ∧ wA.cell? ⟨wr.heap.size, 0, none⟩ = some (.int .i64 x.at_) ∧ wA.cell? ⟨wr.heap.size, 1, none⟩ = some (.int .i64 x.keep) ∧ wA.cell? ⟨wr.heap.size, 2, none⟩ = some (.int .i64 x.torn)) := ⟨p6A, a0, a1, a2⟩
      have SAd : Hid (wA.drew.cell? ⟨p, 6, none⟩ = some (.map (some w.heap.size)) ∧ wA.drew.cell? ⟨wr.heap.size, 0, none⟩ = some (.int .i64 x.at_) ∧ wA.drew.cell? ⟨wr.heap.size, 1, none⟩ = some (.int .i64 x.keep) ∧ wA.drew.cell? ⟨wr.heap.size, 2, none⟩ = some (.int .i64 x.torn)) := ⟨p6A, a0, a1, a2⟩
      have SB : Hid ((wA.alloc (.cells #[.int .i64 x.at_, .int .i64 x.keep, .int .i64 x.torn] 35)).cell? ⟨p, 6, none⟩ = some (.map (some w.heap.size)) ∧ (wA.alloc (.cells #[.int .i64 x.at_, .int .i64 x.keep, .int .i64 x.torn] 35)).cell? ⟨wr.heap.size, 0, none⟩ = some (.int .i64 x.at_) ∧ (wA.alloc (.cells #[.int .i64 x.at_, .int .i64 x.keep, .int .i64 x.torn] 35)).cell? ⟨wr.heap.size, 1, none⟩ = some (.int .i64 x.keep) ∧ (wA.alloc (.cells #[.int .i64 x.at_, .int .i64 x.keep, .int .i64 x.torn] 35)).cell? ⟨wr.heap.size, 2, none⟩ = some (.int .i64 x.torn)) := ⟨p6B, z0, z1, z2⟩
      have SBd : Hid ((wA.alloc (.cells #[.int .i64 x.at_, .int .i64 x.keep, .int .i64 x.torn] 35)).drew.cell? ⟨p, 6, none⟩ = some (.map (some w.heap.size)) ∧ (wA.alloc (.cells #[.int .i64 x.at_, .int .i64 x.keep, .int .i64 x.torn] 35)).drew.cell? ⟨wr.heap.size, 0, none⟩ = some (.int .i64 x.at_) ∧ (wA.alloc (.cells #[.int .i64 x.at_, .int .i64 x.keep, .int .i64 x.torn] 35)).drew.cell? ⟨wr.heap.size, 1, none⟩ = some (.int .i64 x.keep) ∧ (wA.alloc (.cells #[.int .i64 x.at_, .int .i64 x.keep, .int .i64 x.torn] 35)).drew.cell? ⟨wr.heap.size, 2, none⟩ = some (.int .i64 x.torn)) := ⟨p6B, z0, z1, z2⟩
      clear HLK HST2 HRO hKA kB hbA hbB HTK2 hBr p6 hpr hpl hbl z0 z1 z2 p6B a0 a1 a2 p6A
      go_region_held3 (fun w' => w'.cell? ⟨p, 6, none⟩ = some (.map (some w.heap.size)) ∧ w'.cell? ⟨wr.heap.size, 0, none⟩ = some (.int .i64 x.at_) ∧ w'.cell? ⟨wr.heap.size, 1, none⟩ = some (.int .i64 x.keep) ∧ w'.cell? ⟨wr.heap.size, 2, none⟩ = some (.int .i64 x.torn)) (first | (refine ⟨?_, ?_, ?_, ?_⟩ <;> with_reducible assumption) | with_reducible (exact SA.out) | with_reducible (exact SAd.out) | with_reducible (exact SB.out) | with_reducible (exact SBd.out)) ((refine step_fapp (w0 := wA) (by rfl) _ _ (by rfl) (w.heap.size + 1) v fs x _ HMc.out (by rfl) (by first | exact HK1.out _ | exact HK2.out _) (by rfl) (by rfl) HRA.out HBA.out HFL.out ?_; intro ad1 cap1 w4 hm; obtain ⟨e6, e0, e1, e2, w5, hst, hP5, g6, g0, g1, g2⟩ := PS.out _ _ hm))
      all_goals
        have HA := hid hP5
        clear hP5 hst hm PS HRA HBA HMc HK1 HK2 l1 l2 l3 l4
        go_wp2
        exact ⟨⟨k + 1, by omega, by go_num, HA⟩, by simp [intOf]; omega⟩
    · have hd : decide ((k : Int) < (l.length : Int)) = false := decide_eq_false (by omega)
      have hkl : l.take k = l := List.take_of_length_le (by omega)
      rw [hkl] at HA
      have HL := hid (HEND.out wr HA.out)
      clear HST HEND HA hkl HTK
      go_wp2
      go_end0
      exact ⟨rfl, HL.out⟩
end Go.Proofs.Ytnlodlpjokkepab
