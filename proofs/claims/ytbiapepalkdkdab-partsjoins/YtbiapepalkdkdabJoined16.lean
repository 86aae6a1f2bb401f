/- Joined: The walk of the law PartsPuts. The walk of the law PartsJoins. -/
import Derived.Test.YtbiapepalkdkdabPtZ
import Derived.Test.YtbiapepalkdkdabJoined14
import Derived.Test.YtbiapepalkdkdabJoined07
import Derived.Test.YtbiapepalkdkdabJoined15
namespace Go.Proofs.Ytbiapepalkdkdab
open Go.RowKit Go.Maps
set_option linter.unusedVariables false
set_option linter.unusedSimpArgs false

/-- parts that may be, at most 101 -/
def FewT (l : List Pt) : Prop := l.length ≤ 101 ∧ ∀ v ∈ l, ptOk v = true
theorem FewT.nil : FewT [] := ⟨by simp, fun v hv => by cases hv⟩
theorem few_tput (l : List Pt) (x : Pt) : FewT (tputL l x) := by
  unfold tputL
  split
  · rename_i h
    unfold tputE at h
    split at h
    · rename_i hh
      have h1 := arePt_len hh.1
      refine ⟨?_, fun v hv => ?_⟩
      · unfold insT
        have h2 := plT_sk l x.n
        simp only [List.length_append, List.length_take, List.length_cons, List.length_drop]
        omega
      · rcases List.mem_append.1 hv with e | e
        · exact arePt_all hh.1 v (List.mem_of_mem_take e)
        · rcases List.mem_cons.1 e with e | e
          · rw [e]; exact hh.2
          · exact arePt_all hh.1 v (List.mem_of_mem_drop e)
    · cases h
  · exact FewT.nil
theorem tm_mem {q : List (Value × Pt)} {l : List Pt} (h : tqL q = l) {y : Value × Pt} (hy : y ∈ q) : y.2 ∈ l := by rw [← h]; exact tq_mem hy
theorem tm_len {q : List (Value × Pt)} {l : List Pt} (h : tqL q = l) : q.length = l.length := by rw [← h, tqL_len]
/-- the law's copy of few parts -/
theorem trefs_few (v : Value) (q : List (Value × Pt)) (l : List Pt) (w : World) (hv : PtI w v q) (he : tqL q = l) (hf : FewT l) : Calls Try.prog 11 #[v] w (fun e w' => (∃ ad n cap q', e = .returned (.slice ad n cap) ∧ Hid (PtI w' (.slice ad n cap) q' ∧ tqL q' = l)) ∧ Below w.heap.size w w') :=
  (trefs_any v q w hv (by rw [tm_len he]; have := hf.1; omega) (fun y hy => by have := (ptOk_b (hf.2 _ (tm_mem he hy))).2.2.1; omega)).mono fun e w' ⟨ad, cap, q', h1, h2, h3, h4⟩ => ⟨⟨ad, _, cap, q', h1, h3.pt, by rw [h2, he]⟩, h4⟩
theorem tsame_few (v1 v2 : Value) (q1 q2 : List (Value × Pt)) (l : List Pt) (w : World) (h1 : PtI w v1 q1) (h2 : PtI w v2 q2) (e1 : tqL q1 = l) (e2 : tqL q2 = l) (hf : FewT l) : Calls Try.prog 15 #[v1, v2] w (fun e w' => e = .returned (.bool true) ∧ Below w.heap.size w w') :=
  rtsame_true v1 v2 q1 q2 w h1 h2 (by rw [e1, e2]) (by rw [tm_len e1]; have := hf.1; omega) (fun y hy => by have := (ptOk_b (hf.2 _ (tm_mem e1 hy))).2.2.1; omega)
theorem ptIs_len (l : List Pt) : (ptIs l).length ≤ 51200 := by
  unfold ptIs
  split
  · rename_i h
    have h1 : ∀ m : List Pt, (∀ x ∈ m, ptOk x = true) → (idsT m).length ≤ 512 * m.length := by
      intro m
      induction m with
      | nil => intro _; simp [idsT]
      | cons x r ih =>
        intro hm
        have a := (ptOk_b (hm x (by simp))).2.2.1
        have b := ih (fun y hy => hm y (List.mem_cons_of_mem _ hy))
        have e : idsT (x :: r) = pcI9 x.ps ++ idsT r := by simp [idsT]
        rw [e, List.length_append, List.length_cons]
        have c : (pcI9 x.ps).length = x.ps.length := by simp [pcI9]
        omega
    have := h1 l (arePt_all h)
    have h2 := arePt_len h
    omega
  · simp
/-- what the law has in memory: the part in a box, what both gave -/
structure PA3 (w : World) (cs : List Value) (va vb : Value) (qa qb : List (Value × Pt)) (W : World) : Prop where
  bx : Bx w w.heap.size cs 25 W
  ia : PtI W va qa
  ib : PtI W vb qb
section
variable {w W W' : World} {cs : List Value} {va vb : Value} {qa qb : List (Value × Pt)}
theorem PA3.next (h : PA3 w cs va vb qa qb W) (hb : Below W.heap.size W W') : PA3 w cs va vb qa qb W' := ⟨h.bx.next hb, h.ia.next hb, h.ib.next hb⟩
theorem PA3.drew (h : PA3 w cs va vb qa qb W) : PA3 w cs va vb qa qb W.drew := h.next (Below.refl _ _).drew
theorem PA3.al (h : PA3 w cs va vb qa qb W) (o : Obj) : PA3 w cs va vb qa qb (W.alloc o) := h.next ((Below.refl _ _).alloc (Nat.le_refl _) o)
end
theorem PA3.cells {w W : World} {z0 z1 z2 z3 va vb : Value} {qa qb : List (Value × Pt)} (h : PA3 w [z0, z1, z2, z3] va vb qa qb W) : W.cell? ⟨w.heap.size, 0, none⟩ = some z0 ∧ W.cell? ⟨w.heap.size, 1, none⟩ = some z1 ∧ W.cell? ⟨w.heap.size, 2, none⟩ = some z2 ∧ W.cell? ⟨w.heap.size, 3, none⟩ = some z3 :=
  ⟨h.bx.row.cellAt rfl, h.bx.row.cellAt rfl, h.bx.row.cellAt rfl, h.bx.row.cellAt rfl⟩
/-- a call beside that -/
theorem PA3.call {w W : World} {z0 z1 z2 z3 va vb : Value} {qa qb : List (Value × Pt)} (h : PA3 w [z0, z1, z2, z3] va vb qa qb W) {f : Nat} {args : Array Value} {R : Ending → World → Prop} (hc : Calls Try.prog f args W (fun e w' => R e w' ∧ Below W.heap.size W w')) :
    Calls Try.prog f args W (fun e w' => R e w' ∧ (w'.cell? ⟨w.heap.size, 0, none⟩ = some z0 ∧ w'.cell? ⟨w.heap.size, 1, none⟩ = some z1 ∧ w'.cell? ⟨w.heap.size, 2, none⟩ = some z2 ∧ w'.cell? ⟨w.heap.size, 3, none⟩ = some z3) ∧ Hid (PA3 w [z0, z1, z2, z3] va vb qa qb w') ∧ Hid (Below W.heap.size W w')) :=
  hc.mono fun e w' ⟨hr, hb⟩ => ⟨hr, (h.next hb).cells, h.next hb, hb⟩
theorem pti_one (W : World) (pa : Option Addr) (pc : Nat) (x : Pt) (n : Nat) (hn : x.ps.length = n) (hp : PcI W (.slice pa n pc) x.ps) : PtI (W.alloc (.cells #[.int .i64 x.n, .int .i64 x.sz, .string x.sum, .slice pa n pc] 25)) (.slice (some ⟨W.heap.size, 0, none⟩) 1 1) [(.slice pa n pc, x)] := by
  refine ⟨RowC.own (own_made W [.int .i64 x.n, .int .i64 x.sz, .string x.sum, .slice pa n pc] 25 4 1 0 (Nat.zero_le _) rfl (by omega)), fun y hy => ?_⟩
  rw [List.mem_singleton.1 hy]
  exact hp.next ((Below.refl _ _).alloc (Nat.le_refl _) _)
set_option maxRecDepth 100000 in
set_option maxHeartbeats 8000000 in
theorem partsPuts_walk (v0 : Value) (q : List (Value × Pt)) (pv : Value) (x : Pt) (w : World) (hv : PtI w v0 q) (hz : q.length * 56 ≤ 140737488355328) (hy : ∀ y ∈ q, ibulk.SzTb y.2) (hp : PcI w pv x.ps) (hx : ibulk.SzTb x) :
    Calls Try.prog 3 #[v0, ptV (pv, x)] w fun e w' => e = .returned (.bool true) ∧ Below w.heap.size w w' := by
  obtain ⟨pa, pc, rfl⟩ := hp.sl
  obtain ⟨av, cv, rfl, -⟩ := hv.form
  have hl : q.length ≤ 8796093022208 := by omega
  have hsq : ∀ y ∈ q, y.2.sum.size ≤ 140737488355328 ∧ y.2.ps.length ≤ 8796093022208 ∧ ∀ p ∈ y.2.ps, p.id.size ≤ 140737488355328 := fun y hy' => by obtain ⟨h1, h2, h3⟩ := hy y hy'; exact ⟨h1, by omega, h3⟩
  have hsx : x.sum.size ≤ 140737488355328 ∧ x.ps.length ≤ 8796093022208 ∧ ∀ p ∈ x.ps, p.id.size ≤ 140737488355328 := by obtain ⟨h1, h2, h3⟩ := hx; exact ⟨h1, by omega, h3⟩
  have hx24 : x.ps.length * 24 ≤ 140737488355328 := hx.2.1
  have hsq' : ∀ q' : List (Value × Pt), tqL q' = tqL q → q'.length ≤ 8796093022208 ∧ ∀ y ∈ q', y.2.sum.size ≤ 140737488355328 ∧ y.2.ps.length ≤ 8796093022208 ∧ ∀ p ∈ y.2.ps, p.id.size ≤ 140737488355328 := fun q' e => ⟨by rw [tm_len e, tqL_len]; exact hl, fun y hy' => by
    obtain ⟨z, hz', hzy⟩ := List.mem_map.1 (tm_mem e hy')
    have := hsq z hz'
    rw [hzy] at this
    exact this⟩
  have BM := hid (Bx.made (Below.refl w.heap.size w) [.int .i64 x.n, .int .i64 x.sz, .string x.sum, .slice pa x.ps.length pc] 25)
  have PT : Hid (∀ W, Below w.heap.size w W → Calls Try.prog 9 #[.slice av q.length cv, .agg #[.int .i64 x.n, .int .i64 x.sz, .string x.sum, .slice pa x.ps.length pc]] W (GiveT W (tputL (tqL q) x) (tputE (tqL q) x))) := fun W hW => tput_any _ q _ x W (hv.next hW) (hp.next hW) hl
  have RFL : Hid (∀ va vb qa qb W, PA3 w [.int .i64 x.n, .int .i64 x.sz, .string x.sum, .slice pa x.ps.length pc] va vb qa qb W → Calls Try.prog 11 #[.slice av q.length cv] W fun e w' => (∃ ad n cap q', e = .returned (.slice ad n cap) ∧ Hid (PtI w' (.slice ad n cap) q' ∧ tqL q' = tqL q)) ∧ (w'.cell? ⟨w.heap.size, 0, none⟩ = some (.int .i64 x.n) ∧ w'.cell? ⟨w.heap.size, 1, none⟩ = some (.int .i64 x.sz) ∧ w'.cell? ⟨w.heap.size, 2, none⟩ = some (.string x.sum) ∧ w'.cell? ⟨w.heap.size, 3, none⟩ = some (.slice pa x.ps.length pc)) ∧ Hid (PA3 w [.int .i64 x.n, .int .i64 x.sz, .string x.sum, .slice pa x.ps.length pc] va vb qa qb w') ∧ Hid (Below W.heap.size W w')) := fun va vb qa qb W h => h.call ((trefs_any _ q W (hv.next h.bx.b) hz (fun y hy' => (hy y hy').2.1)).mono fun e w' ⟨ad, cap, q', h1, h2, h3, h4⟩ => ⟨⟨ad, _, cap, q', h1, h3.pt, h2⟩, h4⟩)
  have RF1 : Hid (∀ va vb qa qb W g, PA3 w [.int .i64 x.n, .int .i64 x.sz, .string x.sum, .slice pa x.ps.length pc] va vb qa qb W → PtI W (.slice (some ⟨g, 0, none⟩) 1 1) [(.slice pa x.ps.length pc, x)] → Calls Try.prog 11 #[.slice (some ⟨g, 0, none⟩) 1 1] W fun e w' => (∃ bR oR capR aP cP, e = .returned (.slice (some ⟨bR, oR, none⟩) 1 capR) ∧ (w'.cell? ⟨bR, oR, none⟩ = some (.int .i64 x.n) ∧ w'.cell? ⟨bR, oR + 1, none⟩ = some (.int .i64 x.sz) ∧ w'.cell? ⟨bR, oR + 2, none⟩ = some (.string x.sum) ∧ w'.cell? ⟨bR, oR + 3, none⟩ = some (.slice aP x.ps.length cP)) ∧ Hid (PcI w' (.slice aP x.ps.length cP) x.ps)) ∧ (w'.cell? ⟨w.heap.size, 0, none⟩ = some (.int .i64 x.n) ∧ w'.cell? ⟨w.heap.size, 1, none⟩ = some (.int .i64 x.sz) ∧ w'.cell? ⟨w.heap.size, 2, none⟩ = some (.string x.sum) ∧ w'.cell? ⟨w.heap.size, 3, none⟩ = some (.slice pa x.ps.length pc)) ∧ Hid (PA3 w [.int .i64 x.n, .int .i64 x.sz, .string x.sum, .slice pa x.ps.length pc] va vb qa qb w') ∧ Hid (Below W.heap.size W w')) := fun va vb qa qb W g h h1 => h.call ((trefs_any _ [(.slice pa x.ps.length pc, x)] W h1 (by simp) (fun y hy' => by rw [List.mem_singleton.1 hy']; exact hx24)).mono fun e w' ⟨ad, cap, q', f1, f2, f3, f4⟩ => by
    have hl1 : q'.length = 1 := by rw [tm_len f2]; rfl
    obtain ⟨⟨aP, xx⟩, rfl⟩ := List.length_eq_one_iff.1 hl1
    have hxx : xx = x := by simpa [tqL] using f2
    subst hxx
    obtain ⟨ad2, cap2, e2, hc2⟩ := f3.pt.form
    injection e2 with e2 _ e3
    subst e2 e3
    obtain ⟨bR, oR, rfl, hb, c0, c1, c2, c3, hpp⟩ := hc2 0 (by simp)
    simp only [List.getElem_cons_zero, Nat.zero_mul, Nat.add_zero] at c0 c1 c2 c3 hpp
    obtain ⟨a3, c3', rfl⟩ := hpp.sl
    exact ⟨⟨bR, oR, cap, a3, c3', f1, ⟨c0, c1, c2, c3⟩, hpp⟩, f4⟩)
  have RPT : Hid (∀ va vb qa qb W v q' aP cP, PA3 w [.int .i64 x.n, .int .i64 x.sz, .string x.sum, .slice pa x.ps.length pc] va vb qa qb W → (PtI W v q' ∧ tqL q' = tqL q) → PcI W (.slice aP x.ps.length cP) x.ps → Calls Try.prog 10 #[v, .agg #[.int .i64 x.n, .int .i64 x.sz, .string x.sum, .slice aP x.ps.length cP]] W fun e w' => (∃ adB nB capB qB, e = .returned (.tuple #[.slice adB nB capB, .int .i64 (tputE (tqL q) x)]) ∧ Hid (PtI w' (.slice adB nB capB) qB ∧ tqL qB = tputL (tqL q) x)) ∧ (w'.cell? ⟨w.heap.size, 0, none⟩ = some (.int .i64 x.n) ∧ w'.cell? ⟨w.heap.size, 1, none⟩ = some (.int .i64 x.sz) ∧ w'.cell? ⟨w.heap.size, 2, none⟩ = some (.string x.sum) ∧ w'.cell? ⟨w.heap.size, 3, none⟩ = some (.slice pa x.ps.length pc)) ∧ Hid (PA3 w [.int .i64 x.n, .int .i64 x.sz, .string x.sum, .slice pa x.ps.length pc] va vb qa qb w') ∧ Hid (Below W.heap.size W w')) := fun va vb qa qb W v q' aP cP h hI hP => h.call (by
    have h0 := hsq' q' hI.2
    have := rtput_any v q' (.slice aP x.ps.length cP) x W hI.1 hP h0.1 h0.2 hsx
    rw [hI.2] at this
    exact this.mono fun e w' ⟨a1, a2, a3, qB, he, h1, h2, h3⟩ => ⟨⟨a1, a2, a3, qB, he, h2, h1⟩, h3⟩)
  have CK : Hid (∀ va vb qa qb W, PA3 w [.int .i64 x.n, .int .i64 x.sz, .string x.sum, .slice pa x.ps.length pc] va vb qa qb W → Calls Try.prog 13 #[.agg #[.int .i64 x.n, .int .i64 x.sz, .string x.sum, .slice pa x.ps.length pc]] W fun e w' => e = .returned (.int .i64 (ptE x)) ∧ (w'.cell? ⟨w.heap.size, 0, none⟩ = some (.int .i64 x.n) ∧ w'.cell? ⟨w.heap.size, 1, none⟩ = some (.int .i64 x.sz) ∧ w'.cell? ⟨w.heap.size, 2, none⟩ = some (.string x.sum) ∧ w'.cell? ⟨w.heap.size, 3, none⟩ = some (.slice pa x.ps.length pc)) ∧ Hid (PA3 w [.int .i64 x.n, .int .i64 x.sz, .string x.sum, .slice pa x.ps.length pc] va vb qa qb w') ∧ Hid (Below W.heap.size W w')) := fun va vb qa qb W h => h.call (tcheck_any _ x W (hp.next h.bx.b))
  have RCK : Hid (∀ va vb qa qb W aP cP, PA3 w [.int .i64 x.n, .int .i64 x.sz, .string x.sum, .slice pa x.ps.length pc] va vb qa qb W → PcI W (.slice aP x.ps.length cP) x.ps → Calls Try.prog 14 #[.agg #[.int .i64 x.n, .int .i64 x.sz, .string x.sum, .slice aP x.ps.length cP]] W fun e w' => e = .returned (.int .i64 (ptE x)) ∧ (w'.cell? ⟨w.heap.size, 0, none⟩ = some (.int .i64 x.n) ∧ w'.cell? ⟨w.heap.size, 1, none⟩ = some (.int .i64 x.sz) ∧ w'.cell? ⟨w.heap.size, 2, none⟩ = some (.string x.sum) ∧ w'.cell? ⟨w.heap.size, 3, none⟩ = some (.slice pa x.ps.length pc)) ∧ Hid (PA3 w [.int .i64 x.n, .int .i64 x.sz, .string x.sum, .slice pa x.ps.length pc] va vb qa qb w') ∧ Hid (Below W.heap.size W w')) := fun va vb qa qb W aP cP h hP => h.call (rtcheck_any _ x W hP hsx.2.1 hsx.2.2 hsx.1)
  have FP := hid (few_tput (tqL q) x)
  have RFA : Hid (∀ va vb qa qb W, PA3 w [.int .i64 x.n, .int .i64 x.sz, .string x.sum, .slice pa x.ps.length pc] va vb qa qb W → tqL qa = tputL (tqL q) x → Calls Try.prog 11 #[va] W fun e w' => (∃ ad n cap q', e = .returned (.slice ad n cap) ∧ Hid (PtI w' (.slice ad n cap) q' ∧ tqL q' = tputL (tqL q) x)) ∧ (w'.cell? ⟨w.heap.size, 0, none⟩ = some (.int .i64 x.n) ∧ w'.cell? ⟨w.heap.size, 1, none⟩ = some (.int .i64 x.sz) ∧ w'.cell? ⟨w.heap.size, 2, none⟩ = some (.string x.sum) ∧ w'.cell? ⟨w.heap.size, 3, none⟩ = some (.slice pa x.ps.length pc)) ∧ Hid (PA3 w [.int .i64 x.n, .int .i64 x.sz, .string x.sum, .slice pa x.ps.length pc] va vb qa qb w') ∧ Hid (Below W.heap.size W w')) := fun va vb qa qb W h e => h.call (trefs_few va qa _ W h.ia e FP.out)
  have SMB : Hid (∀ va vb qa qb W v q', PA3 w [.int .i64 x.n, .int .i64 x.sz, .string x.sum, .slice pa x.ps.length pc] va vb qa qb W → tqL qb = tputL (tqL q) x → (PtI W v q' ∧ tqL q' = tputL (tqL q) x) → Calls Try.prog 15 #[v, vb] W fun e w' => e = .returned (.bool true) ∧ (w'.cell? ⟨w.heap.size, 0, none⟩ = some (.int .i64 x.n) ∧ w'.cell? ⟨w.heap.size, 1, none⟩ = some (.int .i64 x.sz) ∧ w'.cell? ⟨w.heap.size, 2, none⟩ = some (.string x.sum) ∧ w'.cell? ⟨w.heap.size, 3, none⟩ = some (.slice pa x.ps.length pc)) ∧ Hid (PA3 w [.int .i64 x.n, .int .i64 x.sz, .string x.sum, .slice pa x.ps.length pc] va vb qa qb w') ∧ Hid (Below W.heap.size W w')) := fun va vb qa qb W v q' h e hI => h.call (tsame_few v vb q' qb _ W hI.1 h.ib hI.2 e FP.out)
  have IDL : Hid (∀ va vb qa qb W, PA3 w [.int .i64 x.n, .int .i64 x.sz, .string x.sum, .slice pa x.ps.length pc] va vb qa qb W → Calls Try.prog 17 #[.slice av q.length cv] W fun e w' => (∃ u, e = .returned u ∧ Hid (Strs w' u (ptIs (tqL q)))) ∧ (w'.cell? ⟨w.heap.size, 0, none⟩ = some (.int .i64 x.n) ∧ w'.cell? ⟨w.heap.size, 1, none⟩ = some (.int .i64 x.sz) ∧ w'.cell? ⟨w.heap.size, 2, none⟩ = some (.string x.sum) ∧ w'.cell? ⟨w.heap.size, 3, none⟩ = some (.slice pa x.ps.length pc)) ∧ Hid (PA3 w [.int .i64 x.n, .int .i64 x.sz, .string x.sum, .slice pa x.ps.length pc] va vb qa qb w') ∧ Hid (Below W.heap.size W w')) := fun va vb qa qb W h => h.call ((tids_any _ q W (hv.next h.bx.b) hl).mono fun e w' ⟨u, h1, h2, h3⟩ => ⟨⟨u, h1, h2⟩, h3⟩)
  have RID : Hid (∀ va vb qa qb W v q', PA3 w [.int .i64 x.n, .int .i64 x.sz, .string x.sum, .slice pa x.ps.length pc] va vb qa qb W → (PtI W v q' ∧ tqL q' = tqL q) → Calls Try.prog 18 #[v] W fun e w' => (∃ u, e = .returned u ∧ Hid (Strs w' u (ptIs (tqL q)))) ∧ (w'.cell? ⟨w.heap.size, 0, none⟩ = some (.int .i64 x.n) ∧ w'.cell? ⟨w.heap.size, 1, none⟩ = some (.int .i64 x.sz) ∧ w'.cell? ⟨w.heap.size, 2, none⟩ = some (.string x.sum) ∧ w'.cell? ⟨w.heap.size, 3, none⟩ = some (.slice pa x.ps.length pc)) ∧ Hid (PA3 w [.int .i64 x.n, .int .i64 x.sz, .string x.sum, .slice pa x.ps.length pc] va vb qa qb w') ∧ Hid (Below W.heap.size W w')) := fun va vb qa qb W v q' h hI => h.call (by
    have := rtids_any v q' W hI.1 (hsq' q' hI.2)
    rw [hI.2] at this
    exact this.mono fun e w' ⟨u, h1, h2, h3⟩ => ⟨⟨u, h1, h2⟩, h3⟩)
  have HIL := hid (ptIs_len (tqL q))
  have SAM : Hid (∀ va vb qa qb W u1 u2, PA3 w [.int .i64 x.n, .int .i64 x.sz, .string x.sum, .slice pa x.ps.length pc] va vb qa qb W → Strs W u1 (ptIs (tqL q)) → Strs W u2 (ptIs (tqL q)) → Calls Try.prog 16 #[u1, u2] W fun e w' => e = .returned (.bool true) ∧ (w'.cell? ⟨w.heap.size, 0, none⟩ = some (.int .i64 x.n) ∧ w'.cell? ⟨w.heap.size, 1, none⟩ = some (.int .i64 x.sz) ∧ w'.cell? ⟨w.heap.size, 2, none⟩ = some (.string x.sum) ∧ w'.cell? ⟨w.heap.size, 3, none⟩ = some (.slice pa x.ps.length pc)) ∧ Hid (PA3 w [.int .i64 x.n, .int .i64 x.sz, .string x.sum, .slice pa x.ps.length pc] va vb qa qb w') ∧ Hid (Below W.heap.size W w')) := fun va vb qa qb W u1 u2 h s1 s2 => h.call (same_any u1 u2 _ W s1 s2 (by have := HIL.out; omega))
  have AW : Hid (∀ va vb qa qb W, PA3 w [.int .i64 x.n, .int .i64 x.sz, .string x.sum, .slice pa x.ps.length pc] va vb qa qb W → Calls Try.prog 12 #[] W fun e w' => e = .returned (.bool true) ∧ (w'.cell? ⟨w.heap.size, 0, none⟩ = some (.int .i64 x.n) ∧ w'.cell? ⟨w.heap.size, 1, none⟩ = some (.int .i64 x.sz) ∧ w'.cell? ⟨w.heap.size, 2, none⟩ = some (.string x.sum) ∧ w'.cell? ⟨w.heap.size, 3, none⟩ = some (.slice pa x.ps.length pc)) ∧ Hid (PA3 w [.int .i64 x.n, .int .i64 x.sz, .string x.sum, .slice pa x.ps.length pc] va vb qa qb w') ∧ Hid (Below W.heap.size W w')) := fun va vb qa qb W h => h.call (awake14 W)
  have ONE : Hid (∀ W, Below w.heap.size w W → PtI (W.alloc (.cells #[.int .i64 x.n, .int .i64 x.sz, .string x.sum, .slice pa x.ps.length pc] 25)) (.slice (some ⟨W.heap.size, 0, none⟩) 1 1) [(.slice pa x.ps.length pc, x)]) := fun W hW => pti_one W pa pc x _ rfl (hp.next hW)
  have STK : Hid (∀ (W W' : World) (u : Value), Strs W u (ptIs (tqL q)) → Below W.heap.size W W' → Strs W' u (ptIs (tqL q))) := fun W W' u h hb => h.below hb
  clear hv hz hy hp hx hl hsq hsx hx24 hsq' FP HIL
  unfold ptV
  generalize hXX : x = xx at *
  generalize tputE (tqL q) xx = PE at *
  generalize tputL (tqL q) xx = PL at *
  generalize ptIs (tqL q) = IDS at *
  generalize ptE xx = CE at *
  generalize tqL q = LQ at *
  generalize q.length = N at *
  clear hXX
  obtain ⟨n, sz, sum, ps⟩ := xx
  simp only at *
  generalize hpn : ps.length = pn at *
  have e1 : (PE == PE) = true := beq_self_eq_true _
  have e2 : (CE == CE) = true := beq_self_eq_true _
  have y0 := BM.out.row.cellAt (o := 0) rfl
  have y1 := BM.out.row.cellAt (o := 1) rfl
  have y2 := BM.out.row.cellAt (o := 2) rfl
  have y3 := BM.out.row.cellAt (o := 3) rfl
  go_enter Try.func3, Try.ntmps3
  go_wp2_with fail
  refine (PT.out _ BM.out.b).mono ?_
  rintro e w1 ⟨ad1, n1, cap1, qa, rfl, ea, ia, b1⟩
  have H1 : Hid (PA3 w [.int .i64 n, .int .i64 sz, .string sum, .slice pa pn pc] (.slice ad1 n1 cap1) (.slice none 0 0) qa [] w1) := ⟨BM.out.next b1, ia.pt, pti_none _⟩
  have EA := hid ea
  clear PT b1 BM y0 y1 y2 y3 ea ia
  have ZC0 := H1.out.drew.cells
  go_wp2
  refine wp_region_held_drew (S := (fun w' => w'.cell? ⟨w.heap.size, 0, none⟩ = some (.int .i64 n) ∧ w'.cell? ⟨w.heap.size, 1, none⟩ = some (.int .i64 sz) ∧ w'.cell? ⟨w.heap.size, 2, none⟩ = some (.string sum) ∧ w'.cell? ⟨w.heap.size, 3, none⟩ = some (.slice pa pn pc))) (by kernel_rfl) ZC0 (fun hHeld => ?_)
  refine wpAnyH_take (i := 0) (v := ?vv1) rfl (by kernel_rfl) (by kernel_rfl) (by kernel_rfl) (fun _ _ _ h => h) (Or.inl ⟨by rfl, ?hy1⟩) (by assumption) ?rest1
  case hy1 => (intro w hSw; (try dsimp only at hSw); go_simp; first | done | with_reducible rfl)
  try simp only [Act.put, List.getElem_toArray, List.getElem_cons_succ, List.getElem_cons_zero, List.setIfInBounds_toArray, List.set_cons_zero, List.set_cons_succ]
  refine wpAnyH_take (i := 2) (v := ?vv2) rfl (by kernel_rfl) (by kernel_rfl) (by kernel_rfl) (fun _ _ _ h => h) (Or.inl ⟨by rfl, ?hy2⟩) (by assumption) ?rest2
  case hy2 => (intro w hSw; (try dsimp only at hSw); go_simp; first | done | with_reducible rfl)
  try simp only [Act.put, List.getElem_toArray, List.getElem_cons_succ, List.getElem_cons_zero, List.setIfInBounds_toArray, List.set_cons_zero, List.set_cons_succ]
  refine wpAnyH_ready (rs := [1, 3]) (by kernel_rfl) (by simp) ?_
  refine AllReadyH.cons rfl (fun K hK => ?_) (AllReadyH.cons rfl (fun K hK => ?_) AllReadyH.nil)
  · go_simp
    refine (RFL.out _ _ _ _ _ H1.out.drew).mono ?_
    rintro e wB ⟨⟨adX, nX, capX, qX, rfl, IX⟩, ZX, HX, KX⟩
    go_wp2_with fail
    refine hK.out _ _ ZX (fun hHeld => ?_)
    clear hK K
    try simp only [Act.put, List.getElem_toArray, List.getElem_cons_succ, List.getElem_cons_zero, List.setIfInBounds_toArray, List.set_cons_zero, List.set_cons_succ]
    have IE := hid (ONE.out _ HX.out.bx.b)
    have HE := hid (HX.out.al (.cells #[.int .i64 n, .int .i64 sz, .string sum, .slice pa pn pc] 25))
    have IX2 := hid (And.intro (IX.out.1.next ((Below.refl _ _).alloc (Nat.le_refl _) (.cells #[.int .i64 n, .int .i64 sz, .string sum, .slice pa pn pc] 25))) IX.out.2)
    refine wpAnyH_ready (rs := [3]) (by kernel_rfl) (by simp) ?_
    refine AllReadyH.cons rfl (fun K hK => ?_) AllReadyH.nil
    go_simp
    refine hK.out _ _ HE.out.cells (fun hHeld => ?_)
    clear hK K
    try simp only [Act.put, List.getElem_toArray, List.getElem_cons_succ, List.getElem_cons_zero, List.setIfInBounds_toArray, List.set_cons_zero, List.set_cons_succ]
    refine wpAnyH_ready (rs := [4]) (by kernel_rfl) (by simp) ?_
    refine AllReadyH.cons rfl (fun K hK => ?_) AllReadyH.nil
    go_simp
    refine (RF1.out _ _ _ _ _ _ HE.out IE.out).mono ?_
    rintro e wF ⟨⟨bF, oF, capF, aF, cpF, rfl, cF, PF⟩, ZF, HF, KF⟩
    go_wp2_with fail
    have IF := hid (And.intro (IX2.out.1.next KF.out) IX2.out.2)
    clear IE HE HX ZX KX IX IX2
    obtain ⟨cF0, cF1, cF2, cF3⟩ := cF
    have cF := cF0
    refine hK.out _ _ ZF (fun hHeld => ?_)
    clear hK K
    try simp only [Act.put, List.getElem_toArray, List.getElem_cons_succ, List.getElem_cons_zero, List.setIfInBounds_toArray, List.set_cons_zero, List.set_cons_succ]
    refine wpAnyH_take (i := 5) (v := ?vv3) rfl (by kernel_rfl) (by kernel_rfl) (by kernel_rfl) (fun _ _ _ h => h) (Or.inl ⟨by rfl, ?hy3⟩) (by assumption) ?rest3
    case hy3 => (intro w hSw; (try dsimp only at hSw); go_simp; first | done | with_reducible rfl)
    try simp only [Act.put, List.getElem_toArray, List.getElem_cons_succ, List.getElem_cons_zero, List.setIfInBounds_toArray, List.set_cons_zero, List.set_cons_succ]
    refine wpAnyH_ready (rs := [6]) (by kernel_rfl) (by simp) ?_
    refine AllReadyH.cons rfl (fun K hK => ?_) AllReadyH.nil
    go_simp
    refine hK.out _ _ ZF (fun hHeld => ?_)
    clear hK K
    try simp only [Act.put, List.getElem_toArray, List.getElem_cons_succ, List.getElem_cons_zero, List.setIfInBounds_toArray, List.set_cons_zero, List.set_cons_succ]
    refine wpAnyH_ready (rs := [7]) (by kernel_rfl) (by simp) ?_
    refine AllReadyH.cons rfl (fun K hK => ?_) AllReadyH.nil
    go_simp
    refine (RPT.out _ _ _ _ _ _ _ _ _ HF.out IF.out PF.out).mono ?_
    rintro e wQ ⟨⟨adB, nB, capB, qB, rfl, IB⟩, ZQ, HQ, KQ⟩
    go_wp2_with fail
    refine hK.out _ _ ZQ (fun hHeld => ?_)
    clear hK K
    try simp only [Act.put, List.getElem_toArray, List.getElem_cons_succ, List.getElem_cons_zero, List.setIfInBounds_toArray, List.set_cons_zero, List.set_cons_succ]
    refine wpAnyH_take (i := 8) (v := ?vv4) rfl (by kernel_rfl) (by kernel_rfl) (by kernel_rfl) (fun _ _ _ h => h) (Or.inl ⟨by rfl, ?hy4⟩) (by assumption) ?rest4
    case hy4 => (intro w hSw; (try dsimp only at hSw); go_simp; first | done | with_reducible rfl)
    try simp only [Act.put, List.getElem_toArray, List.getElem_cons_succ, List.getElem_cons_zero, List.setIfInBounds_toArray, List.set_cons_zero, List.set_cons_succ]
    refine wpAnyH_take (i := 9) (v := ?vv5) rfl (by kernel_rfl) (by kernel_rfl) (by kernel_rfl) (fun _ _ _ h => h) (Or.inl ⟨by rfl, ?hy5⟩) (by assumption) ?rest5
    case hy5 => (intro w hSw; (try dsimp only at hSw); go_simp; first | done | with_reducible rfl)
    try simp only [Act.put, List.getElem_toArray, List.getElem_cons_succ, List.getElem_cons_zero, List.setIfInBounds_toArray, List.set_cons_zero, List.set_cons_succ]
    refine wpAnyH_take (i := 10) (v := ?vv6) rfl (by kernel_rfl) (by kernel_rfl) (by kernel_rfl) (fun _ _ _ h => h) (Or.inl ⟨by rfl, ?hy6⟩) (by assumption) ?rest6
    case hy6 => (intro w hSw; (try dsimp only at hSw); go_simp; first | done | with_reducible rfl)
    try simp only [Act.put, List.getElem_toArray, List.getElem_cons_succ, List.getElem_cons_zero, List.setIfInBounds_toArray, List.set_cons_zero, List.set_cons_succ]
    refine wpAnyH_take (i := 11) (v := ?vv7) rfl (by kernel_rfl) (by kernel_rfl) (by kernel_rfl) (fun _ _ _ h => h) (Or.inl ⟨by rfl, ?hy7⟩) (by assumption) ?rest7
    case hy7 => (intro w hSw; (try dsimp only at hSw); go_simp; first | done | with_reducible rfl)
    try simp only [Act.put, List.getElem_toArray, List.getElem_cons_succ, List.getElem_cons_zero, List.setIfInBounds_toArray, List.set_cons_zero, List.set_cons_succ]
    refine wpAnyH_take (i := 12) (v := ?vv8) rfl (by kernel_rfl) (by kernel_rfl) (by kernel_rfl) (fun _ _ _ h => h) (Or.inl ⟨by rfl, ?hy8⟩) (by assumption) ?rest8
    case hy8 => (intro w hSw; (try dsimp only at hSw); go_simp; first | done | with_reducible rfl)
    try simp only [Act.put, List.getElem_toArray, List.getElem_cons_succ, List.getElem_cons_zero, List.setIfInBounds_toArray, List.set_cons_zero, List.set_cons_succ]
    refine wpAnyH_done (by kernel_rfl) ?_ _
    clear hHeld
    have H4 : Hid (PA3 w [.int .i64 n, .int .i64 sz, .string sum, .slice pa pn pc] (.slice ad1 n1 cap1) (.slice adB nB capB) qa qB wQ) := ⟨HQ.out.bx, HQ.out.ia, IB.out.1⟩
    have EB := hid IB.out.2
    clear ZF HF IF PF KF ZQ HQ KQ IB ZC0 H1 cF cF0 cF1 cF2 cF3
    have ZD0 := H4.out.drew.cells
    go_wp2
    refine wp_region_held_drew (S := (fun w' => w'.cell? ⟨w.heap.size, 0, none⟩ = some (.int .i64 n) ∧ w'.cell? ⟨w.heap.size, 1, none⟩ = some (.int .i64 sz) ∧ w'.cell? ⟨w.heap.size, 2, none⟩ = some (.string sum) ∧ w'.cell? ⟨w.heap.size, 3, none⟩ = some (.slice pa pn pc))) (by kernel_rfl) ZD0 (fun hHeld => ?_)
    refine wpAnyH_ready (rs := [0]) (by kernel_rfl) (by simp) ?_
    refine AllReadyH.cons rfl (fun K hK => ?_) AllReadyH.nil
    go_simp
    refine (AW.out _ _ _ _ _ H4.out.drew).mono ?_
    rintro e wA ⟨rfl, ZA, HA, KA⟩
    go_wp2_with fail
    refine hK.out _ _ ZA (fun hHeld => ?_)
    clear hK K
    try simp only [Act.put, List.getElem_toArray, List.getElem_cons_succ, List.getElem_cons_zero, List.setIfInBounds_toArray, List.set_cons_zero, List.set_cons_succ]
    refine wpAnyH_take (i := 1) (v := ?vv9) rfl (by kernel_rfl) (by kernel_rfl) (by kernel_rfl) (fun _ _ _ h => h) (Or.inl ⟨by rfl, ?hy9⟩) (by assumption) ?rest9
    case hy9 => (intro w hSw; (try dsimp only at hSw); go_simp; first | done | with_reducible rfl)
    try simp only [Act.put, List.getElem_toArray, List.getElem_cons_succ, List.getElem_cons_zero, List.setIfInBounds_toArray, List.set_cons_zero, List.set_cons_succ]
    refine wpAnyH_take (i := 2) (v := ?vv10) rfl (by kernel_rfl) (by kernel_rfl) (by kernel_rfl) (fun _ _ _ h => h) (Or.inl ⟨by rfl, ?hy10⟩) (by assumption) ?rest10
    case hy10 => (intro w hSw; (try dsimp only at hSw); go_simp; first | done | with_reducible rfl)
    try simp only [Act.put, List.getElem_toArray, List.getElem_cons_succ, List.getElem_cons_zero, List.setIfInBounds_toArray, List.set_cons_zero, List.set_cons_succ]
    refine wpAnyH_take (i := 4) (v := ?vv11) rfl (by kernel_rfl) (by kernel_rfl) (by kernel_rfl) (fun _ _ _ h => h) (Or.inl ⟨by rfl, ?hy11⟩) (by assumption) ?rest11
    case hy11 => (intro w hSw; (try dsimp only at hSw); go_simp; first | done | with_reducible rfl)
    try simp only [Act.put, List.getElem_toArray, List.getElem_cons_succ, List.getElem_cons_zero, List.setIfInBounds_toArray, List.set_cons_zero, List.set_cons_succ]
    refine wpAnyH_ready (rs := [3, 5]) (by kernel_rfl) (by simp) ?_
    refine AllReadyH.cons rfl (fun K hK => ?_) (AllReadyH.cons rfl (fun K hK => ?_) AllReadyH.nil)
    · go_simp
      refine (CK.out _ _ _ _ _ HA.out).mono ?_
      rintro e wC ⟨rfl, ZC, HC, KC⟩
      go_wp2_with fail
      refine hK.out _ _ ZC (fun hHeld => ?_)
      clear hK K
      try simp only [Act.put, List.getElem_toArray, List.getElem_cons_succ, List.getElem_cons_zero, List.setIfInBounds_toArray, List.set_cons_zero, List.set_cons_succ]
      have IE := hid (ONE.out _ HC.out.bx.b)
      have HE := hid (HC.out.al (.cells #[.int .i64 n, .int .i64 sz, .string sum, .slice pa pn pc] 25))
      refine wpAnyH_ready (rs := [5]) (by kernel_rfl) (by simp) ?_
      refine AllReadyH.cons rfl (fun K hK => ?_) AllReadyH.nil
      go_simp
      refine hK.out _ _ HE.out.cells (fun hHeld => ?_)
      clear hK K
      try simp only [Act.put, List.getElem_toArray, List.getElem_cons_succ, List.getElem_cons_zero, List.setIfInBounds_toArray, List.set_cons_zero, List.set_cons_succ]
      refine wpAnyH_ready (rs := [6]) (by kernel_rfl) (by simp) ?_
      refine AllReadyH.cons rfl (fun K hK => ?_) AllReadyH.nil
      go_simp
      refine (RF1.out _ _ _ _ _ _ HE.out IE.out).mono ?_
      rintro e wG ⟨⟨bG, oG, capG, aG, cpG, rfl, cG, PG⟩, ZG, HG, KG⟩
      go_wp2_with fail
      clear IE HE HC ZC KC
      obtain ⟨cG0, cG1, cG2, cG3⟩ := cG
      have cG := cG0
      refine hK.out _ _ ZG (fun hHeld => ?_)
      clear hK K
      try simp only [Act.put, List.getElem_toArray, List.getElem_cons_succ, List.getElem_cons_zero, List.setIfInBounds_toArray, List.set_cons_zero, List.set_cons_succ]
      refine wpAnyH_take (i := 7) (v := ?vv12) rfl (by kernel_rfl) (by kernel_rfl) (by kernel_rfl) (fun _ _ _ h => h) (Or.inl ⟨by rfl, ?hy12⟩) (by assumption) ?rest12
      case hy12 => (intro w hSw; (try dsimp only at hSw); go_simp; first | done | with_reducible rfl)
      try simp only [Act.put, List.getElem_toArray, List.getElem_cons_succ, List.getElem_cons_zero, List.setIfInBounds_toArray, List.set_cons_zero, List.set_cons_succ]
      refine wpAnyH_ready (rs := [8]) (by kernel_rfl) (by simp) ?_
      refine AllReadyH.cons rfl (fun K hK => ?_) AllReadyH.nil
      go_simp
      refine hK.out _ _ ZG (fun hHeld => ?_)
      clear hK K
      try simp only [Act.put, List.getElem_toArray, List.getElem_cons_succ, List.getElem_cons_zero, List.setIfInBounds_toArray, List.set_cons_zero, List.set_cons_succ]
      refine wpAnyH_ready (rs := [9]) (by kernel_rfl) (by simp) ?_
      refine AllReadyH.cons rfl (fun K hK => ?_) AllReadyH.nil
      go_simp
      refine (RCK.out _ _ _ _ _ _ _ HG.out PG.out).mono ?_
      rintro e wH ⟨rfl, ZH, HH, KH⟩
      go_wp2_with fail
      refine hK.out _ _ ZH (fun hHeld => ?_)
      clear hK K
      try simp only [Act.put, List.getElem_toArray, List.getElem_cons_succ, List.getElem_cons_zero, List.setIfInBounds_toArray, List.set_cons_zero, List.set_cons_succ]
      refine wpAnyH_take (i := 10) (v := ?vv13) rfl (by kernel_rfl) (by kernel_rfl) (by kernel_rfl) (fun _ _ _ h => h) (Or.inl ⟨by rfl, ?hy13⟩) (by assumption) ?rest13
      case hy13 => (intro w hSw; (try dsimp only at hSw); go_simp; first | done | with_reducible rfl)
      try simp only [Act.put, List.getElem_toArray, List.getElem_cons_succ, List.getElem_cons_zero, List.setIfInBounds_toArray, List.set_cons_zero, List.set_cons_succ]
      refine wpAnyH_take (i := 11) (v := ?vv14) rfl (by kernel_rfl) (by kernel_rfl) (by kernel_rfl) (fun _ _ _ h => h) (Or.inl ⟨by rfl, ?hy14⟩) (by assumption) ?rest14
      case hy14 => (intro w hSw; (try dsimp only at hSw); go_simp; first | done | with_reducible rfl)
      try simp only [Act.put, List.getElem_toArray, List.getElem_cons_succ, List.getElem_cons_zero, List.setIfInBounds_toArray, List.set_cons_zero, List.set_cons_succ]
      refine wpAnyH_take (i := 12) (v := ?vv15) rfl (by kernel_rfl) (by kernel_rfl) (by kernel_rfl) (fun _ _ _ h => h) (Or.inl ⟨by rfl, ?hy15⟩) (by assumption) ?rest15
      case hy15 => (intro w hSw; (try dsimp only at hSw); go_simp; first | done | with_reducible rfl)
      try simp only [Act.put, List.getElem_toArray, List.getElem_cons_succ, List.getElem_cons_zero, List.setIfInBounds_toArray, List.set_cons_zero, List.set_cons_succ]
      refine wpAnyH_take (i := 13) (v := ?vv16) rfl (by kernel_rfl) (by kernel_rfl) (by kernel_rfl) (fun _ _ _ h => h) (Or.inl ⟨by rfl, ?hy16⟩) (by assumption) ?rest16
      case hy16 => (intro w hSw; (try dsimp only at hSw); go_simp; first | done | with_reducible rfl)
      try simp only [Act.put, List.getElem_toArray, List.getElem_cons_succ, List.getElem_cons_zero, List.setIfInBounds_toArray, List.set_cons_zero, List.set_cons_succ]
      refine wpAnyH_take (i := 15) (v := ?vv17) rfl (by kernel_rfl) (by kernel_rfl) (by kernel_rfl) (fun _ _ _ h => h) (Or.inl ⟨by rfl, ?hy17⟩) (by assumption) ?rest17
      case hy17 => (intro w hSw; (try dsimp only at hSw); go_simp; first | done | with_reducible rfl)
      try simp only [Act.put, List.getElem_toArray, List.getElem_cons_succ, List.getElem_cons_zero, List.setIfInBounds_toArray, List.set_cons_zero, List.set_cons_succ]
      refine wpAnyH_ready (rs := [14]) (by kernel_rfl) (by simp) ?_
      refine AllReadyH.cons rfl (fun K hK => ?_) AllReadyH.nil
      go_simp
      refine (RFA.out _ _ _ _ _ HH.out EA.out).mono ?_
      rintro e wI ⟨⟨adI, nI, capI, qI, rfl, II⟩, ZI, HI, KI⟩
      go_wp2_with fail
      refine hK.out _ _ ZI (fun hHeld => ?_)
      clear hK K
      try simp only [Act.put, List.getElem_toArray, List.getElem_cons_succ, List.getElem_cons_zero, List.setIfInBounds_toArray, List.set_cons_zero, List.set_cons_succ]
      refine wpAnyH_ready (rs := [16]) (by kernel_rfl) (by simp) ?_
      refine AllReadyH.cons rfl (fun K hK => ?_) AllReadyH.nil
      go_simp
      refine (SMB.out _ _ _ _ _ _ _ HI.out EB.out II.out).mono ?_
      rintro e wJ ⟨rfl, ZJ, HJ, KJ⟩
      go_wp2_with fail
      refine hK.out _ _ ZJ (fun hHeld => ?_)
      clear hK K
      try simp only [Act.put, List.getElem_toArray, List.getElem_cons_succ, List.getElem_cons_zero, List.setIfInBounds_toArray, List.set_cons_zero, List.set_cons_succ]
      refine wpAnyH_take (i := 17) (v := ?vv18) rfl (by kernel_rfl) (by kernel_rfl) (by kernel_rfl) (fun _ _ _ h => h) (Or.inl ⟨by rfl, ?hy18⟩) (by assumption) ?rest18
      case hy18 => (intro w hSw; (try dsimp only at hSw); go_simp; first | done | with_reducible rfl)
      try simp only [Act.put, List.getElem_toArray, List.getElem_cons_succ, List.getElem_cons_zero, List.setIfInBounds_toArray, List.set_cons_zero, List.set_cons_succ]
      refine wpAnyH_take (i := 18) (v := ?vv19) rfl (by kernel_rfl) (by kernel_rfl) (by kernel_rfl) (fun _ _ _ h => h) (Or.inl ⟨by rfl, ?hy19⟩) (by assumption) ?rest19
      case hy19 => (intro w hSw; (try dsimp only at hSw); go_simp; first | done | with_reducible rfl)
      try simp only [Act.put, List.getElem_toArray, List.getElem_cons_succ, List.getElem_cons_zero, List.setIfInBounds_toArray, List.set_cons_zero, List.set_cons_succ]
      refine wpAnyH_take (i := 19) (v := ?vv20) rfl (by kernel_rfl) (by kernel_rfl) (by kernel_rfl) (fun _ _ _ h => h) (Or.inl ⟨by rfl, ?hy20⟩) (by assumption) ?rest20
      case hy20 => (intro w hSw; (try dsimp only at hSw); go_simp; first | done | with_reducible rfl)
      try simp only [Act.put, List.getElem_toArray, List.getElem_cons_succ, List.getElem_cons_zero, List.setIfInBounds_toArray, List.set_cons_zero, List.set_cons_succ]
      refine wpAnyH_take (i := 20) (v := ?vv21) rfl (by kernel_rfl) (by kernel_rfl) (by kernel_rfl) (fun _ _ _ h => h) (Or.inl ⟨by rfl, ?hy21⟩) (by assumption) ?rest21
      case hy21 => (intro w hSw; (try dsimp only at hSw); go_simp; first | done | with_reducible rfl)
      try simp only [Act.put, List.getElem_toArray, List.getElem_cons_succ, List.getElem_cons_zero, List.setIfInBounds_toArray, List.set_cons_zero, List.set_cons_succ]
      refine wpAnyH_take (i := 21) (v := ?vv22) rfl (by kernel_rfl) (by kernel_rfl) (by kernel_rfl) (fun _ _ _ h => h) (Or.inl ⟨by rfl, ?hy22⟩) (by assumption) ?rest22
      case hy22 => (intro w hSw; (try dsimp only at hSw); go_simp; first | done | with_reducible rfl)
      try simp only [Act.put, List.getElem_toArray, List.getElem_cons_succ, List.getElem_cons_zero, List.setIfInBounds_toArray, List.set_cons_zero, List.set_cons_succ]
      refine wpAnyH_take (i := 22) (v := ?vv23) rfl (by kernel_rfl) (by kernel_rfl) (by kernel_rfl) (fun _ _ _ h => h) (Or.inl ⟨by rfl, ?hy23⟩) (by assumption) ?rest23
      case hy23 => (intro w hSw; (try dsimp only at hSw); go_simp; first | done | with_reducible rfl)
      try simp only [Act.put, List.getElem_toArray, List.getElem_cons_succ, List.getElem_cons_zero, List.setIfInBounds_toArray, List.set_cons_zero, List.set_cons_succ]
      refine wpAnyH_take (i := 23) (v := ?vv24) rfl (by kernel_rfl) (by kernel_rfl) (by kernel_rfl) (fun _ _ _ h => h) (Or.inl ⟨by rfl, ?hy24⟩) (by assumption) ?rest24
      case hy24 => (intro w hSw; (try dsimp only at hSw); go_simp; first | done | with_reducible rfl)
      try simp only [Act.put, List.getElem_toArray, List.getElem_cons_succ, List.getElem_cons_zero, List.setIfInBounds_toArray, List.set_cons_zero, List.set_cons_succ]
      refine wpAnyH_take (i := 24) (v := ?vv25) rfl (by kernel_rfl) (by kernel_rfl) (by kernel_rfl) (fun _ _ _ h => h) (Or.inl ⟨by rfl, ?hy25⟩) (by assumption) ?rest25
      case hy25 => (intro w hSw; (try dsimp only at hSw); go_simp; first | done | with_reducible rfl)
      try simp only [Act.put, List.getElem_toArray, List.getElem_cons_succ, List.getElem_cons_zero, List.setIfInBounds_toArray, List.set_cons_zero, List.set_cons_succ]
      refine wpAnyH_take (i := 26) (v := ?vv26) rfl (by kernel_rfl) (by kernel_rfl) (by kernel_rfl) (fun _ _ _ h => h) (Or.inl ⟨by rfl, ?hy26⟩) (by assumption) ?rest26
      case hy26 => (intro w hSw; (try dsimp only at hSw); go_simp; first | done | with_reducible rfl)
      try simp only [Act.put, List.getElem_toArray, List.getElem_cons_succ, List.getElem_cons_zero, List.setIfInBounds_toArray, List.set_cons_zero, List.set_cons_succ]
      refine wpAnyH_ready (rs := [25]) (by kernel_rfl) (by simp) ?_
      refine AllReadyH.cons rfl (fun K hK => ?_) AllReadyH.nil
      go_simp
      refine (IDL.out _ _ _ _ _ HJ.out).mono ?_
      rintro e wK ⟨⟨u1, rfl, S1⟩, ZK, HK, KK⟩
      go_wp2_with fail
      refine hK.out _ _ ZK (fun hHeld => ?_)
      clear hK K
      try simp only [Act.put, List.getElem_toArray, List.getElem_cons_succ, List.getElem_cons_zero, List.setIfInBounds_toArray, List.set_cons_zero, List.set_cons_succ]
      refine wpAnyH_ready (rs := [27]) (by kernel_rfl) (by simp) ?_
      refine AllReadyH.cons rfl (fun K hK => ?_) AllReadyH.nil
      go_simp
      refine (RFL.out _ _ _ _ _ HK.out).mono ?_
      rintro e wL ⟨⟨adL, nL, capL, qL, rfl, IL⟩, ZL, HL, KL⟩
      go_wp2_with fail
      have S2 := hid (STK.out _ _ _ S1.out KL.out)
      refine hK.out _ _ ZL (fun hHeld => ?_)
      clear hK K
      try simp only [Act.put, List.getElem_toArray, List.getElem_cons_succ, List.getElem_cons_zero, List.setIfInBounds_toArray, List.set_cons_zero, List.set_cons_succ]
      refine wpAnyH_ready (rs := [28]) (by kernel_rfl) (by simp) ?_
      refine AllReadyH.cons rfl (fun K hK => ?_) AllReadyH.nil
      go_simp
      refine (RID.out _ _ _ _ _ _ _ HL.out IL.out).mono ?_
      rintro e wM ⟨⟨u2, rfl, S3⟩, ZM, HM, KM⟩
      go_wp2_with fail
      have S4 := hid (STK.out _ _ _ S2.out KM.out)
      refine hK.out _ _ ZM (fun hHeld => ?_)
      clear hK K
      try simp only [Act.put, List.getElem_toArray, List.getElem_cons_succ, List.getElem_cons_zero, List.setIfInBounds_toArray, List.set_cons_zero, List.set_cons_succ]
      refine wpAnyH_ready (rs := [29]) (by kernel_rfl) (by simp) ?_
      refine AllReadyH.cons rfl (fun K hK => ?_) AllReadyH.nil
      go_simp
      refine (SAM.out _ _ _ _ _ _ _ HM.out S4.out S3.out).mono ?_
      rintro e wO ⟨rfl, ZO, HO, KO⟩
      go_wp2_with fail
      refine hK.out _ _ ZO (fun hHeld => ?_)
      clear hK K
      try simp only [Act.put, List.getElem_toArray, List.getElem_cons_succ, List.getElem_cons_zero, List.setIfInBounds_toArray, List.set_cons_zero, List.set_cons_succ]
      refine wpAnyH_take (i := 30) (v := ?vv27) rfl (by kernel_rfl) (by kernel_rfl) (by kernel_rfl) (fun _ _ _ h => h) (Or.inl ⟨by rfl, ?hy27⟩) (by assumption) ?rest27
      case hy27 => (intro w hSw; (try dsimp only at hSw); go_simp; first | done | with_reducible rfl)
      try simp only [Act.put, List.getElem_toArray, List.getElem_cons_succ, List.getElem_cons_zero, List.setIfInBounds_toArray, List.set_cons_zero, List.set_cons_succ]
      refine wpAnyH_take (i := 31) (v := ?vv28) rfl (by kernel_rfl) (by kernel_rfl) (by kernel_rfl) (fun _ _ _ h => h) (Or.inl ⟨by rfl, ?hy28⟩) (by assumption) ?rest28
      case hy28 => (intro w hSw; (try dsimp only at hSw); go_simp; first | done | with_reducible rfl)
      try simp only [Act.put, List.getElem_toArray, List.getElem_cons_succ, List.getElem_cons_zero, List.setIfInBounds_toArray, List.set_cons_zero, List.set_cons_succ]
      refine wpAnyH_done (by kernel_rfl) ?_ _
      clear hHeld
      have BF := hid HO.out.bx.b
      clear ZA HA KA ZG HG PG KG ZH HH KH ZI HI KI II ZJ HJ KJ S1 ZK HK KK IL ZL HL KL S2 S3 ZM HM KM S4 ZO HO KO ZD0 H4 EA EB AW CK RFL RF1 RPT RCK RFA SMB IDL RID SAM ONE STK cG
      go_wp2
      go_ret
      exact ⟨rfl, BF.out⟩
    · have IE := hid (ONE.out _ HA.out.bx.b)
      have HE := hid (HA.out.al (.cells #[.int .i64 n, .int .i64 sz, .string sum, .slice pa pn pc] 25))
      go_simp
      refine hK.out _ _ HE.out.cells (fun hHeld => ?_)
      clear hK K
      try simp only [Act.put, List.getElem_toArray, List.getElem_cons_succ, List.getElem_cons_zero, List.setIfInBounds_toArray, List.set_cons_zero, List.set_cons_succ]
      refine wpAnyH_ready (rs := [3]) (by kernel_rfl) (by simp) ?_
      refine AllReadyH.cons rfl (fun K hK => ?_) AllReadyH.nil
      go_simp
      refine (CK.out _ _ _ _ _ HE.out).mono ?_
      rintro e wC ⟨rfl, ZC, HC, KC⟩
      go_wp2_with fail
      have IE2 := hid (IE.out.next KC.out)
      refine hK.out _ _ ZC (fun hHeld => ?_)
      clear hK K
      try simp only [Act.put, List.getElem_toArray, List.getElem_cons_succ, List.getElem_cons_zero, List.setIfInBounds_toArray, List.set_cons_zero, List.set_cons_succ]
      refine wpAnyH_ready (rs := [6]) (by kernel_rfl) (by simp) ?_
      refine AllReadyH.cons rfl (fun K hK => ?_) AllReadyH.nil
      go_simp
      refine (RF1.out _ _ _ _ _ _ HC.out IE2.out).mono ?_
      rintro e wG ⟨⟨bG, oG, capG, aG, cpG, rfl, cG, PG⟩, ZG, HG, KG⟩
      go_wp2_with fail
      clear IE IE2 HE HC ZC KC
      obtain ⟨cG0, cG1, cG2, cG3⟩ := cG
      have cG := cG0
      refine hK.out _ _ ZG (fun hHeld => ?_)
      clear hK K
      try simp only [Act.put, List.getElem_toArray, List.getElem_cons_succ, List.getElem_cons_zero, List.setIfInBounds_toArray, List.set_cons_zero, List.set_cons_succ]
      refine wpAnyH_take (i := 7) (v := ?vv29) rfl (by kernel_rfl) (by kernel_rfl) (by kernel_rfl) (fun _ _ _ h => h) (Or.inl ⟨by rfl, ?hy29⟩) (by assumption) ?rest29
      case hy29 => (intro w hSw; (try dsimp only at hSw); go_simp; first | done | with_reducible rfl)
      try simp only [Act.put, List.getElem_toArray, List.getElem_cons_succ, List.getElem_cons_zero, List.setIfInBounds_toArray, List.set_cons_zero, List.set_cons_succ]
      refine wpAnyH_ready (rs := [8]) (by kernel_rfl) (by simp) ?_
      refine AllReadyH.cons rfl (fun K hK => ?_) AllReadyH.nil
      go_simp
      refine hK.out _ _ ZG (fun hHeld => ?_)
      clear hK K
      try simp only [Act.put, List.getElem_toArray, List.getElem_cons_succ, List.getElem_cons_zero, List.setIfInBounds_toArray, List.set_cons_zero, List.set_cons_succ]
      refine wpAnyH_ready (rs := [9]) (by kernel_rfl) (by simp) ?_
      refine AllReadyH.cons rfl (fun K hK => ?_) AllReadyH.nil
      go_simp
      refine (RCK.out _ _ _ _ _ _ _ HG.out PG.out).mono ?_
      rintro e wH ⟨rfl, ZH, HH, KH⟩
      go_wp2_with fail
      refine hK.out _ _ ZH (fun hHeld => ?_)
      clear hK K
      try simp only [Act.put, List.getElem_toArray, List.getElem_cons_succ, List.getElem_cons_zero, List.setIfInBounds_toArray, List.set_cons_zero, List.set_cons_succ]
      refine wpAnyH_take (i := 10) (v := ?vv30) rfl (by kernel_rfl) (by kernel_rfl) (by kernel_rfl) (fun _ _ _ h => h) (Or.inl ⟨by rfl, ?hy30⟩) (by assumption) ?rest30
      case hy30 => (intro w hSw; (try dsimp only at hSw); go_simp; first | done | with_reducible rfl)
      try simp only [Act.put, List.getElem_toArray, List.getElem_cons_succ, List.getElem_cons_zero, List.setIfInBounds_toArray, List.set_cons_zero, List.set_cons_succ]
      refine wpAnyH_take (i := 11) (v := ?vv31) rfl (by kernel_rfl) (by kernel_rfl) (by kernel_rfl) (fun _ _ _ h => h) (Or.inl ⟨by rfl, ?hy31⟩) (by assumption) ?rest31
      case hy31 => (intro w hSw; (try dsimp only at hSw); go_simp; first | done | with_reducible rfl)
      try simp only [Act.put, List.getElem_toArray, List.getElem_cons_succ, List.getElem_cons_zero, List.setIfInBounds_toArray, List.set_cons_zero, List.set_cons_succ]
      refine wpAnyH_take (i := 12) (v := ?vv32) rfl (by kernel_rfl) (by kernel_rfl) (by kernel_rfl) (fun _ _ _ h => h) (Or.inl ⟨by rfl, ?hy32⟩) (by assumption) ?rest32
      case hy32 => (intro w hSw; (try dsimp only at hSw); go_simp; first | done | with_reducible rfl)
      try simp only [Act.put, List.getElem_toArray, List.getElem_cons_succ, List.getElem_cons_zero, List.setIfInBounds_toArray, List.set_cons_zero, List.set_cons_succ]
      refine wpAnyH_take (i := 13) (v := ?vv33) rfl (by kernel_rfl) (by kernel_rfl) (by kernel_rfl) (fun _ _ _ h => h) (Or.inl ⟨by rfl, ?hy33⟩) (by assumption) ?rest33
      case hy33 => (intro w hSw; (try dsimp only at hSw); go_simp; first | done | with_reducible rfl)
      try simp only [Act.put, List.getElem_toArray, List.getElem_cons_succ, List.getElem_cons_zero, List.setIfInBounds_toArray, List.set_cons_zero, List.set_cons_succ]
      refine wpAnyH_take (i := 15) (v := ?vv34) rfl (by kernel_rfl) (by kernel_rfl) (by kernel_rfl) (fun _ _ _ h => h) (Or.inl ⟨by rfl, ?hy34⟩) (by assumption) ?rest34
      case hy34 => (intro w hSw; (try dsimp only at hSw); go_simp; first | done | with_reducible rfl)
      try simp only [Act.put, List.getElem_toArray, List.getElem_cons_succ, List.getElem_cons_zero, List.setIfInBounds_toArray, List.set_cons_zero, List.set_cons_succ]
      refine wpAnyH_ready (rs := [14]) (by kernel_rfl) (by simp) ?_
      refine AllReadyH.cons rfl (fun K hK => ?_) AllReadyH.nil
      go_simp
      refine (RFA.out _ _ _ _ _ HH.out EA.out).mono ?_
      rintro e wI ⟨⟨adI, nI, capI, qI, rfl, II⟩, ZI, HI, KI⟩
      go_wp2_with fail
      refine hK.out _ _ ZI (fun hHeld => ?_)
      clear hK K
      try simp only [Act.put, List.getElem_toArray, List.getElem_cons_succ, List.getElem_cons_zero, List.setIfInBounds_toArray, List.set_cons_zero, List.set_cons_succ]
      refine wpAnyH_ready (rs := [16]) (by kernel_rfl) (by simp) ?_
      refine AllReadyH.cons rfl (fun K hK => ?_) AllReadyH.nil
      go_simp
      refine (SMB.out _ _ _ _ _ _ _ HI.out EB.out II.out).mono ?_
      rintro e wJ ⟨rfl, ZJ, HJ, KJ⟩
      go_wp2_with fail
      refine hK.out _ _ ZJ (fun hHeld => ?_)
      clear hK K
      try simp only [Act.put, List.getElem_toArray, List.getElem_cons_succ, List.getElem_cons_zero, List.setIfInBounds_toArray, List.set_cons_zero, List.set_cons_succ]
      refine wpAnyH_take (i := 17) (v := ?vv35) rfl (by kernel_rfl) (by kernel_rfl) (by kernel_rfl) (fun _ _ _ h => h) (Or.inl ⟨by rfl, ?hy35⟩) (by assumption) ?rest35
      case hy35 => (intro w hSw; (try dsimp only at hSw); go_simp; first | done | with_reducible rfl)
      try simp only [Act.put, List.getElem_toArray, List.getElem_cons_succ, List.getElem_cons_zero, List.setIfInBounds_toArray, List.set_cons_zero, List.set_cons_succ]
      refine wpAnyH_take (i := 18) (v := ?vv36) rfl (by kernel_rfl) (by kernel_rfl) (by kernel_rfl) (fun _ _ _ h => h) (Or.inl ⟨by rfl, ?hy36⟩) (by assumption) ?rest36
      case hy36 => (intro w hSw; (try dsimp only at hSw); go_simp; first | done | with_reducible rfl)
      try simp only [Act.put, List.getElem_toArray, List.getElem_cons_succ, List.getElem_cons_zero, List.setIfInBounds_toArray, List.set_cons_zero, List.set_cons_succ]
      refine wpAnyH_take (i := 19) (v := ?vv37) rfl (by kernel_rfl) (by kernel_rfl) (by kernel_rfl) (fun _ _ _ h => h) (Or.inl ⟨by rfl, ?hy37⟩) (by assumption) ?rest37
      case hy37 => (intro w hSw; (try dsimp only at hSw); go_simp; first | done | with_reducible rfl)
      try simp only [Act.put, List.getElem_toArray, List.getElem_cons_succ, List.getElem_cons_zero, List.setIfInBounds_toArray, List.set_cons_zero, List.set_cons_succ]
      refine wpAnyH_take (i := 20) (v := ?vv38) rfl (by kernel_rfl) (by kernel_rfl) (by kernel_rfl) (fun _ _ _ h => h) (Or.inl ⟨by rfl, ?hy38⟩) (by assumption) ?rest38
      case hy38 => (intro w hSw; (try dsimp only at hSw); go_simp; first | done | with_reducible rfl)
      try simp only [Act.put, List.getElem_toArray, List.getElem_cons_succ, List.getElem_cons_zero, List.setIfInBounds_toArray, List.set_cons_zero, List.set_cons_succ]
      refine wpAnyH_take (i := 21) (v := ?vv39) rfl (by kernel_rfl) (by kernel_rfl) (by kernel_rfl) (fun _ _ _ h => h) (Or.inl ⟨by rfl, ?hy39⟩) (by assumption) ?rest39
      case hy39 => (intro w hSw; (try dsimp only at hSw); go_simp; first | done | with_reducible rfl)
      try simp only [Act.put, List.getElem_toArray, List.getElem_cons_succ, List.getElem_cons_zero, List.setIfInBounds_toArray, List.set_cons_zero, List.set_cons_succ]
      refine wpAnyH_take (i := 22) (v := ?vv40) rfl (by kernel_rfl) (by kernel_rfl) (by kernel_rfl) (fun _ _ _ h => h) (Or.inl ⟨by rfl, ?hy40⟩) (by assumption) ?rest40
      case hy40 => (intro w hSw; (try dsimp only at hSw); go_simp; first | done | with_reducible rfl)
      try simp only [Act.put, List.getElem_toArray, List.getElem_cons_succ, List.getElem_cons_zero, List.setIfInBounds_toArray, List.set_cons_zero, List.set_cons_succ]
      refine wpAnyH_take (i := 23) (v := ?vv41) rfl (by kernel_rfl) (by kernel_rfl) (by kernel_rfl) (fun _ _ _ h => h) (Or.inl ⟨by rfl, ?hy41⟩) (by assumption) ?rest41
      case hy41 => (intro w hSw; (try dsimp only at hSw); go_simp; first | done | with_reducible rfl)
      try simp only [Act.put, List.getElem_toArray, List.getElem_cons_succ, List.getElem_cons_zero, List.setIfInBounds_toArray, List.set_cons_zero, List.set_cons_succ]
      refine wpAnyH_take (i := 24) (v := ?vv42) rfl (by kernel_rfl) (by kernel_rfl) (by kernel_rfl) (fun _ _ _ h => h) (Or.inl ⟨by rfl, ?hy42⟩) (by assumption) ?rest42
      case hy42 => (intro w hSw; (try dsimp only at hSw); go_simp; first | done | with_reducible rfl)
      try simp only [Act.put, List.getElem_toArray, List.getElem_cons_succ, List.getElem_cons_zero, List.setIfInBounds_toArray, List.set_cons_zero, List.set_cons_succ]
      refine wpAnyH_take (i := 26) (v := ?vv43) rfl (by kernel_rfl) (by kernel_rfl) (by kernel_rfl) (fun _ _ _ h => h) (Or.inl ⟨by rfl, ?hy43⟩) (by assumption) ?rest43
      case hy43 => (intro w hSw; (try dsimp only at hSw); go_simp; first | done | with_reducible rfl)
      try simp only [Act.put, List.getElem_toArray, List.getElem_cons_succ, List.getElem_cons_zero, List.setIfInBounds_toArray, List.set_cons_zero, List.set_cons_succ]
      refine wpAnyH_ready (rs := [25]) (by kernel_rfl) (by simp) ?_
      refine AllReadyH.cons rfl (fun K hK => ?_) AllReadyH.nil
      go_simp
      refine (IDL.out _ _ _ _ _ HJ.out).mono ?_
      rintro e wK ⟨⟨u1, rfl, S1⟩, ZK, HK, KK⟩
      go_wp2_with fail
      refine hK.out _ _ ZK (fun hHeld => ?_)
      clear hK K
      try simp only [Act.put, List.getElem_toArray, List.getElem_cons_succ, List.getElem_cons_zero, List.setIfInBounds_toArray, List.set_cons_zero, List.set_cons_succ]
      refine wpAnyH_ready (rs := [27]) (by kernel_rfl) (by simp) ?_
      refine AllReadyH.cons rfl (fun K hK => ?_) AllReadyH.nil
      go_simp
      refine (RFL.out _ _ _ _ _ HK.out).mono ?_
      rintro e wL ⟨⟨adL, nL, capL, qL, rfl, IL⟩, ZL, HL, KL⟩
      go_wp2_with fail
      have S2 := hid (STK.out _ _ _ S1.out KL.out)
      refine hK.out _ _ ZL (fun hHeld => ?_)
      clear hK K
      try simp only [Act.put, List.getElem_toArray, List.getElem_cons_succ, List.getElem_cons_zero, List.setIfInBounds_toArray, List.set_cons_zero, List.set_cons_succ]
      refine wpAnyH_ready (rs := [28]) (by kernel_rfl) (by simp) ?_
      refine AllReadyH.cons rfl (fun K hK => ?_) AllReadyH.nil
      go_simp
      refine (RID.out _ _ _ _ _ _ _ HL.out IL.out).mono ?_
      rintro e wM ⟨⟨u2, rfl, S3⟩, ZM, HM, KM⟩
      go_wp2_with fail
      have S4 := hid (STK.out _ _ _ S2.out KM.out)
      refine hK.out _ _ ZM (fun hHeld => ?_)
      clear hK K
      try simp only [Act.put, List.getElem_toArray, List.getElem_cons_succ, List.getElem_cons_zero, List.setIfInBounds_toArray, List.set_cons_zero, List.set_cons_succ]
      refine wpAnyH_ready (rs := [29]) (by kernel_rfl) (by simp) ?_
      refine AllReadyH.cons rfl (fun K hK => ?_) AllReadyH.nil
      go_simp
      refine (SAM.out _ _ _ _ _ _ _ HM.out S4.out S3.out).mono ?_
      rintro e wO ⟨rfl, ZO, HO, KO⟩
      go_wp2_with fail
      refine hK.out _ _ ZO (fun hHeld => ?_)
      clear hK K
      try simp only [Act.put, List.getElem_toArray, List.getElem_cons_succ, List.getElem_cons_zero, List.setIfInBounds_toArray, List.set_cons_zero, List.set_cons_succ]
      refine wpAnyH_take (i := 30) (v := ?vv44) rfl (by kernel_rfl) (by kernel_rfl) (by kernel_rfl) (fun _ _ _ h => h) (Or.inl ⟨by rfl, ?hy44⟩) (by assumption) ?rest44
      case hy44 => (intro w hSw; (try dsimp only at hSw); go_simp; first | done | with_reducible rfl)
      try simp only [Act.put, List.getElem_toArray, List.getElem_cons_succ, List.getElem_cons_zero, List.setIfInBounds_toArray, List.set_cons_zero, List.set_cons_succ]
      refine wpAnyH_take (i := 31) (v := ?vv45) rfl (by kernel_rfl) (by kernel_rfl) (by kernel_rfl) (fun _ _ _ h => h) (Or.inl ⟨by rfl, ?hy45⟩) (by assumption) ?rest45
      case hy45 => (intro w hSw; (try dsimp only at hSw); go_simp; first | done | with_reducible rfl)
      try simp only [Act.put, List.getElem_toArray, List.getElem_cons_succ, List.getElem_cons_zero, List.setIfInBounds_toArray, List.set_cons_zero, List.set_cons_succ]
      refine wpAnyH_done (by kernel_rfl) ?_ _
      clear hHeld
      have BF := hid HO.out.bx.b
      clear ZA HA KA ZG HG PG KG ZH HH KH ZI HI KI II ZJ HJ KJ S1 ZK HK KK IL ZL HL KL S2 S3 ZM HM KM S4 ZO HO KO ZD0 H4 EA EB AW CK RFL RF1 RPT RCK RFA SMB IDL RID SAM ONE STK cG
      go_wp2
      go_ret
      exact ⟨rfl, BF.out⟩
  · have IE := hid ((ONE.out _ H1.out.bx.b).next (Below.refl _ _).drew)
    have HE := hid ((H1.out.al (.cells #[.int .i64 n, .int .i64 sz, .string sum, .slice pa pn pc] 25)).drew)
    go_simp
    refine hK.out _ _ HE.out.cells (fun hHeld => ?_)
    clear hK K
    try simp only [Act.put, List.getElem_toArray, List.getElem_cons_succ, List.getElem_cons_zero, List.setIfInBounds_toArray, List.set_cons_zero, List.set_cons_succ]
    refine wpAnyH_ready (rs := [1]) (by kernel_rfl) (by simp) ?_
    refine AllReadyH.cons rfl (fun K hK => ?_) AllReadyH.nil
    go_simp
    refine (RFL.out _ _ _ _ _ HE.out).mono ?_
    rintro e wB ⟨⟨adX, nX, capX, qX, rfl, IX⟩, ZX, HX, KX⟩
    go_wp2_with fail
    have IE2 := hid (IE.out.next KX.out)
    refine hK.out _ _ ZX (fun hHeld => ?_)
    clear hK K
    try simp only [Act.put, List.getElem_toArray, List.getElem_cons_succ, List.getElem_cons_zero, List.setIfInBounds_toArray, List.set_cons_zero, List.set_cons_succ]
    refine wpAnyH_ready (rs := [4]) (by kernel_rfl) (by simp) ?_
    refine AllReadyH.cons rfl (fun K hK => ?_) AllReadyH.nil
    go_simp
    refine (RF1.out _ _ _ _ _ _ HX.out IE2.out).mono ?_
    rintro e wF ⟨⟨bF, oF, capF, aF, cpF, rfl, cF, PF⟩, ZF, HF, KF⟩
    go_wp2_with fail
    have IF := hid (And.intro (IX.out.1.next KF.out) IX.out.2)
    clear IE IE2 HE HX ZX KX IX
    obtain ⟨cF0, cF1, cF2, cF3⟩ := cF
    have cF := cF0
    refine hK.out _ _ ZF (fun hHeld => ?_)
    clear hK K
    try simp only [Act.put, List.getElem_toArray, List.getElem_cons_succ, List.getElem_cons_zero, List.setIfInBounds_toArray, List.set_cons_zero, List.set_cons_succ]
    refine wpAnyH_take (i := 5) (v := ?vv46) rfl (by kernel_rfl) (by kernel_rfl) (by kernel_rfl) (fun _ _ _ h => h) (Or.inl ⟨by rfl, ?hy46⟩) (by assumption) ?rest46
    case hy46 => (intro w hSw; (try dsimp only at hSw); go_simp; first | done | with_reducible rfl)
    try simp only [Act.put, List.getElem_toArray, List.getElem_cons_succ, List.getElem_cons_zero, List.setIfInBounds_toArray, List.set_cons_zero, List.set_cons_succ]
    refine wpAnyH_ready (rs := [6]) (by kernel_rfl) (by simp) ?_
    refine AllReadyH.cons rfl (fun K hK => ?_) AllReadyH.nil
    go_simp
    refine hK.out _ _ ZF (fun hHeld => ?_)
    clear hK K
    try simp only [Act.put, List.getElem_toArray, List.getElem_cons_succ, List.getElem_cons_zero, List.setIfInBounds_toArray, List.set_cons_zero, List.set_cons_succ]
    refine wpAnyH_ready (rs := [7]) (by kernel_rfl) (by simp) ?_
    refine AllReadyH.cons rfl (fun K hK => ?_) AllReadyH.nil
    go_simp
    refine (RPT.out _ _ _ _ _ _ _ _ _ HF.out IF.out PF.out).mono ?_
    rintro e wQ ⟨⟨adB, nB, capB, qB, rfl, IB⟩, ZQ, HQ, KQ⟩
    go_wp2_with fail
    refine hK.out _ _ ZQ (fun hHeld => ?_)
    clear hK K
    try simp only [Act.put, List.getElem_toArray, List.getElem_cons_succ, List.getElem_cons_zero, List.setIfInBounds_toArray, List.set_cons_zero, List.set_cons_succ]
    refine wpAnyH_take (i := 8) (v := ?vv47) rfl (by kernel_rfl) (by kernel_rfl) (by kernel_rfl) (fun _ _ _ h => h) (Or.inl ⟨by rfl, ?hy47⟩) (by assumption) ?rest47
    case hy47 => (intro w hSw; (try dsimp only at hSw); go_simp; first | done | with_reducible rfl)
    try simp only [Act.put, List.getElem_toArray, List.getElem_cons_succ, List.getElem_cons_zero, List.setIfInBounds_toArray, List.set_cons_zero, List.set_cons_succ]
    refine wpAnyH_take (i := 9) (v := ?vv48) rfl (by kernel_rfl) (by kernel_rfl) (by kernel_rfl) (fun _ _ _ h => h) (Or.inl ⟨by rfl, ?hy48⟩) (by assumption) ?rest48
    case hy48 => (intro w hSw; (try dsimp only at hSw); go_simp; first | done | with_reducible rfl)
    try simp only [Act.put, List.getElem_toArray, List.getElem_cons_succ, List.getElem_cons_zero, List.setIfInBounds_toArray, List.set_cons_zero, List.set_cons_succ]
    refine wpAnyH_take (i := 10) (v := ?vv49) rfl (by kernel_rfl) (by kernel_rfl) (by kernel_rfl) (fun _ _ _ h => h) (Or.inl ⟨by rfl, ?hy49⟩) (by assumption) ?rest49
    case hy49 => (intro w hSw; (try dsimp only at hSw); go_simp; first | done | with_reducible rfl)
    try simp only [Act.put, List.getElem_toArray, List.getElem_cons_succ, List.getElem_cons_zero, List.setIfInBounds_toArray, List.set_cons_zero, List.set_cons_succ]
    refine wpAnyH_take (i := 11) (v := ?vv50) rfl (by kernel_rfl) (by kernel_rfl) (by kernel_rfl) (fun _ _ _ h => h) (Or.inl ⟨by rfl, ?hy50⟩) (by assumption) ?rest50
    case hy50 => (intro w hSw; (try dsimp only at hSw); go_simp; first | done | with_reducible rfl)
    try simp only [Act.put, List.getElem_toArray, List.getElem_cons_succ, List.getElem_cons_zero, List.setIfInBounds_toArray, List.set_cons_zero, List.set_cons_succ]
    refine wpAnyH_take (i := 12) (v := ?vv51) rfl (by kernel_rfl) (by kernel_rfl) (by kernel_rfl) (fun _ _ _ h => h) (Or.inl ⟨by rfl, ?hy51⟩) (by assumption) ?rest51
    case hy51 => (intro w hSw; (try dsimp only at hSw); go_simp; first | done | with_reducible rfl)
    try simp only [Act.put, List.getElem_toArray, List.getElem_cons_succ, List.getElem_cons_zero, List.setIfInBounds_toArray, List.set_cons_zero, List.set_cons_succ]
    refine wpAnyH_done (by kernel_rfl) ?_ _
    clear hHeld
    have H4 : Hid (PA3 w [.int .i64 n, .int .i64 sz, .string sum, .slice pa pn pc] (.slice ad1 n1 cap1) (.slice adB nB capB) qa qB wQ) := ⟨HQ.out.bx, HQ.out.ia, IB.out.1⟩
    have EB := hid IB.out.2
    clear ZF HF IF PF KF ZQ HQ KQ IB ZC0 H1 cF cF0 cF1 cF2 cF3
    have ZD0 := H4.out.drew.cells
    go_wp2
    refine wp_region_held_drew (S := (fun w' => w'.cell? ⟨w.heap.size, 0, none⟩ = some (.int .i64 n) ∧ w'.cell? ⟨w.heap.size, 1, none⟩ = some (.int .i64 sz) ∧ w'.cell? ⟨w.heap.size, 2, none⟩ = some (.string sum) ∧ w'.cell? ⟨w.heap.size, 3, none⟩ = some (.slice pa pn pc))) (by kernel_rfl) ZD0 (fun hHeld => ?_)
    refine wpAnyH_ready (rs := [0]) (by kernel_rfl) (by simp) ?_
    refine AllReadyH.cons rfl (fun K hK => ?_) AllReadyH.nil
    go_simp
    refine (AW.out _ _ _ _ _ H4.out.drew).mono ?_
    rintro e wA ⟨rfl, ZA, HA, KA⟩
    go_wp2_with fail
    refine hK.out _ _ ZA (fun hHeld => ?_)
    clear hK K
    try simp only [Act.put, List.getElem_toArray, List.getElem_cons_succ, List.getElem_cons_zero, List.setIfInBounds_toArray, List.set_cons_zero, List.set_cons_succ]
    refine wpAnyH_take (i := 1) (v := ?vv52) rfl (by kernel_rfl) (by kernel_rfl) (by kernel_rfl) (fun _ _ _ h => h) (Or.inl ⟨by rfl, ?hy52⟩) (by assumption) ?rest52
    case hy52 => (intro w hSw; (try dsimp only at hSw); go_simp; first | done | with_reducible rfl)
    try simp only [Act.put, List.getElem_toArray, List.getElem_cons_succ, List.getElem_cons_zero, List.setIfInBounds_toArray, List.set_cons_zero, List.set_cons_succ]
    refine wpAnyH_take (i := 2) (v := ?vv53) rfl (by kernel_rfl) (by kernel_rfl) (by kernel_rfl) (fun _ _ _ h => h) (Or.inl ⟨by rfl, ?hy53⟩) (by assumption) ?rest53
    case hy53 => (intro w hSw; (try dsimp only at hSw); go_simp; first | done | with_reducible rfl)
    try simp only [Act.put, List.getElem_toArray, List.getElem_cons_succ, List.getElem_cons_zero, List.setIfInBounds_toArray, List.set_cons_zero, List.set_cons_succ]
    refine wpAnyH_take (i := 4) (v := ?vv54) rfl (by kernel_rfl) (by kernel_rfl) (by kernel_rfl) (fun _ _ _ h => h) (Or.inl ⟨by rfl, ?hy54⟩) (by assumption) ?rest54
    case hy54 => (intro w hSw; (try dsimp only at hSw); go_simp; first | done | with_reducible rfl)
    try simp only [Act.put, List.getElem_toArray, List.getElem_cons_succ, List.getElem_cons_zero, List.setIfInBounds_toArray, List.set_cons_zero, List.set_cons_succ]
    refine wpAnyH_ready (rs := [3, 5]) (by kernel_rfl) (by simp) ?_
    refine AllReadyH.cons rfl (fun K hK => ?_) (AllReadyH.cons rfl (fun K hK => ?_) AllReadyH.nil)
    · go_simp
      refine (CK.out _ _ _ _ _ HA.out).mono ?_
      rintro e wC ⟨rfl, ZC, HC, KC⟩
      go_wp2_with fail
      refine hK.out _ _ ZC (fun hHeld => ?_)
      clear hK K
      try simp only [Act.put, List.getElem_toArray, List.getElem_cons_succ, List.getElem_cons_zero, List.setIfInBounds_toArray, List.set_cons_zero, List.set_cons_succ]
      have IE := hid (ONE.out _ HC.out.bx.b)
      have HE := hid (HC.out.al (.cells #[.int .i64 n, .int .i64 sz, .string sum, .slice pa pn pc] 25))
      refine wpAnyH_ready (rs := [5]) (by kernel_rfl) (by simp) ?_
      refine AllReadyH.cons rfl (fun K hK => ?_) AllReadyH.nil
      go_simp
      refine hK.out _ _ HE.out.cells (fun hHeld => ?_)
      clear hK K
      try simp only [Act.put, List.getElem_toArray, List.getElem_cons_succ, List.getElem_cons_zero, List.setIfInBounds_toArray, List.set_cons_zero, List.set_cons_succ]
      refine wpAnyH_ready (rs := [6]) (by kernel_rfl) (by simp) ?_
      refine AllReadyH.cons rfl (fun K hK => ?_) AllReadyH.nil
      go_simp
      refine (RF1.out _ _ _ _ _ _ HE.out IE.out).mono ?_
      rintro e wG ⟨⟨bG, oG, capG, aG, cpG, rfl, cG, PG⟩, ZG, HG, KG⟩
      go_wp2_with fail
      clear IE HE HC ZC KC
      obtain ⟨cG0, cG1, cG2, cG3⟩ := cG
      have cG := cG0
      refine hK.out _ _ ZG (fun hHeld => ?_)
      clear hK K
      try simp only [Act.put, List.getElem_toArray, List.getElem_cons_succ, List.getElem_cons_zero, List.setIfInBounds_toArray, List.set_cons_zero, List.set_cons_succ]
      refine wpAnyH_take (i := 7) (v := ?vv55) rfl (by kernel_rfl) (by kernel_rfl) (by kernel_rfl) (fun _ _ _ h => h) (Or.inl ⟨by rfl, ?hy55⟩) (by assumption) ?rest55
      case hy55 => (intro w hSw; (try dsimp only at hSw); go_simp; first | done | with_reducible rfl)
      try simp only [Act.put, List.getElem_toArray, List.getElem_cons_succ, List.getElem_cons_zero, List.setIfInBounds_toArray, List.set_cons_zero, List.set_cons_succ]
      refine wpAnyH_ready (rs := [8]) (by kernel_rfl) (by simp) ?_
      refine AllReadyH.cons rfl (fun K hK => ?_) AllReadyH.nil
      go_simp
      refine hK.out _ _ ZG (fun hHeld => ?_)
      clear hK K
      try simp only [Act.put, List.getElem_toArray, List.getElem_cons_succ, List.getElem_cons_zero, List.setIfInBounds_toArray, List.set_cons_zero, List.set_cons_succ]
      refine wpAnyH_ready (rs := [9]) (by kernel_rfl) (by simp) ?_
      refine AllReadyH.cons rfl (fun K hK => ?_) AllReadyH.nil
      go_simp
      refine (RCK.out _ _ _ _ _ _ _ HG.out PG.out).mono ?_
      rintro e wH ⟨rfl, ZH, HH, KH⟩
      go_wp2_with fail
      refine hK.out _ _ ZH (fun hHeld => ?_)
      clear hK K
      try simp only [Act.put, List.getElem_toArray, List.getElem_cons_succ, List.getElem_cons_zero, List.setIfInBounds_toArray, List.set_cons_zero, List.set_cons_succ]
      refine wpAnyH_take (i := 10) (v := ?vv56) rfl (by kernel_rfl) (by kernel_rfl) (by kernel_rfl) (fun _ _ _ h => h) (Or.inl ⟨by rfl, ?hy56⟩) (by assumption) ?rest56
      case hy56 => (intro w hSw; (try dsimp only at hSw); go_simp; first | done | with_reducible rfl)
      try simp only [Act.put, List.getElem_toArray, List.getElem_cons_succ, List.getElem_cons_zero, List.setIfInBounds_toArray, List.set_cons_zero, List.set_cons_succ]
      refine wpAnyH_take (i := 11) (v := ?vv57) rfl (by kernel_rfl) (by kernel_rfl) (by kernel_rfl) (fun _ _ _ h => h) (Or.inl ⟨by rfl, ?hy57⟩) (by assumption) ?rest57
      case hy57 => (intro w hSw; (try dsimp only at hSw); go_simp; first | done | with_reducible rfl)
      try simp only [Act.put, List.getElem_toArray, List.getElem_cons_succ, List.getElem_cons_zero, List.setIfInBounds_toArray, List.set_cons_zero, List.set_cons_succ]
      refine wpAnyH_take (i := 12) (v := ?vv58) rfl (by kernel_rfl) (by kernel_rfl) (by kernel_rfl) (fun _ _ _ h => h) (Or.inl ⟨by rfl, ?hy58⟩) (by assumption) ?rest58
      case hy58 => (intro w hSw; (try dsimp only at hSw); go_simp; first | done | with_reducible rfl)
      try simp only [Act.put, List.getElem_toArray, List.getElem_cons_succ, List.getElem_cons_zero, List.setIfInBounds_toArray, List.set_cons_zero, List.set_cons_succ]
      refine wpAnyH_take (i := 13) (v := ?vv59) rfl (by kernel_rfl) (by kernel_rfl) (by kernel_rfl) (fun _ _ _ h => h) (Or.inl ⟨by rfl, ?hy59⟩) (by assumption) ?rest59
      case hy59 => (intro w hSw; (try dsimp only at hSw); go_simp; first | done | with_reducible rfl)
      try simp only [Act.put, List.getElem_toArray, List.getElem_cons_succ, List.getElem_cons_zero, List.setIfInBounds_toArray, List.set_cons_zero, List.set_cons_succ]
      refine wpAnyH_take (i := 15) (v := ?vv60) rfl (by kernel_rfl) (by kernel_rfl) (by kernel_rfl) (fun _ _ _ h => h) (Or.inl ⟨by rfl, ?hy60⟩) (by assumption) ?rest60
      case hy60 => (intro w hSw; (try dsimp only at hSw); go_simp; first | done | with_reducible rfl)
      try simp only [Act.put, List.getElem_toArray, List.getElem_cons_succ, List.getElem_cons_zero, List.setIfInBounds_toArray, List.set_cons_zero, List.set_cons_succ]
      refine wpAnyH_ready (rs := [14]) (by kernel_rfl) (by simp) ?_
      refine AllReadyH.cons rfl (fun K hK => ?_) AllReadyH.nil
      go_simp
      refine (RFA.out _ _ _ _ _ HH.out EA.out).mono ?_
      rintro e wI ⟨⟨adI, nI, capI, qI, rfl, II⟩, ZI, HI, KI⟩
      go_wp2_with fail
      refine hK.out _ _ ZI (fun hHeld => ?_)
      clear hK K
      try simp only [Act.put, List.getElem_toArray, List.getElem_cons_succ, List.getElem_cons_zero, List.setIfInBounds_toArray, List.set_cons_zero, List.set_cons_succ]
      refine wpAnyH_ready (rs := [16]) (by kernel_rfl) (by simp) ?_
      refine AllReadyH.cons rfl (fun K hK => ?_) AllReadyH.nil
      go_simp
      refine (SMB.out _ _ _ _ _ _ _ HI.out EB.out II.out).mono ?_
      rintro e wJ ⟨rfl, ZJ, HJ, KJ⟩
      go_wp2_with fail
      refine hK.out _ _ ZJ (fun hHeld => ?_)
      clear hK K
      try simp only [Act.put, List.getElem_toArray, List.getElem_cons_succ, List.getElem_cons_zero, List.setIfInBounds_toArray, List.set_cons_zero, List.set_cons_succ]
      refine wpAnyH_take (i := 17) (v := ?vv61) rfl (by kernel_rfl) (by kernel_rfl) (by kernel_rfl) (fun _ _ _ h => h) (Or.inl ⟨by rfl, ?hy61⟩) (by assumption) ?rest61
      case hy61 => (intro w hSw; (try dsimp only at hSw); go_simp; first | done | with_reducible rfl)
      try simp only [Act.put, List.getElem_toArray, List.getElem_cons_succ, List.getElem_cons_zero, List.setIfInBounds_toArray, List.set_cons_zero, List.set_cons_succ]
      refine wpAnyH_take (i := 18) (v := ?vv62) rfl (by kernel_rfl) (by kernel_rfl) (by kernel_rfl) (fun _ _ _ h => h) (Or.inl ⟨by rfl, ?hy62⟩) (by assumption) ?rest62
      case hy62 => (intro w hSw; (try dsimp only at hSw); go_simp; first | done | with_reducible rfl)
      try simp only [Act.put, List.getElem_toArray, List.getElem_cons_succ, List.getElem_cons_zero, List.setIfInBounds_toArray, List.set_cons_zero, List.set_cons_succ]
      refine wpAnyH_take (i := 19) (v := ?vv63) rfl (by kernel_rfl) (by kernel_rfl) (by kernel_rfl) (fun _ _ _ h => h) (Or.inl ⟨by rfl, ?hy63⟩) (by assumption) ?rest63
      case hy63 => (intro w hSw; (try dsimp only at hSw); go_simp; first | done | with_reducible rfl)
      try simp only [Act.put, List.getElem_toArray, List.getElem_cons_succ, List.getElem_cons_zero, List.setIfInBounds_toArray, List.set_cons_zero, List.set_cons_succ]
      refine wpAnyH_take (i := 20) (v := ?vv64) rfl (by kernel_rfl) (by kernel_rfl) (by kernel_rfl) (fun _ _ _ h => h) (Or.inl ⟨by rfl, ?hy64⟩) (by assumption) ?rest64
      case hy64 => (intro w hSw; (try dsimp only at hSw); go_simp; first | done | with_reducible rfl)
      try simp only [Act.put, List.getElem_toArray, List.getElem_cons_succ, List.getElem_cons_zero, List.setIfInBounds_toArray, List.set_cons_zero, List.set_cons_succ]
      refine wpAnyH_take (i := 21) (v := ?vv65) rfl (by kernel_rfl) (by kernel_rfl) (by kernel_rfl) (fun _ _ _ h => h) (Or.inl ⟨by rfl, ?hy65⟩) (by assumption) ?rest65
      case hy65 => (intro w hSw; (try dsimp only at hSw); go_simp; first | done | with_reducible rfl)
      try simp only [Act.put, List.getElem_toArray, List.getElem_cons_succ, List.getElem_cons_zero, List.setIfInBounds_toArray, List.set_cons_zero, List.set_cons_succ]
      refine wpAnyH_take (i := 22) (v := ?vv66) rfl (by kernel_rfl) (by kernel_rfl) (by kernel_rfl) (fun _ _ _ h => h) (Or.inl ⟨by rfl, ?hy66⟩) (by assumption) ?rest66
      case hy66 => (intro w hSw; (try dsimp only at hSw); go_simp; first | done | with_reducible rfl)
      try simp only [Act.put, List.getElem_toArray, List.getElem_cons_succ, List.getElem_cons_zero, List.setIfInBounds_toArray, List.set_cons_zero, List.set_cons_succ]
      refine wpAnyH_take (i := 23) (v := ?vv67) rfl (by kernel_rfl) (by kernel_rfl) (by kernel_rfl) (fun _ _ _ h => h) (Or.inl ⟨by rfl, ?hy67⟩) (by assumption) ?rest67
      case hy67 => (intro w hSw; (try dsimp only at hSw); go_simp; first | done | with_reducible rfl)
      try simp only [Act.put, List.getElem_toArray, List.getElem_cons_succ, List.getElem_cons_zero, List.setIfInBounds_toArray, List.set_cons_zero, List.set_cons_succ]
      refine wpAnyH_take (i := 24) (v := ?vv68) rfl (by kernel_rfl) (by kernel_rfl) (by kernel_rfl) (fun _ _ _ h => h) (Or.inl ⟨by rfl, ?hy68⟩) (by assumption) ?rest68
      case hy68 => (intro w hSw; (try dsimp only at hSw); go_simp; first | done | with_reducible rfl)
      try simp only [Act.put, List.getElem_toArray, List.getElem_cons_succ, List.getElem_cons_zero, List.setIfInBounds_toArray, List.set_cons_zero, List.set_cons_succ]
      refine wpAnyH_take (i := 26) (v := ?vv69) rfl (by kernel_rfl) (by kernel_rfl) (by kernel_rfl) (fun _ _ _ h => h) (Or.inl ⟨by rfl, ?hy69⟩) (by assumption) ?rest69
      case hy69 => (intro w hSw; (try dsimp only at hSw); go_simp; first | done | with_reducible rfl)
      try simp only [Act.put, List.getElem_toArray, List.getElem_cons_succ, List.getElem_cons_zero, List.setIfInBounds_toArray, List.set_cons_zero, List.set_cons_succ]
      refine wpAnyH_ready (rs := [25]) (by kernel_rfl) (by simp) ?_
      refine AllReadyH.cons rfl (fun K hK => ?_) AllReadyH.nil
      go_simp
      refine (IDL.out _ _ _ _ _ HJ.out).mono ?_
      rintro e wK ⟨⟨u1, rfl, S1⟩, ZK, HK, KK⟩
      go_wp2_with fail
      refine hK.out _ _ ZK (fun hHeld => ?_)
      clear hK K
      try simp only [Act.put, List.getElem_toArray, List.getElem_cons_succ, List.getElem_cons_zero, List.setIfInBounds_toArray, List.set_cons_zero, List.set_cons_succ]
      refine wpAnyH_ready (rs := [27]) (by kernel_rfl) (by simp) ?_
      refine AllReadyH.cons rfl (fun K hK => ?_) AllReadyH.nil
      go_simp
      refine (RFL.out _ _ _ _ _ HK.out).mono ?_
      rintro e wL ⟨⟨adL, nL, capL, qL, rfl, IL⟩, ZL, HL, KL⟩
      go_wp2_with fail
      have S2 := hid (STK.out _ _ _ S1.out KL.out)
      refine hK.out _ _ ZL (fun hHeld => ?_)
      clear hK K
      try simp only [Act.put, List.getElem_toArray, List.getElem_cons_succ, List.getElem_cons_zero, List.setIfInBounds_toArray, List.set_cons_zero, List.set_cons_succ]
      refine wpAnyH_ready (rs := [28]) (by kernel_rfl) (by simp) ?_
      refine AllReadyH.cons rfl (fun K hK => ?_) AllReadyH.nil
      go_simp
      refine (RID.out _ _ _ _ _ _ _ HL.out IL.out).mono ?_
      rintro e wM ⟨⟨u2, rfl, S3⟩, ZM, HM, KM⟩
      go_wp2_with fail
      have S4 := hid (STK.out _ _ _ S2.out KM.out)
      refine hK.out _ _ ZM (fun hHeld => ?_)
      clear hK K
      try simp only [Act.put, List.getElem_toArray, List.getElem_cons_succ, List.getElem_cons_zero, List.setIfInBounds_toArray, List.set_cons_zero, List.set_cons_succ]
      refine wpAnyH_ready (rs := [29]) (by kernel_rfl) (by simp) ?_
      refine AllReadyH.cons rfl (fun K hK => ?_) AllReadyH.nil
      go_simp
      refine (SAM.out _ _ _ _ _ _ _ HM.out S4.out S3.out).mono ?_
      rintro e wO ⟨rfl, ZO, HO, KO⟩
      go_wp2_with fail
      refine hK.out _ _ ZO (fun hHeld => ?_)
      clear hK K
      try simp only [Act.put, List.getElem_toArray, List.getElem_cons_succ, List.getElem_cons_zero, List.setIfInBounds_toArray, List.set_cons_zero, List.set_cons_succ]
      refine wpAnyH_take (i := 30) (v := ?vv70) rfl (by kernel_rfl) (by kernel_rfl) (by kernel_rfl) (fun _ _ _ h => h) (Or.inl ⟨by rfl, ?hy70⟩) (by assumption) ?rest70
      case hy70 => (intro w hSw; (try dsimp only at hSw); go_simp; first | done | with_reducible rfl)
      try simp only [Act.put, List.getElem_toArray, List.getElem_cons_succ, List.getElem_cons_zero, List.setIfInBounds_toArray, List.set_cons_zero, List.set_cons_succ]
      refine wpAnyH_take (i := 31) (v := ?vv71) rfl (by kernel_rfl) (by kernel_rfl) (by kernel_rfl) (fun _ _ _ h => h) (Or.inl ⟨by rfl, ?hy71⟩) (by assumption) ?rest71
      case hy71 => (intro w hSw; (try dsimp only at hSw); go_simp; first | done | with_reducible rfl)
      try simp only [Act.put, List.getElem_toArray, List.getElem_cons_succ, List.getElem_cons_zero, List.setIfInBounds_toArray, List.set_cons_zero, List.set_cons_succ]
      refine wpAnyH_done (by kernel_rfl) ?_ _
      clear hHeld
      have BF := hid HO.out.bx.b
      clear ZA HA KA ZG HG PG KG ZH HH KH ZI HI KI II ZJ HJ KJ S1 ZK HK KK IL ZL HL KL S2 S3 ZM HM KM S4 ZO HO KO ZD0 H4 EA EB AW CK RFL RF1 RPT RCK RFA SMB IDL RID SAM ONE STK cG
      go_wp2
      go_ret
      exact ⟨rfl, BF.out⟩
    · have IE := hid (ONE.out _ HA.out.bx.b)
      have HE := hid (HA.out.al (.cells #[.int .i64 n, .int .i64 sz, .string sum, .slice pa pn pc] 25))
      go_simp
      refine hK.out _ _ HE.out.cells (fun hHeld => ?_)
      clear hK K
      try simp only [Act.put, List.getElem_toArray, List.getElem_cons_succ, List.getElem_cons_zero, List.setIfInBounds_toArray, List.set_cons_zero, List.set_cons_succ]
      refine wpAnyH_ready (rs := [3]) (by kernel_rfl) (by simp) ?_
      refine AllReadyH.cons rfl (fun K hK => ?_) AllReadyH.nil
      go_simp
      refine (CK.out _ _ _ _ _ HE.out).mono ?_
      rintro e wC ⟨rfl, ZC, HC, KC⟩
      go_wp2_with fail
      have IE2 := hid (IE.out.next KC.out)
      refine hK.out _ _ ZC (fun hHeld => ?_)
      clear hK K
      try simp only [Act.put, List.getElem_toArray, List.getElem_cons_succ, List.getElem_cons_zero, List.setIfInBounds_toArray, List.set_cons_zero, List.set_cons_succ]
      refine wpAnyH_ready (rs := [6]) (by kernel_rfl) (by simp) ?_
      refine AllReadyH.cons rfl (fun K hK => ?_) AllReadyH.nil
      go_simp
      refine (RF1.out _ _ _ _ _ _ HC.out IE2.out).mono ?_
      rintro e wG ⟨⟨bG, oG, capG, aG, cpG, rfl, cG, PG⟩, ZG, HG, KG⟩
      go_wp2_with fail
      clear IE IE2 HE HC ZC KC
      obtain ⟨cG0, cG1, cG2, cG3⟩ := cG
      have cG := cG0
      refine hK.out _ _ ZG (fun hHeld => ?_)
      clear hK K
      try simp only [Act.put, List.getElem_toArray, List.getElem_cons_succ, List.getElem_cons_zero, List.setIfInBounds_toArray, List.set_cons_zero, List.set_cons_succ]
      refine wpAnyH_take (i := 7) (v := ?vv72) rfl (by kernel_rfl) (by kernel_rfl) (by kernel_rfl) (fun _ _ _ h => h) (Or.inl ⟨by rfl, ?hy72⟩) (by assumption) ?rest72
      case hy72 => (intro w hSw; (try dsimp only at hSw); go_simp; first | done | with_reducible rfl)
      try simp only [Act.put, List.getElem_toArray, List.getElem_cons_succ, List.getElem_cons_zero, List.setIfInBounds_toArray, List.set_cons_zero, List.set_cons_succ]
      refine wpAnyH_ready (rs := [8]) (by kernel_rfl) (by simp) ?_
      refine AllReadyH.cons rfl (fun K hK => ?_) AllReadyH.nil
      go_simp
      refine hK.out _ _ ZG (fun hHeld => ?_)
      clear hK K
      try simp only [Act.put, List.getElem_toArray, List.getElem_cons_succ, List.getElem_cons_zero, List.setIfInBounds_toArray, List.set_cons_zero, List.set_cons_succ]
      refine wpAnyH_ready (rs := [9]) (by kernel_rfl) (by simp) ?_
      refine AllReadyH.cons rfl (fun K hK => ?_) AllReadyH.nil
      go_simp
      refine (RCK.out _ _ _ _ _ _ _ HG.out PG.out).mono ?_
      rintro e wH ⟨rfl, ZH, HH, KH⟩
      go_wp2_with fail
      refine hK.out _ _ ZH (fun hHeld => ?_)
      clear hK K
      try simp only [Act.put, List.getElem_toArray, List.getElem_cons_succ, List.getElem_cons_zero, List.setIfInBounds_toArray, List.set_cons_zero, List.set_cons_succ]
      refine wpAnyH_take (i := 10) (v := ?vv73) rfl (by kernel_rfl) (by kernel_rfl) (by kernel_rfl) (fun _ _ _ h => h) (Or.inl ⟨by rfl, ?hy73⟩) (by assumption) ?rest73
      case hy73 => (intro w hSw; (try dsimp only at hSw); go_simp; first | done | with_reducible rfl)
      try simp only [Act.put, List.getElem_toArray, List.getElem_cons_succ, List.getElem_cons_zero, List.setIfInBounds_toArray, List.set_cons_zero, List.set_cons_succ]
      refine wpAnyH_take (i := 11) (v := ?vv74) rfl (by kernel_rfl) (by kernel_rfl) (by kernel_rfl) (fun _ _ _ h => h) (Or.inl ⟨by rfl, ?hy74⟩) (by assumption) ?rest74
      case hy74 => (intro w hSw; (try dsimp only at hSw); go_simp; first | done | with_reducible rfl)
      try simp only [Act.put, List.getElem_toArray, List.getElem_cons_succ, List.getElem_cons_zero, List.setIfInBounds_toArray, List.set_cons_zero, List.set_cons_succ]
      refine wpAnyH_take (i := 12) (v := ?vv75) rfl (by kernel_rfl) (by kernel_rfl) (by kernel_rfl) (fun _ _ _ h => h) (Or.inl ⟨by rfl, ?hy75⟩) (by assumption) ?rest75
      case hy75 => (intro w hSw; (try dsimp only at hSw); go_simp; first | done | with_reducible rfl)
      try simp only [Act.put, List.getElem_toArray, List.getElem_cons_succ, List.getElem_cons_zero, List.setIfInBounds_toArray, List.set_cons_zero, List.set_cons_succ]
      refine wpAnyH_take (i := 13) (v := ?vv76) rfl (by kernel_rfl) (by kernel_rfl) (by kernel_rfl) (fun _ _ _ h => h) (Or.inl ⟨by rfl, ?hy76⟩) (by assumption) ?rest76
      case hy76 => (intro w hSw; (try dsimp only at hSw); go_simp; first | done | with_reducible rfl)
      try simp only [Act.put, List.getElem_toArray, List.getElem_cons_succ, List.getElem_cons_zero, List.setIfInBounds_toArray, List.set_cons_zero, List.set_cons_succ]
      refine wpAnyH_take (i := 15) (v := ?vv77) rfl (by kernel_rfl) (by kernel_rfl) (by kernel_rfl) (fun _ _ _ h => h) (Or.inl ⟨by rfl, ?hy77⟩) (by assumption) ?rest77
      case hy77 => (intro w hSw; (try dsimp only at hSw); go_simp; first | done | with_reducible rfl)
      try simp only [Act.put, List.getElem_toArray, List.getElem_cons_succ, List.getElem_cons_zero, List.setIfInBounds_toArray, List.set_cons_zero, List.set_cons_succ]
      refine wpAnyH_ready (rs := [14]) (by kernel_rfl) (by simp) ?_
      refine AllReadyH.cons rfl (fun K hK => ?_) AllReadyH.nil
      go_simp
      refine (RFA.out _ _ _ _ _ HH.out EA.out).mono ?_
      rintro e wI ⟨⟨adI, nI, capI, qI, rfl, II⟩, ZI, HI, KI⟩
      go_wp2_with fail
      refine hK.out _ _ ZI (fun hHeld => ?_)
      clear hK K
      try simp only [Act.put, List.getElem_toArray, List.getElem_cons_succ, List.getElem_cons_zero, List.setIfInBounds_toArray, List.set_cons_zero, List.set_cons_succ]
      refine wpAnyH_ready (rs := [16]) (by kernel_rfl) (by simp) ?_
      refine AllReadyH.cons rfl (fun K hK => ?_) AllReadyH.nil
      go_simp
      refine (SMB.out _ _ _ _ _ _ _ HI.out EB.out II.out).mono ?_
      rintro e wJ ⟨rfl, ZJ, HJ, KJ⟩
      go_wp2_with fail
      refine hK.out _ _ ZJ (fun hHeld => ?_)
      clear hK K
      try simp only [Act.put, List.getElem_toArray, List.getElem_cons_succ, List.getElem_cons_zero, List.setIfInBounds_toArray, List.set_cons_zero, List.set_cons_succ]
      refine wpAnyH_take (i := 17) (v := ?vv78) rfl (by kernel_rfl) (by kernel_rfl) (by kernel_rfl) (fun _ _ _ h => h) (Or.inl ⟨by rfl, ?hy78⟩) (by assumption) ?rest78
      case hy78 => (intro w hSw; (try dsimp only at hSw); go_simp; first | done | with_reducible rfl)
      try simp only [Act.put, List.getElem_toArray, List.getElem_cons_succ, List.getElem_cons_zero, List.setIfInBounds_toArray, List.set_cons_zero, List.set_cons_succ]
      refine wpAnyH_take (i := 18) (v := ?vv79) rfl (by kernel_rfl) (by kernel_rfl) (by kernel_rfl) (fun _ _ _ h => h) (Or.inl ⟨by rfl, ?hy79⟩) (by assumption) ?rest79
      case hy79 => (intro w hSw; (try dsimp only at hSw); go_simp; first | done | with_reducible rfl)
      try simp only [Act.put, List.getElem_toArray, List.getElem_cons_succ, List.getElem_cons_zero, List.setIfInBounds_toArray, List.set_cons_zero, List.set_cons_succ]
      refine wpAnyH_take (i := 19) (v := ?vv80) rfl (by kernel_rfl) (by kernel_rfl) (by kernel_rfl) (fun _ _ _ h => h) (Or.inl ⟨by rfl, ?hy80⟩) (by assumption) ?rest80
      case hy80 => (intro w hSw; (try dsimp only at hSw); go_simp; first | done | with_reducible rfl)
      try simp only [Act.put, List.getElem_toArray, List.getElem_cons_succ, List.getElem_cons_zero, List.setIfInBounds_toArray, List.set_cons_zero, List.set_cons_succ]
      refine wpAnyH_take (i := 20) (v := ?vv81) rfl (by kernel_rfl) (by kernel_rfl) (by kernel_rfl) (fun _ _ _ h => h) (Or.inl ⟨by rfl, ?hy81⟩) (by assumption) ?rest81
      case hy81 => (intro w hSw; (try dsimp only at hSw); go_simp; first | done | with_reducible rfl)
      try simp only [Act.put, List.getElem_toArray, List.getElem_cons_succ, List.getElem_cons_zero, List.setIfInBounds_toArray, List.set_cons_zero, List.set_cons_succ]
      refine wpAnyH_take (i := 21) (v := ?vv82) rfl (by kernel_rfl) (by kernel_rfl) (by kernel_rfl) (fun _ _ _ h => h) (Or.inl ⟨by rfl, ?hy82⟩) (by assumption) ?rest82
      case hy82 => (intro w hSw; (try dsimp only at hSw); go_simp; first | done | with_reducible rfl)
      try simp only [Act.put, List.getElem_toArray, List.getElem_cons_succ, List.getElem_cons_zero, List.setIfInBounds_toArray, List.set_cons_zero, List.set_cons_succ]
      refine wpAnyH_take (i := 22) (v := ?vv83) rfl (by kernel_rfl) (by kernel_rfl) (by kernel_rfl) (fun _ _ _ h => h) (Or.inl ⟨by rfl, ?hy83⟩) (by assumption) ?rest83
      case hy83 => (intro w hSw; (try dsimp only at hSw); go_simp; first | done | with_reducible rfl)
      try simp only [Act.put, List.getElem_toArray, List.getElem_cons_succ, List.getElem_cons_zero, List.setIfInBounds_toArray, List.set_cons_zero, List.set_cons_succ]
      refine wpAnyH_take (i := 23) (v := ?vv84) rfl (by kernel_rfl) (by kernel_rfl) (by kernel_rfl) (fun _ _ _ h => h) (Or.inl ⟨by rfl, ?hy84⟩) (by assumption) ?rest84
      case hy84 => (intro w hSw; (try dsimp only at hSw); go_simp; first | done | with_reducible rfl)
      try simp only [Act.put, List.getElem_toArray, List.getElem_cons_succ, List.getElem_cons_zero, List.setIfInBounds_toArray, List.set_cons_zero, List.set_cons_succ]
      refine wpAnyH_take (i := 24) (v := ?vv85) rfl (by kernel_rfl) (by kernel_rfl) (by kernel_rfl) (fun _ _ _ h => h) (Or.inl ⟨by rfl, ?hy85⟩) (by assumption) ?rest85
      case hy85 => (intro w hSw; (try dsimp only at hSw); go_simp; first | done | with_reducible rfl)
      try simp only [Act.put, List.getElem_toArray, List.getElem_cons_succ, List.getElem_cons_zero, List.setIfInBounds_toArray, List.set_cons_zero, List.set_cons_succ]
      refine wpAnyH_take (i := 26) (v := ?vv86) rfl (by kernel_rfl) (by kernel_rfl) (by kernel_rfl) (fun _ _ _ h => h) (Or.inl ⟨by rfl, ?hy86⟩) (by assumption) ?rest86
      case hy86 => (intro w hSw; (try dsimp only at hSw); go_simp; first | done | with_reducible rfl)
      try simp only [Act.put, List.getElem_toArray, List.getElem_cons_succ, List.getElem_cons_zero, List.setIfInBounds_toArray, List.set_cons_zero, List.set_cons_succ]
      refine wpAnyH_ready (rs := [25]) (by kernel_rfl) (by simp) ?_
      refine AllReadyH.cons rfl (fun K hK => ?_) AllReadyH.nil
      go_simp
      refine (IDL.out _ _ _ _ _ HJ.out).mono ?_
      rintro e wK ⟨⟨u1, rfl, S1⟩, ZK, HK, KK⟩
      go_wp2_with fail
      refine hK.out _ _ ZK (fun hHeld => ?_)
      clear hK K
      try simp only [Act.put, List.getElem_toArray, List.getElem_cons_succ, List.getElem_cons_zero, List.setIfInBounds_toArray, List.set_cons_zero, List.set_cons_succ]
      refine wpAnyH_ready (rs := [27]) (by kernel_rfl) (by simp) ?_
      refine AllReadyH.cons rfl (fun K hK => ?_) AllReadyH.nil
      go_simp
      refine (RFL.out _ _ _ _ _ HK.out).mono ?_
      rintro e wL ⟨⟨adL, nL, capL, qL, rfl, IL⟩, ZL, HL, KL⟩
      go_wp2_with fail
      have S2 := hid (STK.out _ _ _ S1.out KL.out)
      refine hK.out _ _ ZL (fun hHeld => ?_)
      clear hK K
      try simp only [Act.put, List.getElem_toArray, List.getElem_cons_succ, List.getElem_cons_zero, List.setIfInBounds_toArray, List.set_cons_zero, List.set_cons_succ]
      refine wpAnyH_ready (rs := [28]) (by kernel_rfl) (by simp) ?_
      refine AllReadyH.cons rfl (fun K hK => ?_) AllReadyH.nil
      go_simp
      refine (RID.out _ _ _ _ _ _ _ HL.out IL.out).mono ?_
      rintro e wM ⟨⟨u2, rfl, S3⟩, ZM, HM, KM⟩
      go_wp2_with fail
      have S4 := hid (STK.out _ _ _ S2.out KM.out)
      refine hK.out _ _ ZM (fun hHeld => ?_)
      clear hK K
      try simp only [Act.put, List.getElem_toArray, List.getElem_cons_succ, List.getElem_cons_zero, List.setIfInBounds_toArray, List.set_cons_zero, List.set_cons_succ]
      refine wpAnyH_ready (rs := [29]) (by kernel_rfl) (by simp) ?_
      refine AllReadyH.cons rfl (fun K hK => ?_) AllReadyH.nil
      go_simp
      refine (SAM.out _ _ _ _ _ _ _ HM.out S4.out S3.out).mono ?_
      rintro e wO ⟨rfl, ZO, HO, KO⟩
      go_wp2_with fail
      refine hK.out _ _ ZO (fun hHeld => ?_)
      clear hK K
      try simp only [Act.put, List.getElem_toArray, List.getElem_cons_succ, List.getElem_cons_zero, List.setIfInBounds_toArray, List.set_cons_zero, List.set_cons_succ]
      refine wpAnyH_take (i := 30) (v := ?vv87) rfl (by kernel_rfl) (by kernel_rfl) (by kernel_rfl) (fun _ _ _ h => h) (Or.inl ⟨by rfl, ?hy87⟩) (by assumption) ?rest87
      case hy87 => (intro w hSw; (try dsimp only at hSw); go_simp; first | done | with_reducible rfl)
      try simp only [Act.put, List.getElem_toArray, List.getElem_cons_succ, List.getElem_cons_zero, List.setIfInBounds_toArray, List.set_cons_zero, List.set_cons_succ]
      refine wpAnyH_take (i := 31) (v := ?vv88) rfl (by kernel_rfl) (by kernel_rfl) (by kernel_rfl) (fun _ _ _ h => h) (Or.inl ⟨by rfl, ?hy88⟩) (by assumption) ?rest88
      case hy88 => (intro w hSw; (try dsimp only at hSw); go_simp; first | done | with_reducible rfl)
      try simp only [Act.put, List.getElem_toArray, List.getElem_cons_succ, List.getElem_cons_zero, List.setIfInBounds_toArray, List.set_cons_zero, List.set_cons_succ]
      refine wpAnyH_done (by kernel_rfl) ?_ _
      clear hHeld
      have BF := hid HO.out.bx.b
      clear ZA HA KA ZG HG PG KG ZH HH KH ZI HI KI II ZJ HJ KJ S1 ZK HK KK IL ZL HL KL S2 S3 ZM HM KM S4 ZO HO KO ZD0 H4 EA EB AW CK RFL RF1 RPT RCK RFA SMB IDL RID SAM ONE STK cG
      go_wp2
      go_ret
      exact ⟨rfl, BF.out⟩
end Go.Proofs.Ytbiapepalkdkdab
namespace Go.Proofs.Ytbiapepalkdkdab
open Go.RowKit Go.Maps
set_option linter.unusedVariables false
set_option linter.unusedSimpArgs false

theorem tjW_ps (l : List Pt) (ks : List Pk) : (tjW l ks).ps.length ≤ 512 := by
  unfold tjW
  split
  · rename_i h
    rcases tj_cases l ks with ⟨e, _⟩ | ⟨_, ⟨e, _⟩ | ⟨_, ⟨e, _⟩ | ⟨_, ⟨e, _⟩ | ⟨_, e⟩⟩⟩⟩
    · omega
    · omega
    · omega
    · omega
    · simp only [loT, Bool.or_eq_false_iff, decide_eq_false_iff_not] at e
      simp only
      omega
  · simp [vnz]
/-- two versions in boxes -/
structure JB (w : World) (ga gb : Nat) (id : Int) (ma : Bool) (sz : Int) (sum : ByteArray) (ps : List Pc) (pn : Nat) (a1 a2 : Option Addr) (c1 c2 : Nat) (W : World) : Prop where
  ra : RowIs W ga [.int .i64 id, .bool ma, .int .i64 sz, .string sum, .slice a1 pn c1] 47
  rb : RowIs W gb [.int .i64 id, .bool ma, .int .i64 sz, .string sum, .slice a2 pn c2] 51
  pa : PcI W (.slice a1 pn c1) ps
  pb : PcI W (.slice a2 pn c2) ps
  b : Below w.heap.size w W
section
variable {w W W' : World} {ga gb : Nat} {id : Int} {ma : Bool} {sz : Int} {sum : ByteArray} {ps : List Pc} {pn : Nat} {a1 a2 : Option Addr} {c1 c2 : Nat}
theorem JB.next (h : JB w ga gb id ma sz sum ps pn a1 a2 c1 c2 W) (hb : Below W.heap.size W W') : JB w ga gb id ma sz sum ps pn a1 a2 c1 c2 W' :=
  ⟨h.ra.keep (hb.keep (fun _ => False)) (fun h => h), h.rb.keep (hb.keep (fun _ => False)) (fun h => h), h.pa.next hb, h.pb.next hb, below_on h.b hb⟩
theorem JB.drew (h : JB w ga gb id ma sz sum ps pn a1 a2 c1 c2 W) : JB w ga gb id ma sz sum ps pn a1 a2 c1 c2 W.drew := h.next (Below.refl _ _).drew
theorem JB.cells (h : JB w ga gb id ma sz sum ps pn a1 a2 c1 c2 W) : (W.cell? ⟨ga, 0, none⟩ = some (.int .i64 id) ∧ W.cell? ⟨ga, 1, none⟩ = some (.bool ma) ∧ W.cell? ⟨ga, 2, none⟩ = some (.int .i64 sz) ∧ W.cell? ⟨ga, 3, none⟩ = some (.string sum) ∧ W.cell? ⟨ga, 4, none⟩ = some (.slice a1 pn c1)) ∧ (W.cell? ⟨gb, 0, none⟩ = some (.int .i64 id) ∧ W.cell? ⟨gb, 1, none⟩ = some (.bool ma) ∧ W.cell? ⟨gb, 2, none⟩ = some (.int .i64 sz) ∧ W.cell? ⟨gb, 3, none⟩ = some (.string sum) ∧ W.cell? ⟨gb, 4, none⟩ = some (.slice a2 pn c2)) :=
  ⟨⟨h.ra.cellAt rfl, h.ra.cellAt rfl, h.ra.cellAt rfl, h.ra.cellAt rfl, h.ra.cellAt rfl⟩, h.rb.cellAt rfl, h.rb.cellAt rfl, h.rb.cellAt rfl, h.rb.cellAt rfl, h.rb.cellAt rfl⟩
theorem JB.call (h : JB w ga gb id ma sz sum ps pn a1 a2 c1 c2 W) {f : Nat} {args : Array Value} {R : Ending → World → Prop} (hc : Calls Try.prog f args W (fun e w' => R e w' ∧ Below W.heap.size W w')) :
    Calls Try.prog f args W (fun e w' => R e w' ∧ ((w'.cell? ⟨ga, 0, none⟩ = some (.int .i64 id) ∧ w'.cell? ⟨ga, 1, none⟩ = some (.bool ma) ∧ w'.cell? ⟨ga, 2, none⟩ = some (.int .i64 sz) ∧ w'.cell? ⟨ga, 3, none⟩ = some (.string sum) ∧ w'.cell? ⟨ga, 4, none⟩ = some (.slice a1 pn c1)) ∧ (w'.cell? ⟨gb, 0, none⟩ = some (.int .i64 id) ∧ w'.cell? ⟨gb, 1, none⟩ = some (.bool ma) ∧ w'.cell? ⟨gb, 2, none⟩ = some (.int .i64 sz) ∧ w'.cell? ⟨gb, 3, none⟩ = some (.string sum) ∧ w'.cell? ⟨gb, 4, none⟩ = some (.slice a2 pn c2))) ∧ Hid (JB w ga gb id ma sz sum ps pn a1 a2 c1 c2 w')) :=
  hc.mono fun e w' ⟨hr, hb⟩ => ⟨hr, (h.next hb).cells, h.next hb⟩
end
set_option maxRecDepth 100000 in
set_option maxHeartbeats 8000000 in
theorem partsJoins_walk (v0 : Value) (q : List (Value × Pt)) (u0 : Value) (ks : List Pk) (w : World) (hv : PtI w v0 q) (hz : q.length * 56 ≤ 140737488355328) (hy : ∀ y ∈ q, ibulk.SzTb y.2) (hu : PkI w u0 ks) (hk : ks.length * 24 ≤ 140737488355328) (hky : ∀ y ∈ ks, ibulk.SzKb y) :
    Calls Try.prog 4 #[v0, u0] w fun e w' => e = .returned (.bool true) ∧ Below w.heap.size w w' := by
  obtain ⟨av, cv, rfl, -⟩ := hv.form
  obtain ⟨au, cu, rfl, -⟩ := hu.form
  have hl : q.length ≤ 8796093022208 := by omega
  have hsq : ∀ y ∈ q, y.2.sum.size ≤ 140737488355328 ∧ y.2.ps.length ≤ 8796093022208 ∧ ∀ p ∈ y.2.ps, p.id.size ≤ 140737488355328 := fun y hy' => by obtain ⟨h1, h2, h3⟩ := hy y hy'; exact ⟨h1, by omega, h3⟩
  have hsq' : ∀ q' : List (Value × Pt), tqL q' = tqL q → q'.length ≤ 8796093022208 ∧ ∀ y ∈ q', y.2.sum.size ≤ 140737488355328 ∧ y.2.ps.length ≤ 8796093022208 ∧ ∀ p ∈ y.2.ps, p.id.size ≤ 140737488355328 := fun q' e => ⟨by rw [tm_len e, tqL_len]; exact hl, fun y hy' => by
    obtain ⟨z, hz', hzy⟩ := List.mem_map.1 (tm_mem e hy')
    have := hsq z hz'
    rw [hzy] at this
    exact this⟩
  have JN := hid (join_any _ q _ ks w hv hu hl (by omega))
  have RFL : Hid (∀ W, Below w.heap.size w W → Calls Try.prog 11 #[.slice av q.length cv] W fun e w' => ∃ ad n cap q', e = .returned (.slice ad n cap) ∧ Hid (PtI w' (.slice ad n cap) q' ∧ tqL q' = tqL q) ∧ Below W.heap.size W w') := fun W hW => (trefs_any _ q W (hv.next hW) hz (fun y hy' => (hy y hy').2.1)).mono fun e w' ⟨ad, cap, q', h1, h2, h3, h4⟩ => ⟨ad, _, cap, q', h1, ⟨h3.pt, h2⟩, h4⟩
  have PKD : Hid (∀ W, Below w.heap.size w W → Calls Try.prog 21 #[.slice au ks.length cu] W fun e w' => (∃ ad cap, e = .returned (.slice ad ks.length cap) ∧ PkI w' (.slice ad ks.length cap) ks) ∧ Below W.heap.size W w') := fun W hW => picked_any _ ks W (hu.next hW) hk
  have RJ : Hid (∀ W v q' u, (PtI W v q' ∧ tqL q' = tqL q) → PkI W u ks → Calls Try.prog 20 #[v, u] W (GiveJ W (tjW (tqL q) ks) (tjE (tqL q) ks))) := fun W v q' u hI hU => by
    have h0 := hsq' q' hI.2
    have := rjoin_any v q' u ks W hI.1 hU h0.1 h0.2 (by omega)
    rw [hI.2] at this
    exact this
  have HPS := hid (tjW_ps (tqL q) ks)
  clear hv hz hy hu hk hky hl hsq hsq'
  generalize tjW (tqL q) ks = A at *
  generalize tjE (tqL q) ks = JE at *
  generalize tqL q = LQ at *
  generalize q.length = N at *
  generalize hKN : ks.length = KN at *
  clear hKN
  unfold GiveJ at JN RJ
  unfold vnV at JN RJ
  obtain ⟨id, ma, sz, sum, ps⟩ := A
  simp only at *
  generalize hpn : ps.length = pn at *
  have HPN := hid hpn
  clear hpn
  have eJ : (JE == JE) = true := beq_self_eq_true _
  have RF : Hid (∀ ga gb a1 a2 c1 c2 W, JB w ga gb id ma sz sum ps pn a1 a2 c1 c2 W → Calls Try.prog 23 #[.agg #[.int .i64 id, .bool ma, .int .i64 sz, .string sum, .slice a1 pn c1]] W fun e w' => (∃ ad cap, e = .returned (.agg #[.int .i64 id, .bool ma, .int .i64 sz, .string sum, .slice ad pn cap]) ∧ Hid (PcI w' (.slice ad pn cap) ps)) ∧ ((w'.cell? ⟨ga, 0, none⟩ = some (.int .i64 id) ∧ w'.cell? ⟨ga, 1, none⟩ = some (.bool ma) ∧ w'.cell? ⟨ga, 2, none⟩ = some (.int .i64 sz) ∧ w'.cell? ⟨ga, 3, none⟩ = some (.string sum) ∧ w'.cell? ⟨ga, 4, none⟩ = some (.slice a1 pn c1)) ∧ (w'.cell? ⟨gb, 0, none⟩ = some (.int .i64 id) ∧ w'.cell? ⟨gb, 1, none⟩ = some (.bool ma) ∧ w'.cell? ⟨gb, 2, none⟩ = some (.int .i64 sz) ∧ w'.cell? ⟨gb, 3, none⟩ = some (.string sum) ∧ w'.cell? ⟨gb, 4, none⟩ = some (.slice a2 pn c2))) ∧ Hid (JB w ga gb id ma sz sum ps pn a1 a2 c1 c2 w')) := fun ga gb a1 a2 c1 c2 W h => h.call (by
    have := lref_any (.slice a1 pn c1) ⟨id, ma, sz, sum, ps⟩ W h.pa (by simp only; have := HPS.out; have := HPN.out; omega)
    unfold vnV at this
    simp only [HPN.out] at this
    exact this.mono fun e w' ⟨ad, cap, h1, h2, h3⟩ => ⟨⟨ad, cap, h1, by have h4 := OwnP.pcs h2; exact h4⟩, h3⟩)
  have SM : Hid (∀ ga gb a1 a2 c1 c2 W ad cap, JB w ga gb id ma sz sum ps pn a1 a2 c1 c2 W → PcI W (.slice ad pn cap) ps → Calls Try.prog 22 #[.agg #[.int .i64 id, .bool ma, .int .i64 sz, .string sum, .slice ad pn cap], .agg #[.int .i64 id, .bool ma, .int .i64 sz, .string sum, .slice a2 pn c2]] W fun e w' => e = .returned (.bool true) ∧ ((w'.cell? ⟨ga, 0, none⟩ = some (.int .i64 id) ∧ w'.cell? ⟨ga, 1, none⟩ = some (.bool ma) ∧ w'.cell? ⟨ga, 2, none⟩ = some (.int .i64 sz) ∧ w'.cell? ⟨ga, 3, none⟩ = some (.string sum) ∧ w'.cell? ⟨ga, 4, none⟩ = some (.slice a1 pn c1)) ∧ (w'.cell? ⟨gb, 0, none⟩ = some (.int .i64 id) ∧ w'.cell? ⟨gb, 1, none⟩ = some (.bool ma) ∧ w'.cell? ⟨gb, 2, none⟩ = some (.int .i64 sz) ∧ w'.cell? ⟨gb, 3, none⟩ = some (.string sum) ∧ w'.cell? ⟨gb, 4, none⟩ = some (.slice a2 pn c2))) ∧ Hid (JB w ga gb id ma sz sum ps pn a1 a2 c1 c2 w')) := fun ga gb a1 a2 c1 c2 W ad cap h hp => h.call (rsame_true4 _ _ ⟨id, ma, sz, sum, ps⟩ W hp h.pb (by simp only; have := HPS.out; have := HPN.out; omega))
  have AW : Hid (∀ ga gb a1 a2 c1 c2 W, JB w ga gb id ma sz sum ps pn a1 a2 c1 c2 W → Calls Try.prog 12 #[] W fun e w' => e = .returned (.bool true) ∧ ((w'.cell? ⟨ga, 0, none⟩ = some (.int .i64 id) ∧ w'.cell? ⟨ga, 1, none⟩ = some (.bool ma) ∧ w'.cell? ⟨ga, 2, none⟩ = some (.int .i64 sz) ∧ w'.cell? ⟨ga, 3, none⟩ = some (.string sum) ∧ w'.cell? ⟨ga, 4, none⟩ = some (.slice a1 pn c1)) ∧ (w'.cell? ⟨gb, 0, none⟩ = some (.int .i64 id) ∧ w'.cell? ⟨gb, 1, none⟩ = some (.bool ma) ∧ w'.cell? ⟨gb, 2, none⟩ = some (.int .i64 sz) ∧ w'.cell? ⟨gb, 3, none⟩ = some (.string sum) ∧ w'.cell? ⟨gb, 4, none⟩ = some (.slice a2 pn c2))) ∧ Hid (JB w ga gb id ma sz sum ps pn a1 a2 c1 c2 w')) := fun ga gb a1 a2 c1 c2 W h => h.call (awake14 W)
  clear HPS HPN
  go_enter Try.func4, Try.ntmps4
  go_wp2_with fail
  refine JN.out.mono ?_
  rintro e w1 ⟨a1, c1, rfl, p1, b1⟩
  have RA : Hid (RowIs (w1.alloc (.cells #[.int .i64 id, .bool ma, .int .i64 sz, .string sum, .slice a1 pn c1] 47)) w1.heap.size [.int .i64 id, .bool ma, .int .i64 sz, .string sum, .slice a1 pn c1] 47) := srow w1 _ _
  have P1 := hid (p1.next ((Below.refl _ _).alloc (Nat.le_refl _) (.cells #[.int .i64 id, .bool ma, .int .i64 sz, .string sum, .slice a1 pn c1] 47)))
  have B1 := hid (below_al b1 (.cells #[.int .i64 id, .bool ma, .int .i64 sz, .string sum, .slice a1 pn c1] 47))
  have R1 := hid (RFL.out _ B1.out)
  clear JN p1 b1 RFL
  go_wp2_with fail
  refine R1.out.mono ?_
  rintro e w2 ⟨ad2, n2, cp2, q2, rfl, I2, b2⟩
  have RA2 := hid (RA.out.keep (b2.keep (fun _ => False)) (fun h => h))
  have P2 := hid (P1.out.next b2)
  have B2 := hid (below_on B1.out b2)
  have K2 := hid (PKD.out _ B2.out)
  clear R1 b2 RA P1 B1 PKD
  generalize w1.heap.size = ga at *
  go_wp2_with fail
  refine K2.out.mono ?_
  rintro e w3 ⟨⟨ad3, cp3, rfl, k3⟩, b3⟩
  have RA3 := hid (RA2.out.keep (b3.keep (fun _ => False)) (fun h => h))
  have P3 := hid (P2.out.next b3)
  have B3 := hid (below_on B2.out b3)
  have J3 := hid (RJ.out _ _ _ _ (And.intro (I2.out.1.next b3) I2.out.2) k3)
  clear K2 b3 RA2 P2 B2 RJ k3 I2
  go_wp2_with fail
  refine J3.out.mono ?_
  rintro e w4 ⟨a2, c2, rfl, p4, b4⟩
  have H5 : Hid (JB w ga w4.heap.size id ma sz sum ps pn a1 a2 c1 c2 (w4.alloc (.cells #[.int .i64 id, .bool ma, .int .i64 sz, .string sum, .slice a2 pn c2] 51))) := ⟨(RA3.out.keep (b4.keep (fun _ => False)) (fun h => h)).keep (keep_alloc (fun _ => False) _ _) (fun h => h), srow w4 _ _, (P3.out.next b4).next ((Below.refl _ _).alloc (Nat.le_refl _) _), p4.next ((Below.refl _ _).alloc (Nat.le_refl _) _), below_al (below_on B3.out b4) _⟩
  clear J3 RA3 P3 B3 p4 b4
  have ZD0 := H5.out.drew.cells
  go_wp2
  refine wp_region_held_drew (S := (fun w' => (w'.cell? ⟨ga, 0, none⟩ = some (.int .i64 id) ∧ w'.cell? ⟨ga, 1, none⟩ = some (.bool ma) ∧ w'.cell? ⟨ga, 2, none⟩ = some (.int .i64 sz) ∧ w'.cell? ⟨ga, 3, none⟩ = some (.string sum) ∧ w'.cell? ⟨ga, 4, none⟩ = some (.slice a1 pn c1)) ∧ (w'.cell? ⟨w4.heap.size, 0, none⟩ = some (.int .i64 id) ∧ w'.cell? ⟨w4.heap.size, 1, none⟩ = some (.bool ma) ∧ w'.cell? ⟨w4.heap.size, 2, none⟩ = some (.int .i64 sz) ∧ w'.cell? ⟨w4.heap.size, 3, none⟩ = some (.string sum) ∧ w'.cell? ⟨w4.heap.size, 4, none⟩ = some (.slice a2 pn c2)))) (by kernel_rfl) ZD0 (fun hHeld => ?_)
  refine wpAnyH_ready (rs := [0]) (by kernel_rfl) (by simp) ?_
  refine AllReadyH.cons rfl (fun K hK => ?_) AllReadyH.nil
  go_simp
  refine (AW.out _ _ _ _ _ _ _ H5.out.drew).mono ?_
  rintro e wA ⟨rfl, ZA, HA⟩
  go_wp2_with fail
  refine hK.out _ _ ZA (fun hHeld => ?_)
  clear hK K
  try simp only [Act.put, List.getElem_toArray, List.getElem_cons_succ, List.getElem_cons_zero, List.setIfInBounds_toArray, List.set_cons_zero, List.set_cons_succ]
  refine wpAnyH_take (i := 1) (v := ?vv89) rfl (by kernel_rfl) (by kernel_rfl) (by kernel_rfl) (fun _ _ _ h => h) (Or.inl ⟨by rfl, ?hy89⟩) (by assumption) ?rest89
  case hy89 => (intro w hSw; (try dsimp only at hSw); go_simp; first | done | with_reducible rfl)
  try simp only [Act.put, List.getElem_toArray, List.getElem_cons_succ, List.getElem_cons_zero, List.setIfInBounds_toArray, List.set_cons_zero, List.set_cons_succ]
  refine wpAnyH_take (i := 2) (v := ?vv90) rfl (by kernel_rfl) (by kernel_rfl) (by kernel_rfl) (fun _ _ _ h => h) (Or.inl ⟨by rfl, ?hy90⟩) (by assumption) ?rest90
  case hy90 => (intro w hSw; (try dsimp only at hSw); go_simp; first | done | with_reducible rfl)
  try simp only [Act.put, List.getElem_toArray, List.getElem_cons_succ, List.getElem_cons_zero, List.setIfInBounds_toArray, List.set_cons_zero, List.set_cons_succ]
  refine wpAnyH_take (i := 4) (v := ?vv91) rfl (by kernel_rfl) (by kernel_rfl) (by kernel_rfl) (fun _ _ _ h => h) (Or.inl ⟨by rfl, ?hy91⟩) (by assumption) ?rest91
  case hy91 => (intro w hSw; (try dsimp only at hSw); go_simp; first | done | with_reducible rfl)
  try simp only [Act.put, List.getElem_toArray, List.getElem_cons_succ, List.getElem_cons_zero, List.setIfInBounds_toArray, List.set_cons_zero, List.set_cons_succ]
  refine wpAnyH_ready (rs := [3]) (by kernel_rfl) (by simp) ?_
  refine AllReadyH.cons rfl (fun K hK => ?_) AllReadyH.nil
  go_simp
  refine (RF.out _ _ _ _ _ _ _ HA.out).mono ?_
  rintro e wB ⟨⟨ad6, cp6, rfl, P6⟩, ZB, HB⟩
  go_wp2_with fail
  refine hK.out _ _ ZB (fun hHeld => ?_)
  clear hK K
  try simp only [Act.put, List.getElem_toArray, List.getElem_cons_succ, List.getElem_cons_zero, List.setIfInBounds_toArray, List.set_cons_zero, List.set_cons_succ]
  refine wpAnyH_ready (rs := [5]) (by kernel_rfl) (by simp) ?_
  refine AllReadyH.cons rfl (fun K hK => ?_) AllReadyH.nil
  go_simp
  refine (SM.out _ _ _ _ _ _ _ _ _ HB.out P6.out).mono ?_
  rintro e wC ⟨rfl, ZC, HC⟩
  go_wp2_with fail
  refine hK.out _ _ ZC (fun hHeld => ?_)
  clear hK K
  try simp only [Act.put, List.getElem_toArray, List.getElem_cons_succ, List.getElem_cons_zero, List.setIfInBounds_toArray, List.set_cons_zero, List.set_cons_succ]
  refine wpAnyH_take (i := 6) (v := ?vv92) rfl (by kernel_rfl) (by kernel_rfl) (by kernel_rfl) (fun _ _ _ h => h) (Or.inl ⟨by rfl, ?hy92⟩) (by assumption) ?rest92
  case hy92 => (intro w hSw; (try dsimp only at hSw); go_simp; first | done | with_reducible rfl)
  try simp only [Act.put, List.getElem_toArray, List.getElem_cons_succ, List.getElem_cons_zero, List.setIfInBounds_toArray, List.set_cons_zero, List.set_cons_succ]
  refine wpAnyH_take (i := 7) (v := ?vv93) rfl (by kernel_rfl) (by kernel_rfl) (by kernel_rfl) (fun _ _ _ h => h) (Or.inl ⟨by rfl, ?hy93⟩) (by assumption) ?rest93
  case hy93 => (intro w hSw; (try dsimp only at hSw); go_simp; first | done | with_reducible rfl)
  try simp only [Act.put, List.getElem_toArray, List.getElem_cons_succ, List.getElem_cons_zero, List.setIfInBounds_toArray, List.set_cons_zero, List.set_cons_succ]
  refine wpAnyH_take (i := 8) (v := ?vv94) rfl (by kernel_rfl) (by kernel_rfl) (by kernel_rfl) (fun _ _ _ h => h) (Or.inl ⟨by rfl, ?hy94⟩) (by assumption) ?rest94
  case hy94 => (intro w hSw; (try dsimp only at hSw); go_simp; first | done | with_reducible rfl)
  try simp only [Act.put, List.getElem_toArray, List.getElem_cons_succ, List.getElem_cons_zero, List.setIfInBounds_toArray, List.set_cons_zero, List.set_cons_succ]
  refine wpAnyH_take (i := 9) (v := ?vv95) rfl (by kernel_rfl) (by kernel_rfl) (by kernel_rfl) (fun _ _ _ h => h) (Or.inl ⟨by rfl, ?hy95⟩) (by assumption) ?rest95
  case hy95 => (intro w hSw; (try dsimp only at hSw); go_simp; first | done | with_reducible rfl)
  try simp only [Act.put, List.getElem_toArray, List.getElem_cons_succ, List.getElem_cons_zero, List.setIfInBounds_toArray, List.set_cons_zero, List.set_cons_succ]
  refine wpAnyH_take (i := 10) (v := ?vv96) rfl (by kernel_rfl) (by kernel_rfl) (by kernel_rfl) (fun _ _ _ h => h) (Or.inl ⟨by rfl, ?hy96⟩) (by assumption) ?rest96
  case hy96 => (intro w hSw; (try dsimp only at hSw); go_simp; first | done | with_reducible rfl)
  try simp only [Act.put, List.getElem_toArray, List.getElem_cons_succ, List.getElem_cons_zero, List.setIfInBounds_toArray, List.set_cons_zero, List.set_cons_succ]
  refine wpAnyH_take (i := 11) (v := ?vv97) rfl (by kernel_rfl) (by kernel_rfl) (by kernel_rfl) (fun _ _ _ h => h) (Or.inl ⟨by rfl, ?hy97⟩) (by assumption) ?rest97
  case hy97 => (intro w hSw; (try dsimp only at hSw); go_simp; first | done | with_reducible rfl)
  try simp only [Act.put, List.getElem_toArray, List.getElem_cons_succ, List.getElem_cons_zero, List.setIfInBounds_toArray, List.set_cons_zero, List.set_cons_succ]
  refine wpAnyH_take (i := 12) (v := ?vv98) rfl (by kernel_rfl) (by kernel_rfl) (by kernel_rfl) (fun _ _ _ h => h) (Or.inl ⟨by rfl, ?hy98⟩) (by assumption) ?rest98
  case hy98 => (intro w hSw; (try dsimp only at hSw); go_simp; first | done | with_reducible rfl)
  try simp only [Act.put, List.getElem_toArray, List.getElem_cons_succ, List.getElem_cons_zero, List.setIfInBounds_toArray, List.set_cons_zero, List.set_cons_succ]
  refine wpAnyH_done (by kernel_rfl) ?_ _
  have BF := hid HC.out.b
  clear hHeld ZA HA ZB HB P6 ZC HC ZD0 H5 AW RF SM
  go_wp2
  go_ret
  exact ⟨rfl, BF.out⟩
end Go.Proofs.Ytbiapepalkdkdab
