/- A slice of all files as they stood, beside a disk that goes on. -/
import Derived.Test.YtnlodlpjokkepabWSynW
namespace Go.Proofs.Ytnlodlpjokkepab
open Go.RowKit Go.Maps
set_option linter.unusedVariables false
set_option linter.unusedSimpArgs false

theorem ownsRow_base {w : World} {B B' e size n : Nat} {v : Value} {xs : List Value} (h : w.ownsRow B e size v n xs) (hB : B' ≤ B) : w.ownsRow B' e size v n xs := by
  refine ⟨h.1, h.2.imp id ?_⟩
  rintro ⟨g, cap, cur, e, hg, r⟩
  exact ⟨g, cap, cur, e, Nat.le_trans hB hg, r⟩
theorem ownsRow_ge {w : World} {B e size n : Nat} {v : Value} {xs : List Value} (h : w.ownsRow B e size v n xs) {g : Nat} (hg : v.ownBlock = some g) : B ≤ g := by
  rcases h.2 with ⟨e, _⟩ | ⟨g', cap, cur, e, hb, _⟩
  · rw [e] at hg; simp [Value.ownBlock] at hg
  · rw [e] at hg; simp [Value.ownBlock] at hg; omega
/-- the files' row -/
def FileRow (w : World) (B : Nat) (v : Value) (A : List (Bs × Bs)) : Prop := w.ownsRow B 50 2 v A.length (fC A)
/-- the disk, and beside it a slice of all files as they stood -/
structure MayC (w1 : World) (p : Nat) (d : Ds) (hs : List (List (Bs × Bs))) (m : Value) (vs : List Value) (wr : World) (c : Nat → Nat) : Prop where
  disk : DiskIs wr c p d
  old : ∀ j, j < w1.heap.size → c j = c0 p j
  keep : Keep (fun j => c0 p j < 7) w1 wr
  len : vs.length = hs.length
  row : wr.ownsRow w1.heap.size 26 1 m hs.length vs
  col : ∀ g, m.ownBlock = some g → c g = 7
  rows : ∀ i (h : i < hs.length) (h2 : i < vs.length), FileRow wr w1.heap.size vs[i] hs[i]
  cols : ∀ v ∈ vs, ∀ g, v.ownBlock = some g → c g = 7 ∧ m.ownBlock ≠ some g
def MayAt (w1 : World) (p : Nat) (d : Ds) (hs : List (List (Bs × Bs))) (m : Value) (wr : World) : Prop := ∃ vs c, MayC w1 p d hs m vs wr c
theorem MayC.left {w1 wr w' : World} {p : Nat} {d d' : Ds} {hs : List (List (Bs × Bs))} {m : Value} {vs : List Value} {c : Nat → Nat} (h : MayC w1 p d hs m vs wr c) (hl : Left wr c p d' w') : MayAt w1 p d' hs m w' := by
  obtain ⟨⟨c', D, hc'⟩, K⟩ := hl
  have hsz := h.keep.size
  refine ⟨vs, c', D, fun j hj => by rw [hc' j (by omega)]; exact h.old j hj, h.keep.then K (fun j hj e => by rw [← h.old j hj]; exact e), h.len, K.ownsRow h.row (fun g e e2 => by have := h.col g e; omega), fun g e => by rw [hc' g (ownsRow_lt h.row e)]; exact h.col g e, fun i hi h2 => K.ownsRow (h.rows i hi h2) (fun g e e2 => by have := (h.cols _ (List.getElem_mem h2) g e).1; omega), fun v hv g e => ?_⟩
  obtain ⟨i, hi, rfl⟩ := List.getElem_of_mem hv
  have := h.cols _ hv g e
  exact ⟨by rw [hc' g (ownsRow_lt (h.rows i (by rw [← h.len]; exact hi) hi) e)]; exact this.1, this.2⟩
theorem MayAt.step {w1 wr : World} {p : Nat} {d d' : Ds} {hs : List (List (Bs × Bs))} {m : Value} {f : FuncId} {args : Array Value} {r : Value} (h : MayAt w1 p d hs m wr) (C : ∀ W c, DiskIs W c p d → Calls Try.prog f args W fun e w' => e = .returned r ∧ Left W c p d' w') : Calls Try.prog f args wr fun e w' => e = .returned r ∧ MayAt w1 p d' hs m w' := by
  obtain ⟨vs, c, hM⟩ := h
  exact (C wr c hM.disk).mono fun e w' ⟨he, hl⟩ => ⟨he, hM.left hl⟩
/-- and one row of files more, that is not in the slice yet -/
def MayP (w1 : World) (p : Nat) (d : Ds) (hs : List (List (Bs × Bs))) (m v : Value) (A : List (Bs × Bs)) (wr : World) : Prop :=
  ∃ vs c, MayC w1 p d hs m vs wr c ∧ FileRow wr w1.heap.size v A ∧ ∀ g, v.ownBlock = some g → c g = 7 ∧ m.ownBlock ≠ some g
theorem MayC.same {w1 wr w2 : World} {p : Nat} {d : Ds} {hs : List (List (Bs × Bs))} {m : Value} {vs : List Value} {c c2 : Nat → Nat} (h : MayC w1 p d hs m vs wr c) (hk : Keep (fun _ => False) wr w2) (hc : ∀ j, j < wr.heap.size → c2 j = c j) : MayC w1 p d hs m vs w2 c2 := by
  have hsz := h.keep.size
  refine ⟨h.disk.keep hk hc (fun _ _ h => h.elim), fun j hj => by rw [hc j (by omega)]; exact h.old j hj, h.keep.then hk (fun _ _ h => h.elim), h.len, hk.ownsRow h.row (fun _ _ h => h), fun g e => by rw [hc g (ownsRow_lt h.row e)]; exact h.col g e, fun i hi h2 => hk.ownsRow (h.rows i hi h2) (fun _ _ h => h), fun v hv g e => ?_⟩
  obtain ⟨i, hi, rfl⟩ := List.getElem_of_mem hv
  have := h.cols _ hv g e
  exact ⟨by rw [hc g (ownsRow_lt (h.rows i (by rw [← h.len]; exact hi) hi) e)]; exact this.1, this.2⟩
theorem CI.len {w : World} {c : Nat → Nat} {p : Nat} {d : Ds} {k B : Nat} (hC : CI d k B) (h : DiskIs w c p d) : d.now.length ≤ B := by
  have hok := h.ok
  have hl := (replay_bounds d.ws d.S hok.1 hok.2).2.2
  have hwt := hC.wt
  unfold Ds.now
  omega
theorem MayAt.files {w1 wr : World} {p : Nat} {d : Ds} {hs : List (List (Bs × Bs))} {m : Value} {k B : Nat} (h : MayAt w1 p d hs m wr) (hC : CI d k B) (hB : B ≤ 70000000000) : Calls Try.prog 16 #[.pointer (some ⟨p, 0, none⟩)] wr fun e w' => ∃ ad cap, e = .returned (.slice ad d.now.length cap) ∧ MayP w1 p d hs m (.slice ad d.now.length cap) d.now w' := by
  obtain ⟨vs, c, hM⟩ := h
  have hl := hC.len hM.disk
  have hsz := hM.keep.size
  refine (files_any p c d wr hM.disk hC.calm.dn (by omega) hC.calm.nm hM.disk.srt).mono fun e w2 ⟨v, he, hr, hk⟩ => ?_
  obtain ⟨ad, cap, rfl⟩ := row_form hr
  refine ⟨ad, cap, he, vs, (fun j => if j < wr.heap.size then c j else 7), hM.same hk (fun j hj => if_pos hj), ownsRow_base hr hsz, fun g e => ⟨if_neg (by have := ownsRow_ge hr e; omega), fun e2 => by have h1 := ownsRow_ge hr e; have h2 := ownsRow_lt hM.row e2; omega⟩⟩
/-- the row is laid into the slice -/
theorem may_app {w1 wr w2 : World} {p : Nat} {d : Ds} {hs : List (List (Bs × Bs))} {m m2 v : Value} {vs : List Value} {A : List (Bs × Bs)} {c : Nat → Nat} (h : MayC w1 p d hs m vs wr c) (hv : FileRow wr w1.heap.size v A) (hvc : ∀ g, v.ownBlock = some g → c g = 7 ∧ m.ownBlock ≠ some g)
    (hr : w2.ownsRow w1.heap.size 26 1 m2 (hs.length + 1) (vs ++ [v])) (hk : Keep (fun k => m.ownBlock = some k) wr w2) (hloc : m2.ownBlock = m.ownBlock ∨ ∃ g, m2.ownBlock = some g ∧ wr.heap.size ≤ g) : MayAt w1 p d (hs ++ [A]) m2 w2 := by
  have hsz := h.keep.size
  have hcol : ∀ j, j < wr.heap.size → (if j < wr.heap.size then c j else 7) = c j := fun j hj => if_pos hj
  have hne : ∀ g, g < wr.heap.size → m.ownBlock ≠ some g → m2.ownBlock ≠ some g := fun g hg h1 h2 => by
    rcases hloc with e | ⟨g', e, hg'⟩
    · exact h1 (e ▸ h2)
    · rw [e] at h2; injection h2 with h2; omega
  refine ⟨vs ++ [v], fun j => if j < wr.heap.size then c j else 7, h.disk.keep hk hcol (fun j hj e => by rw [h.col j e]; omega), fun j hj => by rw [hcol j (by omega)]; exact h.old j hj, h.keep.then hk (fun j hj e => by have := ownsRow_ge h.row e; omega), by simp [h.len], by rw [List.length_append, List.length_singleton]; exact hr, fun g e => ?_, fun i hi h2 => ?_, fun u hu g e => ?_⟩
  · by_cases hg : g < wr.heap.size
    · rw [hcol g hg]
      rcases hloc with e2 | ⟨g', e2, hg'⟩
      · exact h.col g (e2 ▸ e)
      · rw [e2] at e; injection e with e; omega
    · exact if_neg hg
  · have hlen := h.len
    by_cases hi2 : i < hs.length
    · rw [List.getElem_append_left (h := by omega), List.getElem_append_left (h := hi2)]
      exact hk.ownsRow (h.rows i hi2 (by omega)) (fun g e e2 => (h.cols _ (List.getElem_mem (by omega)) g e).2 e2)
    · have hi3 : i = hs.length := by simp at hi; omega
      subst hi3
      rw [List.getElem_append_right (by omega), List.getElem_append_right (by omega)]
      simp only [hlen, Nat.sub_self, List.getElem_cons_zero]
      exact hk.ownsRow hv (fun g e e2 => (hvc g e).2 e2)
  · rcases List.mem_append.1 hu with hu | hu
    · obtain ⟨i, hi, rfl⟩ := List.getElem_of_mem hu
      have hlt := ownsRow_lt (h.rows i (by rw [← h.len]; exact hi) hi) e
      have := h.cols _ hu g e
      exact ⟨by rw [hcol g hlt]; exact this.1, hne g hlt this.2⟩
    · rw [List.mem_singleton] at hu
      subst hu
      have hlt := ownsRow_lt hv e
      have := hvc g e
      exact ⟨by rw [hcol g hlt]; exact this.1, hne g hlt this.2⟩
theorem info26 : (Try.prog.info? 26).map (fun i => (i.zero, i.size, i.bytes)) = some (some (.slice none 0 0), 1, 24) := by kernel_rfl
/-- 'append(may, files)' at the operation -/
theorem wpl_may {w : World} {ops : Array Oper} {rest : List Oper} {o : Oper} {a : Act} {Q : Exit → Act → World → Prop} (hgd : o.guard = none) (sl x : Operand)
    (ho : o.op = .call { callee := .builtin .append, args := #[sl, x], argTypes := #[54, 54] }) (B : Nat) (m : Value) (vs : List Value) (n : Nat) (v : Value) (hv : v.oneCell' = true) (w0 : World) (Mc : Array Value) (hMc : Mc = #[v]) (hw : w = w0.alloc (.cells Mc 26))
    (hs : a.eval sl = m) (hx : a.eval x = .slice (some ⟨w0.heap.size, 0, none⟩) 1 1) (h0 : w0.ownsRow B 26 1 m n vs) (hB : B ≤ w0.heap.size) (hl : n ≤ 70368744177)
    (h : ∀ ad' cap' w', w'.ownsRow B 26 1 (.slice ad' (n + 1) cap') (n + 1) (vs ++ [v]) → Keep (fun k => m.ownBlock = some k) w0 w' → ((Value.slice ad' (n + 1) cap').ownBlock = m.ownBlock ∨ ∃ g, (Value.slice ad' (n + 1) cap').ownBlock = some g ∧ w0.heap.size ≤ g) → wpList Try.prog ops Q rest (a.put o.dst (.slice ad' (n + 1) cap')) w') : wpList Try.prog ops Q (o :: rest) a w := by
  subst hMc hw
  refine wpList_plain hgd fun K hK => ?_
  obtain ⟨i0, hi, hz0, hz1, hz2⟩ := info_parts info26
  have ka := keep_alloc (fun _ => False) w0 (.cells #[v] 26)
  obtain ⟨v', w', hr, h2, h3, h4, h5⟩ := run_append_own_at (P := Try.prog) (w0.alloc (.cells #[v] 26)) B 54 o.type 26 i0 _ 1 24 Try.underlying54 hi hz0 hz1 hz2 rfl (by decide) m n vs (ka.ownsRow h0 (fun _ _ h => h)) ⟨w0.heap.size, 0, none⟩ 1 1 [v] rfl
    (fun j u hu => by rw [Addr.add_lit, Nat.zero_add, cell_of_row _ _ _ _ _ _ (heap_alloc_new _ _)]; simpa using hu) (fun u hu => by rw [List.mem_singleton] at hu; rw [hu]; exact hv) (by unfold maxLen; omega) (by omega) (by simp; omega)
  obtain ⟨ad', cap', rfl⟩ : ∃ ad' cap', v' = .slice ad' (n + 1) cap' := by
    rcases h2.2 with ⟨_, h0⟩ | ⟨g, cap, cur, e, _⟩
    · omega
    · exact ⟨_, _, e⟩
  unfold Oper.wp execOp
  simp only [ho, resolve, invoke, builtin, Sem.run_bind, Sem.run_pure, Result.andThen_ok, List.map_toArray, List.map_cons, List.map_nil, hs, hx, hr]
  exact hK _ _ (h ad' cap' w' h2 ((ka.mono (fun _ _ h => h.elim)).trans ⟨h3.os, h3.tape, h3.output, h3.size, fun k hk hn => h3.block k hk (fun e => hn e.symm)⟩) (h5.imp id fun e => ⟨_, e, by simp⟩))
/-- the slice at first -/
theorem files_new {w1 wr : World} {p : Nat} {d : Ds} {k B : Nat} (h : Left w1 (c0 p) p d wr) (hC : CI d k B) (hB : B ≤ 70000000000) : Calls Try.prog 16 #[.pointer (some ⟨p, 0, none⟩)] wr fun e w2 => ∃ ad cap, e = .returned (.slice ad d.now.length cap) ∧ MayAt w1 p d [d.now] (.slice (some ⟨w2.heap.size, 0, none⟩) 1 1) (w2.alloc (.cells #[.slice ad d.now.length cap] 26)) := by
  obtain ⟨⟨c, D, hc⟩, K⟩ := h
  have hl := hC.len D
  have hsz := K.size
  refine (files_any p c d wr D hC.calm.dn (by omega) hC.calm.nm D.srt).mono fun e w2 ⟨v, he, hr, hk⟩ => ?_
  obtain ⟨ad, cap, rfl⟩ := row_form hr
  have hs2 := hk.size
  have ka := keep_alloc (fun _ => False) w2 (.cells #[.slice ad d.now.length cap] 26)
  have hkk := hk.trans ka
  refine ⟨ad, cap, he, [.slice ad d.now.length cap], fun j => if j < wr.heap.size then c j else 7, D.keep hkk (fun j hj => if_pos hj) (fun _ _ h => h.elim), fun j hj => ?_, K.then hkk (fun _ _ h => h.elim), rfl, ⟨rfl, .inr ⟨w2.heap.size, 1, _, rfl, by omega, heap_alloc_new _ _, Nat.le_refl _, by decide, rfl, rfl⟩⟩, fun g e => ?_, fun i hi h2 => ?_, fun u hu g e => ?_⟩
  · show (if j < wr.heap.size then c j else 7) = _
    rw [if_pos (by omega)]; exact hc j hj
  · simp [Value.ownBlock] at e
    subst e
    exact if_neg (by omega)
  · have hi0 : i = 0 := by simp at hi; omega
    subst hi0
    exact ka.ownsRow (ownsRow_base hr hsz) (fun _ _ h => h)
  · rw [List.mem_singleton] at hu
    subst hu
    have h1 := ownsRow_ge hr e
    have h2 := ownsRow_lt hr e
    exact ⟨if_neg (by omega), fun e2 => by simp [Value.ownBlock] at e2; omega⟩

/-- the files as they stood behind each change -/
structure Hist (d : Ds) (hs : List (List (Bs × Bs))) : Prop where
  len : hs.length = d.ws.length + 1
  at_ : ∀ i (h : i < hs.length), hs[i] = replay (d.ws.take i) d.S
  nm : ∀ A ∈ hs, ∀ x ∈ A, nameOk x.1 = true
theorem hist_new {d : Ds} (hws : d.ws = []) (hn : NmOk d) : Hist d [d.now] := by
  refine ⟨by rw [hws]; rfl, fun i hi => ?_, fun A hA x hx => ?_⟩
  · have hi0 : i = 0 := by simp at hi; omega
    subst hi0
    show replay d.ws d.S = _
    rw [hws]; rfl
  · rw [List.mem_singleton] at hA
    subst hA
    exact hn x hx
theorem Hist.next {d : Ds} {hs : List (List (Bs × Bs))} {k B : Nat} (h : Hist d hs) (hC : CI d k B) (a : AC) : ((calD d a).2 ≠ 0 ∧ (calD d a).1 = d) ∨ ((calD d a).2 = 0 ∧ Hist (calD d a).1 (hs ++ [(calD d a).1.now])) := by
  have hC2 := hC.call a
  rcases cal_calm hC.calm a with ⟨e, hne⟩ | ⟨ch, e, _⟩
  · exact .inl ⟨hne, e⟩
  · rw [e] at hC2 ⊢
    refine .inr ⟨rfl, ?_, fun i hi => ?_, fun A hA x hx => ?_⟩
    · show _ = (d.ws ++ [ch]).length + 1
      have := h.len
      simp; omega
    · have hl := h.len
      show _ = replay ((d.ws ++ [ch]).take i) d.S
      by_cases hi2 : i < hs.length
      · rw [List.getElem_append_left (h := hi2), h.at_ i hi2, List.take_append_of_le_length (by omega)]
      · have hi3 : i = hs.length := by simp at hi; omega
        subst hi3
        rw [List.getElem_append_right (by omega)]
        simp only [Nat.sub_self, List.getElem_cons_zero]
        rw [List.take_of_length_le (by simp; omega)]
        rfl
    · rcases List.mem_append.1 hA with hA | hA
      · exact h.nm A hA x hx
      · rw [List.mem_singleton] at hA
        subst hA
        exact hC2.calm.nm x hx
theorem fail_zero (d : Ds) (keep : Int) : failS d keep 0 = replay (d.ws.take (keepN d keep)) d.S := by
  unfold failS
  split
  · rfl
  · unfold tearC; rw [if_pos (.inl (Int.le_refl _))]
theorem take_sum (ws : List Chg) (k : Nat) : ((ws.take k).map fun ch => ch.s.length).sum ≤ (ws.map fun ch => ch.s.length).sum := by
  conv => rhs; rw [← List.take_append_drop k ws]
  rw [List.map_append, List.sum_append]
  omega
theorem pre_up {d : Ds} {hs : List (List (Bs × Bs))} {k B : Nat} (h : Hist d hs) (hC : CI d k B) (hS : Srt d.S) (hm : ∀ ch ∈ d.ws, ch.kind = 2 → ch.to ≠ ch.name) (keep : Int) : CI (upD d keep 0) k B ∧ ∃ hi : keepN d keep < hs.length, (upD d keep 0).now = hs[keepN d keep] := by
  have hk : keepN d keep ≤ d.ws.length := Nat.min_le_right _ _
  have hi : keepN d keep < hs.length := by rw [h.len]; omega
  have e := up_now hC.calm.dn keep 0
  rw [fail_zero] at e
  have hb := replay_bounds (d.ws.take (keepN d keep)) d.S hS (fun ch hc => hm ch (List.mem_of_mem_take hc))
  have hn : (upD d keep 0).now = hs[keepN d keep] := by rw [h.at_ _ hi, e]; rfl
  refine ⟨⟨⟨by rw [e], by rw [e]; exact hC.calm.fl, fun x hx => ?_⟩, by rw [e]; exact hC.bd, ?_, by rw [e]; exact hC.n⟩, hi, hn⟩
  · rw [hn] at hx
    exact h.nm _ (List.getElem_mem hi) x hx
  · rw [e]
    have hw := hC.wt
    have ht := take_sum d.ws (keepN d keep)
    show tot (replay (d.ws.take (keepN d keep)) d.S) + 0 + (replay (d.ws.take (keepN d keep)) d.S).length + 0 ≤ B
    unfold Ds.wt at hw
    have hl : (d.ws.take (keepN d keep)).length ≤ d.ws.length := by rw [List.length_take]; omega
    omega
end Go.Proofs.Ytnlodlpjokkepab
