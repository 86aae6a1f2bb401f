/- The walks of the laws' own reading of all files, and of their being the same. -/
import Derived.Test.YtnlodlpjokkepabIterW
namespace Go.Proofs.Ytnlodlpjokkepab
open Go.RowKit Go.Maps
set_option linter.unusedVariables false
set_option linter.unusedSimpArgs false

/-- files as cells -/
def fC1 (x : Bs × Bs) : List Value := [.string (tx x.1), .string (tx x.2)]
def fC (A : List (Bs × Bs)) : List Value := A.flatMap fC1
theorem fC_get : ∀ (A : List (Bs × Bs)) (i : Nat) (h : i < A.length) (j : Nat), j < 2 → (fC A)[i * 2 + j]? = (fC1 A[i])[j]?
  | x :: r, 0, _, j, hj => by
    show (fC1 x ++ fC r)[0 * 2 + j]? = _
    rw [List.getElem?_append_left (by simp [fC1]; omega)]
    simp
  | x :: r, i + 1, h, j, hj => by
    show (fC1 x ++ fC r)[(i + 1) * 2 + j]? = _
    rw [List.getElem?_append_right (by simp [fC1]; omega), show (i + 1) * 2 + j - (fC1 x).length = i * 2 + j by simp [fC1]; omega]
    exact fC_get r i (by simpa using h) j hj
theorem fC1_cell1 (x : Bs × Bs) : ∀ u ∈ fC1 x, u.oneCell' = true := by
  intro u hu
  simp [fC1] at hu
  rcases hu with rfl | rfl <;> rfl
theorem info50 : (Try.prog.info? 50).map (fun i => (i.zero, i.size, i.bytes)) = some (some (.agg #[.string ⟨#[]⟩, .string ⟨#[]⟩]), 2, 32) := by kernel_rfl

/-- 'append(out, f)' at the operation -/
theorem wpl_file {w : World} {ops : Array Oper} {rest : List Oper} {o : Oper} {a : Act} {Q : Exit → Act → World → Prop} (hgd : o.guard = none) (sl x : Operand)
    (ho : o.op = .call { callee := .builtin .append, args := #[sl, x], argTypes := #[26, 26] }) (B : Nat) (v : Value) (fs : List (Bs × Bs)) (n : Nat) (hn : n = fs.length) (y : Bs × Bs) (w0 : World) (Mc : Array Value) (hMc : Mc = (fC1 y).toArray) (hw : w = w0.alloc (.cells Mc 50))
    (hs : a.eval sl = v) (hx : a.eval x = .slice (some ⟨w0.heap.size, 0, none⟩) 1 1) (h0 : w0.ownsRow B 50 2 v n (fC fs)) (hB : B ≤ w0.heap.size) (hl : n ≤ 70368744177)
    (h : ∀ ad' cap' w', w'.ownsRow B 50 2 (.slice ad' (n + 1) cap') (n + 1) (fC (fs ++ [y])) → Keep (fun k => v.ownBlock = some k) w0 w' → wpList Try.prog ops Q rest (a.put o.dst (.slice ad' (n + 1) cap')) w') : wpList Try.prog ops Q (o :: rest) a w := by
  subst hMc hw hn
  refine wpList_plain hgd fun K hK => ?_
  obtain ⟨i0, hi, hz0, hz1, hz2⟩ := info_parts info50
  have ka := keep_alloc (fun _ => False) w0 (.cells (fC1 y).toArray 50)
  obtain ⟨v', w', hr, h2, h3, h4, h5⟩ := run_append_own_at (P := Try.prog) (w0.alloc (.cells (fC1 y).toArray 50)) B 26 o.type 50 i0 _ 2 32 Try.underlying26 hi hz0 hz1 hz2 rfl (by decide) v fs.length (fC fs) (ka.ownsRow h0 (fun _ _ h => h)) ⟨w0.heap.size, 0, none⟩ 1 1 (fC1 y) rfl
    (fun j u hu => by rw [Addr.add_lit, Nat.zero_add, cell_of_row _ _ _ _ _ _ (heap_alloc_new _ _)]; simpa using hu) (fC1_cell1 y) (by unfold maxLen; omega) (by omega) (by simp; omega)
  obtain ⟨ad', cap', rfl⟩ : ∃ ad' cap', v' = .slice ad' (fs.length + 1) cap' := by
    rcases h2.2 with ⟨_, h0⟩ | ⟨g, cap, cur, e, _⟩
    · omega
    · exact ⟨_, _, e⟩
  unfold Oper.wp execOp
  simp only [ho, resolve, invoke, builtin, Sem.run_bind, Sem.run_pure, Result.andThen_ok, List.map_toArray, List.map_cons, List.map_nil, hs, hx, hr]
  exact hK _ _ (h ad' cap' w' (by rw [show fC (fs ++ [y]) = fC fs ++ fC1 y by simp [fC]]; exact h2) ((ka.mono (fun _ _ h => h.elim)).trans ⟨h3.os, h3.tape, h3.output, h3.size, fun k hk hn => h3.block k hk (fun e => hn e.symm)⟩))

/-- each name of the files that are may be one -/
def NmOk (d : Ds) : Prop := ∀ x ∈ d.now, nameOk x.1 = true

set_option maxRecDepth 100000 in
set_option maxHeartbeats 2000000 in
theorem files_any (p : Nat) (c : Nat → Nat) (d : Ds) (w : World) (h : DiskIs w c p d) (hdn : d.dn = false) (hl : d.now.length ≤ 70368744177) (hnm : NmOk d) (hs : Srt d.now) :
    Calls Try.prog 16 #[.pointer (some ⟨p, 0, none⟩)] w fun e w' => ∃ v, e = .returned v ∧ w'.ownsRow w.heap.size 50 2 v d.now.length (fC d.now) ∧ Keep (fun _ => False) w w' := by
  have NA := hid (names_any keysC sortedC p c d w h hdn hl (fun x hx => nameOk_len (hnm x hx)))
  have RD : Hid (∀ (k : Nat) (hk : k < d.now.length) (W : World), Keep (fun _ => False) w W → Calls Try.prog 20 #[.pointer (some ⟨p, 0, none⟩), .string (tx (d.now[k]).1)] W fun e w' => e = .returned (.tuple #[.string (tx (d.now[k]).2), .int .i64 0]) ∧ Keep (fun _ => False) W w') := by
    intro k hk W hW
    have hD := h.keep hW (c' := c) (fun _ _ => rfl) (fun _ _ h => h.elim)
    have := read_any p c d (d.now[k]).1 W hD
    have e : rdD d (d.now[k]).1 = ((d.now[k]).2, 0) := by
      unfold rdD
      rw [if_neg (by rw [hdn]; decide), if_neg (by rw [hnm _ (List.getElem_mem hk)]; decide), srt_mem hs (n := (d.now[k]).1) (v := (d.now[k]).2) (List.getElem_mem hk)]
    rw [e] at this
    exact this
  have HT : Hid (∀ (k : Nat) (hk : k < d.now.length), d.now.take k ++ [d.now[k]] = d.now.take (k + 1)) := fun k hk => (List.take_succ_eq_append_getElem hk).symm
  have HN : Hid (∀ (k : Nat) (hk : k < d.now.length), (nmC d.now)[k]? = some (.string (tx (d.now[k]).1))) := fun k hk => by show _ = _; simp [nmC, hk]
  clear h hdn hnm hs
  generalize d.now = A at *
  go_enter Try.func16, Try.ntmps16
  go_wp2_with fail
  refine NA.out.mono ?_
  rintro e w2 ⟨v, rfl, hr2, hk2⟩
  clear NA
  by_cases h0 : A.length = 0
  · have hv : ∃ ad cap, v = .slice ad 0 cap := by
      rcases hr2.2 with ⟨e, _⟩ | ⟨g, cap, cur, e, _⟩
      · exact ⟨none, 0, e⟩
      · exact ⟨_, cap, by rw [e, h0]⟩
    obtain ⟨ad, cap, rfl⟩ := hv
    have hA : A = [] := List.length_eq_zero_iff.1 h0
    subst hA
    have HK := hid hk2
    clear hr2 hk2 RD HT HN hl h0
    go_wp2
    go_loopw [3, 5] (fun o i wr => o = .slice none 0 0 ∧ i = .int .i64 0 ∧ wr = w2) (fun _ _ _ => 0)
    case atStart => exact ⟨rfl, rfl, rfl⟩
    case round =>
      obtain ⟨rfl, rfl, rfl⟩ := hrel
      go_wp2
      go_ret
      exact ⟨_, rfl, ⟨rfl, .inl ⟨rfl, rfl⟩⟩, HK.out⟩
  · obtain ⟨g, cap, cur, e, hg, hb, _⟩ : ∃ g cap cur, v = .slice (some ⟨g, 0, none⟩) A.length cap ∧ w.heap.size ≤ g ∧ w2.heap[g]? = some (.cells cur 9 (0, 0)) ∧ True := by
      rcases hr2.2 with ⟨_, e⟩ | ⟨g, cap, cur, e, hg, hb, _⟩
      · exact absurd e h0
      · exact ⟨g, cap, cur, e, hg, hb, trivial⟩
    subst e
    have hgl : g < w2.heap.size := (Array.getElem?_eq_some_iff.1 hb).1
    have HR2 := hid hr2
    have HK2 := hid hk2
    have HW : Hid (w.heap.size ≤ w2.heap.size) := hk2.size
    have H0 : Hid (w2.ownsRow w2.heap.size 50 2 (.slice none 0 0) 0 (fC (A.take 0))) := ⟨rfl, .inl ⟨rfl, rfl⟩⟩
    clear hr2 hk2 hb hg h0
    go_wp2
    go_loopw [3, 5] (fun o i wr => ∃ (k : Nat), k ≤ A.length ∧ i = .int .i64 k ∧ (∃ ad cp, o = .slice ad k cp) ∧ Hid (wr.ownsRow w2.heap.size 50 2 o k (fC (A.take k))) ∧ Hid (Keep (fun _ => False) w2 wr)) (fun _ i _ => A.length - (intOf i).toNat)
    case atStart => exact ⟨0, by omega, rfl, ⟨none, 0, rfl⟩, H0, Keep.refl _ _⟩
    case round =>
      clear H0
      obtain ⟨k, hk, rfl, ⟨ad, cp, rfl⟩, HO, HK⟩ := hrel
      by_cases hlt : k < A.length
      · have hk0 : (0 : Int) ≤ (k : Int) := by omega
        have hk1 : (k : Int) < (A.length : Int) := by omega
        have hcn := HN.out k hlt
        have hrw := HK.out.ownsRow HR2.out (fun _ _ h => h)
        have hc := (owns_cell hrw hcn).1
        have R1 := hid (RD.out k hlt wr (HK2.out.trans HK.out))
        have HT1 := hid (HT.out k hlt)
        have HTL : Hid ((A.take k).length = k) := by show _ = _; rw [List.length_take]; omega
        have hcl : g < wr.heap.size := Nat.lt_of_lt_of_le hgl HK.out.size
        clear hcn hrw RD HT HN
        generalize A[k] = y at *
        have hkk : k ≤ 70368744177 := by omega
        go_wp2_with fail
        refine R1.out.mono ?_
        rintro e w5 ⟨rfl, hk5⟩
        have c5 := (hk5.cell (o := k) hcl (fun h => h)).trans hc
        have HO5 := hid (hk5.ownsRow HO.out (fun _ _ h => h))
        have HB5 : Hid (w2.heap.size ≤ w5.heap.size) := Nat.le_trans HK.out.size hk5.size
        have HK5 := hid (HK.out.trans hk5)
        have HKK := hid hkk
        have HTS : Hid (k = (A.take k).length) := HTL.out.symm
        have HMc : Hid (#[Value.string (tx y.1), .string (tx y.2)] = (fC1 y).toArray) := rfl
        clear R1 HO HK hk5 hc hcl hkk HTL
        go_wp2_with (at_builtin; refine wpl_file rfl _ _ rfl w2.heap.size (.slice ad k cp) (A.take k) k HTS.out y w5 _ HMc.out rfl rfl rfl HO5.out HB5.out HKK.out ?_; intro ad1 cap1 w6 hr6 hk6)
        rw [HT1.out] at hr6
        have HO6 := hid hr6
        have HK6 : Hid (Keep (fun _ => False) w2 w6) := HK5.out.then hk6 (fun j hj e => by
          rcases HO5.out.2 with ⟨e2, _⟩ | ⟨g', cap', cur, e2, hg', _⟩
          · rw [e2] at e; simp [Value.ownBlock] at e
          · rw [e2] at e; simp [Value.ownBlock] at e; omega)
        clear hr6 hk6 HO5 HB5 HK5 HT1 HMc HTS c5
        go_wp2
        exact ⟨⟨k + 1, by omega, by go_num, ⟨_, _, rfl⟩, HO6, HK6⟩, by simp [intOf]; omega⟩
      · have hd : decide ((k : Int) < (A.length : Int)) = false := decide_eq_false (by omega)
        have hkl : k = A.length := by omega
        have HE : Hid (wr.ownsRow w.heap.size 50 2 (.slice ad k cp) A.length (fC A)) := by
          have h := HO.out
          subst hkl
          rw [List.take_of_length_le (Nat.le_refl _)] at h
          refine ⟨h.1, h.2.imp id ?_⟩
          rintro ⟨g, cap, cur, e, hg, r⟩
          exact ⟨g, cap, cur, e, Nat.le_trans HW.out hg, r⟩
        have HKF := hid (HK2.out.trans HK.out)
        clear HO HK RD HT HN HR2 HK2 hkl
        go_wp2
        go_ret
        exact ⟨_, rfl, HE.out, HKF.out⟩
end Go.Proofs.Ytnlodlpjokkepab
