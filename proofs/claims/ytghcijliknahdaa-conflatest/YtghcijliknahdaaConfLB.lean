/- Which configuration a log says last: the reference's walk; rows that grow side by side. -/
import Derived.Test.YtghcijliknahdaaConfL
namespace Go.Proofs.Ytghcijliknahdaa
open Go.RowKit Go.Maps
set_option linter.unusedVariables false
set_option linter.unusedSimpArgs false

/-- texts in memory -/
def StrJ (w : World) (v : Value) (l : List ByteArray) : Prop :=
  (∃ ad cap, v = .slice ad 0 cap ∧ l = []) ∨ ∃ b off cap, v = .slice (some ⟨b, off, none⟩) l.length cap ∧ b < w.heap.size ∧ ∀ j (hj : j < l.length), w.cell? ⟨b, off + j, none⟩ = some (.string l[j])
theorem StrJ.form {w : World} {v : Value} {l : List ByteArray} (h : StrJ w v l) : ∃ ad cap, v = .slice ad l.length cap ∧ ∀ k (hk : k < l.length), ∃ b off, ad = some ⟨b, off, none⟩ ∧ b < w.heap.size ∧ w.cell? ⟨b, off + k, none⟩ = some (.string l[k]) := by
  rcases h with ⟨ad, cap, rfl, rfl⟩ | ⟨b, off, cap, rfl, hb, hc⟩
  · exact ⟨ad, cap, rfl, fun k hk => absurd hk (by simp)⟩
  · exact ⟨_, cap, rfl, fun k hk => ⟨b, off, rfl, hb, hc k hk⟩⟩
theorem StrJ.next {w w' : World} {v : Value} {l : List ByteArray} (h : StrJ w v l) (hB : Below w.heap.size w w') : StrJ w' v l := by
  rcases h with ⟨ad, cap, rfl, rfl⟩ | ⟨b, off, cap, rfl, hb, hc⟩
  · exact .inl ⟨ad, cap, rfl, rfl⟩
  · exact .inr ⟨b, off, cap, rfl, Nat.lt_of_lt_of_le hb hB.size, fun j hj => by rw [← hc j hj]; exact hB.cell hb⟩
def ssC (l : List ByteArray) : List Value := l.map Value.string
theorem ssC_get (l : List ByteArray) (k : Nat) (hk : k < l.length) : (ssC l)[k]? = some (.string l[k]) := by simp [ssC, hk]
def OwnS (w : World) (B : Nat) (v : Value) (l : List ByteArray) : Prop := w.ownsRow B 9 1 v l.length (ssC l)
theorem OwnS.strs {w : World} {B : Nat} {v : Value} {l : List ByteArray} (h : OwnS w B v l) : StrJ w v l := by
  rcases gsrc_all h with ⟨c, e, h0, h1⟩ | ⟨g, off, c, e, hg, hc⟩
  · have hl : l = [] := List.length_eq_zero_iff.1 h0
    subst hl
    exact .inl ⟨none, c, e, rfl⟩
  · exact .inr ⟨g, off, c, e, hg, fun j hj => hc j _ (ssC_get l j hj)⟩
theorem elS : ElT 43 9 1 16 := ⟨Try.underlying43, ⟨.string ⟨#[]⟩, by kernel_rfl, rfl⟩, by decide⟩
/-- blocks of rows of unlike elements are not the same -/
theorem rows_apart {w : World} {B B' e e' n n' g : Nat} {v v' : Value} {xs ys : List Value} (h : w.ownsRow B e 1 v n xs) (h' : w.ownsRow B' e' 1 v' n' ys) (hne : e ≠ e') (hg : v.ownBlock = some g) : ¬ v'.ownBlock = some g := by
  intro hg'
  rcases h.2 with ⟨e0, _⟩ | ⟨g1, c1, cur1, e0, _, hb, _⟩
  · rw [e0] at hg; simp [Value.ownBlock] at hg
  · rcases h'.2 with ⟨e1, _⟩ | ⟨g2, c2, cur2, e1, _, hb', _⟩
    · rw [e1] at hg'; simp [Value.ownBlock] at hg'
    · rw [e0] at hg
      rw [e1] at hg'
      simp [Value.ownBlock] at hg hg'
      subst hg hg'
      rw [hb] at hb'
      injection hb' with hb'
      injection hb' with _ hb' _
      exact hne hb'
/-- both rows, and what lies below -/
structure Rws (w : World) (va : Value) (ka : List Int) (vb : Value) (sb : List ByteArray) (W : World) : Prop where
  a : OwnI W w.heap.size va ka
  b : OwnS W w.heap.size vb sb
  bel : Below w.heap.size w W
theorem Rws.al {w W : World} {va vb : Value} {ka : List Int} {sb : List ByteArray} (h : Rws w va ka vb sb W) (o : Obj) : Rws w va ka vb sb (W.alloc o) :=
  ⟨own_new h.a o, ((Below.refl W.heap.size W).alloc (Nat.le_refl _) o |>.keep (fun _ => False)).ownsRow h.b (fun _ _ h => h), below_al h.bel o⟩
theorem wpl_rwA {w W : World} {ops : Array Oper} {rest : List Oper} {o : Oper} {a : Act} {Q : Exit → Act → World → Prop} (hgd : o.guard = none) (sl x : Operand)
    (ho : o.op = .call { callee := .builtin .append, args := #[sl, x], argTypes := #[22, 22] }) (g n : Nat) (v vb : Value) (l : List Int) (sb : List ByteArray) (y : Int) (hn : l.length = n)
    (hs : a.eval sl = v) (hx : a.eval x = .slice (some ⟨g, 0, none⟩) 1 1) (h0 : Rws w v l vb sb W) (hg : RowIs W g [.int .i64 y] 3) (hl : (l.length + 1) * 8 ≤ 140737488355328)
    (h : ∀ ad' cap' w', Rws w (.slice ad' (n + 1) cap') (l ++ [y]) vb sb w' → wpList Try.prog ops Q rest (a.put o.dst (.slice ad' (n + 1) cap')) w') : wpList Try.prog ops Q (o :: rest) a W := by
  subst hn
  refine wpList_plain hgd fun K hK => ?_
  obtain ⟨ad', cap', w', hr, h2, h3⟩ := gappL (m := 1) (x := .slice (some ⟨g, 0, none⟩) 1 1) elInt o.type h0.a h0.bel.size (gsrc_block hg) rfl (fun u hu => by simp at hu; subst hu; rfl) (by omega) hl
  unfold Oper.wp execOp
  simp only [ho, resolve, invoke, builtin, Sem.run_bind, Sem.run_pure, Result.andThen_ok, List.map_toArray, List.map_cons, List.map_nil, hs, hx, hr]
  refine hK _ _ (h ad' cap' w' ⟨?_, h3.ownsRow h0.b (fun j hj e => rows_apart h0.b h0.a (by decide) hj e), h0.bel.trans (keep_below h3 (fun k hk e => ?_) h0.bel.size)⟩)
  · unfold OwnI
    rw [show isC (l ++ [y]) = isC l ++ [.int .i64 y] by simp [isC], show (l ++ [y]).length = l.length + 1 by simp]
    exact h2
  · have := ownsRow_ge h0.a e
    omega
theorem wpl_rwB {w W : World} {ops : Array Oper} {rest : List Oper} {o : Oper} {a : Act} {Q : Exit → Act → World → Prop} (hgd : o.guard = none) (sl x : Operand)
    (ho : o.op = .call { callee := .builtin .append, args := #[sl, x], argTypes := #[43, 43] }) (g n : Nat) (v va : Value) (ka : List Int) (l : List ByteArray) (y : ByteArray) (hn : l.length = n)
    (hs : a.eval sl = v) (hx : a.eval x = .slice (some ⟨g, 0, none⟩) 1 1) (h0 : Rws w va ka v l W) (hg : RowIs W g [.string y] 9) (hl : (l.length + 1) * 16 ≤ 140737488355328)
    (h : ∀ ad' cap' w', Rws w va ka (.slice ad' (n + 1) cap') (l ++ [y]) w' → wpList Try.prog ops Q rest (a.put o.dst (.slice ad' (n + 1) cap')) w') : wpList Try.prog ops Q (o :: rest) a W := by
  subst hn
  refine wpList_plain hgd fun K hK => ?_
  obtain ⟨ad', cap', w', hr, h2, h3⟩ := gappL (m := 1) (x := .slice (some ⟨g, 0, none⟩) 1 1) elS o.type h0.b h0.bel.size (gsrc_block hg) rfl (fun u hu => by simp at hu; subst hu; rfl) (by omega) hl
  unfold Oper.wp execOp
  simp only [ho, resolve, invoke, builtin, Sem.run_bind, Sem.run_pure, Result.andThen_ok, List.map_toArray, List.map_cons, List.map_nil, hs, hx, hr]
  refine hK _ _ (h ad' cap' w' ⟨h3.ownsRow h0.a (fun j hj e => rows_apart h0.a h0.b (by decide) hj e), ?_, h0.bel.trans (keep_below h3 (fun k hk e => ?_) h0.bel.size)⟩)
  · unfold OwnS
    rw [show ssC (l ++ [y]) = ssC l ++ [.string y] by simp [ssC], show (l ++ [y]).length = l.length + 1 by simp]
    exact h2
  · have := ownsRow_ge h0.b e
    omega
set_option maxRecDepth 100000 in
set_option maxHeartbeats 2000000 in
theorem rlatest_any (v va vb : Value) (base : List Int) (es : List En) (w : World) (hv : IntsI w v base) (ha : IntsI w va (es.map (·.kd))) (hb : StrJ w vb (es.map (·.da))) (hl2 : es.length ≤ 17592186044416) (hd : ∀ x ∈ es, x.da.size ≤ 140737488355328) :
    Calls Try.prog 30 #[v, va, vb] w fun e w' => ∃ v', e = .returned (.tuple #[v', .int .i64 ((latF ⟨base, 0⟩ 0 es).p : Nat)]) ∧ IntsI w' v' (latF ⟨base, 0⟩ 0 es).l ∧ Below w.heap.size w w' := by
  obtain ⟨ada, capa, rfl, hca⟩ := ha.form
  obtain ⟨adb, capb, rfl, hcb⟩ := hb.form
  rw [List.length_map, List.length_map]
  have HCA : Hid (∀ k (hk : k < es.length), ∃ b off, ada = some ⟨b, off, none⟩ ∧ b < w.heap.size ∧ w.cell? ⟨b, off + k, none⟩ = some (.int .i64 es[k].kd)) := fun k hk => by
    obtain ⟨b, off, h1, h2, h3⟩ := hca k (by simpa using hk)
    exact ⟨b, off, h1, h2, by simpa using h3⟩
  have HCB : Hid (∀ k (hk : k < es.length), ∃ b off, adb = some ⟨b, off, none⟩ ∧ b < w.heap.size ∧ w.cell? ⟨b, off + k, none⟩ = some (.string es[k].da)) := fun k hk => by
    obtain ⟨b, off, h1, h2, h3⟩ := hcb k (by simpa using hk)
    exact ⟨b, off, h1, h2, by simpa using h3⟩
  have DC : Hid (∀ (s : ByteArray) W, s.size ≤ 140737488355328 → Below w.heap.size w W → Calls Try.prog 28 #[.string s] W fun e w' => ∃ v', e = .returned (.tuple #[v', .int .i64 (decE s)]) ∧ Hid (IntsI w' v' (decV s)) ∧ Hid (Below w.heap.size w w') ∧ Hid (Below W.heap.size W w')) := fun s W hs hW => (rdecode_any s W hs).mono fun e w' ⟨v', he, hi, hb, _⟩ => ⟨v', he, hi, below_on hW hb, hb⟩
  have HR0 : Hid (∃ R, R = latF ⟨base, 0⟩ 0 es) := ⟨_, rfl⟩
  obtain ⟨R, hR⟩ := HR0.out
  have HR : Hid (R = latF ⟨base, 0⟩ 0 (es.drop 0)) := hR
  rw [← hR]
  have HD := hid hd
  have HL := hid hl2
  have HV := hid hv
  clear hca hcb ha hb hv hl2 hd hR HR0
  go_enter Try.func30, Try.ntmps30
  go_wp2
  go_loopw [8, 9, 10] (fun t p i wr => ∃ (k : Nat) (c : List Int) (q : Nat), k ≤ es.length ∧ p = .int .i64 (q : Int) ∧ i = .int .i64 (k : Int) ∧ Hid (IntsI wr t c) ∧ Hid (Below w.heap.size w wr) ∧ Hid (R = latF ⟨c, q⟩ k (es.drop k))) (fun _ _ i _ => es.length - (intOf i).toNat)
  case atStart => exact ⟨0, base, 0, Nat.zero_le _, rfl, rfl, HV, Below.refl _ _, HR⟩
  case round =>
    clear HR HV
    obtain ⟨k, c, q, hk, rfl, rfl, IC, HB, HR⟩ := hrel
    by_cases hlt : k < es.length
    · have hk0 : (0 : Int) ≤ (k : Int) := by omega
      have hk1 : (k : Int) < (es.length : Int) := by omega
      obtain ⟨b, off, rfl, hb, hc⟩ := HCA.out k hlt
      obtain ⟨b2, off2, rfl, hb2, hc2⟩ := HCB.out k hlt
      have d1 := (HB.out.cell (p := ⟨b, off + k, none⟩) hb).trans hc
      have d2 := (HB.out.cell (p := ⟨b2, off2 + k, none⟩) hb2).trans hc2
      have hwk : wrap64 ((k : Int) + 1) = ((k + 1 : Nat) : Int) := by have := HL.out; rw [IntWalk.wrap64_in _ (by omega)]; omega
      have HRA := hid (latF_at (a := ⟨c, q⟩) hlt)
      have HDQ := hid (HD.out es[k] (List.getElem_mem hlt))
      have HLT := hid hlt
      have D1 := hid (DC.out es[k].da wr HDQ.out HB.out)
      have HST : Hid (stpL k ⟨c, q⟩ es[k] = if ((es[k].kd == 2) && decOk es[k].da) = true then ⟨decV es[k].da, k + 1⟩ else ⟨c, q⟩) := rfl
      have DI := hid (show decE es[k].da = if decOk es[k].da = true then 0 else 3 from rfl)
      generalize es[k] = x at *
      obtain ⟨tm, kd, da⟩ := x
      simp only at *
      generalize stpL k ⟨c, q⟩ ⟨tm, kd, da⟩ = S at *
      generalize decOk da = OK at *
      generalize decE da = DE at *
      generalize decV da = DV at *
      clear HCA HCB hb hb2 hc hc2 HD HL DC HDQ hlt hk
      by_cases h2 : kd = 2
      · subst h2
        have hn2 : ((2 : Int) != 2) = false := rfl
        cases OK
        · have hde : DE = 3 := DI.out
          subst hde
          have HS2 : Hid (S = ⟨c, q⟩) := HST.out
          have HR2 : Hid (R = latF ⟨c, q⟩ (k + 1) (es.drop (k + 1))) := by show _ = _; rw [HR.out, HRA.out, HS2.out]
          clear HR HRA HST HS2 DI
          go_wp2_with fail
          refine D1.out.mono ?_
          rintro e w3 ⟨v', rfl, I3, B3, K3⟩
          have IC3 := hid (IC.out.next K3.out)
          clear D1 d1 d2 K3
          go_wp2
          exact ⟨⟨k + 1, c, q, HLT.out, rfl, by first | rw [hwk] | rfl | simp, IC3, B3, HR2⟩, by rw [hwk]; have := HLT.out; simp [intOf]; omega⟩
        · have hde : DE = 0 := DI.out
          subst hde
          have HS2 : Hid (S = ⟨DV, k + 1⟩) := HST.out
          have HR2 : Hid (R = latF ⟨DV, k + 1⟩ (k + 1) (es.drop (k + 1))) := by show _ = _; rw [HR.out, HRA.out, HS2.out]
          clear HR HRA HST HS2 DI IC
          go_wp2_with fail
          refine D1.out.mono ?_
          rintro e w3 ⟨v', rfl, I3, B3, K3⟩
          clear D1 d1 d2 K3
          go_wp2
          exact ⟨⟨k + 1, DV, k + 1, HLT.out, by first | rw [hwk] | rfl | simp, by first | rw [hwk] | rfl | simp, I3, B3, HR2⟩, by rw [hwk]; have := HLT.out; simp [intOf]; omega⟩
      · have hn2 : (kd != 2) = true := by rw [bne_iff_ne]; exact h2
        have HS2 : Hid (S = ⟨c, q⟩) := by show _ = _; rw [HST.out, beq_eq_false_iff_ne.2 h2]; rfl
        have HR2 : Hid (R = latF ⟨c, q⟩ (k + 1) (es.drop (k + 1))) := by show _ = _; rw [HR.out, HRA.out, HS2.out]
        clear HR HRA HST HS2 DI D1 h2
        go_wp2
        exact ⟨⟨k + 1, c, q, HLT.out, rfl, by first | rw [hwk] | rfl | simp, IC, HB, HR2⟩, by rw [hwk]; have := HLT.out; simp [intOf]; omega⟩
    · have hk9 : k = es.length := by omega
      subst hk9
      have hdl : decide ((es.length : Int) < (es.length : Int)) = false := decide_eq_false (by omega)
      have HR2 : Hid (R = ⟨c, q⟩) := by show _ = _; rw [HR.out, List.drop_length]; rfl
      clear HR HCA HCB HD HL DC
      go_wp2
      go_ret2
      rw [HR2.out]
      exact ⟨_, rfl, IC.out, HB.out⟩
end Go.Proofs.Ytghcijliknahdaa
