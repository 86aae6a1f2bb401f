/- What is put together of parts: together. -/
import Derived.Test.YtbiapepalkdkdabPjB
import Derived.Test.YtbiapepalkdkdabJoined12
import Derived.Test.YtbiapepalkdkdabJoined07
namespace Go.Proofs.Ytbiapepalkdkdab
open Go.RowKit Go.Maps
set_option linter.unusedVariables false
set_option linter.unusedSimpArgs false

theorem elS9 : ElT 41 9 1 16 := ⟨Try.underlying41, ⟨.string ⟨#[]⟩, by kernel_rfl, rfl⟩, by decide⟩
theorem pcsC_app (a b : List Pc) : pcsC (a ++ b) = pcsC a ++ pcsC b := List.flatMap_append
theorem pcsC_cell (l : List Pc) : ∀ u ∈ pcsC l, u.oneCell' = true := by
  intro u hu
  obtain ⟨y, hy, hu⟩ := List.mem_flatMap.1 hu
  simp [pcC] at hu
  rcases hu with rfl | rfl <;> rfl
theorem ss_app9 (a b : List ByteArray) : ss (a ++ b) = ss a ++ ss b := List.map_append
theorem strs_own9 {w : World} {B : Nat} {v : Value} {l : List ByteArray} (h : w.ownsRow B 9 1 v l.length (ss l)) : Strs w v l := by
  rcases gsrc_all h with ⟨c, e, h0, h1⟩ | ⟨g, off, c, e, hg, hc⟩
  · exact .inl ⟨List.length_eq_zero_iff.1 h0, none, c, e⟩
  · refine .inr ⟨g, off, c, e, hg, fun j hj => hc j _ ?_⟩
    simp [ss, hj, List.getD_eq_getElem?_getD]
/-- the digest that is told of digests -/
def dgT (xs : List ByteArray) : ByteArray := ⟨(hexL (sha (tld 77 xs))).toArray⟩
theorem step_gappS {w w0 : World} {ops : Array Oper} {o : Oper} {a : Act} {K : Act → World → Prop} {Q : Exit → Act → World → Prop} {E : Prop} (hgd : o.guard = none) (sl x : Operand) {st e size bytes : Nat} (T : ElT st e size bytes)
    (ho : o.op = .call { callee := .builtin .append, args := #[sl, x], argTypes := #[st, st] }) (B : Nat) (v xv : Value) (xs cs : List Value) (n m nm : Nat) (hnm : n + m = nm) (hk : Keep (fun _ => False) w0 w)
    (hs : a.eval sl = v) (hx : a.eval x = xv) (h0 : w0.ownsRow B e size v n xs) (hB : B ≤ w0.heap.size) (hX : RowC w0 xv m cs) (hcs : cs.length = m * size) (h1 : ∀ u ∈ cs, u.oneCell' = true) (hl : nm ≤ 70368744177) (hby : nm * bytes ≤ 140737488355328)
    (h : ∀ ad' cap' w', w'.ownsRow B e size (.slice ad' nm cap') nm (xs ++ cs) → Keep (fun k => v.ownBlock = some k) w0 w' → K (a.put o.dst (.slice ad' nm cap')) w') : if Region.wanted o (yielded ops a.tmps) = true then Oper.wp Try.prog o a w K Q else E := by
  subst hnm
  have hwn : Region.wanted o (yielded ops a.tmps) = true := by simp [Region.wanted, hgd]
  rw [if_pos hwn]
  obtain ⟨ad', cap', w', hr, h2, h3⟩ := gappR T o.type (hk.ownsRow h0 (fun _ _ h => h)) (Nat.le_trans hB hk.size) (hX.keep hk (fun _ _ h => h)) hcs h1 (by omega) hby
  unfold Oper.wp execOp
  simp only [ho, resolve, invoke, builtin, Sem.run_bind, Sem.run_pure, Result.andThen_ok, List.map_toArray, List.map_cons, List.map_nil, hs, hx, hr, Oper.upon]
  exact h ad' cap' w' h2 ((hk.mono (fun _ _ h => h.elim)).trans h3)
/-- the boxes of together: the result's, the version that grows, its pieces, the sums -/
structure TgS (w : World) (sz : Int) (ps : List Pc) (sm : List ByteArray) (pv sv : Value) (W : World) : Prop where
  r2 : RowIs W w.heap.size [.int .i64 0, .bool false, .int .i64 0, .string ⟨#[]⟩, .slice none 0 0] 47
  r3 : RowIs W (w.heap.size + 1) [.int .i64 0, .bool false, .int .i64 sz, .string ⟨#[]⟩, pv] 47
  p : W.ownsRow (w.heap.size + 2) 69 2 pv ps.length (pcsC ps)
  s : W.ownsRow (w.heap.size + 2) 9 1 sv sm.length (ss sm)
  b : Below w.heap.size w W
section
variable {w W W' : World} {sz : Int} {ps : List Pc} {sm : List ByteArray} {pv sv : Value}
theorem TgS.next (h : TgS w sz ps sm pv sv W) (hb : Below W.heap.size W W') : TgS w sz ps sm pv sv W' :=
  ⟨h.r2.keep (hb.keep (fun _ => False)) (fun h => h), h.r3.keep (hb.keep (fun _ => False)) (fun h => h), (hb.keep (fun _ => False)).ownsRow h.p (fun _ _ h => h), (hb.keep (fun _ => False)).ownsRow h.s (fun _ _ h => h), below_on h.b hb⟩
theorem TgS.drew (h : TgS w sz ps sm pv sv W) : TgS w sz ps sm pv sv W.drew := h.next (Below.refl _ _).drew
theorem TgS.size (h : TgS w sz ps sm pv sv W) : w.heap.size + 2 ≤ W.heap.size := h.r3.lt
theorem TgS.setSz (h : TgS w sz ps sm pv sv W) (z : Int) : TgS w z ps sm pv sv (W.setCell ⟨w.heap.size + 1, 2, none⟩ (.int .i64 z)) := by
  have kS := keep_setCell W (w.heap.size + 1) 2 (.int .i64 z)
  exact ⟨h.r2.keep kS (by omega), h.r3.set 2 (.int .i64 z), kS.ownsRow h.p (fun g hg e => by have := ownsRow_ge h.p hg; omega), kS.ownsRow h.s (fun g hg e => by have := ownsRow_ge h.s hg; omega), h.b.trans (keep_below kS (fun k hk e => by omega) h.b.size)⟩
end
theorem box_apart {w : World} {g t B e s n : Nat} {v : Value} {cs xs : List Value} (h : RowIs w g cs t) (h' : w.ownsRow B e s v n xs) (hne : t ≠ e) : ¬ v.ownBlock = some g := by
  intro hg
  rcases h'.2 with ⟨e0, _⟩ | ⟨g1, c1, cur1, e0, _, hb, _⟩
  · rw [e0] at hg; simp [Value.ownBlock] at hg
  · rw [e0] at hg
    simp [Value.ownBlock] at hg
    subst hg
    unfold RowIs at h
    rw [hb] at h
    injection h with h
    injection h with _ h _
    exact hne h.symm
theorem box_ne {w : World} {g g' t t' : Nat} {cs cs' : List Value} (h : RowIs w g cs t) (h' : RowIs w g' cs' t') (hne : t ≠ t') : ¬ g = g' := by
  intro e
  subst e
  unfold RowIs at h h'
  rw [h] at h'
  injection h' with h'
  injection h' with _ h' _
  exact hne h'
section
variable {w W W' : World} {sz : Int} {ps : List Pc} {sm : List ByteArray} {pv sv : Value}
theorem TgS.appS (h : TgS w sz ps sm pv sv W) {x : ByteArray} {sv' : Value} (hr : W'.ownsRow (w.heap.size + 2) 9 1 sv' (sm.length + 1) (ss sm ++ [.string x])) (hk : Keep (fun j => sv.ownBlock = some j) W W') : TgS w sz ps (sm ++ [x]) pv sv' W' := by
  have hp : w.heap.size + 2 ≤ W.heap.size := h.size
  refine ⟨h.r2.keep hk (fun e => by have := ownsRow_ge h.s e; omega), h.r3.keep hk (fun e => by have := ownsRow_ge h.s e; omega), hk.ownsRow h.p (fun g hg e => rows_apart2 h.p h.s (by decide) hg e), ?_, h.b.trans (keep_below hk (fun j hj e => by have := ownsRow_ge h.s e; omega) h.b.size)⟩
  rw [ss_app9, List.length_append]
  exact hr
end

/-- the same, with the part of the round in a box -/
structure TgQ (w : World) (g : Nat) (cs : List Value) (sz : Int) (ps : List Pc) (sm : List ByteArray) (pv sv : Value) (W : World) : Prop where
  t : TgS w sz ps sm pv sv W
  r : RowIs W g cs 25
section
variable {w W W' : World} {g : Nat} {cs : List Value} {sz : Int} {ps : List Pc} {sm : List ByteArray} {pv sv : Value}
theorem TgQ.next (h : TgQ w g cs sz ps sm pv sv W) (hb : Below W.heap.size W W') : TgQ w g cs sz ps sm pv sv W' := ⟨h.t.next hb, h.r.keep (hb.keep (fun _ => False)) (fun h => h)⟩
theorem TgQ.drew (h : TgQ w g cs sz ps sm pv sv W) : TgQ w g cs sz ps sm pv sv W.drew := h.next (Below.refl _ _).drew
theorem TgQ.al (h : TgQ w g cs sz ps sm pv sv W) (o : Obj) : TgQ w g cs sz ps sm pv sv (W.alloc o) := h.next ((Below.refl _ _).alloc (Nat.le_refl _) o)
theorem TgQ.setSz (h : TgQ w g cs sz ps sm pv sv W) (z : Int) : TgQ w g cs z ps sm pv sv (W.setCell ⟨w.heap.size + 1, 2, none⟩ (.int .i64 z)) :=
  ⟨h.t.setSz z, h.r.keep (keep_setCell W (w.heap.size + 1) 2 (.int .i64 z)) (box_ne h.r h.t.r3 (by decide))⟩
/-- the pieces grown, and stored -/
theorem TgQ.app (h : TgQ w g cs sz ps sm pv sv W) {qs : List Pc} {pv' : Value} {n : Nat} (hn : n = (ps ++ qs).length) (hr : W'.ownsRow (w.heap.size + 2) 69 2 pv' n (pcsC ps ++ pcsC qs)) (hk : Keep (fun j => pv.ownBlock = some j) W W') :
    W'.cell? ⟨w.heap.size + 1, 4, none⟩ = some pv ∧ W'.frozen? ⟨w.heap.size + 1, 4, none⟩ = false ∧ (∀ o v, cs[o]? = some v → W'.cell? ⟨g, o, none⟩ = some v ∧ (W'.setCell ⟨w.heap.size + 1, 4, none⟩ pv').cell? ⟨g, o, none⟩ = some v) ∧ TgQ w g cs sz (ps ++ qs) sm pv' sv (W'.setCell ⟨w.heap.size + 1, 4, none⟩ pv') := by
  have hp : w.heap.size + 2 ≤ W.heap.size := h.t.size
  have r2 := h.t.r2.keep hk (fun e => by have := ownsRow_ge h.t.p e; omega)
  have r3 := h.t.r3.keep hk (fun e => by have := ownsRow_ge h.t.p e; omega)
  have r := h.r.keep hk (box_apart h.r h.t.p (by decide))
  have s := hk.ownsRow h.t.s (fun g hg e => rows_apart2 h.t.s h.t.p (by decide) hg e)
  have b : Below w.heap.size w W' := h.t.b.trans (keep_below hk (fun j hj e => by have := ownsRow_ge h.t.p e; omega) h.t.b.size)
  have kS := keep_setCell W' (w.heap.size + 1) 4 pv'
  have rr := r.keep kS (box_ne r r3 (by decide))
  refine ⟨r3.cellAt rfl, r3.frozen, fun o v hv => ⟨r.cellAt hv, rr.cellAt hv⟩, ⟨⟨r2.keep kS (by omega), r3.set 4 pv', ?_, kS.ownsRow s (fun g hg e => by have := ownsRow_ge s hg; omega), b.trans (keep_below kS (fun k hk e => by omega) b.size)⟩, rr⟩⟩
  have hr2 := kS.ownsRow hr (fun g hg e => by have := ownsRow_ge hr hg; omega)
  rw [hn] at hr2
  rw [pcsC_app]
  exact hr2
theorem TgQ.cell (h : TgQ w g cs sz ps sm pv sv W) {o : Nat} {v : Value} (hv : cs[o]? = some v) : W.cell? ⟨g, o, none⟩ = some v := h.r.cellAt hv
end
theorem TgS.made (w : World) : TgS w 0 [] [] (.slice none 0 0) (.slice none 0 0) ((w.alloc (.cells #[.int .i64 0, .bool false, .int .i64 0, .string ⟨#[]⟩, .slice none 0 0] 47)).alloc (.cells #[.int .i64 0, .bool false, .int .i64 0, .string ⟨#[]⟩, .slice none 0 0] 47)) := by
  have h1 := srow w [.int .i64 0, .bool false, .int .i64 0, .string ⟨#[]⟩, .slice none 0 0] 47
  have h2 := srow (w.alloc (.cells #[.int .i64 0, .bool false, .int .i64 0, .string ⟨#[]⟩, .slice none 0 0] 47)) [.int .i64 0, .bool false, .int .i64 0, .string ⟨#[]⟩, .slice none 0 0] 47
  have hz : (w.alloc (.cells #[.int .i64 0, .bool false, .int .i64 0, .string ⟨#[]⟩, .slice none 0 0] 47)).heap.size = w.heap.size + 1 := by simp
  rw [hz] at h2
  exact ⟨h1.keep (keep_alloc (fun _ => False) _ _) (fun h => h), h2, ⟨rfl, .inl ⟨rfl, rfl⟩⟩, ⟨rfl, .inl ⟨rfl, rfl⟩⟩, below_al (below_al (Below.refl _ _) _) _⟩
theorem sumT_room {l : List Pt} (h : ∀ x ∈ l, ptOk x = true) : room (sumT l) = 74 * l.length := by
  induction l with
  | nil => rfl
  | cons x r ih =>
    have h1 := (ptOk_b (h x (by simp))).2.2.2
    have h2 := ih (fun y hy => h y (List.mem_cons_of_mem _ hy))
    simp only [room, sumT, List.map_cons, List.sum_cons, List.length_cons] at h2 ⊢
    omega
set_option maxRecDepth 100000 in
set_option maxHeartbeats 4000000 in
theorem together_any (v : Value) (q : List (Value × Pt)) (w : World) (hv : PtI w v q) (hl : q.length ≤ 100) (hk : ∀ y ∈ q, ptOk y.2 = true) : Calls Try.prog 46 #[v] w fun e w' => ∃ ad cap, e = .returned (vnV (.slice ad (psT (tqL q)).length cap, ⟨0, false, szT (tqL q), dgT (sumT (tqL q)), psT (tqL q)⟩)) ∧ OwnP w' w.heap.size 69 (.slice ad (psT (tqL q)).length cap) (psT (tqL q)) ∧ Below w.heap.size w w' := by
  obtain ⟨ad, cap, rfl, hc⟩ := hv.form
  have HL := hid hl
  have HC := hid hc
  have HTK : Hid (∀ (k : Nat) (hk : k < q.length), szT ((tqL q).take (k + 1)) = szT ((tqL q).take k) + q[k].2.sz ∧ psT ((tqL q).take (k + 1)) = psT ((tqL q).take k) ++ q[k].2.ps ∧ sumT ((tqL q).take (k + 1)) = sumT ((tqL q).take k) ++ [q[k].2.sum]) := fun k hk => by
    rw [tk_app (tqL q) k (by rw [tqL_len]; exact hk), tqL_get q k hk, szT_app, psT_app, szT_one, psT_one, sumT_app, sumT_one]
    exact ⟨rfl, rfl, rfl⟩
  have HOK : Hid (∀ k, ∀ x ∈ (tqL q).take k, ptOk x = true) := fun k x hx => by
    obtain ⟨y, hy, rfl⟩ := List.mem_map.1 (List.mem_of_mem_take hx)
    exact hk y hy
  have HBD : Hid (∀ k, 0 ≤ szT ((tqL q).take k) ∧ szT ((tqL q).take k) ≤ 209715200 ∧ (psT ((tqL q).take k)).length ≤ 51200 ∧ room (sumT ((tqL q).take k)) ≤ 7400) := fun k => by
    have h1 := szT_bd (HOK.out k)
    have h2 := psT_bd (HOK.out k)
    have h4 := sumT_room (HOK.out k)
    have h3 : ((tqL q).take k).length ≤ 100 := by rw [List.length_take, tqL_len]; omega
    exact ⟨h1.1, by omega, by omega, by omega⟩
  have HSL : Hid (∀ k, k ≤ q.length → (sumT ((tqL q).take k)).length = k) := fun k h => by show _ = _; unfold sumT; rw [List.length_map, List.length_take, tqL_len]; omega
  have HAP : Hid (∀ (k : Nat) (hk : k < q.length) (W : World), Below w.heap.size w W → Calls Try.prog 72 #[q[k].1] W fun e w' => ∃ ad cap, e = .returned (.slice ad q[k].2.ps.length cap) ∧ OwnP w' W.heap.size 69 (.slice ad q[k].2.ps.length cap) q[k].2.ps ∧ Below W.heap.size W w') := fun k hk' W hW => by
    obtain ⟨b, off, _, _, _, _, _, _, hp⟩ := hc k hk'
    have h := ptOk_sz (hk _ (List.getElem_mem hk'))
    exact papart_any _ _ W (hp.next hW) h.1 h.2.1
  have HZ : Hid ((tqL q).take q.length = tqL q) := by show _ = _; rw [← tqL_len, List.take_length]
  have TG : Hid (∀ (u : Value) (k : Nat) (W : World), Strs W u (sumT ((tqL q).take k)) → Calls Try.prog 78 #[.int .u8 77, u] W fun e w' => e = .returned (.string ⟨(sha (tld 77 (sumT ((tqL q).take k)))).toArray⟩) ∧ Below W.heap.size W w') := fun u k W h => tagged_any 77 u _ W h (by have := (HBD.out k).2.2.2; omega)
  have HX : Hid (∀ (k : Nat) (W : World), Calls Try.prog 77 #[.string ⟨(sha (tld 77 (sumT ((tqL q).take k)))).toArray⟩] W fun e w' => e = .returned (.string (dgT (sumT ((tqL q).take k)))) ∧ Below W.heap.size W w') := fun k W => by
    have := hex_any ⟨(sha (tld 77 (sumT ((tqL q).take k)))).toArray⟩ W (by show (sha _).toArray.size ≤ _; rw [List.size_toArray, sha_len]; omega)
    exact this
  have TM := hid (TgS.made w)
  clear hc hv hl hk HOK
  go_enter Try.func46, Try.ntmps46
  go_wp2
  go_loopw [4, 9] (fun o i wr => ∃ (k : Nat) (az : Option Addr) (cs : Nat) (ap : Option Addr) (np cp : Nat), k ≤ q.length ∧ o = .slice az k cs ∧ i = .int .i64 (k : Int) ∧ Hid (np = (psT ((tqL q).take k)).length ∧ TgS w (szT ((tqL q).take k)) (psT ((tqL q).take k)) (sumT ((tqL q).take k)) (.slice ap np cp) (.slice az k cs) wr)) (fun _ i _ => q.length - (intOf i).toNat)
  case atStart => exact ⟨0, none, 0, none, 0, 0, Nat.zero_le _, rfl, rfl, ⟨by simp [psT], by simpa [szT, psT, sumT] using TM.out⟩⟩
  case round =>
    clear TM
    obtain ⟨k, az, cs, ap, np, cp, hk, rfl, rfl, HR⟩ := hrel
    by_cases hlt : k < q.length
    · have hk1 : (k : Int) < (q.length : Int) := by omega
      have hk0 : (0 : Int) ≤ (k : Int) := by omega
      have hwk : wrap64 ((k : Int) + 1) = ((k + 1 : Nat) : Int) := by have := HL.out; rw [IntWalk.wrap64_in _ (by omega)]; omega
      obtain ⟨b, off, rfl, hb, c0, c1, c2, c3, hp⟩ := HC.out k hlt
      have d0 := (HR.out.2.b.cell (p := ⟨b, off + k * 4, none⟩) hb).trans c0
      have d1 := (HR.out.2.b.cell (p := ⟨b, off + k * 4 + 1, none⟩) hb).trans c1
      have d2 := (HR.out.2.b.cell (p := ⟨b, off + k * 4 + 2, none⟩) hb).trans c2
      have d3 := (HR.out.2.b.cell (p := ⟨b, off + k * 4 + 3, none⟩) hb).trans c3
      have hw1 : wrap64 (szT ((tqL q).take k) + q[k].2.sz) = szT ((tqL q).take (k + 1)) := by
        have h1 := HBD.out (k + 1)
        have h2 := (HTK.out k hlt).1
        rw [← h2, IntWalk.wrap64_in _ (by omega)]
      have HT2 := hid (HTK.out k hlt).2
      have HPN : Hid (np + q[k].2.ps.length ≤ 51200 ∧ np + q[k].2.ps.length = (psT ((tqL q).take k) ++ q[k].2.ps).length) := by
        have h1 := HBD.out (k + 1)
        have h2 := (HTK.out k hlt).2.1
        have h3 := HR.out.1
        rw [h2, List.length_append] at h1
        refine ⟨by omega, ?_⟩
        rw [List.length_append, h3]
      have HSK : Hid ((sumT ((tqL q).take k)).length = k) := HSL.out k hk
      have HLT := hid hlt
      have HKL : Hid (k ≤ 100) := by have := HL.out; show _ ≤ _; omega
      have hpf := hp.sl
      have AP0 := hid (HAP.out k hlt)
      have HR2 : Hid (np = (psT ((tqL q).take k)).length) := HR.out.1
      have TR := hid HR.out.2
      clear HC c0 c1 c2 c3 hp HL hb HTK HBD HR HAP HZ TG HX HSL
      generalize q[k] = y at *
      clear hk hlt
      obtain ⟨pv, id, sz, sum, ps⟩ := y
      simp only at *
      obtain ⟨ad2, cap2, rfl⟩ := hpf
      generalize hG1 : szT ((tqL q).take (k + 1)) = S1 at *
      generalize szT ((tqL q).take k) = S0 at *
      generalize psT ((tqL q).take k) = P0 at *
      generalize sumT ((tqL q).take k) = M0 at *
      have HG1 := hid hG1
      clear hG1
      generalize hpn : ps.length = pn at *
      have Q1 : Hid (TgQ w wr.heap.size [.int .i64 id, .int .i64 sz, .string sum, .slice ad2 pn cap2] S0 P0 M0 (.slice ap np cp) (.slice az k cs) (wr.alloc (.cells #[.int .i64 id, .int .i64 sz, .string sum, .slice ad2 pn cap2] 25))) := ⟨TR.out.next ((Below.refl _ _).alloc (Nat.le_refl _) _), srow wr _ _⟩
      have y1 := Q1.out.cell (o := 1) rfl
      have f2 := Q1.out.t.r3.cellAt (o := 2) rfl
      have ff := Q1.out.t.r3.frozen (o := 2)
      have Q2 : Hid (TgQ w wr.heap.size [.int .i64 id, .int .i64 sz, .string sum, .slice ad2 pn cap2] S1 P0 M0 (.slice ap np cp) (.slice az k cs) ((wr.alloc (.cells #[.int .i64 id, .int .i64 sz, .string sum, .slice ad2 pn cap2] 25)).setCell ⟨w.heap.size + 1, 2, none⟩ (.int .i64 S1))) := Q1.out.setSz S1
      generalize hW2 : (wr.alloc (.cells #[.int .i64 id, .int .i64 sz, .string sum, .slice ad2 pn cap2] 25)).setCell ⟨w.heap.size + 1, 2, none⟩ (.int .i64 S1) = W2 at Q2
      have AP : Hid (∀ W, TgQ w wr.heap.size [.int .i64 id, .int .i64 sz, .string sum, .slice ad2 pn cap2] S1 P0 M0 (.slice ap np cp) (.slice az k cs) W → Calls Try.prog 72 #[.slice ad2 pn cap2] W fun e w' => ∃ ad3 cap3, e = .returned (.slice ad3 pn cap3) ∧ w'.cell? ⟨wr.heap.size, 3, none⟩ = some (.slice ad2 pn cap2) ∧ w'.cell? ⟨w.heap.size + 1, 4, none⟩ = some (.slice ap np cp) ∧ Hid (TgQ w wr.heap.size [.int .i64 id, .int .i64 sz, .string sum, .slice ad2 pn cap2] S1 P0 M0 (.slice ap np cp) (.slice az k cs) w' ∧ RowC w' (.slice ad3 pn cap3) pn (pcsC ps))) := fun W hW => (AP0.out W hW.t.b).mono fun e w' ⟨ad3, cap3, he, ho, hb⟩ => by
        have h2 := hW.next hb
        have ho2 := RowC.own ho
        rw [hpn] at ho2
        exact ⟨ad3, cap3, he, h2.cell (o := 3) rfl, h2.t.r3.cellAt (o := 4) rfl, h2, ho2⟩
      have HO1 := hid (pcsC_cell ps)
      have HX2 : Hid ((pcsC ps).length = pn * 2) := by show _ = _; rw [pcsC_len, hpn]
      have HQ1 : Hid (np + pn ≤ 70368744177) := by have := HPN.out.1; show _ ≤ _; omega
      have HQ2 : Hid ((np + pn) * 24 ≤ 140737488355328) := by have := HPN.out.1; show _ ≤ _; omega
      have ZC0 : W2.drew.cell? ⟨wr.heap.size, 3, none⟩ = some (.slice ad2 pn cap2) := Q2.out.drew.cell (o := 3) rfl
      have ZV0 : W2.drew.cell? ⟨w.heap.size + 1, 4, none⟩ = some (.slice ap np cp) := Q2.out.drew.t.r3.cellAt (o := 4) rfl
      have HSB : Hid (∀ W, TgQ w wr.heap.size [.int .i64 id, .int .i64 sz, .string sum, .slice ad2 pn cap2] S1 P0 M0 (.slice ap np cp) (.slice az k cs) W → w.heap.size + 2 ≤ W.heap.size ∧ W.ownsRow (w.heap.size + 2) 69 2 (.slice ap np cp) np (pcsC P0)) := fun W h => ⟨h.t.size, by have := h.t.p; rw [← HR2.out] at this; exact this⟩
      have FIN : Hid (∀ w3 ad' cap' w', TgQ w wr.heap.size [.int .i64 id, .int .i64 sz, .string sum, .slice ad2 pn cap2] S1 P0 M0 (.slice ap np cp) (.slice az k cs) w3 → w'.ownsRow (w.heap.size + 2) 69 2 (.slice ad' (np + pn) cap') (np + pn) (pcsC P0 ++ pcsC ps) → Keep (fun j => (Value.slice ap np cp).ownBlock = some j) w3 w' → w'.cell? ⟨w.heap.size + 1, 4, none⟩ = some (.slice ap np cp) ∧ w'.frozen? ⟨w.heap.size + 1, 4, none⟩ = false ∧ w'.cell? ⟨wr.heap.size, 3, none⟩ = some (.slice ad2 pn cap2) ∧ (w'.setCell ⟨w.heap.size + 1, 4, none⟩ (.slice ad' (np + pn) cap')).cell? ⟨wr.heap.size, 3, none⟩ = some (.slice ad2 pn cap2) ∧ Hid (TgQ w wr.heap.size [.int .i64 id, .int .i64 sz, .string sum, .slice ad2 pn cap2] S1 (P0 ++ ps) M0 (.slice ad' (np + pn) cap') (.slice az k cs) (w'.setCell ⟨w.heap.size + 1, 4, none⟩ (.slice ad' (np + pn) cap')))) := fun w3 ad' cap' w' h hr hk' => by
        obtain ⟨a1, a2, a3, a4⟩ := h.app (by rw [← hpn]; rw [← hpn] at HPN; exact HPN.out.2) hr hk'
        exact ⟨a1, a2, (a3 3 _ rfl).1, (a3 3 _ rfl).2, a4⟩
      have HO9 : Hid (∀ u ∈ [Value.string sum], u.oneCell' = true) := fun u hu => by rw [List.mem_singleton.1 hu]; rfl
      have HX9 : Hid ([Value.string sum].length = 1 * 1) := rfl
      have HQ9 : Hid (k + 1 ≤ 4611686018427387904) := by have := HKL.out; show _ ≤ _; omega
      have HQA : Hid ((k + 1) * 16 ≤ 140737488355328) := by have := HKL.out; show _ ≤ _; omega
      have END : Hid (∀ (w3 : World) (ad' : Option Addr) (cap' : Nat), TgQ w wr.heap.size [.int .i64 id, .int .i64 sz, .string sum, .slice ad2 pn cap2] S1 (P0 ++ ps) M0 (.slice ad' (np + pn) cap') (.slice az k cs) w3 → w3.cell? ⟨wr.heap.size, 2, none⟩ = some (.string sum) ∧ w.heap.size + 2 ≤ (w3.alloc (.cells #[.string sum] 9)).heap.size ∧ (w3.alloc (.cells #[.string sum] 9)).ownsRow (w.heap.size + 2) 9 1 (.slice az k cs) k (ss M0))   := fun w3 ad' cap' h => by
        have h2 := h.al (.cells #[.string sum] 9)
        refine ⟨h.cell (o := 2) rfl, h2.t.size, ?_⟩
        have := h2.t.s
        rw [HSK.out] at this
        exact this
      have ENS : Hid (∀ w3 ad' cap' ad4 cap4 w', TgQ w wr.heap.size [.int .i64 id, .int .i64 sz, .string sum, .slice ad2 pn cap2] S1 (P0 ++ ps) M0 (.slice ad' (np + pn) cap') (.slice az k cs) w3 → w'.ownsRow (w.heap.size + 2) 9 1 (.slice ad4 (k + 1) cap4) (k + 1) (ss M0 ++ [.string sum]) → Keep (fun j => (Value.slice az k cs).ownBlock = some j) (w3.alloc (.cells #[.string sum] 9)) w' → Hid (np + pn = (psT ((tqL q).take (k + 1))).length ∧ TgS w (szT ((tqL q).take (k + 1))) (psT ((tqL q).take (k + 1))) (sumT ((tqL q).take (k + 1))) (.slice ad' (np + pn) cap') (.slice ad4 (k + 1) cap4) w')) := fun w3 ad' cap' ad4 cap4 w' h hr hk' => by
        refine ⟨?_, ?_⟩
        · rw [HT2.out.1, ← HPN.out.2]
        · rw [HT2.out.1, HT2.out.2, HG1.out]
          exact (h.al (.cells #[.string sum] 9)).t.appS (by rw [HSK.out]; exact hr) hk'
      clear HPN HT2 HSK HR2 HG1 AP0 TR Q1 hpn HKL
      generalize pcsC ps = XS at *
      generalize pcsC P0 = PA at *
      generalize ss M0 = SA at *
      go_wp2
      (try rw [hw1])
      (try rw [hW2])
      clear hW2 d0 d1 d2 d3 y1 f2 ff
      refine wp_region_held_drew (S := (fun w' => w'.cell? ⟨wr.heap.size, 3, none⟩ = some (.slice ad2 pn cap2))) (by kernel_rfl) ZC0 (fun hHeld => ?_)
      refine wpAnyH_take (i := 0) (v := ?vv1) rfl (by kernel_rfl) (by kernel_rfl) (by kernel_rfl) (fun _ _ _ h => h) (Or.inl ⟨by rfl, ?hy1⟩) (by assumption) ?rest1
      case hy1 => (intro w hSw; (try dsimp only at hSw); go_simp; first | done | with_reducible rfl)
      try simp only [Act.put, List.getElem_toArray, List.getElem_cons_succ, List.getElem_cons_zero, List.setIfInBounds_toArray, List.set_cons_zero, List.set_cons_succ]
      refine wpAnyH_take (i := 2) (v := ?vv2) rfl (by kernel_rfl) (by kernel_rfl) (by kernel_rfl) (fun _ _ _ h => h) (Or.inl ⟨by rfl, ?hy2⟩) (by assumption) ?rest2
      case hy2 => (intro w hSw; (try dsimp only at hSw); go_simp; first | done | with_reducible rfl)
      try simp only [Act.put, List.getElem_toArray, List.getElem_cons_succ, List.getElem_cons_zero, List.setIfInBounds_toArray, List.set_cons_zero, List.set_cons_succ]
      refine wpAnyH_take (i := 3) (v := ?vv3) rfl (by kernel_rfl) (by kernel_rfl) (by kernel_rfl) (fun _ _ _ h => h) (Or.inl ⟨by rfl, ?hy3⟩) (by assumption) ?rest3
      case hy3 => (intro w hSw; (try dsimp only at hSw); go_simp; first | done | with_reducible rfl)
      try simp only [Act.put, List.getElem_toArray, List.getElem_cons_succ, List.getElem_cons_zero, List.setIfInBounds_toArray, List.set_cons_zero, List.set_cons_succ]
      refine wpAnyH_ready (rs := [1, 4]) (by kernel_rfl) (by simp) ?_
      refine AllReadyH.cons rfl (fun K hK => ?_) (AllReadyH.cons rfl (fun K hK => ?_) AllReadyH.nil)
      · go_simp
        refine hK.out _ _ ZC0 (fun hHeld => ?_)
        clear hK K
        try simp only [Act.put, List.getElem_toArray, List.getElem_cons_succ, List.getElem_cons_zero, List.setIfInBounds_toArray, List.set_cons_zero, List.set_cons_succ]
        refine wpAnyH_ready (rs := [4]) (by kernel_rfl) (by simp) ?_
        refine AllReadyH.cons rfl (fun K hK => ?_) AllReadyH.nil
        go_simp
        refine (AP.out _ Q2.out.drew).mono ?_
        rintro e w3 ⟨ad3, cap3, rfl, ZC, ZV, G3⟩
        go_wp2_with fail
        refine hK.out _ _ ZC (fun hHeld => ?_)
        clear hK K
        try simp only [Act.put, List.getElem_toArray, List.getElem_cons_succ, List.getElem_cons_zero, List.setIfInBounds_toArray, List.set_cons_zero, List.set_cons_succ]
        refine wpAnyH_ready (rs := [5]) (by kernel_rfl) (by simp) ?_
        refine AllReadyH.cons rfl (fun K hK => ?_) AllReadyH.nil
        refine step_gappS (w0 := w3) (by rfl) _ _ elP (by rfl) (w.heap.size + 2) (.slice ap np cp) (.slice ad3 pn cap3) PA XS np pn (np + pn) (by rfl) (Keep.refl _ _) (by rfl) (by rfl) (HSB.out _ G3.out.1).2 (HSB.out _ G3.out.1).1 G3.out.2 HX2.out HO1.out HQ1.out HQ2.out ?_
        intro ad' cap' w4 hr4 hk4
        obtain ⟨Z1, Z2, Z3, Z4, G4⟩ := FIN.out _ _ _ _ G3.out.1 hr4 hk4
        clear hr4 hk4
        refine hK.out _ _ Z3 (fun hHeld => ?_)
        clear hK K
        try simp only [Act.put, List.getElem_toArray, List.getElem_cons_succ, List.getElem_cons_zero, List.setIfInBounds_toArray, List.set_cons_zero, List.set_cons_succ]
        refine wpAnyH_take (i := 6) (v := ?vv4) rfl (by kernel_rfl) (by kernel_rfl) (by kernel_rfl) (fun _ _ _ h => h) (Or.inl ⟨by rfl, ?hy4⟩) (by assumption) ?rest4
        case hy4 => (intro w hSw; (try dsimp only at hSw); go_simp; first | done | with_reducible rfl)
        try simp only [Act.put, List.getElem_toArray, List.getElem_cons_succ, List.getElem_cons_zero, List.setIfInBounds_toArray, List.set_cons_zero, List.set_cons_succ]
        refine wpAnyH_ready (rs := [7]) (by kernel_rfl) (by simp) ?_
        refine AllReadyH.cons rfl (fun K hK => ?_) AllReadyH.nil
        go_simp
        refine hK.out _ _ Z4 (fun hHeld => ?_)
        clear hK K
        try simp only [Act.put, List.getElem_toArray, List.getElem_cons_succ, List.getElem_cons_zero, List.setIfInBounds_toArray, List.set_cons_zero, List.set_cons_succ]
        refine wpAnyH_done (by kernel_rfl) ?_ _
        clear hHeld ZC ZV Z1 Z2 Z3 Z4 ZC0 ZV0 AP FIN HSB HX2 HO1 HQ1 HQ2 Q2 G3
        generalize hW5 : w4.setCell ⟨w.heap.size + 1, 4, none⟩ (.slice ad' (np + pn) cap') = W5 at *
        obtain ⟨u2, hs9, hg9⟩ := END.out W5 ad' cap' G4.out
        have HS9 := hid hs9
        have HG9 := hid hg9
        have HE9 : Hid (∀ ad4 cap4 w', w'.ownsRow (w.heap.size + 2) 9 1 (.slice ad4 (k + 1) cap4) (k + 1) (SA ++ [.string sum]) → Keep (fun j => (Value.slice az k cs).ownBlock = some j) (W5.alloc (.cells #[.string sum] 9)) w' → Hid (np + pn = (psT ((tqL q).take (k + 1))).length ∧ TgS w (szT ((tqL q).take (k + 1))) (psT ((tqL q).take (k + 1))) (sumT ((tqL q).take (k + 1))) (.slice ad' (np + pn) cap') (.slice ad4 (k + 1) cap4) w')) := fun ad4 cap4 w' => ENS.out _ _ _ ad4 cap4 w' G4.out
        have HGX : Hid (GSrc (W5.alloc (.cells #[.string sum] 9)) (.slice (some ⟨W5.heap.size, 0, none⟩) 1 1) 1 [.string sum]) := gsrc_block (heap_alloc_new _ _)
        clear hs9 hg9 END ENS G4 hW5
        go_wp2_with (at_builtin; refine wpl_gappL rfl _ _ elS9 rfl (w.heap.size + 2) (.slice az k cs) (.slice (some ⟨W5.heap.size, 0, none⟩) 1 1) SA [.string sum] k 1 (k + 1) rfl rfl rfl HG9.out HS9.out HGX.out HX9.out HO9.out HQ9.out HQA.out ?_; intro ad4 cap4 w6 hr6 hk6)
        have F6 := HE9.out _ _ _ hr6 hk6
        clear hr6 hk6 HE9 HG9 HS9 HGX
        go_wp2
        exact ⟨⟨k + 1, _, _, _, _, _, HLT.out, rfl, by first | rw [hwk] | rfl | simp, F6⟩, by (try rw [hwk]); have := HLT.out; simp [intOf]; omega⟩
      · go_simp
        refine (AP.out _ Q2.out.drew).mono ?_
        rintro e w3 ⟨ad3, cap3, rfl, ZC, ZV, G3⟩
        go_wp2_with fail
        refine hK.out _ _ ZC (fun hHeld => ?_)
        clear hK K
        try simp only [Act.put, List.getElem_toArray, List.getElem_cons_succ, List.getElem_cons_zero, List.setIfInBounds_toArray, List.set_cons_zero, List.set_cons_succ]
        refine wpAnyH_ready (rs := [1]) (by kernel_rfl) (by simp) ?_
        refine AllReadyH.cons rfl (fun K hK => ?_) AllReadyH.nil
        go_simp
        refine hK.out _ _ ZC (fun hHeld => ?_)
        clear hK K
        try simp only [Act.put, List.getElem_toArray, List.getElem_cons_succ, List.getElem_cons_zero, List.setIfInBounds_toArray, List.set_cons_zero, List.set_cons_succ]
        refine wpAnyH_ready (rs := [5]) (by kernel_rfl) (by simp) ?_
        refine AllReadyH.cons rfl (fun K hK => ?_) AllReadyH.nil
        refine step_gappS (w0 := w3) (by rfl) _ _ elP (by rfl) (w.heap.size + 2) (.slice ap np cp) (.slice ad3 pn cap3) PA XS np pn (np + pn) (by rfl) (Keep.refl _ _) (by rfl) (by rfl) (HSB.out _ G3.out.1).2 (HSB.out _ G3.out.1).1 G3.out.2 HX2.out HO1.out HQ1.out HQ2.out ?_
        intro ad' cap' w4 hr4 hk4
        obtain ⟨Z1, Z2, Z3, Z4, G4⟩ := FIN.out _ _ _ _ G3.out.1 hr4 hk4
        clear hr4 hk4
        refine hK.out _ _ Z3 (fun hHeld => ?_)
        clear hK K
        try simp only [Act.put, List.getElem_toArray, List.getElem_cons_succ, List.getElem_cons_zero, List.setIfInBounds_toArray, List.set_cons_zero, List.set_cons_succ]
        refine wpAnyH_take (i := 6) (v := ?vv5) rfl (by kernel_rfl) (by kernel_rfl) (by kernel_rfl) (fun _ _ _ h => h) (Or.inl ⟨by rfl, ?hy5⟩) (by assumption) ?rest5
        case hy5 => (intro w hSw; (try dsimp only at hSw); go_simp; first | done | with_reducible rfl)
        try simp only [Act.put, List.getElem_toArray, List.getElem_cons_succ, List.getElem_cons_zero, List.setIfInBounds_toArray, List.set_cons_zero, List.set_cons_succ]
        refine wpAnyH_ready (rs := [7]) (by kernel_rfl) (by simp) ?_
        refine AllReadyH.cons rfl (fun K hK => ?_) AllReadyH.nil
        go_simp
        refine hK.out _ _ Z4 (fun hHeld => ?_)
        clear hK K
        try simp only [Act.put, List.getElem_toArray, List.getElem_cons_succ, List.getElem_cons_zero, List.setIfInBounds_toArray, List.set_cons_zero, List.set_cons_succ]
        refine wpAnyH_done (by kernel_rfl) ?_ _
        clear hHeld ZC ZV Z1 Z2 Z3 Z4 ZC0 ZV0 AP FIN HSB HX2 HO1 HQ1 HQ2 Q2 G3
        generalize hW5 : w4.setCell ⟨w.heap.size + 1, 4, none⟩ (.slice ad' (np + pn) cap') = W5 at *
        obtain ⟨u2, hs9, hg9⟩ := END.out W5 ad' cap' G4.out
        have HS9 := hid hs9
        have HG9 := hid hg9
        have HE9 : Hid (∀ ad4 cap4 w', w'.ownsRow (w.heap.size + 2) 9 1 (.slice ad4 (k + 1) cap4) (k + 1) (SA ++ [.string sum]) → Keep (fun j => (Value.slice az k cs).ownBlock = some j) (W5.alloc (.cells #[.string sum] 9)) w' → Hid (np + pn = (psT ((tqL q).take (k + 1))).length ∧ TgS w (szT ((tqL q).take (k + 1))) (psT ((tqL q).take (k + 1))) (sumT ((tqL q).take (k + 1))) (.slice ad' (np + pn) cap') (.slice ad4 (k + 1) cap4) w')) := fun ad4 cap4 w' => ENS.out _ _ _ ad4 cap4 w' G4.out
        have HGX : Hid (GSrc (W5.alloc (.cells #[.string sum] 9)) (.slice (some ⟨W5.heap.size, 0, none⟩) 1 1) 1 [.string sum]) := gsrc_block (heap_alloc_new _ _)
        clear hs9 hg9 END ENS G4 hW5
        go_wp2_with (at_builtin; refine wpl_gappL rfl _ _ elS9 rfl (w.heap.size + 2) (.slice az k cs) (.slice (some ⟨W5.heap.size, 0, none⟩) 1 1) SA [.string sum] k 1 (k + 1) rfl rfl rfl HG9.out HS9.out HGX.out HX9.out HO9.out HQ9.out HQA.out ?_; intro ad4 cap4 w6 hr6 hk6)
        have F6 := HE9.out _ _ _ hr6 hk6
        clear hr6 hk6 HE9 HG9 HS9 HGX
        go_wp2
        exact ⟨⟨k + 1, _, _, _, _, _, HLT.out, rfl, by first | rw [hwk] | rfl | simp, F6⟩, by (try rw [hwk]); have := HLT.out; simp [intOf]; omega⟩
    · have hke : k = q.length := by omega
      have hd : decide ((k : Int) < (q.length : Int)) = false := decide_eq_false (by omega)
      have hd2 : decide (k < q.length) = false := decide_eq_false hlt
      subst hke
      have T0 := hid HR.out.2
      have HN := hid HR.out.1
      have HST : Hid (∀ W, TgS w (szT ((tqL q).take q.length)) (psT ((tqL q).take q.length)) (sumT ((tqL q).take q.length)) (.slice ap np cp) (.slice az q.length cs) W → Strs W (.slice az q.length cs) (sumT ((tqL q).take q.length))) := fun W h => strs_own9 h.s
      have TG1 := hid (TG.out _ _ _ (HST.out _ T0.out))
      have HX1 := hid (HX.out q.length)
      have HZ2 := hid HZ.out
      clear HC HR HL hlt hk HTK HBD HSL HAP HZ TG HX HST
      generalize hTL : (tqL q).take q.length = TL at *
      have HTL := hid hTL
      clear hTL
      go_wp2_with fail
      refine TG1.out.mono ?_
      rintro e w1 ⟨rfl, b1⟩
      have T1 := hid (T0.out.next b1)
      clear TG1 b1 T0
      go_wp2_with fail
      refine (HX1.out _).mono ?_
      rintro e w2 ⟨rfl, b2⟩
      have T2 := hid (T1.out.next b2)
      clear HX1 b2 T1
      have z3 := T2.out.r3.cellAt (o := 3) rfl
      have f3 := T2.out.r3.frozen (o := 3)
      generalize hDG : dgT (sumT TL) = DG at *
      have HDG := hid hDG
      clear hDG
      have kS := keep_setCell w2 (w.heap.size + 1) 3 (.string DG)
      have R3 : Hid (RowIs (w2.setCell ⟨w.heap.size + 1, 3, none⟩ (.string DG)) (w.heap.size + 1) [.int .i64 0, .bool false, .int .i64 (szT TL), .string DG, .slice ap np cp] 47) := T2.out.r3.set 3 (.string DG)
      have R2 : Hid (RowIs (w2.setCell ⟨w.heap.size + 1, 3, none⟩ (.string DG)) w.heap.size [.int .i64 0, .bool false, .int .i64 0, .string ⟨#[]⟩, .slice none 0 0] 47) := T2.out.r2.keep kS (by omega)
      have P2 := hid (kS.ownsRow T2.out.p (fun g hg e => by have := ownsRow_ge T2.out.p hg; omega))
      have B2 : Hid (Below w.heap.size w (w2.setCell ⟨w.heap.size + 1, 3, none⟩ (.string DG))) := T2.out.b.trans (keep_below kS (fun k hk e => by omega) T2.out.b.size)
      clear kS T2
      generalize hSZ : szT TL = SZ at *
      have HSZ := hid hSZ
      clear hSZ
      have V0 := R3.out.cellAt (o := 0) rfl
      have V1 := R3.out.cellAt (o := 1) rfl
      have V2 := R3.out.cellAt (o := 2) rfl
      have V3 := R3.out.cellAt (o := 3) rfl
      have V4 := R3.out.cellAt (o := 4) rfl
      have r0 := R2.out.cellAt (o := 0) rfl
      have r1 := R2.out.cellAt (o := 1) rfl
      have r2 := R2.out.cellAt (o := 2) rfl
      have r3 := R2.out.cellAt (o := 3) rfl
      have r4 := R2.out.cellAt (o := 4) rfl
      have q0 := R2.out.frozen (o := 0)
      have q1 := R2.out.frozen (o := 1)
      have q2 := R2.out.frozen (o := 2)
      have q3 := R2.out.frozen (o := 3)
      have q4 := R2.out.frozen (o := 4)
      have F5 := five R2.out (x0 := .int .i64 0) (x1 := .bool false) (x2 := .int .i64 SZ) (x3 := .string DG) (x4 := .slice ap np cp)
      have RES := hid F5.1
      have OWN := hid (ownsRow_base (B' := w.heap.size) (F5.2.ownsRow P2.out (fun g hg e => by have := ownsRow_ge P2.out hg; omega)) (by omega))
      have BEL := hid (B2.out.trans (keep_below F5.2 (fun k hk e => by omega) B2.out.size))
      clear F5 P2 B2 R2
      go_wp2
      refine bodyPost_ret (v := .agg #[.int .i64 0, .bool false, .int .i64 SZ, .string DG, .slice ap np cp]) (results_cell_row (p := 2) rfl _ _ w.heap.size 47 #[.int .i64 0, .bool false, .int .i64 SZ, .string DG, .slice ap np cp] (0, 0) _ rfl RES.out Try.underlying47 rfl (by kernel_rfl)) rfl ?_
      have hTQ : TL = tqL q := HZ2.out
      subst hTQ
      have hnp := HN.out
      subst hnp
      have hsz := HSZ.out
      subst hsz
      have hdg := HDG.out
      subst hdg
      exact ⟨ap, cp, rfl, OWN.out, BEL.out⟩
end Go.Proofs.Ytbiapepalkdkdab
