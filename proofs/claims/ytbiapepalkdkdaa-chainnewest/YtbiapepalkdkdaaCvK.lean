/- A version is taken away: the program. -/
import Derived.Test.YtbiapepalkdkdaaCvJ
namespace Go.Proofs.Ytbiapepalkdkdaa
open Go.RowKit Go.Maps
set_option linter.unusedVariables false
set_option linter.unusedSimpArgs false

theorem wrap_succ (j : Nat) (h : j ≤ 1048576) : wrap64 ((j : Int) + 1) = (j : Int) + 1 ∧ IntKind.i64.wrap ((j : Int) + 1) = (j : Int) + 1 := by
  constructor
  · rw [IntWalk.wrap64_in _ (by omega)]
  · rw [IntKind.wrap_i64]; omega
theorem step_rapp {w w0 : World} {ops : Array Oper} {o : Oper} {a : Act} {K : Act → World → Prop} {Q : Exit → Act → World → Prop} {E : Prop} (hgd : o.guard = none) (sl x : Operand) {st e size bytes : Nat} (T : ElT st e size bytes)
    (ho : o.op = .call { callee := .builtin .append, args := #[sl, x], argTypes := #[st, st] }) (b off : Nat) (xv : Value) (olds news : List Value) (n m nm : Nat) (hnm : n + m = nm) (hk : Keep (fun _ => False) w0 w)
    (hs : a.eval sl = .slice (some ⟨b, off, none⟩) n n) (hx : a.eval x = xv) (hlo : olds.length = n * size) (holds : ∀ j u, olds[j]? = some u → w0.cell? ⟨b, off + j, none⟩ = some u) (hb : b < w0.heap.size) (hX : RowC w0 xv m news) (hl : news.length = m * size) (h1 : ∀ u ∈ news, u.oneCell' = true) (hm : nm ≤ 1048576) (hby : nm * bytes ≤ 140737488355328)
    (h : ∀ ad' cap' w', RowC w' (.slice ad' nm cap') nm (olds ++ news) → Below w0.heap.size w0 w' → K (a.put o.dst (.slice ad' nm cap')) w') : if Region.wanted o (yielded ops a.tmps) = true then Oper.wp Try.prog o a w K Q else E := by
  subst hnm
  have hwn : Region.wanted o (yielded ops a.tmps) = true := by simp [Region.wanted, hgd]
  rw [if_pos hwn]
  obtain ⟨ad', cap', w', hr, h2, h3⟩ := rapp T o.type hlo (fun j u hu => (hk.cell hb (fun h => h)).trans (holds j u hu)) (Nat.lt_of_lt_of_le hb hk.size) (hX.keep hk (fun _ _ h => h)) hl h1 hm hby
  unfold Oper.wp execOp
  simp only [ho, resolve, invoke, builtin, Sem.run_bind, Sem.run_pure, Result.andThen_ok, List.map_toArray, List.map_cons, List.map_nil, hs, hx, hr, Oper.upon]
  exact h ad' cap' w' h2 ((keep_below hk (fun _ _ h => h) (Nat.le_refl _)).trans (h3.mono hk.size))
theorem slice3 {st e size bytes : Nat} (T : ElT st e size bytes) (b off len cap j : Nat) (hj : j ≤ cap) (W : World) : (Instr.slice st (.slice (some ⟨b, off, none⟩) len cap) none (some (.int .i64 (j : Int))) (some (.int .i64 (j : Int)))).run Try.prog W = .ok (.slice (some ⟨b, off, none⟩) j j) W := by
  obtain ⟨z, hz, _⟩ := T.inf
  obtain ⟨i0, hi, _⟩ := Option.map_eq_some_iff.1 hz
  have e1 : (0 : Int) ≤ (j : Int) := by omega
  have e3 : (⟨b, off, none⟩ : Addr).add 0 = ⟨b, off, none⟩ := rfl
  simp [Instr.slice, Instr.sliceBounds, Instr.sliceBound, asIntOf, run_underlying T.und, sizeOf, typeInfo, hi, Result.andThen, e1, hj, e3]
theorem sliceFrom {st e size bytes : Nat} (T : ElT st e size bytes) {w : World} {b off len cap k : Nat} {cs : List Value} (hr : RowC w (.slice (some ⟨b, off, none⟩) len cap) len cs) (hcs : cs.length = len * size) (hk : k ≤ len) : ∃ x, RowC w x (len - k) (cs.drop (k * size)) ∧ ∀ W : World, (Instr.slice st (.slice (some ⟨b, off, none⟩) len cap) (some (.int .i64 (k : Int))) none none).run Try.prog W = .ok x W := by
  obtain ⟨z, hz, _⟩ := T.inf
  obtain ⟨i0, hi, hi2⟩ := Option.map_eq_some_iff.1 hz
  simp only [Prod.mk.injEq] at hi2
  obtain ⟨_, hi3, _⟩ := hi2
  have e1 : (0 : Int) ≤ (k : Int) := by omega
  rcases hr with ⟨ad, cap', e0, h0, h1⟩ | ⟨b', off', cap', e0, hn, hb, hc⟩
  · injection e0 with e0 e2 e4
    subst h0 e4
    have hk0 : k = 0 := by omega
    subst hk0
    refine ⟨.slice (some ⟨b, off, none⟩) 0 cap, .inl ⟨_, _, rfl, rfl, by rw [h1]; simp⟩, fun W => ?_⟩
    have e3 : (⟨b, off, none⟩ : Addr).add 0 = ⟨b, off, none⟩ := rfl
    simp [Instr.slice, Instr.sliceBounds, Instr.sliceBound, asIntOf, run_underlying T.und, sizeOf, typeInfo, hi, Result.andThen, e3]
  · injection e0 with e0 e2 e4
    injection e0 with e0
    injection e0 with e5 e6
    subst e5 e6 e4
    by_cases hck : cap = k
    · have hkA : k = len := by omega
      refine ⟨.slice (some ⟨b, off, none⟩) (len - k) (cap - k), .inl ⟨_, _, by rw [hkA, Nat.sub_self], by omega, List.drop_eq_nil_of_le (by rw [hcs, hkA]; exact Nat.le_refl _)⟩, fun W => ?_⟩
      simp [Instr.slice, Instr.sliceBounds, Instr.sliceBound, asIntOf, run_underlying T.und, sizeOf, typeInfo, hi, Result.andThen, e1, hk, hck]
    · refine ⟨.slice (some ⟨b, off + k * size, none⟩) (len - k) (cap - k), .inr ⟨b, off + k * size, _, rfl, by omega, hb, fun j u hu => ?_⟩, fun W => ?_⟩
      · rw [List.getElem?_drop] at hu
        have := hc _ u hu
        rw [Nat.add_assoc]
        exact this
      · have e3 : (⟨b, off, none⟩ : Addr).add (k * size) = ⟨b, off + k * size, none⟩ := by rw [Addr.add_lit]
        simp [Instr.slice, Instr.sliceBounds, Instr.sliceBound, asIntOf, run_underlying T.und, sizeOf, typeInfo, hi, Result.andThen, e1, hk, hck, hi3, e3]
theorem vqC_drop (q : List (Value × Vn)) (k : Nat) (hk : k ≤ q.length) : (vqC q).drop (k * 5) = vqC (q.drop k) := by
  have e : vqC q = vqC (q.take k) ++ vqC (q.drop k) := by rw [← vqC_app, List.take_append_drop]
  have hl : (vqC (q.take k)).length = k * 5 := by rw [vqC_len, List.length_take, Nat.min_eq_left hk]
  rw [e, ← hl, List.drop_left]
theorem vqC_pre (q : List (Value × Vn)) (k j : Nat) (u : Value) (h : (vqC (q.take k))[j]? = some u) : (vqC q)[j]? = some u := by
  have e : vqC q = vqC (q.take k) ++ vqC (q.drop k) := by rw [← vqC_app, List.take_append_drop]
  rw [e, List.getElem?_append_left (List.getElem?_eq_some_iff.1 h).1]
  exact h
def drL (l : List Vn) (n : Int) : List Vn := match plO l n with | some j => l.take j ++ l.drop (j + 1) | none => []
theorem vqL_cut (q : List (Value × Vn)) (j : Nat) : vqL (q.take j ++ q.drop (j + 1)) = (vqL q).take j ++ (vqL q).drop (j + 1) := by
  unfold vqL; rw [List.map_append, List.map_take, List.map_drop]
set_option maxRecDepth 100000 in
set_option maxHeartbeats 2000000 in
theorem drop_any (v : Value) (q : List (Value × Vn)) (n : Int) (w : World) (hv : VnI w v q) : Calls Try.prog 19 #[v, .int .i64 n] w (GiveV w (drL (vqL q) n) (plE (vqL q) n)) := by
  obtain ⟨ad, cap, rfl, hc⟩ := hv.form
  have PL := hid (place_any (.slice ad q.length cap) q n w hv)
  have HD : Hid (drL (vqL q) n = match plO (vqL q) n with | some j => (vqL q).take j ++ (vqL q).drop (j + 1) | none => []) := rfl
  have HE := hid (pl_cases (vqL q) n)
  have HLN : Hid (isCh (vqL q) = true → q.length ≤ 32) := fun h => by have := isCh_len h; rw [vqL_len] at this; exact this
  have HAL : Hid (isCh (vqL q) = true → ∀ y ∈ q, vnOk y.2 = true) := fun h y hy => isCh_all h _ (vq_mem hy)
  have HV := hid hv
  have HC := hid hc
  clear hc hv
  rcases HE.out with ⟨h1, h2, h3, h4⟩ | ⟨h1, h2, h3, h4⟩ | ⟨h1, j, h2, h3, h4, h5, h6⟩
  · rw [h3, h4] at PL
    rw [h3]
    rw [h2] at HD
    have hd := HD.out
    rw [hd]
    clear HE HD HLN HAL HV HC h1 h2 h3 h4 hd
    go_enter Try.func19, Try.ntmps19
    go_wp2_with fail
    refine PL.out.mono ?_
    rintro e w1 ⟨rfl, b1⟩
    have B1 := hid b1
    clear PL b1
    go_wp2
    go_ret2
    exact giveV_none B1.out
  · rw [h3, h4] at PL
    rw [h3]
    rw [h2] at HD
    have hd := HD.out
    rw [hd]
    clear HE HD HLN HAL HV HC h1 h2 h3 h4 hd
    go_enter Try.func19, Try.ntmps19
    go_wp2_with fail
    refine PL.out.mono ?_
    rintro e w1 ⟨rfl, b1⟩
    have B1 := hid b1
    clear PL b1
    go_wp2
    go_ret2
    exact giveV_none B1.out
  · rw [h3, h4] at PL
    rw [h3]
    rw [h2] at HD
    have hd := HD.out
    rw [hd]
    show Calls _ _ _ _ (GiveV w ((vqL q).take j ++ (vqL q).drop (j + 1)) 0)
    have hj : j < q.length := by rw [vqL_len] at h5; exact h5
    have h32 := HLN.out h1
    obtain ⟨b, off, rfl, hb, -⟩ := HC.out j hj
    have hcap : q.length ≤ cap := by
      rcases HV.out.1 with ⟨_, _, _, h0, _⟩ | ⟨_, _, _, e0, hn, _⟩
      · omega
      · injection e0 with _ _ e; omega
    have HRC := HV.out.1
    have S1 := fun W => slice3 elV b off q.length cap j (by omega) W
    obtain ⟨X2, hx2, S2⟩ := sliceFrom elV HRC (vqC_len q) (show j + 1 ≤ q.length from hj)
    rw [vqC_drop q (j + 1) hj] at hx2
    rw [show ((j + 1 : Nat) : Int) = (j : Int) + 1 by omega] at S2
    have HX2 : Hid (∀ W, Below w.heap.size w W → RowC W X2 (q.length - (j + 1)) (vqC (q.drop (j + 1)))) := fun W hW => hx2.next hW
    have HOL : Hid (∀ W, Below w.heap.size w W → ∀ i u, (vqC (q.take j))[i]? = some u → W.cell? ⟨b, off + i, none⟩ = some u) := fun W hW i u hu => by
      rcases HRC with ⟨_, _, _, h0, _⟩ | ⟨b', off', cap', e0, _, hb', hc'⟩
      · omega
      · injection e0 with e0
        injection e0 with e0
        injection e0 with e1 e2
        subst e1 e2
        exact (hW.cell (p := ⟨b, off + i, none⟩) hb').trans (hc' i u (vqC_pre q j i u hu))
    have HLO : Hid ((vqC (q.take j)).length = j * 5) := by show _ = _; rw [vqC_len, List.length_take, Nat.min_eq_left (by omega)]
    have HLD : Hid ((vqC (q.drop (j + 1))).length = (q.length - (j + 1)) * 5) := by show _ = _; rw [vqC_len, List.length_drop]
    have HO1 : Hid (∀ u ∈ vqC (q.drop (j + 1)), u.oneCell' = true) := vqC_cell (w := w) (fun y hy => HV.out.2 y (List.mem_of_mem_drop hy))
    have HNM : Hid (j + (q.length - (j + 1)) = q.length - 1) := by show _ = _; omega
    have HB1 : Hid (q.length - 1 ≤ 1048576) := by show _ ≤ _; omega
    have HB2 : Hid ((q.length - 1) * 64 ≤ 140737488355328) := by show _ ≤ _; omega
    have HBL : Hid (∀ W, Below w.heap.size w W → b < W.heap.size) := fun W hW => Nat.lt_of_lt_of_le hb hW.size
    have HAP : Hid (∀ W u, Below w.heap.size w W → RowC W u (q.length - 1) (vqC (q.take j) ++ vqC (q.drop (j + 1))) → Calls Try.prog 40 #[u] W fun e w' => ∃ ad n cap q', e = .returned (.slice ad n cap) ∧ vqL q' = (vqL q).take j ++ (vqL q).drop (j + 1) ∧ Hid (VnI w' (.slice ad n cap) q') ∧ Hid (Below w.heap.size w w')) := fun W u hW hr =>
      (vapart_ch u (q.take j ++ q.drop (j + 1)) W ⟨by
          have e : (q.take j ++ q.drop (j + 1)).length = q.length - 1 := by simp; omega
          rw [e, vqC_app]; exact hr, fun y hy => by
          rcases List.mem_append.1 hy with e | e
          · exact (HV.out.2 y (List.mem_of_mem_take e)).next hW
          · exact (HV.out.2 y (List.mem_of_mem_drop e)).next hW⟩ (by simp; omega) (fun y hy => by
          rcases List.mem_append.1 hy with e | e
          · exact HAL.out h1 y (List.mem_of_mem_take e)
          · exact HAL.out h1 y (List.mem_of_mem_drop e))).mono fun e w' ⟨ad, n, cap, q', he, hl, hi, hb⟩ => ⟨ad, n, cap, q', he, by rw [hl, vqL_cut], hi, below_on hW hb.out⟩
    obtain ⟨hwj, hwj2⟩ := wrap_succ j (by omega)
    generalize (vqL q).take j ++ (vqL q).drop (j + 1) = DL at *
    generalize vqC (q.take j) = OS at *
    generalize vqC (q.drop (j + 1)) = NS at *
    clear HE HD HLN HAL HV HC h1 h2 h3 h4 hd h5 h6 hx2 HRC hb
    go_enter Try.func19, Try.ntmps19
    go_wp2_with fail
    refine PL.out.mono ?_
    rintro e w1 ⟨rfl, b1⟩
    have B1 := hid b1
    clear PL b1
    have R1 := hid (HX2.out _ B1.out)
    have O1 := hid (HOL.out _ B1.out)
    have L1 := hid (HBL.out _ B1.out)
    have FIN : Hid (∀ ad' cap' w', RowC w' (.slice ad' (q.length - 1) cap') (q.length - 1) (OS ++ NS) → Below w1.heap.size w1 w' → Hid (∀ W, Keep (fun _ => False) w' W → Calls Try.prog 40 #[.slice ad' (q.length - 1) cap'] W fun e w' => ∃ ad n cap q', e = .returned (.slice ad n cap) ∧ vqL q' = DL ∧ Hid (VnI w' (.slice ad n cap) q') ∧ Hid (Below w.heap.size w w'))) := fun ad' cap' w' hr hb W hW => HAP.out W _ (below_on (below_on B1.out hb) (keep_below hW (fun _ _ h => h) (Nat.le_refl _))) (hr.keep hW (fun _ _ h => h))
    clear HX2 HOL HBL HAP hj h32 hcap
    go_wp2
    go_region_law (first | (refine step_rapp (w0 := w1) (by rfl) _ _ elV (by rfl) b off X2 OS NS j (q.length - (j + 1)) (q.length - 1) HNM.out (by first | with_reducible exact Keep.refl _ _ | with_reducible exact keep_drew _ _ | exact keep_drew _ _) (by kernel_rfl) (by kernel_rfl) HLO.out O1.out L1.out R1.out HLD.out HO1.out HB1.out HB2.out ?_; intro ad' cap' w2 hr2 hb2; have AP := FIN.out ad' cap' w2 hr2 hb2) | (go_simp; go_at_call 40; with_reducible (refine (AP.out _ ?_).mono ?_); (first | with_reducible exact Keep.refl _ _ | with_reducible exact keep_drew _ _ | exact keep_drew _ _); rintro e w4 ⟨ad4, n4, cap4, q4, rfl, hl4, I4, B4⟩; go_simp))
    all_goals
      have HL4 := hid hl4
      clear hl4 hr2 hb2 AP
      go_wp2
      go_ret2
      exact ⟨ad4, n4, cap4, q4, rfl, HL4.out, I4.out, B4.out⟩
end Go.Proofs.Ytbiapepalkdkdaa
