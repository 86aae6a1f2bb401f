/- Packets that go: slices.DeleteFunc on a net's list. -/
import Derived.Test.YtfcchmjofejkhaaNetD
namespace Go.Proofs.Ytfcchmjofejkhaa
open Go.RowKit Go.Maps
set_option linter.unusedVariables false
set_option linter.unusedSimpArgs false

theorem row_some {w : World} {n g cap : Nat} {xs : List Value} (h : w.ownsRow 0 33 3 (.slice (some ⟨g, 0, none⟩) n cap) n xs) : n ≤ cap ∧ (∀ o, o < cap * 3 → (w.cell? ⟨g, o, none⟩).isSome = true) ∧ ∀ o, w.frozen? ⟨g, o, none⟩ = false := by
  obtain ⟨h1, h2⟩ := h
  rcases h2 with ⟨e, _⟩ | ⟨g', cap', cur, e, hg, hb, hn, hm, hs, ht⟩
  · injection e with e; cases e
  · injection e with e1 e2 e3
    injection e1 with e1
    injection e1 with e1
    subst e1 e3
    refine ⟨hn, fun o ho => ?_, fun o => by unfold World.frozen?; rw [hb]; simp⟩
    rw [cell_of_row _ _ _ _ _ _ hb, Array.getElem?_eq_getElem (by omega)]
    rfl
theorem slice_from_eq (g n cap i : Nat) (hi : i < n) (hn : n ≤ cap) (W : World) : (Instr.slice 44 (.slice (some ⟨g, 0, none⟩) n cap) (some (.int .i64 (i : Int))) none none).run Try.prog W = .ok (.slice (some ⟨g, i * 3, none⟩) (n - i) (cap - i)) W := by
  obtain ⟨z, hz, _⟩ := ElPk.inf
  obtain ⟨i0, hi0, hi2⟩ := Option.map_eq_some_iff.1 hz
  simp only [Prod.mk.injEq] at hi2
  obtain ⟨_, hi3, _⟩ := hi2
  have e1 : (0 : Int) ≤ (i : Int) := by omega
  have hk : i ≤ n := by omega
  have hc : ¬ cap = i := by omega
  have e3 : (⟨g, 0, none⟩ : Addr).add (i * 3) = ⟨g, i * 3, none⟩ := by rw [Addr.add_lit, Nat.zero_add]
  simp [Instr.slice, Instr.sliceBounds, Instr.sliceBound, asIntOf, run_underlying ElPk.und, sizeOf, typeInfo, hi0, Result.andThen, e1, hk, hc, hi3, e3]
theorem slice_to_eq (g n cap i : Nat) (hi : i ≤ n) (hn : n ≤ cap) (W : World) : (Instr.slice 44 (.slice (some ⟨g, 0, none⟩) n cap) none (some (.int .i64 (i : Int))) none).run Try.prog W = .ok (.slice (some ⟨g, 0, none⟩) i cap) W := by
  obtain ⟨z, hz, _⟩ := ElPk.inf
  obtain ⟨i0, hi0, _⟩ := Option.map_eq_some_iff.1 hz
  have e1 : (0 : Int) ≤ (i : Int) := by omega
  have e2 : i ≤ cap := by omega
  have e3 : (⟨g, 0, none⟩ : Addr).add 0 = ⟨g, 0, none⟩ := rfl
  simp [Instr.slice, Instr.sliceBounds, Instr.sliceBound, asIntOf, run_underlying ElPk.und, sizeOf, typeInfo, hi0, Result.andThen, e1, e2, e3]
theorem zpk : ∀ w, (zeroValue 33).run Try.prog w = .ok (.agg #[.int .i64 0, .int .i64 0, .string ⟨#[]⟩]) w := by
  obtain ⟨i0, hi, hz0, hz1, hz2⟩ := info_parts (show (Try.prog.info? 33).map (fun i => (i.zero, i.size, i.bytes)) = some (some (.agg #[.int .i64 0, .int .i64 0, .string ⟨#[]⟩]), 3, 32) from by kernel_rfl)
  intro w
  simp [zeroValue, typeInfo, hi, hz0]
theorem run_clear_pk (w : World) (g o n c : Nat) (hn : 0 < n) (hc : ∀ j, j < n * 3 → (w.cell? ⟨g, o + j, none⟩).isSome = true) (hf : ∀ j, j < n * 3 → w.frozen? ⟨g, o + j, none⟩ = false) :
    ∃ vs, ∀ ty, (Builtin.clear_ #[44] ty #[.slice (some ⟨g, o, none⟩) n c]).run Try.prog w = .ok (.tuple #[]) (w.setCells g o vs) := by
  obtain ⟨vs, hvs⟩ : ∃ vs, vs = (Builtin.zeroCells (Value.agg #[.int .i64 0, .int .i64 0, .string ⟨#[]⟩]).cells n).toList := ⟨_, rfl⟩
  have hl : vs.length = n * 3 := by rw [hvs]; simp [Builtin.zeroCells, Value.cells]
  have h1 : ∀ v ∈ vs, v.oneCell' = true := by
    intro v hv
    rw [hvs] at hv
    simp only [Builtin.zeroCells, Value.cells, Array.toList_map, List.mem_map] at hv
    obtain ⟨i, _, rfl⟩ := hv
    have h3 : i % 3 = 0 ∨ i % 3 = 1 ∨ i % 3 = 2 := by omega
    have e : (#[Value.int .i64 0, .int .i64 0, .string ⟨#[]⟩] : Array Value).size = 3 := rfl
    rw [e]
    rcases h3 with h | h | h <;> rw [h] <;> rfl
  have hst := run_storeCells_cells (P := Try.prog) g o vs 0 w (by rw [hl]; simpa using hc) (by rw [hl]; simpa using hf) h1
  simp only [Nat.add_zero] at hst
  refine ⟨vs, fun ty => ?_⟩
  obtain ⟨m, rfl⟩ : ∃ m, n = m + 1 := ⟨n - 1, by omega⟩
  rw [hvs] at hst ⊢
  simp [Builtin.clear_, run_underlying ElPk.und, zpk, hst]
theorem filt_succ (L : List Pk) (K : Pk → Bool) (j : Nat) (hj : j < L.length) : (L.take (j + 1)).filter K = (L.take j).filter K ++ (if K L[j] = true then [L[j]] else []) := by
  rw [List.take_succ_eq_append_getElem hj, List.filter_append]
  congr 1
  by_cases h : K L[j] = true
  · rw [if_pos h]; simp [h]
  · rw [if_neg h]; simp [h]
/-- how far the list is put right -/
structure DelI (L : List Pk) (K : Pk → Bool) (i j : Nat) (R : List Pk) : Prop where
  len : R.length = L.length
  lt : i < j
  le : j ≤ L.length
  done : R.take i = (L.take j).filter K
  rest : R.drop j = L.drop j
theorem DelI.get {L : List Pk} {K : Pk → Bool} {i j : Nat} {R : List Pk} (h : DelI L K i j R) (hj : j < L.length) : R[j]'(by rw [h.len]; exact hj) = L[j] := by
  have e := h.rest
  have h1 : (R.drop j)[0]? = (L.drop j)[0]? := by rw [e]
  have h0 := h.len
  simp [hj, List.getElem?_eq_getElem (show j < R.length by omega)] at h1
  exact h1
theorem DelI.skip {L : List Pk} {K : Pk → Bool} {i j : Nat} {R : List Pk} (h : DelI L K i j R) (hj : j < L.length) (hk : K L[j] = false) : DelI L K i (j + 1) R := by
  refine ⟨h.len, Nat.lt_succ_of_lt h.lt, hj, ?_, ?_⟩
  · rw [filt_succ L K j hj, hk, h.done]; simp
  · rw [← List.drop_drop, ← List.drop_drop, h.rest]
theorem DelI.keep {L : List Pk} {K : Pk → Bool} {i j : Nat} {R : List Pk} (h : DelI L K i j R) (hj : j < L.length) (hk : K L[j] = true) : DelI L K (i + 1) (j + 1) (R.set i L[j]) := by
  have hi := h.lt
  have hl := h.len
  refine ⟨by rw [List.length_set]; exact hl, by omega, hj, ?_, ?_⟩
  · rw [filt_succ L K j hj, hk, ← h.done, List.take_succ_eq_append_getElem (by rw [List.length_set]; omega), List.take_set_of_le (Nat.le_refl _)]
    simp
  · rw [List.drop_set_of_lt (by omega), ← List.drop_drop, ← List.drop_drop, h.rest]
set_option maxRecDepth 100000 in
set_option maxHeartbeats 4000000 in
theorem delete_any (f : FuncId) (cv : Value) (G : Pk → Bool) (L : List Pk) (v : Value) (w : World) (hcf : ∀ xs W, (callFunc f xs).run Try.prog W = .ok (.enter f xs) W) (hr : w.ownsRow 0 33 3 v L.length (pks L)) (hl : L.length ≤ 8192)
    (hf : ∀ x ∈ L, ∀ W, Keep (fun j => v.ownBlock = some j) w W → Calls Try.prog f #[pkV x, cv] W fun e w' => e = .returned (.bool (G x)) ∧ Keep (fun _ => False) W w') :
    Calls Try.prog 44 #[v, .func (.func f) #[] #[cv]] w fun e w' => ∃ v', e = .returned v' ∧ w'.ownsRow 0 33 3 v' (L.filter fun x => !G x).length (pks (L.filter fun x => !G x)) ∧ v'.ownBlock = v.ownBlock ∧ Keep (fun j => v.ownBlock = some j) w w' := by
  have IX := hid (index_any f cv G L v w hcf hr hl hf)
  obtain ⟨ad, cap, rfl⟩ := row_form hr
  have HR := hid hr
  have HF := hid hf
  clear hf hr
  go_enter Try.func44, Try.ntmps44
  go_wp2_with fail
  refine IX.out.mono ?_
  rintro e w1 ⟨⟨r, rfl, hrr⟩, k1⟩
  clear IX
  rcases hrr with ⟨rfl, hall⟩ | ⟨i, hi, rfl, hgi, hgm⟩
  · have HE : Hid (L.filter (fun x => !G x) = L) := List.filter_eq_self.2 (fun x hx => by rw [hall x hx]; rfl)
    have HO := hid (k1.ownsRow HR.out (fun _ _ h => h))
    have HK := hid k1
    clear hall HF HR k1
    go_wp2
    go_ret
    refine ⟨_, rfl, ?_, rfl, HK.out.mono (fun _ _ h => h.elim)⟩
    rw [HE.out]; exact HO.out
  · have hne : ((i : Int) == -1) = false := by first | (simp; done) | (simp; omega)
    have hne2 : ¬ ((i : Int) = -1) := by omega
    have hwi : wrap64 ((i : Int) + 1) = (i : Int) + 1 := IntWalk.wrap64_in _ (by omega)
    obtain ⟨g, cap', hv, hg, _, _⟩ := row_cells HR.out i hi
    injection hv with hv1 hv2 hv3
    subst hv1 hv3
    have D0 : Hid (DelI L (fun x => !G x) i (i + 1) L) := by
      refine ⟨rfl, by omega, hi, ?_, rfl⟩
      rw [filt_succ _ _ i hi, hgi]
      simp
      symm
      rw [List.filter_eq_self]
      intro x hx
      obtain ⟨m, hm, rfl⟩ := List.getElem_of_mem hx
      simp at hm
      simp [hgm m (by omega)]
    have HO1 := hid (k1.ownsRow HR.out (fun _ _ h => h))
    have HK1 : Hid (Keep (· = g) w w1) := k1.mono (fun _ _ h => h.elim)
    have HLC := hid (row_some HR.out).1
    clear hgi hgm k1 HR hg
    go_wp2
    clear hne hne2 hwi
    go_loopw [5, 6] (fun si sj wr => ∃ (i j : Nat) (R : List Pk), si = .int .i64 (i : Int) ∧ sj = .int .i64 (j : Int) ∧ Hid (DelI L (fun x => !G x) i j R) ∧ Hid (wr.ownsRow 0 33 3 (.slice (some ⟨g, 0, none⟩) L.length cap) L.length (pks R)) ∧ Hid (Keep (· = g) w wr)) (fun _ sj _ => L.length - (intOf sj).toNat)
    case atStart => exact ⟨i, i + 1, L, rfl, by go_num, D0, HO1, HK1⟩
    case round =>
      clear D0 HO1 HK1
      obtain ⟨i, j, R, rfl, rfl, HD, HO, HK⟩ := hrel
      have hlt := HD.out.lt
      have hle := HD.out.le
      have hlen := HD.out.len
      by_cases hj : j < L.length
      · have hj0 : (0 : Int) ≤ (j : Int) := by omega
        have hj1 : (j : Int) < (L.length : Int) := by omega
        have hi0 : (0 : Int) ≤ (i : Int) := by omega
        have hi1 : (i : Int) < (L.length : Int) := by omega
        have hwj : wrap64 ((j : Int) + 1) = (j : Int) + 1 := IntWalk.wrap64_in _ (by omega)
        have hwi : wrap64 ((i : Int) + 1) = (i : Int) + 1 := IntWalk.wrap64_in _ (by omega)
        obtain ⟨g', cap', hv, hg, ⟨x0, x1, x2⟩, _⟩ := row_cells HO.out j (by rw [hlen]; exact hj)
        injection hv with hv1 hv2 hv3
        injection hv1 with hv1
        injection hv1 with hv1
        subst hv1 hv3
        rw [HD.out.get hj] at x0 x1 x2
        have HSK := hid (fun h => HD.out.skip hj h)
        have HKP := hid (fun h => HD.out.keep hj h)
        have kal := fun X => keep_alloc (fun _ => False) wr X
        have C := hid (fun X => HF.out L[j] (List.getElem_mem hj) (wr.alloc X) ((HK.out.mono (fun k _ (e : k = g) => by rw [e]; rfl)).trans ((kal X).mono (fun _ _ h => h.elim))))
        generalize G L[j] = b at *
        generalize L[j] = x at *
        obtain ⟨fr, tt, s⟩ := x
        unfold pkV at *
        simp only at *
        clear HF HD
        cases b with
        | true =>
          have HS2 := hid (HSK.out rfl)
          clear HSK HKP
          go_wp2_with fail
          refine (C.out _).mono ?_
          rintro e w2 ⟨rfl, k2⟩
          have k3 : Keep (fun _ => False) wr w2 := (kal _).trans k2
          have HK2 : Hid (Keep (· = g) w w2) := HK.out.trans (k3.mono (fun _ _ h => h.elim))
          have HO2 := hid (k3.ownsRow HO.out (fun _ _ h => h))
          clear k2 k3 kal C x0 x1 x2 HK HO
          go_wp2
          exact ⟨⟨i, j + 1, R, rfl, by go_num, HS2, HO2, HK2⟩, by simp [intOf]; omega⟩
        | false =>
          have HS2 := hid (HKP.out rfl)
          clear HSK HKP
          go_wp2_with fail
          refine (C.out _).mono ?_
          rintro e w2 ⟨rfl, k2⟩
          have k3 : Keep (fun _ => False) wr w2 := (kal _).trans k2
          have HO2 := hid (k3.ownsRow HO.out (fun _ _ h => h))
          have rl0 : RowIs (wr.alloc (.cells #[.int .i64 fr, .int .i64 tt, .string s] 33)) wr.heap.size [.int .i64 fr, .int .i64 tt, .string s] 33 := heap_alloc_new _ _
          have rl := rl0.keep k2 (fun h => h)
          have l0 := rl.cellAt (o := 0) rfl
          have l1 := rl.cellAt (o := 1) rfl
          have l2 := rl.cellAt (o := 2) rfl
          have HO3 := hid (own_set3 (x := ⟨fr, tt, s⟩) HO2.out (show i < R.length by omega))
          obtain ⟨g', cap', hv, _, ⟨y0, y1, y2⟩, fz⟩ := row_cells HO2.out i (show i < R.length by omega)
          injection hv with hv1 hv2 hv3
          injection hv1 with hv1
          injection hv1 with hv1
          subst hv1 hv3
          have f0 := fz (i * 3)
          have f1 := fz (i * 3 + 1)
          have f2 := fz (i * 3 + 2)
          have HK3 : Hid (Keep (· = g) w (((w2.setCell ⟨g, i * 3, none⟩ (.int .i64 fr)).setCell ⟨g, i * 3 + 1, none⟩ (.int .i64 tt)).setCell ⟨g, i * 3 + 2, none⟩ (.string s))) :=
            (HK.out.trans (k3.mono (fun _ _ h => h.elim))).trans (((keep_setCell _ _ _ _).trans (keep_setCell _ _ _ _)).trans (keep_setCell _ _ _ _))
          clear k2 k3 kal C x0 x1 x2 HK HO HO2 fz rl rl0
          go_wp2
          exact ⟨⟨i + 1, j + 1, _, by go_num, by go_num, HS2, HO3, HK3⟩, by simp [intOf]; omega⟩
      · have hj9 : j = L.length := by omega
        subst hj9
        have hdl : decide ((L.length : Int) < (L.length : Int)) = false := decide_eq_false (by omega)
        have hlc := HLC.out
        have hsf := fun W => slice_from_eq g L.length cap i hlt hlc W
        have hst := fun W => slice_to_eq g L.length cap i (by omega) hlc W
        obtain ⟨_, hsm, hfz⟩ := row_some HO.out
        obtain ⟨vs, hcl⟩ := run_clear_pk wr g (i * 3) (L.length - i) (cap - i) (by omega) (fun q hq => hsm _ (by omega)) (fun q hq => hfz _)
        have HFN : Hid ((wr.setCells g (i * 3) vs).ownsRow 0 33 3 (.slice (some ⟨g, 0, none⟩) i cap) i (pks (R.take i))) := own_front HO.out hlen (by omega)
        have HEQ : Hid (R.take i = L.filter (fun x => !G x)) := by
          have h9 := HD.out.done
          rw [List.take_length] at h9
          exact h9
        have HLN : Hid ((L.filter (fun x => !G x)).length = i) := by
          show _ = _
          rw [← HEQ.out, List.length_take]; omega
        have HKE : Hid (Keep (fun k => (Value.slice (some ⟨g, 0, none⟩) L.length cap).ownBlock = some k) w (wr.setCells g (i * 3) vs)) := (HK.out.trans (keep_setCells wr g (i * 3) vs)).mono (fun k _ e => by rw [e]; rfl)
        clear hsm hfz HF HO HK HD hle hj
        go_wp2
        go_ret
        refine ⟨_, rfl, ?_, rfl, HKE.out⟩
        rw [HLN.out, ← HEQ.out]; exact HFN.out
end Go.Proofs.Ytfcchmjofejkhaa
