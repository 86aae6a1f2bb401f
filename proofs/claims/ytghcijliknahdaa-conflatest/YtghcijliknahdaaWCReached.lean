/- The walk of the law ConfReached. -/
import Derived.Test.YtghcijliknahdaaConfU
import Derived.OpenShut
namespace Go.Proofs.Ytghcijliknahdaa
open Go.RowKit Go.Maps
set_option linter.unusedVariables false
set_option linter.unusedSimpArgs false

theorem rem_lt (x m : Int) (hm : 0 < m) : -m < x.tmod m ∧ x.tmod m < m := ⟨Int.lt_tmod_of_pos x hm, Int.tmod_lt_of_pos x hm⟩
theorem rem_up (x m : Int) (hm : 0 < m) : 0 ≤ (x.tmod m + m).tmod m ∧ (x.tmod m + m).tmod m < m := by
  have h := rem_lt x m hm
  exact ⟨Int.tmod_nonneg _ (by omega), Int.tmod_lt_of_pos _ hm⟩
theorem ix_any (g k n cap : Nat) (hk : k < n) (W : World) : (Instr.indexAt 22 (.slice (some ⟨g, 0, none⟩) n cap) (.int .i64 (k : Int))).run Try.prog W = .ok (.pointer (some ⟨g, k, none⟩)) W := by
  have h1 : (k : Int) < (n : Int) := by omega
  have h := run_indexAt_slice (P := Try.prog) W 22 ⟨g, 0, none⟩ n cap .i64 (k : Int) (by kernel_rfl)
  have he : Try.prog.elem 22 = 3 := by kernel_rfl
  obtain ⟨i0, hi, hz0, hz1, hz2⟩ := info_parts info3
  rw [h, if_pos ⟨by omega, h1⟩, he]
  simp [sizeOf, typeInfo, hi, hz1, Addr.add_lit]
theorem wpl_iall {w : World} {ops : Array Oper} {rest : List Oper} {o : Oper} {a : Act} {Q : Exit → Act → World → Prop} (hgd : o.guard = none) (sl x : Operand)
    (ho : o.op = .call { callee := .builtin .append, args := #[sl, x], argTypes := #[22, 22] }) (B g n : Nat) (v : Value) (l : List Int) (hn : l.length = n)
    (hs : a.eval sl = .slice (some ⟨g, 0, none⟩) 0 0) (hx : a.eval x = v) (hg : w.heap[g]? = some (.cells #[] 3 (0, 0))) (hB : B ≤ g) (hv : IntsI w v l) (hl : l.length * 8 ≤ 140737488355328)
    (h : ∀ ad' cap' w', OwnI w' B (.slice ad' n cap') l → Below B w w' → wpList Try.prog ops Q rest (a.put o.dst (.slice ad' n cap')) w') : wpList Try.prog ops Q (o :: rest) a w := by
  subst hn
  refine wpList_plain hgd fun K hK => ?_
  have h0 : w.ownsRow B 3 1 (.slice (some ⟨g, 0, none⟩) 0 0) 0 [] := own_empty hg hB
  have hlt : g < w.heap.size := (Array.getElem?_eq_some_iff.1 hg).1
  have hX : ∃ v', v = v' ∧ (GSrc w v l.length (isC l) ∨ (l = [] ∧ ∃ ad c, v = .slice ad 0 c)) := by
    refine ⟨v, rfl, ?_⟩
    rcases hv with ⟨ad, cap, rfl, rfl⟩ | ⟨b, off, cap, rfl, hb, hc⟩
    · exact .inr ⟨rfl, ad, cap, rfl⟩
    · refine .inl (.inr ⟨b, off, cap, rfl, hb, fun j u hu => ?_⟩)
      have hj := (List.getElem?_eq_some_iff.1 hu).1
      rw [isC_len] at hj
      rw [isC_get l j hj] at hu
      rw [hc j hj, hu]
  have hA : ∃ ad' cap' w', (Builtin.append_ #[22, 22] o.type #[.slice (some ⟨g, 0, none⟩) 0 0, v]).run Try.prog w = .ok (.slice ad' l.length cap') w' ∧ OwnI w' B (.slice ad' l.length cap') l ∧ Below B w w' := by
    obtain ⟨_, _, hX | ⟨rfl, ad, c, rfl⟩⟩ := hX
    · obtain ⟨ad', cap', w', hr, h2, h3⟩ := gappL elInt o.type h0 (by omega) hX (by rw [isC_len, Nat.mul_one]) (fun u hu => by obtain ⟨y, _, rfl⟩ := List.mem_map.1 hu; rfl) (by omega) (by omega)
      rw [Nat.zero_add] at hr h2
      rw [List.nil_append] at h2
      refine ⟨ad', cap', w', hr, h2, keep_below h3 (fun k hk e => ?_) (by omega)⟩
      simp [Value.ownBlock] at e
      omega
    · refine ⟨some ⟨g, 0, none⟩, 0, w, ?_, h0, Below.refl _ _⟩
      obtain ⟨i0, hi, _⟩ := info_parts info3
      cases ad <;> simp [Builtin.append_, run_underlying Try.underlying22, sizeOf, typeInfo, hi, Builtin.lenOf, Builtin.firstCells, storeCells, loadCells, loadCellsFrom]
  obtain ⟨ad', cap', w', hr, h2, h3⟩ := hA
  unfold Oper.wp execOp
  simp only [ho, resolve, invoke, builtin, Sem.run_bind, Sem.run_pure, Result.andThen_ok, List.map_toArray, List.map_cons, List.map_nil, hs, hx, hr]
  exact hK _ _ (h ad' cap' w' h2 h3)
/-- a place of a row that the call owns -/
theorem own_place {w : World} {B cap : Nat} {ad : Option Addr} {l : List Int} (h : OwnI w B (.slice ad l.length cap) l) (k : Nat) (hk : k < l.length) :
    ∃ g, ad = some ⟨g, 0, none⟩ ∧ w.cell? ⟨g, k, none⟩ = some (.int .i64 l[k]) ∧ w.frozen? ⟨g, k, none⟩ = false ∧ ∀ x, IntsI (w.setCell ⟨g, k, none⟩ (.int .i64 x)) (.slice ad l.length cap) (l.set k x) ∧ (B ≤ w.heap.size → Below B w (w.setCell ⟨g, k, none⟩ (.int .i64 x))) := by
  rcases h.2 with ⟨e, h0⟩ | ⟨g, cap', cur, e, hg, hb, r⟩
  · omega
  · injection e with e1 e2 e3
    subst e1 e3
    have hc : ∀ j (hj : j < l.length), w.cell? ⟨g, j, none⟩ = some (.int .i64 l[j]) := fun j hj => grow_at h (isC_get l j hj)
    have hlt := (Array.getElem?_eq_some_iff.1 hb).1
    refine ⟨g, rfl, hc k hk, by unfold World.frozen?; rw [hb]; simp, fun x => ⟨?_, fun hB => keep_below (keep_setCell _ _ _ _) (fun j hj => by omega) hB⟩⟩
    refine .inr ⟨g, 0, cap, by simp, by simp [World.setCell]; exact hlt, fun j hj => ?_⟩
    rw [Nat.zero_add]
    have hj' : j < l.length := by simpa using hj
    by_cases hjk : k = j
    · subst hjk
      rw [World.cell?_setCell_same _ _ _ (hc k hk)]
      simp
    · rw [World.cell?_setCell_other _ _ _ _ (by simp [hjk, Ne.symm hjk]), hc j hj']
      simp [hjk]
theorem vAt_more (o : List Int) (k : Nat) (hk : k < o.length) (x : Int) : vAt o x ≤ vAt (o.set k (o[k] + 1)) x := by
  unfold vAt
  rw [List.getD_eq_getElem?_getD, List.getD_eq_getElem?_getD, List.getElem?_set]
  split
  · rename_i h
    rw [← h, List.getElem?_eq_getElem hk]
    simp
    omega
  · exact Int.le_refl _
set_option maxRecDepth 100000 in
set_option maxHeartbeats 1000000 in
theorem confReached_walk (v0 : Value) (l : List Int) (v1 : Value) (o : List Int) (n : Int) (w : World) (h0 : IntsI w v0 l) (_f0 : ∀ x ∈ l, (Lit.int .i64 x).wf = true) (z0 : l.length ≤ 17592186044416) (h1 : IntsI w v1 o) (f1 : ∀ x ∈ o, (Lit.int .i64 x).wf = true) (z1 : o.length ≤ 17592186044416) (_hn : (Lit.int .i64 n).wf = true) :
    Calls Try.prog 8 #[v0, v1, .int .i64 n] w fun e w' => e = .returned (.bool true) ∧ Below w.heap.size w w' := by
  have R1 := hid (creached_any v0 v1 l o w h0 h1 (by omega))
  have AW := hid (fun W => awake9 W)
  have R2 : Hid (∀ W, Below w.heap.size w W → Calls Try.prog 32 #[v0, v1] W fun e w' => e = .returned (.int .i64 (rchC l o)) ∧ Below w.heap.size w w') := fun W hW => (rreached_any v0 v1 l o W (h0.next hW) (h1.next hW) (by omega)).mono fun e w' ⟨he, hb⟩ => ⟨he, below_on hW hb⟩
  have R3 : Hid (∀ v' o' W, Below w.heap.size w W → IntsI W v' o' → Calls Try.prog 31 #[v0, v'] W fun e w' => e = .returned (.int .i64 (rchC l o')) ∧ Below w.heap.size w w') := fun v' o' W hW hi => (creached_any v0 v' l o' W (h0.next hW) hi (by omega)).mono fun e w' ⟨he, hb⟩ => ⟨he, below_on hW hb⟩
  have RM := hid (fun o' h => rch_mono l o o' h)
  have HI := hid (fun W (hW : Below w.heap.size w W) => h1.next hW)
  have HF := hid f1
  have HZ := hid z1
  obtain ⟨ad, cap, rfl, _⟩ := h1.form
  generalize hR : rchC l o = R at *
  clear hR h0 h1 _f0 f1 z0 z1 _hn
  have hrr : (R != R) = false := by simp
  go_enter Try.func8, Try.ntmps8
  go_wp2_with fail
  refine R1.out.mono ?_
  rintro e w1 ⟨rfl, k1⟩
  have H1 := hid k1
  clear k1 R1
  go_wp2_with fail
  refine (AW.out _).mono ?_
  rintro e w2 ⟨rfl, k2⟩
  have H2 := hid (below_on H1.out k2)
  clear k2 H1 AW
  go_wp2_with fail
  refine (R2.out _ H2.out).mono ?_
  rintro e w3 ⟨rfl, k3⟩
  have H3 := hid k3
  clear k3 H2 R2
  by_cases hz : o.length = 0
  · have hz' : ((o.length : Int) == 0) = true := by rw [hz]; rfl
    clear hz R3 RM HI HF HZ
    go_wp2
    go_ret
    exact ⟨rfl, H3.out⟩
  · have hz' : ((o.length : Int) == 0) = false := by rw [beq_eq_false_iff_ne]; omega
    have hz2 : ¬ (o.length : Int) = 0 := by omega
    have hlp : (0 : Int) < (o.length : Int) := by omega
    have hzz := HZ.out
    obtain ⟨r1, r2⟩ := rem_lt n (o.length : Int) hlp
    obtain ⟨u1, u2⟩ := rem_up n (o.length : Int) hlp
    have hw1 : wrap64 (n.tmod (o.length : Int)) = n.tmod (o.length : Int) := IntWalk.wrap64_in _ (by omega)
    have hw2 : wrap64 (n.tmod (o.length : Int) + (o.length : Int)) = n.tmod (o.length : Int) + (o.length : Int) := IntWalk.wrap64_in _ (by omega)
    obtain ⟨k, hk⟩ : ∃ k : Nat, (n.tmod (o.length : Int) + (o.length : Int)).tmod (o.length : Int) = (k : Int) := ⟨((n.tmod (o.length : Int) + (o.length : Int)).tmod (o.length : Int)).toNat, by omega⟩
    have hw3 : wrap64 ((k : Int)) = (k : Int) := IntWalk.wrap64_in _ (by omega)
    have HKB : Hid ((k : Int) ≤ 17592186044416 ∧ (o.length : Int) ≤ 17592186044416) := by show _ ∧ _; omega
    have hko : k < o.length := by omega
    have hk0 : (0 : Int) ≤ (k : Int) := by omega
    have hk1 : (k : Int) < (o.length : Int) := by omega
    have HKO := hid hko
    have HB := hid (Go.bounds_i64 (HF.out o[k] (List.getElem_mem hko)))
    have HVM := hid (vAt_more o k hko)
    have HGA : Hid ((w3.alloc (.cells #[] 3)).heap[w3.heap.size]? = some (.cells #[] 3 (0, 0))) := heap_alloc_new _ _
    have HBA : Hid (Below w.heap.size w (w3.alloc (.cells #[] 3))) := below_al H3.out _
    have HIA := hid (HI.out _ HBA.out)
    have HL8 : Hid (o.length * 8 ≤ 140737488355328) := by show _ ≤ _; omega
    clear hz r1 r2 u1 u2 hlp hzz HZ HI HF
    by_cases hy : o[k]'HKO.out < 4611686018427387904
    · have hyd : decide (o[k]'HKO.out < 4611686018427387904) = true := decide_eq_true hy
      have hwy : wrap64 (o[k]'HKO.out + 1) = o[k]'HKO.out + 1 := IntWalk.wrap64_in _ (by have := HB.out; omega)
      have HRM : Hid (R ≤ rchC l (o.set k (o[k]'HKO.out + 1))) := RM.out _ HVM.out
      have HPL := hid (fun (w4 : World) (ad' : Option Addr) (cap' : Nat) (ho' : OwnI w4 w.heap.size (.slice ad' o.length cap') o) => own_place ho' k HKO.out)
      clear HB RM HVM hy
      generalize o[k]'HKO.out = y at *
      clear hko
      go_wp2_with (at_builtin; refine wpl_iall rfl _ _ rfl w.heap.size w3.heap.size o.length _ o rfl rfl rfl HGA.out H3.out.size HIA.out HL8.out ?_; intro ad' cap' w4 ho' hk'; obtain ⟨g, rfl, hcg, hfg, hst⟩ := HPL.out w4 ad' cap' ho')
      have HB4 : Hid (Below w.heap.size w w4) := HBA.out.trans hk'
      have R4 := hid (R3.out _ _ _ (HB4.out.trans ((hst (y + 1)).2 HB4.out.size)) (hst (y + 1)).1)
      generalize rchC l (o.set k (y + 1)) = R' at *
      clear ho' hk' hst HGA HBA HIA HL8 hk hw1 hw2 hw3 hz' hz2 hrr R3 HPL
      refine R4.out.mono ?_
      rintro e w5 ⟨rfl, k5⟩
      have H5 := hid k5
      have hge : decide (R ≤ R') = true := decide_eq_true HRM.out
      clear k5 R4
      go_wp2
      go_ret
      exact ⟨rfl, H5.out⟩
    · have hyd : decide (o[k]'HKO.out < 4611686018427387904) = false := decide_eq_false hy
      have HRM : Hid (R ≤ rchC l o) := RM.out _ (fun x => Int.le_refl _)
      have HPL := hid (fun (w4 : World) (ad' : Option Addr) (cap' : Nat) (ho' : OwnI w4 w.heap.size (.slice ad' o.length cap') o) => own_place ho' k HKO.out)
      clear HB RM HVM hy
      generalize o[k]'HKO.out = y at *
      clear hko
      go_wp2_with (at_builtin; refine wpl_iall rfl _ _ rfl w.heap.size w3.heap.size o.length _ o rfl rfl rfl HGA.out H3.out.size HIA.out HL8.out ?_; intro ad' cap' w4 ho' hk'; obtain ⟨g, rfl, hcg, hfg, hst⟩ := HPL.out w4 ad' cap' ho')
      have HB4 : Hid (Below w.heap.size w w4) := HBA.out.trans hk'
      have R4 := hid (R3.out _ _ _ HB4.out ho'.ints)
      generalize rchC l o = R' at *
      clear ho' hk' hst HGA HBA HIA HL8 hk hw1 hw2 hw3 hz' hz2 hrr R3 HPL
      refine R4.out.mono ?_
      rintro e w5 ⟨rfl, k5⟩
      have H5 := hid k5
      have hge : decide (R ≤ R') = true := decide_eq_true HRM.out
      clear k5 R4
      go_wp2
      go_ret
      exact ⟨rfl, H5.out⟩
end Go.Proofs.Ytghcijliknahdaa
