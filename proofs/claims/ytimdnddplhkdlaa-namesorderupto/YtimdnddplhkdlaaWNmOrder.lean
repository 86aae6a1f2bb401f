/- The walk of the law NamesOrder. -/
import Derived.Test.YtimdnddplhkdlaaWNmFolds
namespace Go.Proofs.Ytimdnddplhkdlaa
open Go.RowKit Go.Shelf Go.Maps
set_option linter.unusedVariables false
set_option linter.unusedSimpArgs false

theorem elS : ElT 24 9 1 16 := ⟨Try.underlying24, ⟨.string ⟨#[]⟩, by kernel_rfl, rfl⟩, by decide⟩
/-- texts as cells -/
def stC (l : List Bs) : List Value := l.map fun x => .string (tb x)
theorem stC_len (l : List Bs) : (stC l).length = l.length := by simp [stC]
theorem strs_row {w : World} {B n : Nat} {v : Value} {l : List Bs} (h : w.ownsRow B 9 1 v n (stC l)) : Strs w v (l.map tb) := by
  have hn : l.length = n := by have := h.1; rw [stC_len] at this; omega
  rcases h.2 with ⟨e, h0⟩ | ⟨g, cap, cur, e, hg, hb, _⟩
  · exact .inl ⟨by rw [List.map_eq_nil_iff]; exact List.length_eq_zero_iff.1 (by omega), none, 0, e⟩
  · subst e
    refine .inr ⟨g, 0, cap, by rw [List.length_map, hn], (Array.getElem?_eq_some_iff.1 hb).1, fun j hj => ?_⟩
    rw [Nat.zero_add]
    refine grow_at h ?_
    rw [List.length_map] at hj
    simp [stC, hj]
theorem idx_twice (a : Int) (n : Nat) (hn : 0 < n) (hl : n ≤ 100) : ∃ t : Nat, t < n ∧ (a.tmod (n : Int) + (n : Int)).tmod (n : Int) = (t : Int) ∧ wrap64 (a.tmod (n : Int) + (n : Int)) = a.tmod (n : Int) + (n : Int) := by
  have h1 : a.tmod (n : Int) < (n : Int) := Int.tmod_lt_of_pos a (by omega)
  have h2 : -(n : Int) < a.tmod (n : Int) := by
    have := Int.tmod_lt_of_pos (-a) (b := (n : Int)) (by omega)
    rw [Int.neg_tmod] at this
    omega
  have h3 : 0 ≤ (a.tmod (n : Int) + (n : Int)).tmod (n : Int) := Int.tmod_nonneg _ (by omega)
  have h4 := Int.tmod_lt_of_pos (a.tmod (n : Int) + (n : Int)) (b := (n : Int)) (by omega)
  refine ⟨((a.tmod (n : Int) + (n : Int)).tmod (n : Int)).toNat, by omega, by omega, ?_⟩
  unfold wrap64
  omega
set_option maxRecDepth 100000 in
set_option maxHeartbeats 8000000 in
theorem namesOrder_walk (v : Value) (ks : List Bs) (p d af : Bs) (most twice : Int) (w : World) (hv : Strs w v (ks.map tb)) (hl : ks.length ≤ 1048576) (hb : ∀ k ∈ ks, k.length ≤ 1048576) (hpl : p.length ≤ 1048576) (hdl : d.length ≤ 1048576) (hal : af.length ≤ 1048576) (_ : (Lit.int .i64 twice).wf = true) (hm : MaxL w) :
    Calls Try.prog 6 #[v, .agg #[.string (tb p), .string (tb d), .string (tb af), .int .i64 most], .int .i64 twice] w fun e w' => e = .returned (.bool true) ∧ Below w.heap.size w w' := by
  have k1 := keep_alloc (fun _ => False) w (.cells #[.string (tb p), .string (tb d), .string (tb af), .int .i64 most] 26)
  have hR : RowIs (w.alloc (.cells #[.string (tb p), .string (tb d), .string (tb af), .int .i64 most] 26)) w.heap.size (askC p d af most) 26 := heap_alloc_new _ _
  have AW := hid (fun W (h : Keep (fun _ => False) w W) => awake12 W (hm.keep h))
  have FA := hid (fun ks' v' W (h : Keep (fun _ => False) w W) (hs : Strs W v' (ks'.map tb)) (hl' : ks'.length ≤ 1048576) (hb' : ∀ k ∈ ks', k.length ≤ 1048576) => fold_any ks' p d af most v' W hs (hm.keep h) hl' hb')
  have BX : Hid (∀ W, Keep (fun _ => False) (w.alloc (.cells #[.string (tb p), .string (tb d), .string (tb af), .int .i64 most] 26)) W → W.cell? ⟨w.heap.size, 0, none⟩ = some (.string (tb p)) ∧ W.cell? ⟨w.heap.size, 1, none⟩ = some (.string (tb d)) ∧ W.cell? ⟨w.heap.size, 2, none⟩ = some (.string (tb af)) ∧ W.cell? ⟨w.heap.size, 3, none⟩ = some (.int .i64 most)) := fun W h => by
    have r := hR.keep h (fun h => h)
    exact ⟨r.cellAt rfl, r.cellAt rfl, r.cellAt rfl, r.cellAt rfl⟩
  have HK1 := hid k1
  have HBK := hid hb
  have HV := hid (fun W (h : Keep (fun _ => False) w W) => strs_keep hv h)
  obtain ⟨ad0, cap0, hve, hcell⟩ := hv.at
  rw [List.length_map] at hve
  rw [List.length_map] at hcell
  subst hve
  have HC : Hid (∀ (k : Nat) (hk : k < ks.length) (W : World), Keep (fun _ => False) w W → ∃ b off, ad0 = some ⟨b, off, none⟩ ∧ W.cell? ⟨b, off + k, none⟩ = some (.string (tb ks[k]))) := by
    intro k hk W hW
    obtain ⟨b, off, e, hb, hc⟩ := hcell k (by simpa using hk)
    refine ⟨b, off, e, (hW.cell hb (fun h => h)).trans (hc.trans ?_)⟩
    simp [hk]
  clear hv hb hpl hdl hal hm hR k1 hcell
  generalize tb p = P at *
  generalize tb d = D at *
  generalize tb af = AF at *
  by_cases h100 : 100 < ks.length
  · have h1 : (100 : Int) < (ks.length : Int) := by omega
    have A1 := hid (AW.out _ HK1.out)
    clear FA BX AW hl HC HV HBK
    go_enter Try.func6, Try.ntmps6
    go_wp2_with fail
    refine A1.out.mono ?_
    rintro e w2 ⟨rfl, hk2⟩
    have HB := hid (keep_bel (HK1.out.trans hk2))
    clear hk2 A1
    go_wp2
    go_ret
    exact ⟨rfl, HB.out⟩
  have h1 : decide ((100 : Int) < (ks.length : Int)) = false := decide_eq_false (by omega)
  by_cases h0 : ks.length = 0
  · have h2 : ((ks.length : Int) == 0) = true := by rw [beq_iff_eq]; omega
    have A1 := hid (AW.out _ HK1.out)
    clear FA BX AW hl HC HV HBK h0 h100
    go_enter Try.func6, Try.ntmps6
    go_wp2_with fail
    refine A1.out.mono ?_
    rintro e w2 ⟨rfl, hk2⟩
    have HB := hid (keep_bel (HK1.out.trans hk2))
    clear hk2 A1
    go_wp2
    go_ret
    exact ⟨rfl, HB.out⟩
  have h2 : ((ks.length : Int) == 0) = false := by rw [beq_eq_false_iff_ne]; omega
  have hl100 : ks.length ≤ 100 := by omega
  obtain ⟨t, htl, htm, htw⟩ := idx_twice twice ks.length (by omega) hl100
  have HDR : Hid (∀ m (hm : m < ks.length), (ks.drop m).reverse = (ks.drop (m + 1)).reverse ++ [ks[m]]) := fun m hm => by
    show _ = _
    rw [List.drop_eq_getElem_cons hm, List.reverse_cons]
  have HD0 : Hid ((ks.drop 0).reverse = ks.reverse) := by show _ = _; rw [List.drop_zero]
  have HR0 : Hid (World.ownsRow (w.alloc (.cells #[.string P, .string D, .string AF, .int .i64 most] 26)) (w.alloc (.cells #[.string P, .string D, .string AF, .int .i64 most] 26)).heap.size 9 1 (.slice none 0 0) 0 (stC (ks.drop ks.length).reverse)) := by
    show World.ownsRow _ _ _ _ _ _ _
    rw [List.drop_length]
    exact nil_row
  clear hl h100 h0
  go_enter Try.func6, Try.ntmps6
  go_wp2
  go_loopw [7, 8] (fun o i wr => ∃ (m : Nat), m ≤ ks.length ∧ i = .int .i64 ((m : Int) - 1) ∧ (∃ ad cp, o = .slice ad (ks.length - m) cp) ∧ Hid (wr.ownsRow (w.alloc (.cells #[.string P, .string D, .string AF, .int .i64 most] 26)).heap.size 9 1 o (ks.length - m) (stC (ks.drop m).reverse)) ∧ Hid (Keep (fun _ => False) (w.alloc (.cells #[.string P, .string D, .string AF, .int .i64 most] 26)) wr)) (fun _ i _ => (intOf i + 1).toNat)
  case atStart => exact ⟨ks.length, Nat.le_refl _, by go_num, ⟨none, 0, by rw [Nat.sub_self]⟩, by rw [Nat.sub_self]; exact HR0, Keep.refl _ _⟩
  case round =>
    clear HR0
    obtain ⟨m, hmk, rfl, ⟨ad1, cp1, rfl⟩, HR, HK⟩ := hrel
    by_cases hm0 : m = 0
    · subst hm0
      have HR1 : Hid (wr.ownsRow (w.alloc (.cells #[.string P, .string D, .string AF, .int .i64 most] 26)).heap.size 9 1 (.slice ad1 ks.length cp1) ks.length (stC ks.reverse)) := by
        have := HR.out
        rw [HD0.out, Nat.sub_zero] at this
        exact this
      rw [Nat.sub_zero]
      have ht0 : (0 : Int) ≤ (t : Int) := by omega
      have ht1 : (t : Int) < (ks.length : Int) := by omega
      obtain ⟨b, off, e1, hc⟩ := HC.out t htl wr (HK1.out.trans HK.out)
      have HMEM : Hid (∀ k, k ∈ ks ↔ k ∈ ks.reverse ++ [ks[t]]) := fun k => by
        rw [List.mem_append, List.mem_reverse, List.mem_singleton]
        exact ⟨.inl, fun h => h.elim id (fun e => e ▸ List.getElem_mem htl)⟩
      subst e1
      clear HC HDR HD0 HR
      generalize ks[t] = kk at *
      have k2 := keep_alloc (fun _ => False) wr (.cells #[.string (tb kk)] 9)
      have HR2 := hid (k2.ownsRow HR1.out (fun _ _ h => h))
      have HX2 : Hid (GSrc (wr.alloc (.cells #[.string (tb kk)] 9)) (.slice (some ⟨wr.heap.size, 0, none⟩) 1 1) 1 [.string (tb kk)]) := gsrc_block (cs := [.string (tb kk)]) (heap_alloc_new _ _)
      have HS2 : Hid ((w.alloc (.cells #[.string P, .string D, .string AF, .int .i64 most] 26)).heap.size ≤ (wr.alloc (.cells #[.string (tb kk)] 9)).heap.size) := Nat.le_trans HK.out.size k2.size
      have HO : Hid (∀ u ∈ [Value.string (tb kk)], u.oneCell' = true) := fun u hu => by rw [List.mem_singleton.1 hu]; rfl
      have N1 : Hid (ks.length + 1 ≤ 70368744177) := by show _ ≤ _; omega
      have N2 : Hid ((ks.length + 1) * 16 ≤ 140737488355328) := by show _ ≤ _; omega
      have FIN : Hid (∀ ad' cap' w', w'.ownsRow (w.alloc (.cells #[.string P, .string D, .string AF, .int .i64 most] 26)).heap.size 9 1 (.slice ad' (ks.length + 1) cap') (ks.length + 1) (stC ks.reverse ++ [.string (tb kk)]) → Keep (fun i => (Value.slice ad1 ks.length cp1).ownBlock = some i) (wr.alloc (.cells #[.string (tb kk)] 9)) w' → Hid (Strs w' (.slice ad' (ks.length + 1) cap') ((ks.reverse ++ [kk]).map tb)) ∧ Hid (Keep (fun _ => False) (w.alloc (.cells #[.string P, .string D, .string AF, .int .i64 most] 26)) w')) := fun ad' cap' w' hr hk' => by
        refine ⟨?_, (HK.out.trans k2).then hk' (fun i hi e => by have := ownsRow_ge HR1.out e; omega)⟩
        have e3 : stC (ks.reverse ++ [kk]) = stC ks.reverse ++ [.string (tb kk)] := by simp [stC]
        rw [← e3] at hr
        exact strs_row hr
      have HBK2 : Hid (∀ k ∈ ks.reverse ++ [kk], k.length ≤ 1048576) := fun k hk => HBK.out k ((HMEM.out k).2 hk)
      have HLN : Hid ((ks.reverse ++ [kk]).length ≤ 1048576) := by show _ ≤ _; simp; omega
      have HLK : Hid (ks.length ≤ 1048576) := by show _ ≤ _; omega
      clear k2 HK HR1 htl
      generalize ks.reverse ++ [kk] = ks2 at *
      generalize stC ks.reverse = ST at *
      generalize tb kk = KK at *
      go_wp2_with (at_builtin; refine wpl_gapp rfl _ _ elS rfl (w.alloc (.cells #[.string P, .string D, .string AF, .int .i64 most] 26)).heap.size (.slice ad1 ks.length cp1) _ ST [.string KK] ks.length 1 (ks.length + 1) rfl rfl rfl HR2.out HS2.out HX2.out rfl HO.out N1.out N2.out ?_; intro ad2 cap2 w8 hr8 hk8; obtain ⟨HS8, HK8⟩ := FIN.out ad2 cap2 w8 hr8 hk8; obtain ⟨c0, c1, c2, c3⟩ := BX.out w8 HK8.out)
      have F1 := hid (FA.out ks _ w8 (HK1.out.trans HK8.out) (HV.out w8 (HK1.out.trans HK8.out)) HLK.out HBK.out)
      clear hr8 hk8 FIN HR2 HS2 HX2 HO N1 N2 htm htw hc HV
      refine F1.out.mono ?_
      rintro e w3 ⟨S, u3, rfl, hI3, hr3, hk3⟩
      obtain ⟨ad3, cap3, rfl⟩ := row_form hr3
      obtain ⟨c0, c1, c2, c3⟩ := BX.out w3 (HK8.out.trans hk3)
      have F2 := hid (FA.out ks2 _ w3 (HK1.out.trans (HK8.out.trans hk3)) (strs_keep HS8.out hk3) HLN.out HBK2.out)
      have HI3 := hid hI3
      have HR3 := hid hr3
      have HK3 := hid (HK1.out.trans (HK8.out.trans hk3))
      have HSL : Hid ((S.take (askN most)).length ≤ 1048576) := by show _ ≤ _; rw [List.length_take]; have := hI3.len; have := HLK.out; omega
      clear F1 FA hI3 hr3 hk3 BX HK8 HK1 HS8 HLN HBK2 HBK HLK
      generalize hmo : decide ((S.take (askN most)).length < S.length) = mo
      have HMO := hid hmo
      clear hmo
      generalize hTn : (S.take (askN most)).length = n at HR3 HSL ⊢
      have HTN := hid hTn
      clear hTn
      go_wp2_with fail
      refine F2.out.mono ?_
      rintro e w4 ⟨S2, u4, he, hI4, hr4, hk4⟩
      have e2 : S2 = S := hI4.unique HI3.out (fun k => (HMEM.out k).symm)
      subst e2
      rw [HMO.out] at he
      subst he
      rw [HTN.out] at hr4
      obtain ⟨ad4, cap4, rfl⟩ := row_form hr4
      have HC4 : Hid (∀ (k : Nat) (hk : k < n) (W : World), Keep (fun _ => False) w4 W → ∃ g1 o1 g2 o2 X F, ad3 = some ⟨g1, o1, none⟩ ∧ ad4 = some ⟨g2, o2, none⟩ ∧ W.cell? ⟨g1, o1 + k * 2, none⟩ = some (.string X) ∧ W.cell? ⟨g1, o1 + k * 2 + 1, none⟩ = some (.bool F) ∧ W.cell? ⟨g2, o2 + k * 2, none⟩ = some (.string X) ∧ W.cell? ⟨g2, o2 + k * 2 + 1, none⟩ = some (.bool F)) := fun k hk W hW => by
        have g1 := gsrc_all (hk4.ownsRow HR3.out (fun _ _ h => h))
        have g2 := gsrc_all hr4
        obtain ⟨a1, o1, e1, _, p1, p2⟩ := gsrc_it g1 rfl HTN.out.symm k (by rw [HTN.out]; exact hk) hW
        obtain ⟨a2, o2, e2, _, q1, q2⟩ := gsrc_it g2 rfl HTN.out.symm k (by rw [HTN.out]; exact hk) hW
        exact ⟨a1, o1, a2, o2, _, _, e1, e2, p1, p2, q1, q2⟩
      have HK4 := hid (HK3.out.trans hk4)
      have hmm : (mo != mo) = false := by simp
      have hnn : ((n : Int) != (n : Int)) = false := by simp
      have hg := guard39
      have hnl := HSL.out
      clear F2 hI4 hr4 hk4 HI3 HR3 HK3 HMO HTN HMEM c0 c1 c2 c3 HSL
      go_wp2
      go_loopw [13] (fun i wr => ∃ k : Nat, k ≤ n ∧ i = .int .i64 k ∧ Hid (Keep (fun _ => False) w4 wr)) (fun i _ => n - (intOf i).toNat)
      case atStart => exact ⟨0, by omega, rfl, Keep.refl _ _⟩
      case round =>
        obtain ⟨k, hk, rfl, HK⟩ := hrel
        by_cases hlt : k < n
        · have hk0 : (0 : Int) ≤ (k : Int) := by omega
          have hk1 : (k : Int) < (n : Int) := by omega
          obtain ⟨g1, o1, g2, o2, X, F, e1, e2, p1, p2, q1, q2⟩ := HC4.out k hlt _ HK.out
          subst e1 e2
          have hq : ∀ W, (binOp .neq 39 (.agg #[.string X, .bool F]) (.agg #[.string X, .bool F])).run Try.prog W = .ok (.bool false) W := fun W => by
            rw [neq39]; simp
          clear HC4 AW
          go_wp2
          go_quiet (fail)
          have HKn := hid (HK.out.trans (kp_drewN _ _ nq))
          clear HK
          go_wp2
          exact ⟨⟨k + 1, by omega, by go_num, HKn⟩, by simp [intOf]; omega⟩
        · have hd : decide ((k : Int) < (n : Int)) = false := decide_eq_false (by omega)
          have A1 := hid (AW.out _ (HK4.out.trans HK.out))
          clear HC4 AW
          go_wp2_with fail
          refine A1.out.mono ?_
          rintro e w6 ⟨rfl, hk6⟩
          have HB := hid (keep_bel ((HK4.out.trans HK.out).trans hk6))
          clear A1 hk6 HK HK4
          go_wp2
          go_ret
          exact ⟨rfl, HB.out⟩
    · obtain ⟨j, rfl⟩ : ∃ j, m = j + 1 := ⟨m - 1, by omega⟩
      have hji : ((j + 1 : Nat) : Int) - 1 = (j : Int) := by omega
      rw [hji]
      have hjl : j < ks.length := by omega
      have hj0 : (0 : Int) ≤ (j : Int) := by omega
      have hj1 : (j : Int) < (ks.length : Int) := by omega
      obtain ⟨b, off, e1, hc⟩ := HC.out j hjl wr (HK1.out.trans HK.out)
      subst e1
      have HDJ := hid (HDR.out j hjl)
      clear HC HDR HD0 FA BX AW HV HBK htm htw htl
      generalize ks[j] = kk at *
      have k2 := keep_alloc (fun _ => False) wr (.cells #[.string (tb kk)] 9)
      have HR2 := hid (k2.ownsRow HR.out (fun _ _ h => h))
      have HX2 : Hid (GSrc (wr.alloc (.cells #[.string (tb kk)] 9)) (.slice (some ⟨wr.heap.size, 0, none⟩) 1 1) 1 [.string (tb kk)]) := gsrc_block (cs := [.string (tb kk)]) (heap_alloc_new _ _)
      have HS2 : Hid ((w.alloc (.cells #[.string P, .string D, .string AF, .int .i64 most] 26)).heap.size ≤ (wr.alloc (.cells #[.string (tb kk)] 9)).heap.size) := Nat.le_trans HK.out.size k2.size
      have HO : Hid (∀ u ∈ [Value.string (tb kk)], u.oneCell' = true) := fun u hu => by rw [List.mem_singleton.1 hu]; rfl
      have N0 : Hid (ks.length - (j + 1) + 1 = ks.length - j) := by show _ = _; omega
      have N1 : Hid (ks.length - j ≤ 70368744177) := by show _ ≤ _; omega
      have N2 : Hid ((ks.length - j) * 16 ≤ 140737488355328) := by show _ ≤ _; omega
      have FIN : Hid (∀ ad' cap' w', w'.ownsRow (w.alloc (.cells #[.string P, .string D, .string AF, .int .i64 most] 26)).heap.size 9 1 (.slice ad' (ks.length - j) cap') (ks.length - j) (stC (ks.drop (j + 1)).reverse ++ [.string (tb kk)]) → Keep (fun i => (Value.slice ad1 (ks.length - (j + 1)) cp1).ownBlock = some i) (wr.alloc (.cells #[.string (tb kk)] 9)) w' → Hid (w'.ownsRow (w.alloc (.cells #[.string P, .string D, .string AF, .int .i64 most] 26)).heap.size 9 1 (.slice ad' (ks.length - j) cap') (ks.length - j) (stC (ks.drop j).reverse)) ∧ Hid (Keep (fun _ => False) (w.alloc (.cells #[.string P, .string D, .string AF, .int .i64 most] 26)) w')) := fun ad' cap' w' hr hk' => by
        refine ⟨?_, (HK.out.trans k2).then hk' (fun i hi e => by have := ownsRow_ge HR.out e; omega)⟩
        show World.ownsRow _ _ _ _ _ _ _
        rw [HDJ.out]
        have e3 : stC ((ks.drop (j + 1)).reverse ++ [kk]) = stC (ks.drop (j + 1)).reverse ++ [.string (tb kk)] := by simp [stC]
        rw [e3]
        exact hr
      clear k2 HR HK HDJ
      generalize hnn : ks.length - (j + 1) = nn at *
      have HNN := hid hnn
      clear hnn
      generalize hST : stC (ks.drop (j + 1)).reverse = ST at *
      clear hST
      generalize tb kk = KK at *
      go_wp2_with (at_builtin; refine wpl_gapp rfl _ _ elS rfl (w.alloc (.cells #[.string P, .string D, .string AF, .int .i64 most] 26)).heap.size (.slice ad1 nn cp1) _ ST [.string KK] nn 1 (ks.length - j) N0.out rfl rfl HR2.out HS2.out HX2.out rfl HO.out N1.out N2.out ?_; intro ad2 cap2 w8 hr8 hk8)
      obtain ⟨HR8, HK8⟩ := FIN.out ad2 cap2 w8 hr8 hk8
      clear hr8 hk8 FIN HR2 HS2 HX2 HO N1 N2
      go_wp2
      exact ⟨⟨j, by omega, by go_num, ⟨_, _, rfl⟩, HR8, HK8⟩, by simp [intOf]⟩
end Go.Proofs.Ytimdnddplhkdlaa
