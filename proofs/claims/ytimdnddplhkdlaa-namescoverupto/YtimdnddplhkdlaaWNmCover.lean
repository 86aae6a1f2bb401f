/- The walk of the law NamesCover. -/
import Derived.Test.YtimdnddplhkdlaaWNmFolds
import Derived.Test.YtimdnddplhkdlaaNmY
namespace Go.Proofs.Ytimdnddplhkdlaa
open Go.RowKit Go.Shelf Go.Maps
set_option linter.unusedVariables false
set_option linter.unusedSimpArgs false

/-- 'k[:len(p)] == p' -/
theorem pre_bool (p k : Bs) (h : (tb p).size ≤ (tb k).size) : (((tb k).extract 0 (tb p).size).toList == (tb p).toList) = p.isPrefixOf k := by
  rw [tb_size, tb_size] at h
  rw [ext_list, tb_toList, tb_size, List.drop_zero, Nat.sub_zero]
  exact pre_take h
theorem pre_long {p k : Bs} (h : ¬ (tb p).size ≤ (tb k).size) : p.isPrefixOf k = false := by
  rw [tb_size, tb_size] at h
  cases hp : p.isPrefixOf k with
  | false => rfl
  | true => rw [List.isPrefixOf_iff_prefix] at hp; exact absurd hp.length_le h
theorem tb_nil (k : Bs) : ((tb k).toList == []) = (k == []) := by rw [tb_toList]
theorem tb_eqB (a b : Bs) : ((tb a).toList == (tb b).toList) = (a == b) := by rw [tb_toList, tb_toList]
theorem cut_facts (n d : Nat) (h : d ≤ n) (hn : n ≤ 1048576) : ∃ z : Nat, z = n - d ∧ (n : Int) - (d : Int) = (z : Int) ∧ IntKind.i64.wrap ((n : Int) - (d : Int)) = (z : Int) ∧ wrap64 ((n : Int) - (d : Int)) = (z : Int) ∧ IntKind.i64.wrap (z : Int) = (z : Int) ∧ wrap64 (z : Int) = (z : Int) ∧ (0 : Int) ≤ (z : Int) ∧ (z : Int) ≤ (n : Int) ∧ z ≤ n := by
  refine ⟨n - d, rfl, by omega, by rw [IntKind.wrap_i64]; omega, by unfold wrap64; omega, by rw [IntKind.wrap_i64]; omega, by unfold wrap64; omega, by omega, by omega, by omega⟩
theorem add_facts (a b : Nat) (ha : a ≤ 1048576) (hb : b ≤ 1048576) : IntKind.i64.wrap ((a : Int) + (b : Int)) = (a : Int) + (b : Int) ∧ wrap64 ((a : Int) + (b : Int)) = (a : Int) + (b : Int) :=
  ⟨by rw [IntKind.wrap_i64]; omega, by unfold wrap64; omega⟩
theorem strFrom (s : ByteArray) (z : Nat) (h : z ≤ s.size) (W : World) : (Instr.slice 9 (.string s) (some (.int .i64 (z : Int))) none none).run Try.prog W = .ok (.string (s.extract z s.size)) W := by
  have e1 : (0 : Int) ≤ (z : Int) := by omega
  simp [Instr.slice, Instr.sliceBounds, Instr.sliceBound, asIntOf, run_underlying Try.underlying9, Result.andThen, e1, h]
set_option maxRecDepth 100000 in
set_option maxHeartbeats 16000000 in
theorem namesCover_walk (v : Value) (ks : List Bs) (pA dA : ByteArray) (w : World) (hv : Strs w v (ks.map tb)) (hl : ks.length ≤ 1048576) (hb : ∀ k ∈ ks, k.length ≤ 1048576) (hpl : pA.size ≤ 1048576) (hdl : dA.size ≤ 1048576) (hm : MaxL w) :
    Calls Try.prog 7 #[v, .string pA, .string dA] w fun e w' => e = .returned (.bool true) ∧ Below w.heap.size w w' := by
  obtain ⟨p, rfl⟩ : ∃ p, pA = tb p := ⟨pA.data.toList, (tb_of pA).symm⟩
  obtain ⟨d, rfl⟩ : ∃ d, dA = tb d := ⟨dA.data.toList, (tb_of dA).symm⟩
  have AW := hid (fun W (h : Keep (fun _ => False) w W) => awake12 W (hm.keep h))
  have FA := hid (fold_any ks p d [] ((ks.length + 1 : Nat) : Int) v w hv hm hl hb)
  have HBK := hid hb
  obtain ⟨ad0, cap0, hve, hcell⟩ := hv.at
  rw [List.length_map] at hve
  rw [List.length_map] at hcell
  subst hve
  have HC : Hid (∀ (k : Nat) (hk : k < ks.length) (W : World), Keep (fun _ => False) w W → ∃ b off, ad0 = some ⟨b, off, none⟩ ∧ W.cell? ⟨b, off + k, none⟩ = some (.string (tb ks[k]))) := by
    intro k hk W hW
    obtain ⟨b, off, e, hb, hc⟩ := hcell k (by simpa using hk)
    refine ⟨b, off, e, (hW.cell hb (fun h => h)).trans (hc.trans ?_)⟩
    simp [hk]
  have HPB : Hid (∀ k, (tb p).size ≤ (tb k).size → (((tb k).extract 0 (tb p).size).toList == (tb p).toList) = p.isPrefixOf k) := fun k h => pre_bool p k h
  have HPL : Hid (∀ k, ¬ (tb p).size ≤ (tb k).size → p.isPrefixOf k = false) := fun k h => pre_long h
  have HDN : Hid (((tb d).toList == []) = (d == [])) := tb_nil d
  have HFL : Hid (∀ n, flagOf p d n = decide (d ≠ [] ∧ (tb p).size + (tb d).size ≤ (tb n).size ∧ ((tb n).extract ((tb n).size - (tb d).size) (tb n).size).toList = (tb d).toList)) := fun n => by
    show _ = _
    unfold flagOf
    refine decide_eq_decide.2 ?_
    rw [ext_list, tb_toList, tb_size, tb_size, tb_size]
    constructor
    · rintro ⟨a1, a2, a3⟩
      refine ⟨a1, a2, ?_⟩
      rw [a3, show n.length - (n.length - d.length) = d.length by omega, List.take_of_length_le (Nat.le_refl _)]
    · rintro ⟨a1, a2, a3⟩
      refine ⟨a1, a2, ?_⟩
      rw [List.take_of_length_le (by rw [List.length_drop]; omega)] at a3
      exact a3
  clear hv hb hm hcell
  generalize tb p = P at *
  generalize tb d = D at *
  by_cases h100 : 100 < ks.length
  · have h1 : (100 : Int) < (ks.length : Int) := by omega
    have A1 := hid (AW.out w (Keep.refl _ _))
    clear FA AW hl HC HBK HPB HPL HDN HFL
    go_enter Try.func7, Try.ntmps7
    go_wp2_with fail
    refine A1.out.mono ?_
    rintro e w2 ⟨rfl, hk2⟩
    have HB := hid (keep_bel hk2)
    clear hk2 A1
    go_wp2
    go_ret
    exact ⟨rfl, HB.out⟩
  have h1 : decide ((100 : Int) < (ks.length : Int)) = false := decide_eq_false (by omega)
  have hk100 : ks.length ≤ 100 := by omega
  have hcast : ((ks.length + 1 : Nat) : Int) = (ks.length : Int) + 1 := by omega
  rw [hcast] at FA
  clear hl h100 hcast
  go_enter Try.func7, Try.ntmps7
  go_wp2_with fail
  refine FA.out.mono ?_
  rintro e w1 ⟨S, u, rfl, hI, hr, hk⟩
  have hask : S.take (askN ((ks.length : Int) + 1)) = S := List.take_of_length_le (by have := hI.len; unfold askN; omega)
  rw [hask] at hr ⊢
  rw [decide_eq_false (by omega : ¬ S.length < S.length)]
  obtain ⟨adS, capS, rfl⟩ := row_form hr
  have hSl : S.length ≤ 100 := Nat.le_trans hI.len hk100
  have HS : Hid (∀ (k : Nat) (hk : k < S.length) (W : World), Keep (fun _ => False) w1 W → ∃ g, adS = some ⟨g, 0, none⟩ ∧ W.cell? ⟨g, k * 2, none⟩ = some (.string (tb S[k].1)) ∧ W.cell? ⟨g, k * 2 + 1, none⟩ = some (.bool S[k].2)) := fun k hk W hW => by
    have hr := hW.ownsRow hr (fun _ _ h => h)
    rcases hr.2 with ⟨e, h⟩ | ⟨g, c, cur, e, _⟩
    · omega
    · injection e with e1 e2 e3
      subst e1 e3
      exact ⟨g, rfl, grow_at hr (itC_get S k hk 0 (by omega)), grow_at hr (itC_get S k hk 1 (by omega))⟩
  have HK1 := hid hk
  have HCV1 : Hid (∀ i (hi : i < ks.length), (outB p ks[i] || S.any (hitB ks[i])) = true) := fun i hi => cover1 hI (List.getElem_mem hi)
  have HCV2 : Hid (∀ j (hj : j < S.length), ks.any (isB S[j]) = true ∧ p.isPrefixOf S[j].1 = true ∧ S[j].2 = flagOf p d S[j].1) := fun j hj => cover2 hI (List.getElem_mem hj)
  have HNS : Hid (∀ j (hj : j < S.length), (tb S[j].1).size ≤ 1048576) := fun j hj => by
    show _ ≤ _
    rw [tb_size]
    exact its_names hI.mem HBK.out _ (List.getElem_mem hj)
  clear FA hI hr hk hask HBK
  go_wp2
  go_loopw [9] (fun i wr => ∃ k : Nat, k ≤ ks.length ∧ i = .int .i64 k ∧ wr = w1) (fun i _ => ks.length - (intOf i).toNat)
  case atStart => exact ⟨0, by omega, rfl, rfl⟩
  case round =>
    obtain ⟨i, hi, rfl, hwr⟩ := hrel
    subst hwr
    generalize hWA : wr = wA at *
    clear hWA
    by_cases hlt : i < ks.length
    · have hi0 : (0 : Int) ≤ (i : Int) := by omega
      have hi1 : (i : Int) < (ks.length : Int) := by omega
      obtain ⟨b, off, e1, hc⟩ := HC.out i hlt _ HK1.out
      subst e1
      have HCI := hid (HCV1.out i hlt)
      clear HC HCV1 HCV2 HFL AW HDN HNS
      generalize ks[i] = kk at *
      have HPBk := hid (HPB.out kk)
      have HPLk := hid (HPL.out kk)
      have HKN := hid (tb_nil kk)
      have HKS : Hid (∀ x : It, (hitB kk x = (!x.2 && ((tb x.1).toList == (tb kk).toList) || x.2 && x.1.isPrefixOf kk)) ∧ ((tb x.1).size ≤ (tb kk).size → (((tb kk).extract 0 (tb x.1).size).toList == (tb x.1).toList) = x.1.isPrefixOf kk) ∧ (¬ (tb x.1).size ≤ (tb kk).size → x.1.isPrefixOf kk = false)) := fun x => by
        refine ⟨?_, fun h => pre_bool x.1 kk h, fun h => pre_long h⟩
        rw [tb_eqB]; rfl
      clear HPB HPL
      generalize hKK : tb kk = KK at *
      clear hKK
      by_cases hlen : KK.size < P.size
      · have hl1 : (KK.size : Int) < (P.size : Int) := by omega
        clear HPBk HPLk HKN HKS HCI
        as_aux_lemma =>
          go_wp2
          go_loopw [11, 12] (fun o j W => ∃ q : Nat, q ≤ S.length ∧ j = .int .i64 q ∧ o = .bool true ∧ W = wA) (fun _ j _ => S.length - (intOf j).toNat)
          case atStart => exact ⟨0, by omega, rfl, rfl, rfl⟩
          case round =>
            obtain ⟨q, hq, rfl, rfl, hWq⟩ := hrel
            subst hWq
            by_cases hql : q < S.length
            · have hq0 : (0 : Int) ≤ (q : Int) := by omega
              have hq1 : (q : Int) < (S.length : Int) := by omega
              obtain ⟨g, e2, c0, c1⟩ := HS.out q hql _ (Keep.refl _ _)
              subst e2
              clear HS
              generalize tb S[q].1 = NN at *
              generalize S[q].2 = FF at *
              go_wp2
              exact ⟨⟨q + 1, by omega, by go_num, rfl, trivial⟩, by simp [intOf]; omega⟩
            · have hqd : decide ((q : Int) < (S.length : Int)) = false := decide_eq_false (by omega)
              clear HS
              go_wp2
              exact ⟨⟨i + 1, by omega, by go_num, trivial⟩, by simp [intOf]; omega⟩
      · have hl1 : decide ((KK.size : Int) < (P.size : Int)) = false := decide_eq_false (by omega)
        have hl2 : (P.size : Int) ≤ (KK.size : Int) := by omega
        have hl3 : P.size ≤ KK.size := by omega
        have hpb := HPBk.out hl3
        clear HPBk HPLk
        generalize hX : KK.extract 0 P.size = X at *
        cases hpp : p.isPrefixOf kk with
        | false =>
          rw [hpp] at hpb
          clear HKN HKS HCI hpp
          as_aux_lemma =>
            go_wp2
            go_loopw [11, 12] (fun o j W => ∃ q : Nat, q ≤ S.length ∧ j = .int .i64 q ∧ o = .bool true ∧ W = wA) (fun _ j _ => S.length - (intOf j).toNat)
            case atStart => exact ⟨0, by omega, rfl, rfl, rfl⟩
            case round =>
              obtain ⟨q, hq, rfl, rfl, hWq⟩ := hrel
              subst hWq
              by_cases hql : q < S.length
              · have hq0 : (0 : Int) ≤ (q : Int) := by omega
                have hq1 : (q : Int) < (S.length : Int) := by omega
                obtain ⟨g, e2, c0, c1⟩ := HS.out q hql _ (Keep.refl _ _)
                subst e2
                clear HS
                generalize tb S[q].1 = NN at *
                generalize S[q].2 = FF at *
                go_wp2
                exact ⟨⟨q + 1, by omega, by go_num, rfl, trivial⟩, by simp [intOf]; omega⟩
              · have hqd : decide ((q : Int) < (S.length : Int)) = false := decide_eq_false (by omega)
                clear HS
                go_wp2
                exact ⟨⟨i + 1, by omega, by go_num, trivial⟩, by simp [intOf]; omega⟩
        | true =>
          rw [hpp] at hpb
          have hkn := HKN.out
          clear HKN
          cases hkz : (kk == []) with
          | true =>
            rw [hkz] at hkn
            clear HKS HCI hkz hpp
            as_aux_lemma =>
              go_wp2
              go_loopw [11, 12] (fun o j W => ∃ q : Nat, q ≤ S.length ∧ j = .int .i64 q ∧ o = .bool true ∧ W = wA) (fun _ j _ => S.length - (intOf j).toNat)
              case atStart => exact ⟨0, by omega, rfl, rfl, rfl⟩
              case round =>
                obtain ⟨q, hq, rfl, rfl, hWq⟩ := hrel
                subst hWq
                by_cases hql : q < S.length
                · have hq0 : (0 : Int) ≤ (q : Int) := by omega
                  have hq1 : (q : Int) < (S.length : Int) := by omega
                  obtain ⟨g, e2, c0, c1⟩ := HS.out q hql _ (Keep.refl _ _)
                  subst e2
                  clear HS
                  generalize tb S[q].1 = NN at *
                  generalize S[q].2 = FF at *
                  go_wp2
                  exact ⟨⟨q + 1, by omega, by go_num, rfl, trivial⟩, by simp [intOf]; omega⟩
                · have hqd : decide ((q : Int) < (S.length : Int)) = false := decide_eq_false (by omega)
                  clear HS
                  go_wp2
                  exact ⟨⟨i + 1, by omega, by go_num, trivial⟩, by simp [intOf]; omega⟩
          | false =>
            rw [hkz] at hkn
            have HCJ : Hid (S.any (hitB kk) = true) := by
              have := HCI.out
              unfold outB at this
              rw [hpp, hkz] at this
              exact this
            clear HCI hkz hpp
            as_aux_lemma =>
              go_wp2
              have HAN : Hid (∀ q (hq : q < S.length), (S.take (q + 1)).any (hitB kk) = ((S.take q).any (hitB kk) || hitB kk S[q])) := fun q hq => any_take _ _ _ hq
              have HA0 : Hid ((S.take 0).any (hitB kk) = false) := rfl
              have HAZ : Hid ((S.take S.length).any (hitB kk) = true) := by show _ = _; rw [List.take_length]; exact HCJ.out
              clear HCJ
              go_loopw [11, 12] (fun o j W => ∃ (q : Nat) (fv : Bool), q ≤ S.length ∧ j = .int .i64 q ∧ o = .bool fv ∧ Hid ((S.take q).any (hitB kk) = fv) ∧ W = wA) (fun _ j _ => S.length - (intOf j).toNat)
              case atStart => exact ⟨0, false, by omega, rfl, rfl, HA0, rfl⟩
              case round =>
                clear HA0
                obtain ⟨q, fv, hq, rfl, rfl, HFV, hWq⟩ := hrel
                subst hWq
                by_cases hql : q < S.length
                · have hq0 : (0 : Int) ≤ (q : Int) := by omega
                  have hq1 : (q : Int) < (S.length : Int) := by omega
                  obtain ⟨g, e2, c0, c1⟩ := HS.out q hql _ (Keep.refl _ _)
                  subst e2
                  have HNX := hid (HAN.out q hql)
                  obtain ⟨h1k, h2k, h3k⟩ := HKS.out S[q]
                  rw [HFV.out] at HNX
                  clear HS HAN HAZ HKS HFV
                  generalize hitB kk S[q] = hb at *
                  generalize S[q].1.isPrefixOf kk = pb at *
                  generalize tb S[q].1 = NN at *
                  generalize S[q].2 = FF at *
                  cases fv with
                  | true =>
                    have HN2 : Hid ((S.take (q + 1)).any (hitB kk) = true) := by show _ = _; rw [HNX.out]; rfl
                    clear HNX h1k h2k h3k
                    go_wp2
                    exact ⟨⟨q + 1, true, by omega, by go_num, rfl, HN2, trivial⟩, by simp [intOf]; omega⟩
                  | false =>
                    cases FF with
                    | false =>
                      cases hne : (NN.toList == KK.toList) with
                      | true =>
                        have HN2 : Hid ((S.take (q + 1)).any (hitB kk) = true) := by show _ = _; rw [HNX.out, h1k, hne]; rfl
                        clear HNX h1k h2k h3k
                        go_wp2
                        exact ⟨⟨q + 1, true, by omega, by go_num, rfl, HN2, trivial⟩, by simp [intOf]; omega⟩
                      | false =>
                        have HN2 : Hid ((S.take (q + 1)).any (hitB kk) = false) := by show _ = _; rw [HNX.out, h1k, hne]; rfl
                        clear HNX h1k h2k h3k
                        go_wp2
                        exact ⟨⟨q + 1, false, by omega, by go_num, rfl, HN2, trivial⟩, by simp [intOf]; omega⟩
                    | true =>
                      by_cases hsz : NN.size ≤ KK.size
                      · have hs1 : (NN.size : Int) ≤ (KK.size : Int) := by omega
                        have hpb2 := h2k hsz
                        generalize hY : KK.extract 0 NN.size = Y at *
                        have HN2 : Hid ((S.take (q + 1)).any (hitB kk) = pb) := by show _ = _; rw [HNX.out, h1k]; simp
                        clear HNX h1k h2k h3k
                        go_wp2
                        exact ⟨⟨q + 1, pb, by omega, by go_num, by first | rfl | rw [hpb2], HN2, trivial⟩, by simp [intOf]; omega⟩
                      · have hs1 : decide ((NN.size : Int) ≤ (KK.size : Int)) = false := decide_eq_false (by omega)
                        have hpb2 := h3k hsz
                        have HN2 : Hid ((S.take (q + 1)).any (hitB kk) = false) := by show _ = _; rw [HNX.out, h1k, hpb2]; rfl
                        clear HNX h1k h2k h3k
                        go_wp2
                        exact ⟨⟨q + 1, false, by omega, by go_num, rfl, HN2, trivial⟩, by simp [intOf]; omega⟩
                · have hqd : decide ((q : Int) < (S.length : Int)) = false := decide_eq_false (by omega)
                  have hqe : q = S.length := by omega
                  have hfv : fv = true := by rw [← HFV.out, hqe]; exact HAZ.out
                  subst hfv
                  clear HS HAN HAZ HKS HFV hqe
                  go_wp2
                  exact ⟨⟨i + 1, by omega, by go_num, trivial⟩, by simp [intOf]; omega⟩
    · have hd : decide ((i : Int) < (ks.length : Int)) = false := decide_eq_false (by omega)
      clear HCV1
      as_aux_lemma =>
        go_wp2
        go_loopw [14] (fun j W => ∃ q : Nat, q ≤ S.length ∧ j = .int .i64 q ∧ Hid (Keep (fun _ => False) wA W)) (fun j _ => S.length - (intOf j).toNat)
        case atStart => exact ⟨0, by omega, rfl, Keep.refl _ _⟩
        case round =>
          obtain ⟨q, hq, rfl, HKq⟩ := hrel
          generalize hWC : wr = wC at *
          clear hWC
          by_cases hql : q < S.length
          · have hq0 : (0 : Int) ≤ (q : Int) := by omega
            have hq1 : (q : Int) < (S.length : Int) := by omega
            obtain ⟨g, e2, c0, c1⟩ := HS.out q hql _ HKq.out
            subst e2
            obtain ⟨hany, hpre, hfl⟩ := HCV2.out q hql
            have hns := HNS.out q hql
            have HANY := hid hany
            have hps : P.size ≤ (tb S[q].1).size := Decidable.byContradiction fun h => by rw [HPL.out _ h] at hpre; cases hpre
            have hpb := HPB.out S[q].1 hps
            rw [hpre] at hpb
            rw [HFL.out] at hfl
            have HFQ := hid hfl
            have HIB : Hid (∀ k, (isB S[q] k = (((tb k).toList == (tb S[q].1).toList) || S[q].2 && S[q].1.isPrefixOf k)) ∧ ((tb S[q].1).size ≤ (tb k).size → (((tb k).extract 0 (tb S[q].1).size).toList == (tb S[q].1).toList) = S[q].1.isPrefixOf k) ∧ (¬ (tb S[q].1).size ≤ (tb k).size → S[q].1.isPrefixOf k = false)) := fun k => by
              refine ⟨?_, fun h => pre_bool S[q].1 k h, fun h => pre_long h⟩
              rw [tb_eqB]; rfl
            have hdn := HDN.out
            have HCq := hid (fun k hk => HC.out k hk wC (HK1.out.trans HKq.out))
            have HKN := hid (fun n => HKq.out.trans (kp_drewN (fun _ => False) wC n))
            clear HPL HPB HFL HDN HS HCV2 HNS HC AW HKq hany hpre hfl
            generalize S[q] = x at *
            obtain ⟨N, F⟩ := x
            simp only at c0 c1 hns hps hpb HFQ HIB
            generalize hNN : tb N = NN at *
            clear hNN
            have HAN : Hid (∀ t (ht : t < ks.length), (ks.take (t + 1)).any (isB (N, F)) = ((ks.take t).any (isB (N, F)) || isB (N, F) ks[t])) := fun t ht => any_take _ _ _ ht
            have HA0 : Hid ((ks.take 0).any (isB (N, F)) = false) := rfl
            have HAZ : Hid ((ks.take ks.length).any (isB (N, F)) = true) := by show _ = _; rw [List.take_length]; exact HANY.out
            clear HANY
            go_wp2
            go_loopw [16, 17] (fun o i W => ∃ (t : Nat) (fv : Bool), t ≤ ks.length ∧ i = .int .i64 t ∧ o = .bool fv ∧ Hid ((ks.take t).any (isB (N, F)) = fv) ∧ W = wC) (fun _ i _ => ks.length - (intOf i).toNat)
            case atStart => exact ⟨0, false, by omega, rfl, rfl, HA0, rfl⟩
            case round =>
              clear HA0
              obtain ⟨t, fv, ht, rfl, rfl, HFV, hWq⟩ := hrel
              subst hWq
              by_cases htl : t < ks.length
              · have ht0 : (0 : Int) ≤ (t : Int) := by omega
                have ht1 : (t : Int) < (ks.length : Int) := by omega
                obtain ⟨b, off, e3, hc⟩ := HCq.out t htl
                subst e3
                have HNX := hid (HAN.out t htl)
                obtain ⟨h1k, h2k, h3k⟩ := HIB.out ks[t]
                rw [HFV.out] at HNX
                clear HAN HAZ HFV HCq HIB HFQ HKN hpb
                generalize isB (N, F) ks[t] = hb at *
                generalize N.isPrefixOf ks[t] = pb at *
                generalize tb ks[t] = KK at *
                cases fv with
                | true =>
                  have HN2 : Hid ((ks.take (t + 1)).any (isB (N, F)) = true) := by show _ = _; rw [HNX.out]; rfl
                  clear HNX h1k h2k h3k
                  go_wp2
                  exact ⟨⟨t + 1, true, by omega, by go_num, rfl, HN2, trivial⟩, by simp [intOf]; omega⟩
                | false =>
                  cases hne : (KK.toList == NN.toList) with
                  | true =>
                    have HN2 : Hid ((ks.take (t + 1)).any (isB (N, F)) = true) := by show _ = _; rw [HNX.out, h1k, hne]; rfl
                    clear HNX h1k h2k h3k
                    go_wp2
                    exact ⟨⟨t + 1, true, by omega, by go_num, rfl, HN2, trivial⟩, by simp [intOf]; omega⟩
                  | false =>
                    cases F with
                    | false =>
                      have HN2 : Hid ((ks.take (t + 1)).any (isB (N, false)) = false) := by show _ = _; rw [HNX.out, h1k, hne]; rfl
                      clear HNX h1k h2k h3k
                      go_wp2
                      exact ⟨⟨t + 1, false, by omega, by go_num, rfl, HN2, trivial⟩, by simp [intOf]; omega⟩
                    | true =>
                      by_cases hsz : NN.size ≤ KK.size
                      · have hs1 : (NN.size : Int) ≤ (KK.size : Int) := by omega
                        have hpb2 := h2k hsz
                        generalize hY : KK.extract 0 NN.size = Y at *
                        have HN2 : Hid ((ks.take (t + 1)).any (isB (N, true)) = pb) := by show _ = _; rw [HNX.out, h1k, hne]; simp
                        clear HNX h1k h2k h3k
                        go_wp2
                        exact ⟨⟨t + 1, pb, by omega, by go_num, by first | rfl | rw [hpb2], HN2, trivial⟩, by simp [intOf]; omega⟩
                      · have hs1 : decide ((NN.size : Int) ≤ (KK.size : Int)) = false := decide_eq_false (by omega)
                        have hpb2 := h3k hsz
                        have HN2 : Hid ((ks.take (t + 1)).any (isB (N, true)) = false) := by show _ = _; rw [HNX.out, h1k, hne, hpb2]; rfl
                        clear HNX h1k h2k h3k
                        go_wp2
                        exact ⟨⟨t + 1, false, by omega, by go_num, rfl, HN2, trivial⟩, by simp [intOf]; omega⟩
              · have htd : decide ((t : Int) < (ks.length : Int)) = false := decide_eq_false (by omega)
                have hte : t = ks.length := by omega
                have hfv : fv = true := by rw [← HFV.out, hte]; exact HAZ.out
                subst hfv
                clear HAN HAZ HFV HCq HIB hte
                have hp1 : decide ((NN.size : Int) < (P.size : Int)) = false := decide_eq_false (by omega)
                have hp2 : (P.size : Int) ≤ (NN.size : Int) := by omega
                have hp3 : decide (NN.size < P.size) = false := decide_eq_false (by omega)
                have hp4 : P.size ≤ NN.size := by omega
                generalize hX : NN.extract 0 P.size = X at *
                cases hdz : (d == []) with
                | true =>
                  rw [hdz] at hdn
                  have hF : F = false := by rw [HFQ.out]; exact decide_eq_false (fun h => h.1 (by simpa using hdz))
                  subst hF
                  clear HFQ hdz
                  as_aux_lemma =>
                    go_wp2
                    have HNUM := hid (And.intro hql hSl)
                    clear hi hlt hd hq hql ht htl htd hns hps hpl hdl hk100 hSl h1
                    go_quiet (fail)
                    have HK9 := hid (HKN.out nq)
                    obtain ⟨hql, hSl⟩ := HNUM.out
                    clear HKN
                    go_wp2
                    exact ⟨⟨q + 1, by omega, by go_num, HK9⟩, by simp [intOf]; omega⟩
                | false =>
                  rw [hdz] at hdn
                  have hdne : d ≠ [] := by simpa using hdz
                  obtain ⟨hwa, hwb⟩ := add_facts P.size D.size hpl hdl
                  by_cases hle : P.size + D.size ≤ NN.size
                  · have hle1 : decide ((P.size : Int) + (D.size : Int) ≤ (NN.size : Int)) = true := decide_eq_true (by omega)
                    have hle2 : decide (P.size + D.size ≤ NN.size) = true := decide_eq_true (by omega)
                    obtain ⟨z, hz, hz1, hz2, hz3, hz6, hz7, hz4, hz5, hz8⟩ := cut_facts NN.size D.size (Nat.le_trans (Nat.le_add_left _ _) hle) hns
                    have hF : (NN.extract z NN.size).toList = D.toList ↔ F = true := by
                      have := HFQ.out
                      rw [← hz] at this
                      rw [this, decide_eq_true_iff]
                      exact ⟨fun h => ⟨hdne, hle, h⟩, fun h => h.2.2⟩
                    have hY : ((NN.extract z NN.size).toList == D.toList) = F := by
                      rw [Bool.eq_iff_iff, beq_iff_eq]; exact hF
                    have hsl := fun W => strFrom NN z hz8 W
                    clear HFQ hdz hdne hF hz hle hz8
                    generalize NN.extract z NN.size = Y at *
                    have hFF : (F != F) = false := by simp
                    as_aux_lemma =>
                      go_wp2
                      have HNUM := hid (And.intro hql hSl)
                      clear hi hlt hd hq hql ht htl htd hns hps hpl hdl hk100 hSl h1
                      go_quiet (fail)
                      have HK9 := hid (HKN.out nq)
                      obtain ⟨hql, hSl⟩ := HNUM.out
                      clear HKN
                      go_wp2
                      exact ⟨⟨q + 1, by omega, by go_num, HK9⟩, by simp [intOf]; omega⟩
                  · have hle1 : decide ((P.size : Int) + (D.size : Int) ≤ (NN.size : Int)) = false := decide_eq_false (by omega)
                    have hle2 : decide (P.size + D.size ≤ NN.size) = false := decide_eq_false hle
                    have hF : F = false := by rw [HFQ.out]; exact decide_eq_false (fun h => hle h.2.1)
                    subst hF
                    clear HFQ hdz hdne hle
                    as_aux_lemma =>
                      go_wp2
                      have HNUM := hid (And.intro hql hSl)
                      clear hi hlt hd hq hql ht htl htd hns hps hpl hdl hk100 hSl h1
                      go_quiet (fail)
                      have HK9 := hid (HKN.out nq)
                      obtain ⟨hql, hSl⟩ := HNUM.out
                      clear HKN
                      go_wp2
                      exact ⟨⟨q + 1, by omega, by go_num, HK9⟩, by simp [intOf]; omega⟩
          · have hqd : decide ((q : Int) < (S.length : Int)) = false := decide_eq_false (by omega)
            have A1 := hid (AW.out wC (HK1.out.trans HKq.out))
            have HKZ := hid (HK1.out.trans HKq.out)
            clear HPL HPB HFL HDN HS HCV2 HNS HC AW HKq HK1
            go_wp2_with fail
            refine A1.out.mono ?_
            rintro e w6 ⟨rfl, hk6⟩
            have HB := hid (keep_bel (HKZ.out.trans hk6))
            clear A1 hk6 HKZ
            go_wp2
            go_ret
            exact ⟨rfl, HB.out⟩
end Go.Proofs.Ytimdnddplhkdlaa
